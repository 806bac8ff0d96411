/- Steps of the proof: ResBest, AtomOpen, NeedOpen, TreeOpen, ValidOpen, EncOpen. -/
import Derived.Test.YthaaaecmeafofaaGreatDoorRb31
import Derived.Test.YthaaaecmeafofaaGreatDoorRb03
import Derived.Lib.LaidTab
import Derived.Stop.LaidErr
import Derived.OpenShut
import Derived.Lib.SmallJoins
import Derived.Deep.DeepWitnessRowRef
import Derived.LaidMore
import Derived.Stop.Joined
import Derived.ChangeOld
import Derived.Test.YthaaaecmeafofaaGreatDoorRb30
import Derived.Shelf.Vars
import Derived.HandedShaped
import Derived.Test.YthaaaecmeafofaaGreatDoorRb08
import Derived.Test.YthaaaecmeafofaaGreatDoorRb10
import Derived.Test.YthaaaecmeafofaaGreatDoorRb09
set_option maxHeartbeats 16000000
set_option maxRecDepth 100000
namespace Go.Proofs.YthaaaecmeafofaaGreatDoor
open Go.RowKit
theorem tR {m:List Bool} {j:Nat} (hj:j<m.length):(Cn.chL m).getD j 0=if m.getD j false=true then (j:Int)+1 else -(j:Int)-1:=by
 rw [List.getD_eq_getElem?_getD,Cn.nN hj];rfl
theorem aFa {c d:List Bool} (hl:Cn.jT c d) (hn:c.length=d.length) {j:Nat} (hj:j<c.length) (hb : ∀ i<j,(Cn.chL c).getD i 0=(Cn.chL d).getD i 0) (hp:(Cn.chL c).getD j 0≠(Cn.chL d).getD j 0) : ¬ 0<(Cn.chL c).getD j 0:=by
 have key : ∀ i,i<c.length->((Cn.chL c).getD i 0=(Cn.chL d).getD i 0↔c.getD i false=d.getD i false):=fun i hi=>by
  rw [tR hi,tR (by omega)]
  cases c.getD i false<;>cases d.getD i false<;>simp<;>omega
 rcases hl with rfl | ⟨k,hk,h1,h2,h3⟩
 ·exact absurd rfl hp
 ·have hkj:k=j:=by
   rcases Nat.lt_trichotomy k j with h | h | h
   ·have:=(key k hk).1 (hb k h)
    rw [h2,h3] at this;cases this
   ·exact h
   ·exact absurd ((key j hj).2 (h1 j h)) hp
  subst hkj
  rw [tR hj,h2]
  simp
theorem zS (S:Nat->Prop) (ps:List PK) (wi:WI) (xs:List MB) (pv tsv inv mav onv xv:Value) (w:World) (hS : ∀ b,S b->b<w.heap.size) (hp:bC S w ps pv) (hw:dZ S w wi tsv inv mav onv) (hm:bI S w xs xv) (hcap:kV pv) (hE:Env w) (hM:kX w) :
  Calls Tryz.prog 5 #[.agg #[pv],.agg #[tsv,inv,mav,onv],xv] w fun e w'=>e=.returned (.bool true)/\aA w w':=by
 obtain ⟨i0,hi,hz0,hz1,hz2⟩:=info_parts aSa
 obtain ⟨tp,tc,rfl,-⟩:=hw.ts.len
 obtain ⟨ip,ic,rfl,-⟩:=hw.ins.len
 obtain ⟨mp,mc,rfl,-⟩:=hw.ma.len
 obtain ⟨op0,oc0,rfl,-⟩:=hw.on.len
 obtain ⟨xp,xc,rfl,-⟩:=hm.len
 have HP:=hid hp
 have HW:=hid hw
 have HX:=hid hm
 have HE:=hid hE
 have HMX:=hid hM
 clear hp hw hm hE hM
 go_enter Tryz.func5,Tryz.ntmps5
 go_upto_region 1 with fail
 refine bF (fun W'=>aA w W'/\aE w.heap.size 24 pv W'/\aD (w.heap.size+1) 46 #[.slice tp wi.ts.length tc,.slice ip wi.ins.length ic,.slice mp wi.ma.length mc,.slice op0 wi.on.length oc0] W') ⟨(aA.alloc _ _).alloc' _,(aE.new _ _ _).keep (aA.alloc _ _) (by simp),aMg (aC _ _) _ _⟩ ?_
 rintro W1 ⟨k1,v1,b1⟩
 have K1:=hid k1
 have V1:=hid v1
 have B1:=hid b1
 generalize w.heap.size=b at V1 B1 ⊢
 clear k1 v1 b1
 have ht0:=V1.out.facts.1
 have htl:=V1.out.facts.2.2
 have hw0:W1.cell? ⟨b+1,0,none⟩=some (.slice tp wi.ts.length tc):=B1.out.facts.1 0
 have hw1:W1.cell? ⟨b+1,1,none⟩=some (.slice ip wi.ins.length ic):=B1.out.facts.1 1
 have hw2:W1.cell? ⟨b+1,2,none⟩=some (.slice mp wi.ma.length mc):=B1.out.facts.1 2
 have hw3:W1.cell? ⟨b+1,3,none⟩=some (.slice op0 wi.on.length oc0):=B1.out.facts.1 3
 have hwl:=B1.out.facts.2.2
 go_wp2_with fail
 refine (fU S ps wi 40000 _ _ _ _ _ W1 (fun c hc=>Nat.lt_of_lt_of_le (hS c hc) K1.out.size) (HP.out.keep hS K1.out) (HW.out.keep hS K1.out) hcap).mono ?_
 rintro e W2 h2
 obtain ⟨k2,l2,p2,rfl,hl2,-⟩:=h2.gen (by decide) (by decide)
 have K2:=hid (K1.out.trans k2)
 have V2:=hid (V1.out.keep k2 V1.out.facts.2.2)
 have B2:=hid (B1.out.keep k2 B1.out.facts.2.2)
 have HM:=hid hl2
 clear ht0 htl hw0 hw1 hw2 hw3 hwl V1 B1 k2 h2 hl2
 obtain ⟨lp,lc,rfl,-⟩:=HM.out.len
 obtain ⟨er,her⟩ : ∃ er,er=eC ps wi 40000:=⟨_,rfl⟩
 have HER:=hid her
 rw [← her]
 clear her
 go_wp2_with fail
 refine (qQ W2 (HE.out.keep K2.out) (HMX.out.keep K2.out)).mono ?_
 rintro e W3 ⟨rfl,k3⟩
 have K3:=hid (K2.out.trans k3)
 have HK23:=hid k3
 have V3:=hid (V2.out.keep k3 V2.out.facts.2.2)
 have B3:=hid (B2.out.keep k3 B2.out.facts.2.2)
 clear V2 B2 k3
 by_cases hz:er=0
 ·subst hz
  obtain ⟨ms,hms⟩ : ∃ ms,ms=qO ps wi 40000:=⟨_,rfl⟩
  rw [← hms] at HM ⊢
  obtain ⟨hcw,c,hc,hlc⟩:bE ps wi=0/\∃ c,mG ps wi c/\ms=bN ps wi c:=by
   rcases xT ps wi with ⟨h0,h1,-⟩ | ⟨h0,-,c,hc,h1⟩ | ⟨-,h1,-⟩
   ·exact absurd (h1.symm.trans HER.out.symm) h0
   ·exact ⟨h0,c,hc,hms.trans h1⟩
   ·have:=h1.symm.trans HER.out.symm;cases this
  have HS:=hid (show bV ps ms=0 by rw [hlc];exact aOh wi (cI hcw).1 c)
  have HVB:=hid (show fM ps wi ms=true by rw [hlc];exact hc.2.1)
  have hok:=gB (cI hcw).2.1
  have HMOD:=hid (show (aB ps wi).mod (eW ms)=c by rw [hlc];exact hc.mod hok)
  have HC:=hid hc
  have HZW:=hid hcw
  have HOK:=hid hok
  have h14:=(nT wi (cI hcw).1).1
  clear hms hcw hc hlc hok
  have ht0:=V3.out.facts.1
  have htl:=V3.out.facts.2.2
  have hw0:W3.cell? ⟨b+1,0,none⟩=some (.slice tp wi.ts.length tc):=B3.out.facts.1 0
  have hw1:W3.cell? ⟨b+1,1,none⟩=some (.slice ip wi.ins.length ic):=B3.out.facts.1 1
  have hw2:W3.cell? ⟨b+1,2,none⟩=some (.slice mp wi.ma.length mc):=B3.out.facts.1 2
  have hw3:W3.cell? ⟨b+1,3,none⟩=some (.slice op0 wi.on.length oc0):=B3.out.facts.1 3
  have hwl:=B3.out.facts.2.2
  go_wp2_with fail
  refine (yC S ps wi xs _ _ _ _ _ _ W3 (fun c hc=>Nat.lt_of_lt_of_le (hS c hc) K3.out.size) (HP.out.keep hS K3.out) (HW.out.keep hS K3.out) (HX.out.keep hS K3.out)).mono ?_
  rintro e W4 ⟨rfl,k4⟩
  have K4:=hid (K3.out.trans k4)
  have HK24:=hid (HK23.out.trans k4)
  have V4:=hid (V3.out.keep k4 V3.out.facts.2.2)
  have B4:=hid (B3.out.keep k4 B3.out.facts.2.2)
  clear ht0 htl hw0 hw1 hw2 hw3 hwl V3 B3 k4
  obtain ⟨ve,hve⟩ : ∃ ve,ve=cW ps wi xs:=⟨_,rfl⟩
  obtain ⟨vr,hvr⟩ : ∃ vr,vr=iF ps wi xs:=⟨_,rfl⟩
  have HVE:=hid hve
  have HVR:=hid hvr
  rw [← hve,← hvr]
  clear hve hvr
  go_upto_region 5 with fail
  obtain ⟨β,hβ⟩ : ∃ β:Bool,β=(decide (ve=0)&&vr):=⟨_,rfl⟩
  have HB:=hid hβ
  clear hβ
  go_cut [48] from 44 to 48 (fun t48 wc=>t48=.bool β/\wc=W4)
  case first=>
   by_cases h0:ve=0
   ·have hb:=HB.out
    rw [decide_eq_true h0,Bool.true_and] at hb
    subst hb h0
    go_wp2_with fail
    go_meet
    exact ⟨rfl,rfl⟩
   ·have hb:=HB.out
    rw [decide_eq_false h0,Bool.false_and] at hb
    subst hb
    have ha1:(ve==0)=false:=by simpa using h0
    clear h0
    go_wp2_with fail
    go_meet
    exact ⟨rfl,rfl⟩
  case rest=>
  obtain ⟨rfl,rfl⟩:=hcut
  rename_i hK
  refine hK _ _ ?_
  obtain ⟨W4,rfl⟩ : ∃ W4:World,W4=wc:=⟨_,rfl⟩
  go_cut [] from 49 to 95 (fun wd=>aA W4 wd)
  case first=>
   cases β
   ·go_wp2_with fail
    go_meet
    exact aA.refl _
   ·have hb:decide (ve=0)=true/\vr=true:=by have:=HB.out.symm;rwa [Bool.and_eq_true] at this
    have hv0:cW ps wi xs=0:=by rw [← HVE.out];simpa using hb.1
    have hvx:fM ps wi xs=true:=by
     have h1:=hb.2
     rw [HVR.out] at h1
     unfold iF at h1
     rw [Bool.and_eq_true] at h1
     exact h1.2
    have hxs:bV ps xs=0:=by unfold cW at hv0;rwa [if_neg (by simp [HZW.out])] at hv0
    obtain ⟨d,hd⟩ : ∃ d,d=(aB ps wi).mod (eW xs):=⟨_,rfl⟩
    have hdl:d.length=(aB ps wi).many:=by rw [hd];exact Cn.CT.mod_len HOK.out _
    have hcl:c.length=(aB ps wi).many:=HC.out.1
    have HLX:=hid (show Cn.jT c d from HC.out.2.2 d hdl (by rw [hd,set_mod HOK.out hxs];exact hvx))
    have HV0:=hid hv0
    have HVM:=hid (show cW ps wi ms=0 by unfold cW;rw [if_neg (by simp [HZW.out])];exact HS.out)
    have HDD:=hid hd
    clear hb hv0 hvx hxs hd
    have ht0:=V4.out.facts.1
    have htl:=V4.out.facts.2.2
    have hw0:W4.cell? ⟨b+1,0,none⟩=some (.slice tp wi.ts.length tc):=B4.out.facts.1 0
    have hw1:W4.cell? ⟨b+1,1,none⟩=some (.slice ip wi.ins.length ic):=B4.out.facts.1 1
    have hw2:W4.cell? ⟨b+1,2,none⟩=some (.slice mp wi.ma.length mc):=B4.out.facts.1 2
    have hw3:W4.cell? ⟨b+1,3,none⟩=some (.slice op0 wi.on.length oc0):=B4.out.facts.1 3
    have hwl:=B4.out.facts.2.2
    go_wp2_with fail
    refine (qE (fun c=>c<W4.heap.size) ps wi ms _ _ _ _ _ _ W4 (fun _ h=>h) ((HP.out.keep hS K4.out).mono (fun _ _=>rfl) fun c hc=>Nat.lt_of_lt_of_le (hS c hc) K4.out.size) ((HW.out.keep hS K4.out).mono fun c hc=>Nat.lt_of_lt_of_le (hS c hc) K4.out.size) (HM.out.mono (fun p hp=>HK24.out.cell (p:=p) hp.2) fun c hc=>Nat.lt_of_lt_of_le hc.2 HK24.out.size)).mono ?_
    rintro e W5 ⟨k5,⟨h0,-⟩ | ⟨-,ra,rfl,-,hra⟩⟩
    ·exact absurd HVM.out h0
    rw [HMOD.out] at hra
    have HRA:=hid hra
    have HK45:=hid k5
    have K5:=hid (K4.out.trans k5)
    have V5:=hid (V4.out.keep k5 V4.out.facts.2.2)
    have B5:=hid (B4.out.keep k5 B4.out.facts.2.2)
    clear hra k5 ht0 htl hw0 hw1 hw2 hw3 hwl
    have ht0:=V5.out.facts.1
    have htl:=V5.out.facts.2.2
    have hw0:W5.cell? ⟨b+1,0,none⟩=some (.slice tp wi.ts.length tc):=B5.out.facts.1 0
    have hw1:W5.cell? ⟨b+1,1,none⟩=some (.slice ip wi.ins.length ic):=B5.out.facts.1 1
    have hw2:W5.cell? ⟨b+1,2,none⟩=some (.slice mp wi.ma.length mc):=B5.out.facts.1 2
    have hw3:W5.cell? ⟨b+1,3,none⟩=some (.slice op0 wi.on.length oc0):=B5.out.facts.1 3
    have hwl:=B5.out.facts.2.2
    go_wp2_with fail
    refine (qE S ps wi xs _ _ _ _ _ _ W5 (fun c hc=>Nat.lt_of_lt_of_le (hS c hc) K5.out.size) (HP.out.keep hS K5.out) (HW.out.keep hS K5.out) (HX.out.keep hS K5.out)).mono ?_
    rintro e W6 ⟨k6,⟨h0,-⟩ | ⟨-,rb,rfl,-,hrb⟩⟩
    ·exact absurd HV0.out h0
    rw [← HDD.out] at hrb
    have HRB:=hid hrb
    have HRA6:=hid (HRA.out.keep k6 HRA.out.facts.2.2)
    have HK46:=hid (HK45.out.trans k6)
    clear hrb k6 ht0 htl hw0 hw1 hw2 hw3 hwl HRA V5 B5
    have hmm:(((aB ps wi).many:Int)==((aB ps wi).many:Int))=true:=by simp
    have hmn:(((aB ps wi).many:Int) != ((aB ps wi).many:Int))=false:=by simp
    go_wp2_with fail
    go_loopg [78] (aB ps wi).many (fun gk iv wr=> ∃ j:Nat,j+gk=(aB ps wi).many/\iv=.int .i64 j/\(∀ i<j,(Cn.chL c).getD i 0=(Cn.chL d).getD i 0)/\aA W6 wr)
    case atStart=>exact ⟨0,by omega,rfl,fun i hi=>by omega,aA.refl _⟩
    case round=>
    obtain ⟨j,hj,rfl,hsame,hk⟩:=hrel
    have HSM:=hid hsame
    have HKR:=hid hk
    have R1:=hid (HRA6.out.keep hk HRA6.out.facts.2.2)
    have R2:=hid (HRB.out.keep hk HRB.out.facts.2.2)
    clear hsame hk
    by_cases hlt:j<(aB ps wi).many
    ·have hjI:(j:Int)<((aB ps wi).many:Int):=by omega
     have hla:(Cn.chL c)[j]? = some ((Cn.chL c).getD j 0):=by rw [List.getD_eq_getElem?_getD,List.getElem?_eq_getElem (by rw [Cn.iL];omega)];rfl
     have hlb:(Cn.chL d)[j]? = some ((Cn.chL d).getD j 0):=by rw [List.getD_eq_getElem?_getD,List.getElem?_eq_getElem (by rw [Cn.iL];omega)];rfl
     have hca:wr.cell? ⟨ra,j,none⟩=some (.int .i64 ((Cn.chL c).getD j 0)):=by rw [R1.out.facts.1,List.getElem?_toArray,List.getElem?_map,hla];rfl
     have hcb:wr.cell? ⟨rb,j,none⟩=some (.int .i64 ((Cn.chL d).getD j 0)):=by rw [R2.out.facts.1,List.getElem?_toArray,List.getElem?_map,hlb];rfl
     have hra:=R1.out.facts.2.2
     have hrb:=R2.out.facts.2.2
     have HFP:=hid (fun h=>aFa HLX.out (hcl.trans hdl.symm) (j:=j) (by omega) HSM.out h)
     have HNX:=hid (show (Cn.chL c).getD j 0=(Cn.chL d).getD j 0->∀ i<j+1,(Cn.chL c).getD i 0=(Cn.chL d).getD i 0 from fun e i hi=>by
      by_cases h:i=j
      ·rw [h];exact e
      ·exact HSM.out i (by omega))
     clear hla hlb
     generalize (Cn.chL c).getD j 0=x at hca HFP HNX
     generalize (Cn.chL d).getD j 0=y at hcb HFP HNX
     by_cases hxy:x=y
     ·subst hxy
      have hx1:(x==x)=true:=by simp
      have hx2:(x != x)=false:=by simp
      go_upto_region 13 with fail
      go_quiet (fail)
      go_wp2_with fail
      go_roundg ((aB ps wi).many-(j+1))
      case rel=>exact ⟨j+1,by omega,by go_num,HNX.out trivial,HKR.out.drewN _⟩
      case measure=>omega
     ·have hx1:(x==y)=false:=by simpa using hxy
      have hx2:(x != y)=true:=by simp [bne,hx1]
      have hx3 : ¬ (0:Int)<x:=HFP.out hxy
      clear hxy
      go_upto_region 13 with fail
      go_quiet (fail)
      go_wp2_with fail
      go_meet
      exact HK46.out.trans (HKR.out.drewN _)
    ·have hnl : ¬ ((j:Int)<((aB ps wi).many:Int)):=by omega
     go_wp2_with fail
     go_meet
     exact HK46.out.trans HKR.out
  case rest=>
  have KQ:=hid (K4.out.trans hcut)
  have HK2Q:=hid (HK24.out.trans hcut)
  have VQ:=hid (V4.out.keep hcut V4.out.facts.2.2)
  have BQ:=hid (B4.out.keep hcut B4.out.facts.2.2)
  clear hcut V4 B4 HB HVE HVR
  obtain ⟨Wq,rfl⟩ : ∃ Wq:World,Wq=wc:=⟨_,rfl⟩
  have hlen8:=(dD HS.out).2.2.2.2.1
  have hw0:Wq.cell? ⟨b+1,0,none⟩=some (.slice tp wi.ts.length tc):=BQ.out.facts.1 0
  have hw1:Wq.cell? ⟨b+1,1,none⟩=some (.slice ip wi.ins.length ic):=BQ.out.facts.1 1
  have hw2:Wq.cell? ⟨b+1,2,none⟩=some (.slice mp wi.ma.length mc):=BQ.out.facts.1 2
  have hw3:Wq.cell? ⟨b+1,3,none⟩=some (.slice op0 wi.on.length oc0):=BQ.out.facts.1 3
  have hwl:=BQ.out.facts.2.2
  go_upto_region 20 with fail
  refine bF (fun W'=>OnM Wq.heap.size (.slice tp wi.ts.length tc) (.slice lp ms.length lc) (.slice mp wi.ma.length mc) (.slice none 0 0) [] Wq W') ⟨aD.new _ _ _,World.ownsRow_nil _ _ _ _,aA.alloc _ _⟩ ?_
  intro W5 h5
  have O5:=hid h5
  obtain ⟨wb,hwb⟩ : ∃ wb,wb=Wq.heap.size:=⟨_,rfl⟩
  have hwb1:Wq.heap.size<=wb:=by omega
  have hwb2:w.heap.size<=wb:=by have:=KQ.out.size;omega
  have hwb4:W2.heap.size<=wb:=by have:=HK2Q.out.size;omega
  have hbw:b<wb:=by have:=VQ.out.facts.2.2;omega
  rw [← hwb] at O5 ⊢
  clear hwb h5 hw0 hw1 hw2 hw3 hwl
  go_wp2_with fail
  go_loopg [102] ms.length (fun gk iv wr=> ∃ (i:Nat) (ov:Value),i+gk=ms.length/\iv=.int .i64 i/\OnM wb (.slice tp wi.ts.length tc) (.slice lp ms.length lc) (.slice mp wi.ma.length mc) ov (onN ms i) Wq wr)
  case atStart=>exact ⟨0,_,by omega,rfl,O5.out⟩
  case round=>
  obtain ⟨i,ov,hi',rfl,ho⟩:=hrel
  have O1:=hid ho
  clear ho
  have HKW:=hid (show aA w wr from Below.trans KQ.out (O1.out.kp.mono hwb2))
  have HK2W:=hid (show aA W2 wr from Below.trans HK2Q.out (O1.out.kp.mono hwb4))
  by_cases hlt:i<ms.length
  ·have hiI:(i:Int)<(ms.length:Int):=by omega
   obtain ⟨lb,lo,lc',hlv,hlS,-,hcells⟩:=HM.out.get hlt
   cases hlv
   obtain ⟨op,oc,hc0,hc1,hol,hbs⟩:=hcells i ms[i] (List.getElem?_eq_getElem hlt)
   have hc0':=(HK2W.out.cell (p:=⟨lb,lo+i*2,none⟩) hlS.2).trans hc0
   have hc1':=(HK2W.out.cell (p:=⟨lb,lo+i*2+1,none⟩) hlS.2).trans hc1
   have hlbl:lb<wr.heap.size:=Nat.lt_of_lt_of_le hlS.2 HK2W.out.size
   have HBS:=hid hbs
   have HN:=hid (aCu hlt)
   have hmo2:=aSm HS.out hlt
   have hacc:=zL HS.out i (by omega)
   clear hc0 hc1 hcells hbs
   generalize hmi:ms[i]=m at hc0' hc1' hol HBS HN hmo2
   clear hmi
   go_upto_region 23 with fail
   refine bF (fun W'=>OnM wb (.slice tp wi.ts.length tc) (.slice (some ⟨lb,lo,none⟩) ms.length lc) (.slice mp wi.ma.length mc) ov (onN ms i) Wq W'/\aD wr.heap.size 64 #[.int .i64 m.pl,.slice op m.on.length oc] W') ⟨O1.out.keep (aA.alloc _ _),aD.new _ _ _⟩ ?_
   rintro W6 ⟨o6,b6⟩
   have O6:=hid o6
   have M6:=hid b6
   have hwm:wb<wr.heap.size:=O1.out.bx.facts.2.2
   have hno:ov.ownBlock≠some wr.heap.size:=fun e=>by have:=(cV O1.out.own e).2;omega
   obtain ⟨mb,hmb⟩ : ∃ mb,mb=wr.heap.size:=⟨_,rfl⟩
   rw [← hmb] at M6 hwm hno ⊢
   have hm1:W6.cell? ⟨mb,1,none⟩=some (.slice op m.on.length oc):=M6.out.facts.1 1
   have hml:=M6.out.facts.2.2
   clear o6 b6 hmb hc0' hc1' hlbl
   go_wp2_with fail
   clear hm1 hml
   obtain ⟨wo,rfl⟩ : ∃ wo:World,wo=wr:=⟨_,rfl⟩
   go_loopg [109] m.on.length (fun gk kv wr=> ∃ (k:Nat) (ou:Value),k+gk=m.on.length/\kv=.int .i64 k/\OnM wb (.slice tp wi.ts.length tc) (.slice (some ⟨lb,lo,none⟩) ms.length lc) (.slice mp wi.ma.length mc) ou (onN ms i++onK m k) Wq wr/\aD mb 64 #[.int .i64 m.pl,.slice op m.on.length oc] wr/\ou.ownBlock≠some mb)
   case atStart=>exact ⟨0,ov,by omega,rfl,by rw [show onK m 0 = [] from rfl,List.append_nil];exact O6.out,M6.out,hno⟩
   case round=>
   obtain ⟨k,ou,hk,rfl,ho,hb,hn⟩:=hrel
   have O7:=hid ho
   have M7:=hid hb
   clear ho hb
   have HKW7:=hid (show aA W2 wr from Below.trans HK2Q.out (O7.out.kp.mono hwb4))
   by_cases hkl:k<m.on.length
   ·have hkI:(k:Int)<(m.on.length:Int):=by omega
    obtain ⟨p',c',hpe,-,hrow⟩:=HBS.out
    cases hpe
    obtain ⟨fb,fo,hfp,hfS,hfc⟩:=hrow (by omega)
    subst hfp
    have hcx:=(HKW7.out.cell (p:=⟨fb,fo+k,none⟩) hfS.2).trans (hfc k m.on[k] (List.getElem?_eq_getElem hkl))
    have hfl:fb<wr.heap.size:=Nat.lt_of_lt_of_le hfS.2 HKW7.out.size
    have hgd:m.on.getD k false=m.on[k]:=by rw [List.getD_eq_getElem?_getD,List.getElem?_eq_getElem hkl];rfl
    clear hfc hrow
    cases hbk:m.on[k]
    ·rw [hbk] at hcx hgd
     have HKN:=hid (show onK m (k+1)=onK m k by rw [vB,hgd];simp)
     clear hgd hbk
     go_wp2_with fail
     go_roundg (m.on.length-(k+1))
     case rel=>exact ⟨k+1,ou,by omega,by go_num,by rw [HKN.out];exact O7.out,M7.out,hn⟩
     case measure=>omega
    ·rw [hbk] at hcx hgd
     have HKN:=hid (show onN ms i++onK m (k+1)=(onN ms i++onK m k) ++ [(m.pl,(k:Int))] by rw [vB,hgd];simp)
     have hal:(onN ms i++onK m k).length<=100:=by
      rw [List.length_append]
      have h5:(onK m k).length<=k:=by
       unfold onK
       refine Nat.le_trans (List.length_filterMap_le _ _) ?_
       simp
      omega
     have hw3:wr.cell? ⟨wb,3,none⟩=some ou:=O7.out.bx.facts.1 3
     have hwl:=O7.out.bx.facts.2.2
     have hm0:wr.cell? ⟨mb,0,none⟩=some (.int .i64 m.pl):=M7.out.facts.1 0
     have hml:=M7.out.facts.2.2
     clear hgd hbk
     generalize onN ms i++onK m k=acc at O7 HKN hal
     go_wp2_with (at_builtin;refine wpList_append_own_at _ rfl _ _ 44 rfl (wb+1) 65 i0 (.agg #[.int .i64 0,.int .i64 0]) 2 16 Tryz.underlying44 hi hz0 hz1 hz2 rfl (by decide) ou acc.length (prV acc) rfl (World.ownsRow.alloc O7.out.own _) ⟨wr.heap.size,0,none⟩ 1 1 [.int .i64 m.pl,.int .i64 k] rfl rfl aKo aKn (by unfold maxLen;omega) (by omega) (by have:=aC wr (.cells #[.int .i64 m.pl,.int .i64 k] 65);omega) ?_)
     intro v8 w8 h5 h6 _ h9
     obtain ⟨b8,o8,m8,n8⟩:=OnM.push O7.out M7.out hwm hn h5 h6 (by
      rcases h9 with h9 | h9
      ·exact .inl h9
      ·exact .inr (by rw [h9];try rw [aC]))
     obtain ⟨g8,c8,rfl⟩:=aW h5 (Nat.succ_pos _)
     have O8:=hid o8
     have M8:=hid m8
     have hc3:w8.cell? ⟨wb,3,none⟩=some ou:=b8.facts.1 3
     have hf3:=b8.facts.2.1 3
     have hl3:=b8.facts.2.2
     clear h5 h6 h9 b8 o8 m8 hw3 hwl hm0 hml
     go_wp2_with fail
     generalize w8.setCell ⟨wb,3,none⟩ (.slice (some ⟨g8,0,none⟩) (acc.length+1) c8)=W9 at O8 M8 ⊢
     clear hc3 hf3 hl3
     go_roundg (m.on.length-(k+1))
     case rel=>exact ⟨k+1,_,by omega,by go_num,by rw [HKN.out];exact O8.out,M8.out,n8⟩
     case measure=>omega
   ·have hkn : ¬ ((k:Int)<(m.on.length:Int)):=by omega
    have hke:k=m.on.length:=by omega
    have O9:=hid (show OnM wb (.slice tp wi.ts.length tc) (.slice (some ⟨lb,lo,none⟩) ms.length lc) (.slice mp wi.ma.length mc) ou (onN ms (i+1)) Wq wr by rw [HN.out,← hke];exact O7.out)
    clear hke
    go_wp2_with fail
    go_roundg (ms.length-(i+1))
    case rel=>exact ⟨i+1,_,by omega,by go_num,O9.out⟩
    case measure=>omega
  ·have hnl : ¬ ((i:Int)<(ms.length:Int)):=by omega
   have hie:i=ms.length:=by omega
   have O2:=hid (show OnM wb (.slice tp wi.ts.length tc) (.slice lp ms.length lc) (.slice mp wi.ma.length mc) ov (pC ms) Wq wr by have:=O1.out;rw [hie] at this;exact this)
   clear hie
   have ht0:wr.cell? ⟨b,0,none⟩=some pv:=(O2.out.kp.cell (p:=⟨b,0,none⟩) hbw).trans VQ.out.facts.1
   have htl:b<wr.heap.size:=by have:=O2.out.bx.facts.2.2;omega
   have hw0:wr.cell? ⟨wb,0,none⟩=some (.slice tp wi.ts.length tc):=O2.out.bx.facts.1 0
   have hw1:wr.cell? ⟨wb,1,none⟩=some (.slice lp ms.length lc):=O2.out.bx.facts.1 1
   have hw2:wr.cell? ⟨wb,2,none⟩=some (.slice mp wi.ma.length mc):=O2.out.bx.facts.1 2
   have hw3:wr.cell? ⟨wb,3,none⟩=some ov:=O2.out.bx.facts.1 3
   have hwl:=O2.out.bx.facts.2.2
   have hon:(pC ms).length<=1000:=by have:=zL HS.out ms.length (Nat.le_refl _);unfold pC;omega
   have HWK:=hid ((HW.out.keep hS HKW.out).mono (S':=fun c=>c<wr.heap.size) fun c hc=>Nat.lt_of_lt_of_le (hS c hc) HKW.out.size)
   go_wp2_with fail
   refine (fU (fun c=>c<wr.heap.size) ps (dO wi ms) 40000 _ _ _ _ _ wr (fun _ h=>h) ((HP.out.keep hS HKW.out).mono (fun _ _=>rfl) fun c hc=>Nat.lt_of_lt_of_le (hS c hc) HKW.out.size) ⟨HWK.out.ts,HM.out.mono (fun p hp=>HK2W.out.cell (p:=p) hp.2) fun c hc=>Nat.lt_of_lt_of_le hc.2 HK2W.out.size,HWK.out.ma,O2.out.own.prs (fun g _ h=>h) hon⟩ hcap).mono ?_
   rintro e W9 h9
   obtain ⟨k9,l9,p9,rfl,hm9,-⟩:=h9.gen (by decide) (by decide)
   obtain ⟨hr1,hl1⟩:eC ps (dO wi ms) 40000=0/\qO ps (dO wi ms) 40000=ms:=by
    obtain ⟨b1,b2⟩:=aJs (wi:=wi) HS.out HVB.out
    obtain ⟨r1,r2⟩:=aMe (aMx HZW.out HS.out) b1
    exact ⟨r1,r2.trans b2⟩
   rw [hr1]
   rw [hl1] at hm9
   obtain ⟨lp9,lc9,rfl,-⟩:=hm9.len
   have M9:=hid hm9
   have K9:=hid (HKW.out.trans k9)
   have HK29:=hid (HK2W.out.trans k9)
   clear k9 h9 hm9 ht0 htl hw0 hw1 hw2 hw3 hwl hr1 hl1
   go_wp2_with fail
   refine (zU (fun c=>c<W9.heap.size) ms ms _ _ W9 (fun _ h=>h) (HM.out.mono (fun p hp=>HK29.out.cell (p:=p) hp.2) fun c hc=>Nat.lt_of_lt_of_le hc.2 HK29.out.size) (M9.out.mono (fun _ _=>rfl) fun c hc=>hc.2)).mono ?_
   rintro e W10 ⟨γ,rfl,hγ,k10⟩
   obtain rfl:γ=true:=hγ.2 rfl
   have K10:=hid (K9.out.trans k10)
   clear k10 hγ
   go_wp2_with fail
   go_ret
   exact ⟨rfl,K10.out⟩
 ·have ha1:(er==0)=false:=by simpa using hz
  have ha2:(er != 0)=true:=by simp [bne,ha1]
  clear hz
  go_wp2_with fail
  refine (qQ W3 (HE.out.keep K3.out) (HMX.out.keep K3.out)).mono ?_
  rintro e W4 ⟨rfl,k4⟩
  have K4:=hid (K3.out.trans k4)
  clear k4
  go_wp2_with fail
  go_ret
  exact ⟨rfl,K4.out⟩
end Go.Proofs.YthaaaecmeafofaaGreatDoor
namespace Go.Proofs.YthaaaecmeafofaaGreatDoor
open Go.RowKit
theorem pL {P:Program} {w:World} : ∀ {l:List (String × DataW Unit)} {ps:List MemPlace} {x:String × DataW Unit},DataW.LaidVars P w l ps->x∈l->∃ qs,DataW.LaidVars P w [x] qs/\qs.Sublist ps
 | [],_,_,_,hx=>by cases hx
 | (n,d) :: r,ps,x,h,hx=>by
  obtain ⟨g,t,cs,fuel,p,q,h1,h2,h3,h4,h5,rfl⟩:=h
  rcases List.mem_cons.1 hx with rfl | hx
  ·exact ⟨MemPlace.row ⟨g,0,none⟩ cs.size++p ++ [],⟨g,t,cs,fuel,p,[],h1,h2,h3,h4,rfl,rfl⟩,by rw [List.append_nil];exact List.sublist_append_left _ _⟩
  ·obtain ⟨qs,h6,h7⟩:=pL h5 hx
   exact ⟨qs,h6,h7.trans (List.sublist_append_right _ _)⟩
theorem kG {P:Program} {w:World} {l:List (String × DataW Unit)} {x:String × DataW Unit} (h:laidMet P l w) (hx:x∈l):laidMet P [x] w:=by
 obtain ⟨ps,h1,h2,h3⟩:=h
 obtain ⟨qs,h4,h5⟩:=pL h1 hx
 exact ⟨qs,h4,h5.nodup h2,fun b off hb=>h3 b off (h5.subset hb)⟩
theorem pQ {w:World} {b o:Nat} {v:Value} (h:w.cell? ⟨b,o,none⟩=some v):b<w.heap.size:=by
 rcases Nat.lt_or_ge b w.heap.size with h' | h'
 ·exact h'
 ·simp [World.cell?,Array.getElem?_eq_none h'] at h
theorem aMr : Tryz.prog.globalNamed "quartermaster/atom.signs" = some 8 := by kernel_rfl
theorem aSs:(Tryz.prog.globals[8]?).map (·.type)=some 324:=by kernel_rfl
theorem aUd:(Tryz.prog.globals[1]?).map (·.type)=some 270:=by kernel_rfl
theorem aUa:Tryz.prog.cellsOf 270=20:=by kernel_rfl
theorem aUb:Tryz.prog.cellsOf 237=1:=by kernel_rfl
theorem aEj:Tryz.prog.cellsOf 9=1:=by kernel_rfl
theorem aSy:Tryz.prog.cellsOf 319=1:=by kernel_rfl
theorem aTn : Tryz.prog.globalNamed "strconv.ErrSyntax" = some 6 := by kernel_rfl
theorem aUf:(Tryz.prog.globals[6]?).map (·.type)=some 260:=by kernel_rfl
theorem aTm : Tryz.prog.globalNamed "strconv.ErrRange" = some 7 := by kernel_rfl
theorem aUe:(Tryz.prog.globals[7]?).map (·.type)=some 260:=by kernel_rfl
theorem aTw : "*" ++ "errors.errorString" = "*errors.errorString" := by decide
theorem aOd (u : TypeId) (h : Tryz.prog.typeName? 3 u = some "*errors.errorString") : u = 317 :=
 typeName_ptr_named (nm := "errors.errorString") (by rw [aTw]; kernel_rfl) (by kernel_rfl) (by decide) u (by rw [aTw]; exact h)
theorem aOk {W : World} (h : laidMet Tryz.prog [("quartermaster/atom.signs", Rows.laid_quartermaster_atom_signs)] W) : aAr W := by
 obtain ⟨ps,⟨g,t,cs,fuel,p,q,hg,ht,hv,hd,_,_⟩,_⟩:=h
 obtain rfl:=Option.some.inj (aMr.symm.trans hg)
 obtain rfl:=Option.some.inj (aSs.symm.trans ht)
 obtain ⟨xs,m,rfl,hx,hlen,hn,hel⟩:=DataW.trod_array Tryz.underlying324 hd
 simp only [Rows.laid_quartermaster_atom_signs,Prod.mk.injEq,DataW.agg.injEq] at hx
 match xs,hn,hx,hel with
 | [x0,x1,x2,x3],_,hx,hel=>
  have cell : ∀ (k:Nat) (x:DataW Unit × List MemPlace) (l:List UInt8),k<4->[x0,x1,x2,x3][k]? = some x->x.1=.lit (.string l)->W.cell? ⟨8,k,none⟩=some (.string ⟨l.toArray⟩):=by
   intro k x l hk hxk hl
   have h1:=hel k hk
   rw [hxk] at h1
   obtain ⟨s,e1,e2,_⟩:=DataW.trod_string Tryz.underlying9 h1
   rw [e2] at hl
   have hs:s.data.toList=l:=by simpa using hl
   have hs':s=⟨l.toArray⟩:=by cases s;simp at hs;rw [← hs]
   have h2:=World.var?_cell aMr hv k
   rw [aEj,Nat.mul_one] at e1
   have h3:cs[k]? = some (.string s):=by
    have:=congrArg (·[0]?) e1
    simpa [List.getElem?_take,List.getElem?_drop] using this
   rw [h2,h3,hs']
  simp only [List.map_cons,List.map_nil,List.cons.injEq,and_true] at hx
  have c1:=cell 1 x1 [61] (by decide) rfl hx.1.2.1.symm
  refine ⟨pQ c1,c1,cell 2 x2 [62,61] (by decide) rfl hx.1.2.2.1.symm,cell 3 x3 [60] (by decide) rfl hx.1.2.2.2.symm⟩
theorem aRt {W : World} {l : List (String × DataW Unit)} (h : laidMet Tryz.prog l W) (h1 : ("quartermaster/atom.signs", Rows.laid_quartermaster_atom_signs) ∈ l) (h2 : ("internal/strconv.uint64pow10", Rows.laid_internal_strconv_uint64pow10) ∈ l)
  (h3 : ("strconv.ErrSyntax", Rows.laid_strconv_ErrSyntax) ∈ l) (h4 : ("strconv.ErrRange", Rows.laid_strconv_ErrRange) ∈ l) : Env W := by
 have tab : Lib.TabIs Tryz.prog W "internal/strconv.uint64pow10" .u64 Lib.pow10Tab := Lib.tabIs_of_head (rest := []) kI aUd Tryz.underlying270 Tryz.underlying237 aUb aUa (kG h h2)
 obtain ⟨a0,s0,hv0,-,-,-⟩:=laid_sentinel (kG h h3) aTn aUf Tryz.underlying260 aOd Tryz.underlying317 Tryz.underlying319 rfl rfl Tryz.underlying9 aSy aEj
 obtain ⟨a1,s1,hv1,-,-,-⟩:=laid_sentinel (kG h h4) aTm aUe Tryz.underlying260 aOd Tryz.underlying317 Tryz.underlying319 rfl rfl Tryz.underlying9 aSy aEj
 have c0:W.cell? ⟨6,0,none⟩=some (.iface 317 (.pointer (some a0))):=by simpa using World.var?_cell aTn hv0 0
 have c1:W.cell? ⟨7,0,none⟩=some (.iface 317 (.pointer (some a1))):=by simpa using World.var?_cell aTm hv1 0
 exact ⟨aOk (kG h h1),⟨pQ (tab.cell kI 0 (by decide)),tab⟩,⟨pQ c0,_,_,c0⟩,⟨pQ c1,_,_,c1⟩⟩
end Go.Proofs.YthaaaecmeafofaaGreatDoor
namespace Go.Proofs.YthaaaecmeafofaaGreatDoor
open Go.ChangeShapes Go.WideShapes Go.ChangeAt Go.RowKit Go.Joins
theorem oV:Tryz.prog.cellsOf 71=6:=by kernel_rfl
theorem iQ:Tryz.prog.cellsOf 3=1:=by kernel_rfl
theorem oW:Tryz.prog.cellsOf 4=1:=by kernel_rfl
end Go.Proofs.YthaaaecmeafofaaGreatDoor
namespace Go.Proofs.YthaaaecmeafofaaGreatDoor
open Go.ChangeShapes Go.WideShapes Go.ChangeAt Go.RowKit Go.Joins
theorem oX:Tryz.prog.cellsOf 74=10:=by kernel_rfl
theorem tP:Tryz.prog.cellsOf 72=1:=by kernel_rfl
theorem aTr {α:Type} {cs:List α} (h:cs.length=6) : ∃ c0 c1 c2 c3 c4 c5,cs = [c0,c1,c2,c3,c4,c5]:=by
 match cs,h with
 | [c0,c1,c2,c3,c4,c5],_=>exact ⟨c0,c1,c2,c3,c4,c5,rfl⟩
theorem aSc {α:Type} {cs:List α} (h:cs.length=10) : ∃ c0 c1 c2 c3 c4 c5 c6 c7 c8 c9,cs = [c0,c1,c2,c3,c4,c5,c6,c7,c8,c9]:=by
 match cs,h with
 | [c0,c1,c2,c3,c4,c5,c6,c7,c8,c9],_=>exact ⟨c0,c1,c2,c3,c4,c5,c6,c7,c8,c9,rfl⟩
section
variable {H:Type} {enc:TypeId × Value->H} {w:World} {base:Nat} {sp:Nat->Bool} {held:Bool}
theorem yB {fuel:Nat} {cs:List Value} {x:DataW H × List MemPlace} (h:DataW.trod enc Tryz.prog w base sp held fuel 71 cs=some x) : ∃ a:At,cs = [.string a.n,.int .i64 a.op,.int .i64 a.v,.int .i64 a.sl,.string a.f,.bool a.on]:=by
 obtain ⟨xs,m,_,hx,hl,hlen,hel⟩:=DataW.trod_struct Tryz.underlying71 h
 obtain ⟨c0,c1,c2,c3,c4,c5,rfl⟩:=aTr (hl.trans oV)
 match xs,hlen with
 | [y0,y1,y2,y3,y4,y5],_=>
  obtain ⟨n,e0,g0,_⟩:=DataW.trod_string Tryz.underlying9 (by simpa using hel 0 _ rfl)
  obtain ⟨op,e1,g1,_⟩:=DataW.trod_int Tryz.underlying3 (by simpa using hel 1 _ rfl)
  obtain ⟨v,e2,g2,_⟩:=DataW.trod_int Tryz.underlying3 (by simpa using hel 2 _ rfl)
  obtain ⟨sl,e3,g3,_⟩:=DataW.trod_int Tryz.underlying3 (by simpa using hel 3 _ rfl)
  obtain ⟨f,e4,g4,_⟩:=DataW.trod_string Tryz.underlying9 (by simpa using hel 4 _ rfl)
  obtain ⟨on,e5,g5⟩:=DataW.trod_bool Tryz.underlying4 (by simpa using hel 5 _ rfl)
  refine ⟨⟨n,op,v,sl,f,on⟩,?_⟩
  simp [iQ,oW,aEj] at e0 e1 e2 e3 e4 e5
  rw [e0,e1,e2,e3,e4,e5]
theorem aLd : ∀ (fuel:Nat) (cs:List Value) (x:DataW H × List MemPlace),DataW.trod enc Tryz.prog w base sp held fuel 74 cs=some x->∃ t:NT,aI (fun b=>b<w.heap.size) w t cs:=by
 intro fuel
 induction fuel using Nat.strongRecOn with
 | ind fuel ih=>
 intro cs x h
 obtain ⟨xs,m,hm,hx,hl,hlen,hel⟩:=DataW.trod_struct Tryz.underlying74 h
 obtain ⟨c0,c1,c2,c3,c4,c5,c6,c7,c8,c9,rfl⟩:=aSc (hl.trans oX)
 match xs,hlen with
 | [y0,y1,y2,y3,y4],_=>
  obtain ⟨k,e0,-,-⟩:=DataW.trod_int Tryz.underlying3 (by simpa using hel 0 _ rfl)
  obtain ⟨a,e1⟩:=yB (by simpa using hel 1 _ rfl)
  obtain ⟨fl,e2,-,-⟩:=DataW.trod_string Tryz.underlying9 (by simpa using hel 2 _ rfl)
  obtain ⟨nt,e3,-⟩:=DataW.trod_bool Tryz.underlying4 (by simpa using hel 3 _ rfl)
  have hs:=DataW.trod_slice Tryz.underlying72 (show DataW.trod enc Tryz.prog w base sp held m 72 _=some y4 by simpa using hel 4 _ rfl)
  simp [iQ,oW,aEj,oV] at e0 e1 e2 e3
  obtain ⟨e10,e11,e12,e13,e14,e15⟩:=e1
  rcases hs with ⟨e4,-⟩ | ⟨ad,len,cap,elems,rest,mm,hmm,e4,-,-,hlc,hcm,hle,hcell,-,-⟩
  ·simp [tP] at e4
   refine ⟨.node k a fl nt [],?_⟩
   rw [aI]
   exact ⟨none,0,by rw [e0,e10,e11,e12,e13,e14,e15,e2,e3,e4];rfl,Nat.le_refl _,by simp,by rw [bB];trivial⟩
  ·simp [tP] at e4
   have key : ∀ (q i:Nat),i+q=len->∃ ts:List NT,ts.length=q/\bB (fun b=>b<w.heap.size) w ts (some ad) i:=by
    intro q
    induction q with
    | zero=>intro i _;exact ⟨[],rfl,by rw [bB];trivial⟩
    | succ q ihq=>
     intro i hi
     obtain ⟨ts,hts,hk⟩:=ihq (i+1) (by omega)
     have hci:=hcell i (by omega)
     rw [oX,List.getElem?_eq_getElem (by omega)] at hci
     obtain ⟨csi,hc1,hc2⟩:=Option.bind_eq_some_iff.1 hci
     obtain ⟨t,ht⟩:=ih mm (by omega) csi _ hc2
     obtain ⟨hb1,hb2,hb3⟩:=World.cells?_some hc1
     have hblk:=World.cells?_block hc1 (by decide)
     refine ⟨t :: ts,by simp [hts],?_⟩
     rw [bB]
     refine ⟨⟨ad,csi,rfl,by rw [nM] at hblk;exact hblk,fun j v hv=> ?_,ht⟩,hk⟩
     have hj:j<10:=by rw [← hb2];exact (List.getElem?_eq_some_iff.1 hv).1
     rw [hb3 j hj];exact hv
   obtain ⟨ts,hts,hk⟩:=key len 0 (by omega)
   refine ⟨.node k a fl nt ts,?_⟩
   rw [aI]
   exact ⟨some ad,cap,by rw [e0,e10,e11,e12,e13,e14,e15,e2,e3,e4,hts],by omega,by unfold maxLen at hcm;omega,hk⟩
end
theorem aNh {w:World} (h:w.ShapedOpen Tryz.prog):kX w:=by
 obtain ⟨m,hm⟩:=cell_of_shapedOpen_int (g:=0) (t:=3) (zero:=#[.int .i64 0]) (k:= .i64) h (of_decide_eq_true (by kernel_rfl)) (by kernel_rfl) rfl (by kernel_rfl) (by kernel_rfl) Tryz.underlying3
 exact ⟨pQ hm,m,hm⟩
theorem wK {H:Type} {enc:TypeId × Value->H} {a:Assume} {C:Checked} {os:Os} {f:FuncId} {fn:Func} {s:ChangeSpec} {conds:List PathCond} {apart fresh handsOn again:Bool} {X:World->Array Value->Prop}
  (hX : ∀ (w w':World) (args:Array Value),w.heap=w'.heap->X w args->X w' args)
  (own:ownKnob C.prog.godebug=none) (started:os.Started) (noInit:C.prog.inits.idxOf? f=none) (hfn:C.prog.funcs[f]? = some fn)
  (witness : ∃ (w:World) (tape:Tape) (i:Input),w.os=os/\(w.forCall tape i).Shaped C.prog/\i.vars = []/\Input.okWide C.prog (w.forCall tape i) .any w.heap.size f i/\
   ((s.pre enc C.prog fn conds apart (w.forCall tape i).memory i.args/\X (w.forCall tape i).memory i.args)/\sizedMet enc C.prog fn (OpenSpec.ofChange s) apart (w.forCall tape i).memory i.args)/\a.holds C.prog (lone (Frame.enter C.prog f i.args .normal) [] (w.forCall tape i)))
  (tU : ∀ (W:World) (base:Nat) (args:Array Value) (ds gs:List (DataW H)) (before:List MemPlace),
   (∀ (j:Nat) t v,fn.params[j]? = some t->args[j]? = some v->Value.okWide C.prog W .any base t v)->
   DataW.Whole enc C.prog fn.params.toList s.vars apart W args.toList ds gs before->
   X W args->W.ShapedOpen C.prog->
   Calls C.prog f args W fun e W'=> ∃ v,e=.returned v/\s.post enc C.prog fn apart fresh handsOn again W args v W') :
  ReturnsInHanded a C os f .any (fun w args=>(s.pre enc C.prog fn conds apart w args/\X w args)/\sizedMet enc C.prog fn (OpenSpec.ofChange s) apart w args) (s.post enc C.prog fn apart fresh handsOn again):=by
 refine returnsInHanded_of_calls own started noInit witness ?_
 intro w tape i _ hsh _ hok hpre _
 obtain ⟨_,_,_,fn',hfn',_,_,_,_,hval⟩:=hok
 obtain rfl:fn'=fn:=Option.some.inj (hfn'.symm.trans hfn)
 obtain ⟨⟨⟨ds,gs,before,hw,_⟩,hx⟩,_⟩:=hpre
 have hw':=DataW.Whole.of_heap (w':=w.forCall tape i) (by rfl) hw
 refine (tU (w.forCall tape i) w.heap.size i.args ds gs before hval hw' (hX _ _ _ (by rfl) hx) hsh).mono fun e W' ⟨v,he,hp⟩=> ?_
 subst he
 exact ChangeSpec.post_blind hp
end Go.Proofs.YthaaaecmeafofaaGreatDoor
namespace Go.Proofs.YthaaaecmeafofaaGreatDoor
open Go.ChangeShapes Go.WideShapes Go.ChangeAt Go.RowKit Go.Joins
theorem wW:Tryz.prog.cellsOf 76=14:=by kernel_rfl
theorem aEl:Tryz.prog.cellsOf 69=1:=by kernel_rfl
theorem tQ:Tryz.prog.cellsOf 22=1:=by kernel_rfl
theorem aEm:Tryz.prog.cellsOf 24=1:=by kernel_rfl
theorem rD {a:Addr} (h:a.spot=none):a=⟨a.block,a.off,none⟩:=by cases a;simp at h;subst h;rfl
theorem aSd {α:Type} {cs:List α} (h:cs.length=14) : ∃ c0 c1 c2 c3 c4 c5 c6 c7 c8 c9 c10 c11 c12 c13,cs = [c0,c1,c2,c3,c4,c5,c6,c7,c8,c9,c10,c11,c12,c13]:=by
 match cs,h with
 | [c0,c1,c2,c3,c4,c5,c6,c7,c8,c9,c10,c11,c12,c13],_=>exact ⟨c0,c1,c2,c3,c4,c5,c6,c7,c8,c9,c10,c11,c12,c13,rfl⟩
section
variable {H:Type} {enc:TypeId × Value->H} {w:World} {base:Nat} {sp:Nat->Bool} {held:Bool}
theorem sZ {α:Type} {P:Nat->α->Prop} : ∀ (n:Nat),(∀ i,i<n->∃ x,P i x)->∃ l:List α,l.length=n/\∀ (i:Nat) (h:i<l.length),P i l[i]
 | 0,_=>⟨[],rfl,fun i h=>absurd h (Nat.not_lt_zero _)⟩
 | n+1,h=>by
  obtain ⟨l,hl,hp⟩:=sZ n (fun i hi=>h i (by omega))
  obtain ⟨x,hx⟩:=h n (by omega)
  refine ⟨l ++ [x],by simp [hl],fun i hi=> ?_⟩
  by_cases hlt:i<l.length
  ·rw [List.getElem_append_left hlt];exact hp i hlt
  ·have:i=l.length:=by simp at hi;omega
   subst this
   rw [List.getElem_append_right (Nat.le_refl _)]
   simp only [Nat.sub_self,List.getElem_cons_zero]
   rw [hl];exact hx
theorem aLg {fuel:Nat} {cs:List Value} {x:DataW H × List MemPlace} (h:DataW.trod enc Tryz.prog w base sp held fuel 69 cs=some x) : ∃ (fs:List ByteArray) (v:Value),cs = [v]/\cF (fun b=>b<w.heap.size) w fs v:=by
 rcases DataW.trod_slice Tryz.underlying69 h with ⟨rfl,-⟩ | ⟨ad,len,cap,elems,rest,mm,hmm,rfl,-,-,hlc,hcm,hle,hcell,-,-⟩
 ·exact ⟨[],_,rfl,Or.inl ⟨rfl,none,0,rfl⟩⟩
 ·have one : ∀ i,i<len->∃ y:ByteArray,ad.block<w.heap.size/\w.cell? (ad.add i)=some (.string y):=by
   intro i hi
   have hci:=hcell i hi
   rw [aEj,Nat.mul_one,List.getElem?_eq_getElem (by omega)] at hci
   obtain ⟨csi,hc1,hc2⟩:=Option.bind_eq_some_iff.1 hci
   obtain ⟨y,e0,-,-⟩:=DataW.trod_string Tryz.underlying9 hc2
   obtain ⟨hb1,hb2,hb3⟩:=World.cells?_some hc1
   have hblk:=World.cells?_block hc1 (by decide)
   rw [nM] at hblk
   refine ⟨y,hblk,?_⟩
   have:=hb3 0 (by decide)
   rw [e0] at this
   simpa [Addr.add] using this
  by_cases h0:len=0
  ·subst h0
   exact ⟨[],_,rfl,Or.inl ⟨rfl,_,_,rfl⟩⟩
  ·obtain ⟨fs,hfl,hfs⟩:=sZ len one
   have hz:=hfs 0 (by omega)
   have hsp:ad.spot=none:=by
    have:=World.cell?_spot hz.2
    simpa [Addr.add] using this
   have had:=rD hsp
   refine ⟨fs,_,rfl,Or.inr ⟨ad.block,ad.off,cap,by rw [hfl,← had],⟨hz.1,by omega⟩,by unfold maxLen at hcm;omega,fun j y hy=> ?_⟩⟩
   obtain ⟨hj,rfl⟩:=List.getElem?_eq_some_iff.1 hy
   have:=(hfs j hj).2
   rw [had] at this
   rwa [Addr.add_mid] at this
theorem aOr {fuel:Nat} {cs:List Value} {x:DataW H × List MemPlace} (h:DataW.trod enc Tryz.prog w base sp held fuel 76 cs=some x) : ∃ p:PK,dR (fun b=>b<w.heap.size) w p cs/\cs.length=14:=by
 obtain ⟨xs,m,hm,hx,hl,hlen,hel⟩:=DataW.trod_struct Tryz.underlying76 h
 have hl14:=hl.trans wW
 obtain ⟨c0,c1,c2,c3,c4,c5,c6,c7,c8,c9,c10,c11,c12,c13,rfl⟩:=aSd hl14
 match xs,hlen with
 | [y0,y1,y2,y3,y4],_=>
  obtain ⟨n,e0,-,-⟩:=DataW.trod_string Tryz.underlying9 (by simpa using hel 0 _ rfl)
  obtain ⟨v,e1,-,-⟩:=DataW.trod_int Tryz.underlying3 (by simpa using hel 1 _ rfl)
  obtain ⟨sl,e2,-,-⟩:=DataW.trod_int Tryz.underlying3 (by simpa using hel 2 _ rfl)
  obtain ⟨fs,fv,e3,hf⟩:=aLg (show DataW.trod enc Tryz.prog w base sp held m 69 _=some y3 by simpa using hel 3 _ rfl)
  obtain ⟨t,ht⟩:=aLd m _ _ (show DataW.trod enc Tryz.prog w base sp held m 74 _=some y4 by simpa using hel 4 _ rfl)
  simp [iQ,aEj,aEl,oX] at e0 e1 e2 e3 ht
  refine ⟨⟨n,v,sl,fs,t⟩,⟨fv,[c4,c5,c6,c7,c8,c9,c10,c11,c12,c13],by rw [e0,e1,e2,e3],hf,ht⟩,rfl⟩
theorem aLf {fuel:Nat} {cs:List Value} {x:DataW H × List MemPlace} (h:DataW.trod enc Tryz.prog w base sp held fuel 22 cs=some x) : ∃ (ps:List PK) (v:Value),cs = [v]/\bC (fun b=>b<w.heap.size) w ps v:=by
 rcases DataW.trod_slice Tryz.underlying22 h with ⟨rfl,-⟩ | ⟨ad,len,cap,elems,rest,mm,hmm,rfl,-,-,hlc,hcm,hle,hcell,-,-⟩
 ·exact ⟨[],_,rfl,Or.inl ⟨rfl,none,0,rfl⟩⟩
 ·have one : ∀ i,i<len->∃ y:PK,ad.block<w.heap.size/\∃ cs:List Value,cs.length=14/\(∀ m,m<14->w.cell? ((ad.add (i*14)).add m)=cs[m]?)/\dR (fun b=>b<w.heap.size) w y cs:=by
   intro i hi
   have hci:=hcell i hi
   rw [wW,List.getElem?_eq_getElem (by omega)] at hci
   obtain ⟨csi,hc1,hc2⟩:=Option.bind_eq_some_iff.1 hci
   obtain ⟨p,hp,hl⟩:=aOr hc2
   obtain ⟨hb1,hb2,hb3⟩:=World.cells?_some hc1
   have hblk:=World.cells?_block hc1 (by decide)
   rw [nM] at hblk
   exact ⟨p,hblk,csi,hl,hb3,hp⟩
  by_cases h0:len=0
  ·subst h0
   exact ⟨[],_,rfl,Or.inl ⟨rfl,_,_,rfl⟩⟩
  ·obtain ⟨ps,hfl,hfs⟩:=sZ len one
   obtain ⟨hz,cs0,hl0,hc0,-⟩:=hfs 0 (by omega)
   have hsp:ad.spot=none:=by
    have h1:=hc0 0 (by decide)
    rw [List.getElem?_eq_getElem (by omega)] at h1
    have:=World.cell?_spot h1
    simpa [Addr.add] using this
   have had:=rD hsp
   refine ⟨ps,_,rfl,Or.inr ⟨ad.block,ad.off,cap,by rw [hfl,← had],hz,by unfold maxLen at hcm;omega,fun j hj=> ?_⟩⟩
   obtain ⟨-,csj,hlj,hcj,hpj⟩:=hfs j hj
   refine ⟨csj,fun m y hy=> ?_,hpj⟩
   have hm:m<14:=by rw [← hlj];exact (List.getElem?_eq_some_iff.1 hy).1
   have:=hcj m hm
   rw [had,Addr.add_mid,Addr.add_mid,hy] at this
   exact this
end
theorem aKj {H:Type} {enc:TypeId × Value->H} {w:World} {base b0:Nat} {sp:Nat->Bool} {held:Bool} {x:Value} {d:DataW H} {p:List MemPlace} (hv:Value.okWide Tryz.prog w .any b0 24 x) (h:DataW.Trod enc Tryz.prog w base sp held 24 x d p) :
  ∃ (ps:List PK) (v:Value),x=.agg #[v]/\bC (fun b=>b<w.heap.size) w ps v:=by
 obtain ⟨cs,rfl,hsz⟩:=okWide_struct Tryz.underlying24 hv
 obtain ⟨fuel,hf⟩:=h
 obtain ⟨xs,m,hm,hx,hl,hlen,hel⟩:=DataW.trod_struct Tryz.underlying24 (show DataW.trod enc Tryz.prog w base sp held fuel 24 cs.toList=some (d,p) from hf)
 match xs,hlen with
 | [y0],_=>
  obtain ⟨ps,v,e,hp⟩:=aLf (show DataW.trod enc Tryz.prog w base sp held m 22 _=some y0 by simpa using hel 0 _ rfl)
  refine ⟨ps,v,?_,hp⟩
  have hl1:=hl.trans aEm
  simp [tQ] at e
  obtain ⟨l⟩:=cs
  simp at hl1 e
  match l,hl1 with
  | [c],_=>simp at e;subst e;rfl
end Go.Proofs.YthaaaecmeafofaaGreatDoor
namespace Go.Proofs.YthaaaecmeafofaaGreatDoor
open Go.ChangeShapes Go.WideShapes Go.ChangeAt Go.RowKit Go.Joins
theorem aBg:Tryz.prog.cellsOf 64=2:=by kernel_rfl
theorem aBf:Tryz.prog.cellsOf 62=1:=by kernel_rfl
theorem wY:Tryz.prog.cellsOf 65=2:=by kernel_rfl
theorem aJc:Tryz.prog.cellsOf 25=1:=by kernel_rfl
theorem aJb:Tryz.prog.cellsOf 43=1:=by kernel_rfl
theorem aEk:Tryz.prog.cellsOf 37=1:=by kernel_rfl
theorem aJd:Tryz.prog.cellsOf 44=1:=by kernel_rfl
theorem aEn:Tryz.prog.cellsOf 46=4:=by kernel_rfl
section
variable {H:Type} {enc:TypeId × Value->H} {w:World} {base:Nat} {sp:Nat->Bool} {held:Bool}
theorem nH {T e:TypeId} {k:Nat} (hT:Tryz.prog.underlying T=some (.slice e)) (hk:Tryz.prog.cellsOf e=k) (hk0:0<k) {α:Type} (R:α->List Value->Prop)
  (hel : ∀ (m:Nat) (cs:List Value) (y:DataW H × List MemPlace),DataW.trod enc Tryz.prog w base sp held m e cs=some y->∃ a,R a cs/\cs.length=k)
  {fuel:Nat} {cs:List Value} {x:DataW H × List MemPlace} (h:DataW.trod enc Tryz.prog w base sp held fuel T cs=some x) :
  ∃ (xs:List α) (p:Option Addr) (cap:Nat),cs = [.slice p xs.length cap]/\(xs.length<=cap/\xs.length<=9223372036854775807)/\(0<xs.length->∃ b off,p=some ⟨b,off,none⟩/\b<w.heap.size/\∀ (j:Nat) (a:α),xs[j]? = some a->∃ cs:List Value,cs.length=k/\R a cs/\∀ (m:Nat) (v:Value),cs[m]? = some v->w.cell? ⟨b,off+j*k+m,none⟩=some v):=by
 rcases DataW.trod_slice hT h with ⟨rfl,-⟩ | ⟨ad,len,cap,elems,rest,mm,hmm,rfl,-,-,hlc,hcm,hle,hcell,-,-⟩
 ·exact ⟨[],none,0,rfl,⟨Nat.le_refl _,Nat.zero_le _⟩,fun h=>absurd h (Nat.lt_irrefl 0)⟩
 ·have one : ∀ i,i<len->∃ y:α,ad.block<w.heap.size/\∃ cs:List Value,cs.length=k/\(∀ m,m<k->w.cell? ((ad.add (i*k)).add m)=cs[m]?)/\R y cs:=by
   intro i hi
   have hci:=hcell i hi
   rw [hk,List.getElem?_eq_getElem (by omega)] at hci
   obtain ⟨csi,hc1,hc2⟩:=Option.bind_eq_some_iff.1 hci
   obtain ⟨p,hp,hl⟩:=hel _ _ _ hc2
   obtain ⟨hb1,hb2,hb3⟩:=World.cells?_some hc1
   have hblk:=World.cells?_block hc1 hk0
   rw [nM] at hblk
   exact ⟨p,hblk,csi,hl,hb3,hp⟩
  obtain ⟨ps,hfl,hfs⟩:=sZ len one
  refine ⟨ps,some ad,cap,by rw [hfl],⟨by omega,by unfold maxLen at hcm;omega⟩,fun hpos=> ?_⟩
  obtain ⟨hz,cs0,hl0,hc0,-⟩:=hfs 0 hpos
  have hsp:ad.spot=none:=by
   have h1:=hc0 0 hk0
   rw [List.getElem?_eq_getElem (by omega)] at h1
   have:=World.cell?_spot h1
   simpa [Addr.add] using this
  have had:=rD hsp
  refine ⟨ad.block,ad.off,by rw [← had],hz,fun j a ha=> ?_⟩
  obtain ⟨hj,rfl⟩:=List.getElem?_eq_some_iff.1 ha
  obtain ⟨-,csj,hlj,hcj,hpj⟩:=hfs j hj
  refine ⟨csj,hlj,hpj,fun m y hy=> ?_⟩
  have hm:m<k:=by rw [← hlj];exact (List.getElem?_eq_some_iff.1 hy).1
  have:=hcj m hm
  rw [had,Addr.add_mid,Addr.add_mid,hy] at this
  exact this
theorem aGo {fuel:Nat} {cs:List Value} {x:DataW H × List MemPlace} (h:DataW.trod enc Tryz.prog w base sp held fuel 62 cs=some x) : ∃ (bs:List Bool) (v:Value),cs = [v]/\aZ (fun b=>b<w.heap.size) w bs v:=by
 obtain ⟨bs,p,cap,rfl,hl,hr⟩:=nH Tryz.underlying62 oW (by decide) (fun (b:Bool) cs=>cs = [.bool b]) (fun m cs y hy=>by obtain ⟨b,rfl,-⟩:=DataW.trod_bool Tryz.underlying4 hy;exact ⟨b,rfl,rfl⟩) h
 refine ⟨bs,_,rfl,p,cap,rfl,hl.2,fun h0=> ?_⟩
 obtain ⟨b,off,h1,h2,h3⟩:=hr h0
 refine ⟨b,off,h1,h2,fun j y hy=> ?_⟩
 obtain ⟨cs,-,rfl,h4⟩:=h3 j y hy
 have:=h4 0 _ rfl
 rwa [Nat.mul_one,Nat.add_zero] at this
theorem aLe {fuel:Nat} {cs:List Value} {x:DataW H × List MemPlace} (h:DataW.trod enc Tryz.prog w base sp held fuel 37 cs=some x) : ∃ (zs:List Int) (v:Value),cs = [v]/\aH (fun b=>b<w.heap.size) w zs v:=by
 obtain ⟨bs,p,cap,rfl,hl,hr⟩:=nH Tryz.underlying37 iQ (by decide) (fun (z:Int) cs=>cs = [.int .i64 z]) (fun m cs y hy=>by obtain ⟨z,rfl,-,-⟩:=DataW.trod_int Tryz.underlying3 hy;exact ⟨z,rfl,rfl⟩) h
 refine ⟨bs,_,rfl,p,cap,rfl,hl.2,fun h0=> ?_⟩
 obtain ⟨b,off,h1,h2,h3⟩:=hr h0
 refine ⟨b,off,h1,h2,fun j y hy=> ?_⟩
 obtain ⟨cs,-,rfl,h4⟩:=h3 j y hy
 have:=h4 0 _ rfl
 rwa [Nat.mul_one,Nat.add_zero] at this
theorem aOs {fuel:Nat} {cs:List Value} {x:DataW H × List MemPlace} (h:DataW.trod enc Tryz.prog w base sp held fuel 44 cs=some x) : ∃ (zs:List (Int × Int)) (v:Value),cs = [v]/\iW (fun b=>b<w.heap.size) w zs v:=by
 obtain ⟨bs,p,cap,rfl,hl,hr⟩:=nH Tryz.underlying44 wY (by decide) (fun (z:Int × Int) cs=>cs = [.int .i64 z.1,.int .i64 z.2]) (fun m cs y hy=>by
  obtain ⟨xs,n,-,-,hl,hlen,hel⟩:=DataW.trod_array Tryz.underlying65 hy
  rw [wY] at hl
  match xs,hlen,cs,hl with
  | [y0,y1],_,[c0,c1],_=>
   obtain ⟨a,e0,-,-⟩:=DataW.trod_int Tryz.underlying3 (show DataW.trod enc Tryz.prog w base sp held n 3 _=some y0 by simpa using hel 0 (by decide))
   obtain ⟨b,e1,-,-⟩:=DataW.trod_int Tryz.underlying3 (show DataW.trod enc Tryz.prog w base sp held n 3 _=some y1 by simpa using hel 1 (by decide))
   simp [iQ] at e0 e1
   exact ⟨(a,b),by rw [e0,e1],rfl⟩) h
 refine ⟨bs,_,rfl,p,cap,rfl,hl.2,fun h0=> ?_⟩
 obtain ⟨b,off,h1,h2,h3⟩:=hr h0
 refine ⟨b,off,h1,h2,fun j y hy=> ?_⟩
 obtain ⟨cs,-,rfl,h4⟩:=h3 j y hy
 exact ⟨by have:=h4 0 _ rfl;rwa [Nat.add_zero] at this,h4 1 _ rfl⟩
theorem aDw {fuel:Nat} {cs:List Value} {x:DataW H × List MemPlace} (h:DataW.trod enc Tryz.prog w base sp held fuel 25 cs=some x) : ∃ (ms:List MB) (v:Value),cs = [v]/\bI (fun b=>b<w.heap.size) w ms v:=by
 obtain ⟨ms,p,cap,rfl,hl,hr⟩:=nH Tryz.underlying25 aBg (by decide) (fun (m:MB) cs=> ∃ ov,cs = [.int .i64 m.pl,ov]/\aZ (fun b=>b<w.heap.size) w m.on ov) (fun m cs y hy=>by
  obtain ⟨xs,n,-,-,hl,hlen,hel⟩:=DataW.trod_struct Tryz.underlying64 hy
  rw [aBg] at hl
  match xs,hlen,cs,hl with
  | [y0,y1],_,[c0,c1],_=>
   obtain ⟨a,e0,-,-⟩:=DataW.trod_int Tryz.underlying3 (show DataW.trod enc Tryz.prog w base sp held n 3 _=some y0 by simpa using hel 0 _ rfl)
   obtain ⟨bs,v,e1,hb⟩:=aGo (show DataW.trod enc Tryz.prog w base sp held n 62 _=some y1 by simpa using hel 1 _ rfl)
   simp [iQ,aBf] at e0 e1
   exact ⟨⟨a,bs⟩,⟨v,by rw [e0,e1],hb⟩,rfl⟩) h
 refine ⟨ms,_,rfl,p,cap,rfl,hl,fun h0=> ?_⟩
 obtain ⟨b,off,h1,h2,h3⟩:=hr h0
 refine ⟨b,off,h1,h2,fun j y hy=> ?_⟩
 obtain ⟨cs,-,⟨ov,rfl,hb⟩,h4⟩:=h3 j y hy
 exact ⟨ov,by have:=h4 0 _ rfl;rwa [Nat.add_zero] at this,h4 1 _ rfl,hb⟩
theorem aOq {fuel:Nat} {cs:List Value} {x:DataW H × List MemPlace} (h:DataW.trod enc Tryz.prog w base sp held fuel 43 cs=some x) : ∃ (ts:List At) (v:Value),cs = [v]/\jS (fun b=>b<w.heap.size) w ts v:=by
 obtain ⟨ts,p,cap,rfl,hl,hr⟩:=nH Tryz.underlying43 oV (by decide) (fun (a:At) cs=>cs = [.string a.n,.int .i64 a.op,.int .i64 a.v,.int .i64 a.sl,.string a.f,.bool a.on]) (fun m cs y hy=>by
  obtain ⟨a,e⟩:=yB hy
  exact ⟨a,e,by rw [e];rfl⟩) h
 refine ⟨ts,_,rfl,p,cap,rfl,hl.2,fun h0=> ?_⟩
 obtain ⟨b,off,h1,h2,h3⟩:=hr h0
 refine ⟨b,off,h1,h2,fun j y hy=> ?_⟩
 obtain ⟨cs,-,rfl,h4⟩:=h3 j y hy
 exact ⟨by have:=h4 0 _ rfl;rwa [Nat.add_zero] at this,h4 1 _ rfl,h4 2 _ rfl,h4 3 _ rfl,h4 4 _ rfl,h4 5 _ rfl⟩
end
theorem aKk {H:Type} {enc:TypeId × Value->H} {w:World} {base b0:Nat} {sp:Nat->Bool} {held:Bool} {x:Value} {d:DataW H} {p:List MemPlace} (hv:Value.okWide Tryz.prog w .any b0 46 x) (h:DataW.Trod enc Tryz.prog w base sp held 46 x d p) :
  ∃ (wi:WI) (tsv inv mav onv:Value),x=.agg #[tsv,inv,mav,onv]/\dZ (fun b=>b<w.heap.size) w wi tsv inv mav onv:=by
 obtain ⟨cs,rfl,hsz⟩:=okWide_struct Tryz.underlying46 hv
 obtain ⟨fuel,hf⟩:=h
 obtain ⟨xs,m,hm,hx,hl,hlen,hel⟩:=DataW.trod_struct Tryz.underlying46 (show DataW.trod enc Tryz.prog w base sp held fuel 46 cs.toList=some (d,p) from hf)
 have hl4:=hl.trans aEn
 obtain ⟨l⟩:=cs
 simp only at hl4 hel
 match xs,hlen,l,hl4 with
 | [y0,y1,y2,y3],_,[c0,c1,c2,c3],_=>
  obtain ⟨ts,v0,e0,h0⟩:=aOq (show DataW.trod enc Tryz.prog w base sp held m 43 _=some y0 by simpa using hel 0 _ rfl)
  obtain ⟨ins,v1,e1,h1⟩:=aDw (show DataW.trod enc Tryz.prog w base sp held m 25 _=some y1 by simpa using hel 1 _ rfl)
  obtain ⟨ma,v2,e2,h2⟩:=aLe (show DataW.trod enc Tryz.prog w base sp held m 37 _=some y2 by simpa using hel 2 _ rfl)
  obtain ⟨on,v3,e3,h3⟩:=aOs (show DataW.trod enc Tryz.prog w base sp held m 44 _=some y3 by simpa using hel 3 _ rfl)
  simp [aJb,aJc,aEk,aJd] at e0 e1 e2 e3
  exact ⟨⟨ts,ins,ma,on⟩,v0,v1,v2,v3,by rw [e0,e1,e2,e3],⟨h0,h1,h2,h3⟩⟩
theorem aNx {H:Type} {enc:TypeId × Value->H} {w:World} {base b0:Nat} {sp:Nat->Bool} {held:Bool} {x:Value} {d:DataW H} {p:List MemPlace} (hv:Value.okWide Tryz.prog w .any b0 25 x) (h:DataW.Trod enc Tryz.prog w base sp held 25 x d p) :
  ∃ (ms:List MB),bI (fun b=>b<w.heap.size) w ms x:=by
 obtain ⟨a,len,cap,rfl⟩:=okWide_slice Tryz.underlying25 hv
 obtain ⟨fuel,hf⟩:=h
 obtain ⟨ms,v,e,hm⟩:=aDw hf
 refine ⟨ms,?_⟩
 have hx:Value.slice a len cap=v:=by simpa [Value.cells] using e
 rw [hx];exact hm
end Go.Proofs.YthaaaecmeafofaaGreatDoor
namespace Go.Proofs.YthaaaecmeafofaaGreatDoor
open Go.RowKit
theorem aNw {H:Type} {enc:TypeId × Value->H} {w:World} {base:Nat} {sp:Nat->Bool} {held:Bool} {v:Value} {d:DataW H} {p:List MemPlace} (h:DataW.Trod enc Tryz.prog w base sp held 24 (.agg #[v]) d p):kV v:=by
 obtain ⟨fuel,hf⟩:=h
 obtain ⟨xs,m,hm,hx,hl,hlen,hel⟩:=DataW.trod_struct Tryz.underlying24 (show DataW.trod enc Tryz.prog w base sp held fuel 24 [v]=some (d,p) from hf)
 match xs,hlen with
 | [y0],_=>
  have h0:DataW.trod enc Tryz.prog w base sp held m 22 [v]=some y0:=by
   have:=hel 0 _ rfl
   simpa [tQ] using this
  rcases DataW.trod_slice Tryz.underlying22 h0 with ⟨e,-⟩ | ⟨ad,len,cap,elems,rest,mm,hmm,e,-,-,hlc,-⟩
  ·cases e;exact iP
  ·cases e
   intro p n c e
   cases e
   exact hlc
end Go.Proofs.YthaaaecmeafofaaGreatDoor
