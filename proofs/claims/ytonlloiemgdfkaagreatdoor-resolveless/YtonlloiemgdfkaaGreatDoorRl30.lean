/- Steps of the proof: ResLess, AtomOpen, NeedOpen, TreeOpen, ValidOpen, EncOpen. -/
import Derived.Test.YtonlloiemgdfkaaGreatDoorRl29
import Derived.Test.YtonlloiemgdfkaaGreatDoorRl28
import Derived.Test.YtonlloiemgdfkaaGreatDoorRl03
import Derived.Lib.LaidTab
import Derived.Stop.LaidErr
import Derived.OpenShut
import Derived.Lib.SmallJoins
import Derived.Deep.DeepWitnessRowRef
import Derived.LaidMore
import Derived.Stop.Joined
import Derived.ChangeOld
import Derived.Shelf.Vars
import Derived.HandedShaped
import Derived.Test.YtonlloiemgdfkaaGreatDoorRl08
import Derived.Test.YtonlloiemgdfkaaGreatDoorRl10
import Derived.Test.YtonlloiemgdfkaaGreatDoorRl09
set_option maxHeartbeats 16000000
set_option maxRecDepth 100000
namespace Go.Proofs.YtonlloiemgdfkaaGreatDoor
open Go.RowKit Go.Lib Go.Sort
theorem yL (S:Nat->Prop) (ps:List PK) (wi:WI) (pv tsv inv mav onv:Value) (w:World) (hS : ∀ b,S b->b<w.heap.size) (hp:bD S w ps pv) (hw:eJ S w wi tsv inv mav onv) (hcap:jX pv) (hE:Env w) (hM:jY w) :
  Calls Tryz.prog 4 #[.agg #[pv],.agg #[tsv,inv,mav,onv]] w fun e w'=>e=.returned (.bool true)/\aA w w':=by
 have HP:=hid hp
 have HW:=hid hw
 have HE:=hid hE
 have HMX:=hid hM
 obtain ⟨tp,tc,rfl,htl⟩:=hw.ts.len
 obtain ⟨ip,ic,rfl,-⟩:=hw.ins.len
 obtain ⟨mp,mc,rfl,hml⟩:=hw.ma.len
 obtain ⟨op,oc,rfl,-⟩:=hw.on.len
 clear hp hw hE hM
 go_enter Tryz.func4,Tryz.ntmps4
 go_upto_region 1 with fail
 refine bO (fun W'=>aA w W'/\aE w.heap.size 24 pv W'/\aD (w.heap.size+1) 30 #[.slice tp wi.ts.length tc,.slice ip wi.ins.length ic,.slice mp wi.ma.length mc,.slice op wi.on.length oc] W') ⟨(aA.alloc _ _).alloc' _,(aE.new _ _ _).keep (aA.alloc _ _) (by simp),aKj (aC _ _) _ _⟩ ?_
 rintro W1 ⟨k1,v1,b1⟩
 have K1:=hid k1
 have V1:=hid v1
 have B1:=hid b1
 generalize w.heap.size=b at V1 B1 ⊢
 clear k1 v1 b1
 have ht0:=V1.out.facts.1
 have htl0:=V1.out.facts.2.2
 have hw0:W1.cell? ⟨b+1,0,none⟩=some (.slice tp wi.ts.length tc):=B1.out.facts.1 0
 have hw1:W1.cell? ⟨b+1,1,none⟩=some (.slice ip wi.ins.length ic):=B1.out.facts.1 1
 have hw2:W1.cell? ⟨b+1,2,none⟩=some (.slice mp wi.ma.length mc):=B1.out.facts.1 2
 have hw3:W1.cell? ⟨b+1,3,none⟩=some (.slice op wi.on.length oc):=B1.out.facts.1 3
 have hwl:=B1.out.facts.2.2
 go_wp2_with fail
 refine (dF S ps wi 40000 _ _ _ _ _ W1 (fun c hc=>Nat.lt_of_lt_of_le (hS c hc) K1.out.size) (HP.out.keep hS K1.out) (HW.out.keep hS K1.out) hcap).mono ?_
 rintro e W2 h2
 obtain ⟨k2,lv,qv,rfl,hl2,hq2⟩:=h2.gen (by omega) (by omega)
 obtain ⟨lp,lc,rfl,-⟩:=hl2.len
 have HL2:=hid hl2
 have K2:=hid (K1.out.trans k2)
 have V2:=hid (V1.out.keep k2 V1.out.facts.2.2)
 have B2:=hid (B1.out.keep k2 B1.out.facts.2.2)
 clear ht0 htl0 hw0 hw1 hw2 hw3 hwl V1 B1 k2 h2 hl2 hq2
 obtain ⟨er,her⟩ : ∃ er,er=cS ps wi 40000:=⟨_,rfl⟩
 have HER:=hid her
 rw [← her]
 clear her
 go_wp2_with fail
 refine (pK W2 (HE.out.keep K2.out) (HMX.out.keep K2.out)).mono ?_
 rintro e W3 ⟨rfl,k3⟩
 have K3:=hid (K2.out.trans k3)
 have V3:=hid (V2.out.keep k3 V2.out.facts.2.2)
 have B3:=hid (B2.out.keep k3 B2.out.facts.2.2)
 have HL3:=hid (HL2.out.mono (S':=fun c=>c<W3.heap.size) (fun p hp=>k3.cell (p:=p) hp.2) fun c hc=>Nat.lt_of_lt_of_le hc.2 k3.size)
 clear k3 V2 B2 HL2
 have hcs:(er≠0/\er≠7)∨(bC ps wi=0/\(er=0∨er=7)):=by
  rw [HER.out]
  rcases qJ ps wi with ⟨h1,h2,h3,-⟩ | ⟨h1,h2,-⟩ | ⟨h1,h2,-⟩
  ·exact .inl ⟨by rw [h2];exact h1,h3⟩
  ·exact .inr ⟨h1,.inl h2⟩
  ·exact .inr ⟨h1,.inr h2⟩
 rcases hcs with ⟨hn0,hn7⟩ | ⟨hz,hor⟩
 ·have ha1:(er==0)=false:=by simpa using hn0
  have ha2:(er != 0)=true:=by simp [bne,ha1]
  have ha3:(er==7)=false:=by simpa using hn7
  have ha4:(er != 7)=true:=by simp [bne,ha3]
  clear hn0 hn7
  go_wp2_with fail
  refine (pK W3 (HE.out.keep K3.out) (HMX.out.keep K3.out)).mono ?_
  rintro e W4 ⟨rfl,k4⟩
  have K4:=hid (K3.out.trans k4)
  clear k4
  go_wp2_with fail
  go_ret
  exact ⟨rfl,K4.out⟩
 ·have HZ:=hid hz
  have h6:=(cA hz).2.2.1
  have h8:=(cA hz).2.2.2.2.2.1
  obtain ⟨hturn1,hturn2⟩:=aNc hz
  have HT1:Hid (cS ps (tsW wi wi.ts.reverse) 40000=er):=by show _=_;rw [hturn1,HER.out]
  have HT2:=hid hturn2
  have HOR:=hid hor
  clear hz hturn1 hturn2
  rcases hor with h | h
  ·clear HOR
   subst h
   have HA0:=hid (show True from trivial)
   have hw0:W3.cell? ⟨b+1,0,none⟩=some (.slice tp wi.ts.length tc):=B3.out.facts.1 0
   have hw1:W3.cell? ⟨b+1,1,none⟩=some (.slice ip wi.ins.length ic):=B3.out.facts.1 1
   have hw2:W3.cell? ⟨b+1,2,none⟩=some (.slice mp wi.ma.length mc):=B3.out.facts.1 2
   have hw3:W3.cell? ⟨b+1,3,none⟩=some (.slice op wi.on.length oc):=B3.out.facts.1 3
   have hwl:=B3.out.facts.2.2
   go_upto_region 5 with fail
   refine bO (fun W'=>aA W3 W'/\aD W3.heap.size 30 #[.slice tp wi.ts.length tc,.slice ip wi.ins.length ic,.slice mp wi.ma.length mc,.slice op wi.on.length oc] W') ⟨aA.alloc _ _,aD.new _ _ _⟩ ?_
   rintro W4 ⟨kc,bc⟩
   have KN:=hid (K3.out.trans kc)
   have VN:=hid (V3.out.keep kc V3.out.facts.2.2)
   have BN:=hid (B3.out.keep kc B3.out.facts.2.2)
   have CN:=hid bc
   have hbb1:b+1<W3.heap.size:=hwl
   have hbbw:w.heap.size<=W3.heap.size:=K3.out.size
   have hbbN:W3.heap.size<W4.heap.size:=bc.facts.2.2
   have KC:=hid kc
   clear kc bc hw0 hw1 hw2 hw3 hwl
   obtain ⟨bb,hbbx⟩ : ∃ bb,bb=W3.heap.size:=⟨_,rfl⟩
   have HBE:=hid (show W3.heap.size<=bb by omega)
   rw [← hbbx] at CN hbb1 hbbw hbbN ⊢
   clear hbbx
   have hw0:W4.cell? ⟨b+1,0,none⟩=some (.slice tp wi.ts.length tc):=BN.out.facts.1 0
   have hw1:W4.cell? ⟨b+1,1,none⟩=some (.slice ip wi.ins.length ic):=BN.out.facts.1 1
   have hw2:W4.cell? ⟨b+1,2,none⟩=some (.slice mp wi.ma.length mc):=BN.out.facts.1 2
   have hw3:W4.cell? ⟨b+1,3,none⟩=some (.slice op wi.on.length oc):=BN.out.facts.1 3
   have hwl:=BN.out.facts.2.2
   go_wp2_with fail
   refine (nY S wi.ts tp tc W4 (fun c hc=>Nat.lt_of_lt_of_le (hS c hc) KN.out.size) (HW.out.keep hS KN.out).ts h6).mono ?_
   rintro e W5 ⟨v5,rfl,o5,k5⟩
   obtain ⟨np,nc,rfl,-⟩:=o5.is.len
   have O5:=hid o5
   have KX:=hid (KN.out.trans k5)
   have VX:=hid (VN.out.keep k5 VN.out.facts.2.2)
   have BX:=hid (BN.out.keep k5 BN.out.facts.2.2)
   have CX:=hid (CN.out.keep k5 CN.out.facts.2.2)
   have K45:=hid k5
   clear k5 o5 hw0 hw1 hw2 hw3 hwl
   have hxo:W5.cell? ⟨bb,0,none⟩=some (.slice tp wi.ts.length tc):=CX.out.facts.1 0
   have hxf:=CX.out.facts.2.1 0
   have hxl:=CX.out.facts.2.2
   have HQ:=hid (show aA w (W5.setCell ⟨bb,0,none⟩ (.slice np wi.ts.length nc))/\aE b 24 pv (W5.setCell ⟨bb,0,none⟩ (.slice np wi.ts.length nc))/\aD bb 30 #[.slice np wi.ts.length nc,.slice ip wi.ins.length ic,.slice mp wi.ma.length mc,.slice op wi.on.length oc] (W5.setCell ⟨bb,0,none⟩ (.slice np wi.ts.length nc))/\aD (b+1) 30 #[.slice tp wi.ts.length tc,.slice ip wi.ins.length ic,.slice mp wi.ma.length mc,.slice op wi.on.length oc] (W5.setCell ⟨bb,0,none⟩ (.slice np wi.ts.length nc))/\jO W4.heap.size (.slice np wi.ts.length nc) wi.ts (W5.setCell ⟨bb,0,none⟩ (.slice np wi.ts.length nc))/\aA W3 (W5.setCell ⟨bb,0,none⟩ (.slice np wi.ts.length nc)) from by
    have hbs:=aL W5 bb 0 (.slice np wi.ts.length nc)
    have hbx:=CX.out.set 0 (.slice np wi.ts.length nc)
    simp only [List.setIfInBounds_toArray,List.set_cons_zero] at hbx
    refine ⟨Below.trans KX.out (hbs.mono (by omega)),VX.out.keep hbs (by omega),hbx,BX.out.keep hbs (by omega),?_⟩
    exact ⟨Cn.bY O5.out fun g hg=>fJ W5 bb 0 _ g (by have:=(cN O5.out hg).1;omega),Below.trans (KC.out.trans K45.out) (hbs.mono HBE.out)⟩)
   go_upto_region 6 with fail
   refine bO (fun W'=>aA w W'/\aE b 24 pv W'/\aD bb 30 #[.slice np wi.ts.length nc,.slice ip wi.ins.length ic,.slice mp wi.ma.length mc,.slice op wi.on.length oc] W'/\aD (b+1) 30 #[.slice tp wi.ts.length tc,.slice ip wi.ins.length ic,.slice mp wi.ma.length mc,.slice op wi.on.length oc] W'/\jO W4.heap.size (.slice np wi.ts.length nc) wi.ts W'/\aA W3 W') ?_ ?_
   ·exact HQ.out
   rintro W6 ⟨k6,v6,c6,b6,o6,k36⟩
   have K6:=hid k6
   have V6:=hid v6
   have C6:=hid c6
   have B6:=hid b6
   have O6:=hid o6
   have K36:=hid k36
   clear k6 v6 c6 b6 o6 k36 HQ hxo hxf hxl KX VX BX CX K45 O5
   have hy0:W6.cell? ⟨bb,0,none⟩=some (.slice np wi.ts.length nc):=C6.out.facts.1 0
   have hyl:=C6.out.facts.2.2
   go_wp2_with fail
   refine (rB W4.heap.size wi.ts _ W6 O6.out h6).mono ?_
   rintro e W7 ⟨rfl,a7,k7⟩
   have A7:=hid a7
   have hw47:w.heap.size<=W4.heap.size:=KN.out.size
   have K7:=hid (show aA w W7 from Below.trans K6.out (k7.mono hw47))
   have V7:=hid (V6.out.keep k7 (by omega))
   have C7:=hid (C6.out.keep k7 (by omega))
   have B7:=hid (B6.out.keep k7 (by omega))
   have K37:=hid (show aA W3 W7 from Below.trans K36.out (k7.mono KC.out.size))
   clear a7 k7 K6 V6 C6 B6 K36 O6 hy0 hyl
   have ht0:=V7.out.facts.1
   have htl7:=V7.out.facts.2.2
   have hc0:W7.cell? ⟨bb,0,none⟩=some (.slice np wi.ts.length nc):=C7.out.facts.1 0
   have hc1:W7.cell? ⟨bb,1,none⟩=some (.slice ip wi.ins.length ic):=C7.out.facts.1 1
   have hc2:W7.cell? ⟨bb,2,none⟩=some (.slice mp wi.ma.length mc):=C7.out.facts.1 2
   have hc3:W7.cell? ⟨bb,3,none⟩=some (.slice op wi.on.length oc):=C7.out.facts.1 3
   have hcl:=C7.out.facts.2.2
   have HW7:=hid ((HW.out.keep hS K7.out).mono (S':=fun c=>c<W7.heap.size) fun c hc=>Nat.lt_of_lt_of_le (hS c hc) K7.out.size)
   go_wp2_with fail
   refine (dF (fun c=>c<W7.heap.size) ps (tsW wi wi.ts.reverse) 40000 _ _ _ _ _ W7 (fun _ h=>h) ((HP.out.keep hS K7.out).mono (fun _ _=>rfl) fun c hc=>Nat.lt_of_lt_of_le (hS c hc) K7.out.size) ⟨A7.out.mono (fun _ _=>rfl) fun c hc=>hc.2,HW7.out.ins,HW7.out.ma,HW7.out.on⟩ hcap).mono ?_
   rintro e W8 h8'
   obtain ⟨k8,mv,q8,rfl,hm8,-⟩:=h8'.gen (by omega) (by omega)
   rw [HT1.out]
   rw [HT2.out] at hm8
   have HL8:=hid (HL3.out.mono (S':=fun c=>c<W8.heap.size) (fun p hp=>(K37.out.trans k8).cell (p:=p) hp) fun c hc=>Nat.lt_of_lt_of_le hc (K37.out.trans k8).size)
   have HM8:=hid (hm8.mono (S':=fun c=>c<W8.heap.size) (fun _ _=>rfl) fun c hc=>hc.2)
   have K8:=hid (K7.out.trans k8)
   have V8:=hid (V7.out.keep k8 V7.out.facts.2.2)
   have B8:=hid (B7.out.keep k8 B7.out.facts.2.2)
   obtain ⟨p8,c8,rfl,-⟩:=hm8.len
   clear k8 h8' hm8 ht0 htl7 hc0 hc1 hc2 hc3 hcl HW7 K7 V7 C7 B7 A7 K37
   generalize mI ps wi 40000=LL at HL8 HM8 ⊢
   go_wp2_with fail
   refine (pM (fun c=>c<W8.heap.size) LL LL _ _ W8 (fun _ h=>h) HL8.out HM8.out).mono ?_
   rintro e W9 ⟨β,rfl,hβ,k9⟩
   obtain rfl:β=true:=hβ.2 rfl
   have K9:=hid (K8.out.trans k9)
   have V9:=hid (V8.out.keep k9 V8.out.facts.2.2)
   have B9:=hid (B8.out.keep k9 B8.out.facts.2.2)
   clear k9 hβ K8 V8 B8 HL8 HM8
   have HRZ:Hid (cS ps wi 40000=0):=HER.out.symm
   have hw0:W9.cell? ⟨b+1,0,none⟩=some (.slice tp wi.ts.length tc):=B9.out.facts.1 0
   have hw1:W9.cell? ⟨b+1,1,none⟩=some (.slice ip wi.ins.length ic):=B9.out.facts.1 1
   have hw2:W9.cell? ⟨b+1,2,none⟩=some (.slice mp wi.ma.length mc):=B9.out.facts.1 2
   have hw3:W9.cell? ⟨b+1,3,none⟩=some (.slice op wi.on.length oc):=B9.out.facts.1 3
   have hwl:=B9.out.facts.2.2
   go_wp2_with fail
   clear hw0 hw1 hw2 hw3 hwl
   go_loopg [69] wi.ts.length (fun gk i wr=> ∃ j:Nat,j+gk=wi.ts.length/\i=.int .i64 j/\aA w wr/\aE b 24 pv wr/\aD (b+1) 30 #[.slice tp wi.ts.length tc,.slice ip wi.ins.length ic,.slice mp wi.ma.length mc,.slice op wi.on.length oc] wr)
   case atStart=>exact ⟨0,by omega,rfl,K9.out,V9.out,B9.out⟩
   case round=>
    obtain ⟨j,hj,rfl,hk,hv,hb⟩:=hrel
    have KR:=hid hk
    have VR:=hid hv
    have BR:=hid hb
    clear hk hv hb
    by_cases hlt:j<wi.ts.length
    ·have HRL:=hid (aOq HRZ.out j)
     have hw0:wr.cell? ⟨b+1,0,none⟩=some (.slice tp wi.ts.length tc):=BR.out.facts.1 0
     have hw1:wr.cell? ⟨b+1,1,none⟩=some (.slice ip wi.ins.length ic):=BR.out.facts.1 1
     have hw2:wr.cell? ⟨b+1,2,none⟩=some (.slice mp wi.ma.length mc):=BR.out.facts.1 2
     have hw3:wr.cell? ⟨b+1,3,none⟩=some (.slice op wi.on.length oc):=BR.out.facts.1 3
     have hwl:=BR.out.facts.2.2
     go_upto_region 16 with fail
     refine bO (fun W'=>aA wr W'/\aD wr.heap.size 30 #[.slice tp wi.ts.length tc,.slice ip wi.ins.length ic,.slice mp wi.ma.length mc,.slice op wi.on.length oc] W') ⟨aA.alloc _ _,aD.new _ _ _⟩ ?_
     rintro WN ⟨kc,bc⟩
     have KN:=hid (KR.out.trans kc)
     have VN:=hid (VR.out.keep kc VR.out.facts.2.2)
     have BN:=hid (BR.out.keep kc BR.out.facts.2.2)
     have CN:=hid bc
     have hbb1:b+1<wr.heap.size:=hwl
     have hbbw:w.heap.size<=wr.heap.size:=KR.out.size
     have hbbN:wr.heap.size<WN.heap.size:=bc.facts.2.2
     clear kc bc hw0 hw1 hw2 hw3 hwl
     obtain ⟨bb,hbbx⟩ : ∃ bb,bb=wr.heap.size:=⟨_,rfl⟩
     have HBE:=hid (show wr.heap.size<=bb by omega)
     rw [← hbbx] at CN hbb1 hbbw hbbN ⊢
     clear hbbx
     have hw0:WN.cell? ⟨b+1,0,none⟩=some (.slice tp wi.ts.length tc):=BN.out.facts.1 0
     have hw1:WN.cell? ⟨b+1,1,none⟩=some (.slice ip wi.ins.length ic):=BN.out.facts.1 1
     have hw2:WN.cell? ⟨b+1,2,none⟩=some (.slice mp wi.ma.length mc):=BN.out.facts.1 2
     have hw3:WN.cell? ⟨b+1,3,none⟩=some (.slice op wi.on.length oc):=BN.out.facts.1 3
     have hwl:=BN.out.facts.2.2
     go_wp2_with fail
     refine (nY S wi.ts tp tc WN (fun c hc=>Nat.lt_of_lt_of_le (hS c hc) KN.out.size) (HW.out.keep hS KN.out).ts h6).mono ?_
     rintro e WA ⟨va,rfl,oa,ka⟩
     have ka:aA WN WA:=ka
     have oa:jO WN.heap.size va wi.ts WA:=oa
     have OA:=hid oa
     have KA:=hid ka
     clear oa ka
     go_wp2_with fail
     refine (aKo WN.heap.size wi.ts j _ WA OA.out hlt h6).mono ?_
     rintro e W5 ⟨v5,rfl,hn5,k5⟩
     obtain ⟨np,nc,rfl,-⟩:=hn5.len
     generalize (wi.ts.eraseIdx j).length=nl at hn5 ⊢
     have N5:=hid hn5
     have KX:=hid (show aA w W5 from Below.trans (KN.out.trans KA.out) (k5.mono KN.out.size))
     have VX:=hid ((VN.out.keep KA.out VN.out.facts.2.2).keep k5 (by omega))
     have BX:=hid ((BN.out.keep KA.out BN.out.facts.2.2).keep k5 (by omega))
     have CX:=hid ((CN.out.keep KA.out CN.out.facts.2.2).keep k5 (by omega))
     clear k5 hn5 hw0 hw1 hw2 hw3 hwl OA KA
     have hxo:W5.cell? ⟨bb,0,none⟩=some (.slice tp wi.ts.length tc):=CX.out.facts.1 0
     have hxf:=CX.out.facts.2.1 0
     have hxl:=CX.out.facts.2.2
     have HQ:=hid (show aA w (W5.setCell ⟨bb,0,none⟩ (.slice np nl nc))/\aE b 24 pv (W5.setCell ⟨bb,0,none⟩ (.slice np nl nc))/\aD bb 30 #[.slice np nl nc,.slice ip wi.ins.length ic,.slice mp wi.ma.length mc,.slice op wi.on.length oc] (W5.setCell ⟨bb,0,none⟩ (.slice np nl nc))/\aD (b+1) 30 #[.slice tp wi.ts.length tc,.slice ip wi.ins.length ic,.slice mp wi.ma.length mc,.slice op wi.on.length oc] (W5.setCell ⟨bb,0,none⟩ (.slice np nl nc))/\eG (fun c=>c<(W5.setCell ⟨bb,0,none⟩ (.slice np nl nc)).heap.size) (W5.setCell ⟨bb,0,none⟩ (.slice np nl nc)) (wi.ts.eraseIdx j) (.slice np nl nc) from by
      have hbs:=aL W5 bb 0 (.slice np nl nc)
      have hbx:=CX.out.set 0 (.slice np nl nc)
      simp only [List.setIfInBounds_toArray,List.set_cons_zero] at hbx
      refine ⟨Below.trans KX.out (hbs.mono (by omega)),VX.out.keep hbs (by omega),hbx,BX.out.keep hbs (by omega),?_⟩
      exact N5.out.mono (fun p hp=>qS (by have h1:WN.heap.size<=p.block:=hp.1;omega)) fun c hc=>by rw [cC];exact hc.2)
     go_upto_region 17 with fail
     refine bO (fun W'=>aA w W'/\aE b 24 pv W'/\aD bb 30 #[.slice np nl nc,.slice ip wi.ins.length ic,.slice mp wi.ma.length mc,.slice op wi.on.length oc] W'/\aD (b+1) 30 #[.slice tp wi.ts.length tc,.slice ip wi.ins.length ic,.slice mp wi.ma.length mc,.slice op wi.on.length oc] W'/\eG (fun c=>c<W'.heap.size) W' (wi.ts.eraseIdx j) (.slice np nl nc)) ?_ ?_
     ·exact HQ.out
     rintro W6 ⟨k6,v6,c6,b6,n6⟩
     have K6:=hid k6
     have V6:=hid v6
     have C6:=hid c6
     have B6:=hid b6
     have N6:=hid n6
     clear k6 v6 c6 b6 n6 HQ hxo hxf hxl KX VX BX CX N5
     have ht0:=V6.out.facts.1
     have htl7:=V6.out.facts.2.2
     have hc0:=C6.out.facts.1 0
     have hc1:=C6.out.facts.1 1
     have hc2:=C6.out.facts.1 2
     have hc3:=C6.out.facts.1 3
     have hcl:=C6.out.facts.2.2
     have HW7:=hid ((HW.out.keep hS K6.out).mono (S':=fun c=>c<W6.heap.size) fun c hc=>Nat.lt_of_lt_of_le (hS c hc) K6.out.size)
     go_wp2_with fail
     refine (dF (fun c=>c<W6.heap.size) ps (tsW wi (wi.ts.eraseIdx j)) 40000 _ _ _ _ _ W6 (fun _ h=>h) ((HP.out.keep hS K6.out).mono (fun _ _=>rfl) fun c hc=>Nat.lt_of_lt_of_le (hS c hc) K6.out.size) ⟨N6.out,HW7.out.ins,HW7.out.ma,HW7.out.on⟩ hcap).mono ?_
     rintro e W7 h7
     obtain ⟨k7,v7,p7,rfl⟩:=h7.err
     rw [HRL.out]
     have K7:=hid (K6.out.trans k7)
     have V7:=hid (V6.out.keep k7 V6.out.facts.2.2)
     have B7:=hid (B6.out.keep k7 B6.out.facts.2.2)
     clear h7 k7 ht0 htl7 hc0 hc1 hc2 hc3 hcl
     go_wp2_with fail
     go_roundg (wi.ts.length-(j+1))
     case rel=>exact ⟨j+1,by omega,by go_num,K7.out,V7.out,B7.out⟩
     case measure=>omega
    ·have hnl : ¬ ((j:Int)<(wi.ts.length:Int)):=by omega
     clear K9 V9 B9
     obtain ⟨WO,rfl⟩ : ∃ WO:World,WO=wr:=⟨_,rfl⟩
     have hw0:WO.cell? ⟨b+1,0,none⟩=some (.slice tp wi.ts.length tc):=BR.out.facts.1 0
     have hw1:WO.cell? ⟨b+1,1,none⟩=some (.slice ip wi.ins.length ic):=BR.out.facts.1 1
     have hw2:WO.cell? ⟨b+1,2,none⟩=some (.slice mp wi.ma.length mc):=BR.out.facts.1 2
     have hw3:WO.cell? ⟨b+1,3,none⟩=some (.slice op wi.on.length oc):=BR.out.facts.1 3
     have hwl:=BR.out.facts.2.2
     go_wp2_with fail
     clear hw0 hw1 hw2 hw3 hwl hj hlt hnl
     go_loopg [94] wi.ma.length (fun gk i wr=> ∃ j:Nat,j+gk=wi.ma.length/\i=.int .i64 j/\aA w wr/\aE b 24 pv wr/\aD (b+1) 30 #[.slice tp wi.ts.length tc,.slice ip wi.ins.length ic,.slice mp wi.ma.length mc,.slice op wi.on.length oc] wr)
     case atStart=>exact ⟨0,by omega,rfl,KR.out,VR.out,BR.out⟩
     case round=>
      clear KR VR BR
      obtain ⟨j,hj,rfl,hk,hv,hb⟩:=hrel
      have KR:=hid hk
      have VR:=hid hv
      have BR:=hid hb
      clear hk hv hb
      by_cases hlt:j<wi.ma.length
      ·have HRL:=hid (aOp HRZ.out j)
       have hw0:wr.cell? ⟨b+1,0,none⟩=some (.slice tp wi.ts.length tc):=BR.out.facts.1 0
       have hw1:wr.cell? ⟨b+1,1,none⟩=some (.slice ip wi.ins.length ic):=BR.out.facts.1 1
       have hw2:wr.cell? ⟨b+1,2,none⟩=some (.slice mp wi.ma.length mc):=BR.out.facts.1 2
       have hw3:wr.cell? ⟨b+1,3,none⟩=some (.slice op wi.on.length oc):=BR.out.facts.1 3
       have hwl:=BR.out.facts.2.2
       go_upto_region 25 with fail
       refine bO (fun W'=>aA wr W'/\aD wr.heap.size 30 #[.slice tp wi.ts.length tc,.slice ip wi.ins.length ic,.slice mp wi.ma.length mc,.slice op wi.on.length oc] W') ⟨aA.alloc _ _,aD.new _ _ _⟩ ?_
       rintro WN ⟨kc,bc⟩
       have KN:=hid (KR.out.trans kc)
       have VN:=hid (VR.out.keep kc VR.out.facts.2.2)
       have BN:=hid (BR.out.keep kc BR.out.facts.2.2)
       have CN:=hid bc
       have hbb1:b+1<wr.heap.size:=hwl
       have hbbw:w.heap.size<=wr.heap.size:=KR.out.size
       have hbbN:wr.heap.size<WN.heap.size:=bc.facts.2.2
       clear kc bc hw0 hw1 hw2 hw3 hwl
       obtain ⟨bb,hbbx⟩ : ∃ bb,bb=wr.heap.size:=⟨_,rfl⟩
       have HBE:=hid (show wr.heap.size<=bb by omega)
       rw [← hbbx] at CN hbb1 hbbw hbbN ⊢
       clear hbbx
       have hw0:WN.cell? ⟨b+1,0,none⟩=some (.slice tp wi.ts.length tc):=BN.out.facts.1 0
       have hw1:WN.cell? ⟨b+1,1,none⟩=some (.slice ip wi.ins.length ic):=BN.out.facts.1 1
       have hw2:WN.cell? ⟨b+1,2,none⟩=some (.slice mp wi.ma.length mc):=BN.out.facts.1 2
       have hw3:WN.cell? ⟨b+1,3,none⟩=some (.slice op wi.on.length oc):=BN.out.facts.1 3
       have hwl:=BN.out.facts.2.2
       go_wp2_with fail
       refine (Cn.iH S wi.ma mp mc WN (fun c hc=>Nat.lt_of_lt_of_le (hS c hc) KN.out.size) (HW.out.keep hS KN.out).ma (by omega)).mono ?_
       rintro e WA ⟨va,rfl,oa,ka⟩
       have ka:aA WN WA:=ka
       have oa:aQ WN.heap.size va wi.ma WA:=oa
       have OA:=hid oa
       have KA:=hid ka
       clear oa ka
       go_wp2_with fail
       refine (aKp WN.heap.size wi.ma j _ WA OA.out hlt (by omega)).mono ?_
       rintro e W5 ⟨v5,rfl,hn5,k5⟩
       obtain ⟨np,nc,rfl,-⟩:=hn5.len
       generalize (wi.ma.eraseIdx j).length=nl at hn5 ⊢
       have N5:=hid hn5
       have KX:=hid (show aA w W5 from Below.trans (KN.out.trans KA.out) (k5.mono KN.out.size))
       have VX:=hid ((VN.out.keep KA.out VN.out.facts.2.2).keep k5 (by omega))
       have BX:=hid ((BN.out.keep KA.out BN.out.facts.2.2).keep k5 (by omega))
       have CX:=hid ((CN.out.keep KA.out CN.out.facts.2.2).keep k5 (by omega))
       clear k5 hn5 hw0 hw1 hw2 hw3 hwl OA KA
       have hxo:W5.cell? ⟨bb,2,none⟩=some (.slice mp wi.ma.length mc):=CX.out.facts.1 2
       have hxf:=CX.out.facts.2.1 2
       have hxl:=CX.out.facts.2.2
       have HQ:=hid (show aA w (W5.setCell ⟨bb,2,none⟩ (.slice np nl nc))/\aE b 24 pv (W5.setCell ⟨bb,2,none⟩ (.slice np nl nc))/\aD bb 30 #[.slice tp wi.ts.length tc,.slice ip wi.ins.length ic,.slice np nl nc,.slice op wi.on.length oc] (W5.setCell ⟨bb,2,none⟩ (.slice np nl nc))/\aD (b+1) 30 #[.slice tp wi.ts.length tc,.slice ip wi.ins.length ic,.slice mp wi.ma.length mc,.slice op wi.on.length oc] (W5.setCell ⟨bb,2,none⟩ (.slice np nl nc))/\aH (fun c=>c<(W5.setCell ⟨bb,2,none⟩ (.slice np nl nc)).heap.size) (W5.setCell ⟨bb,2,none⟩ (.slice np nl nc)) (wi.ma.eraseIdx j) (.slice np nl nc) from by
        have hbs:=aL W5 bb 2 (.slice np nl nc)
        have hbx:=CX.out.set 2 (.slice np nl nc)
        simp only [List.setIfInBounds_toArray,List.set_cons_zero,List.set_cons_succ] at hbx
        refine ⟨Below.trans KX.out (hbs.mono (by omega)),VX.out.keep hbs (by omega),hbx,BX.out.keep hbs (by omega),?_⟩
        exact N5.out.mono (fun p hp=>qS (by have h1:WN.heap.size<=p.block:=hp.1;omega)) fun c hc=>by rw [cC];exact hc.2)
       go_upto_region 26 with fail
       refine bO (fun W'=>aA w W'/\aE b 24 pv W'/\aD bb 30 #[.slice tp wi.ts.length tc,.slice ip wi.ins.length ic,.slice np nl nc,.slice op wi.on.length oc] W'/\aD (b+1) 30 #[.slice tp wi.ts.length tc,.slice ip wi.ins.length ic,.slice mp wi.ma.length mc,.slice op wi.on.length oc] W'/\aH (fun c=>c<W'.heap.size) W' (wi.ma.eraseIdx j) (.slice np nl nc)) ?_ ?_
       ·exact HQ.out
       rintro W6 ⟨k6,v6,c6,b6,n6⟩
       have K6:=hid k6
       have V6:=hid v6
       have C6:=hid c6
       have B6:=hid b6
       have N6:=hid n6
       clear k6 v6 c6 b6 n6 HQ hxo hxf hxl KX VX BX CX N5
       have ht0:=V6.out.facts.1
       have htl7:=V6.out.facts.2.2
       have hc0:=C6.out.facts.1 0
       have hc1:=C6.out.facts.1 1
       have hc2:=C6.out.facts.1 2
       have hc3:=C6.out.facts.1 3
       have hcl:=C6.out.facts.2.2
       have HW7:=hid ((HW.out.keep hS K6.out).mono (S':=fun c=>c<W6.heap.size) fun c hc=>Nat.lt_of_lt_of_le (hS c hc) K6.out.size)
       go_wp2_with fail
       refine (dF (fun c=>c<W6.heap.size) ps (mkW wi (wi.ma.eraseIdx j)) 40000 _ _ _ _ _ W6 (fun _ h=>h) ((HP.out.keep hS K6.out).mono (fun _ _=>rfl) fun c hc=>Nat.lt_of_lt_of_le (hS c hc) K6.out.size) ⟨HW7.out.ts,HW7.out.ins,N6.out,HW7.out.on⟩ hcap).mono ?_
       rintro e W7 h7
       obtain ⟨k7,v7,p7,rfl⟩:=h7.err
       rw [HRL.out]
       have K7:=hid (K6.out.trans k7)
       have V7:=hid (V6.out.keep k7 V6.out.facts.2.2)
       have B7:=hid (B6.out.keep k7 B6.out.facts.2.2)
       clear h7 k7 ht0 htl7 hc0 hc1 hc2 hc3 hcl
       go_wp2_with fail
       go_roundg (wi.ma.length-(j+1))
       case rel=>exact ⟨j+1,by omega,by go_num,K7.out,V7.out,B7.out⟩
       case measure=>omega
      ·have hnl : ¬ ((j:Int)<(wi.ma.length:Int)):=by omega
       go_wp2_with fail
       go_ret
       exact ⟨rfl,KR.out⟩
  ·clear HOR
   subst h
   have HA0:=hid (show True from trivial)
   have hw0:W3.cell? ⟨b+1,0,none⟩=some (.slice tp wi.ts.length tc):=B3.out.facts.1 0
   have hw1:W3.cell? ⟨b+1,1,none⟩=some (.slice ip wi.ins.length ic):=B3.out.facts.1 1
   have hw2:W3.cell? ⟨b+1,2,none⟩=some (.slice mp wi.ma.length mc):=B3.out.facts.1 2
   have hw3:W3.cell? ⟨b+1,3,none⟩=some (.slice op wi.on.length oc):=B3.out.facts.1 3
   have hwl:=B3.out.facts.2.2
   go_upto_region 5 with fail
   refine bO (fun W'=>aA W3 W'/\aD W3.heap.size 30 #[.slice tp wi.ts.length tc,.slice ip wi.ins.length ic,.slice mp wi.ma.length mc,.slice op wi.on.length oc] W') ⟨aA.alloc _ _,aD.new _ _ _⟩ ?_
   rintro W4 ⟨kc,bc⟩
   have KN:=hid (K3.out.trans kc)
   have VN:=hid (V3.out.keep kc V3.out.facts.2.2)
   have BN:=hid (B3.out.keep kc B3.out.facts.2.2)
   have CN:=hid bc
   have hbb1:b+1<W3.heap.size:=hwl
   have hbbw:w.heap.size<=W3.heap.size:=K3.out.size
   have hbbN:W3.heap.size<W4.heap.size:=bc.facts.2.2
   have KC:=hid kc
   clear kc bc hw0 hw1 hw2 hw3 hwl
   obtain ⟨bb,hbbx⟩ : ∃ bb,bb=W3.heap.size:=⟨_,rfl⟩
   have HBE:=hid (show W3.heap.size<=bb by omega)
   rw [← hbbx] at CN hbb1 hbbw hbbN ⊢
   clear hbbx
   have hw0:W4.cell? ⟨b+1,0,none⟩=some (.slice tp wi.ts.length tc):=BN.out.facts.1 0
   have hw1:W4.cell? ⟨b+1,1,none⟩=some (.slice ip wi.ins.length ic):=BN.out.facts.1 1
   have hw2:W4.cell? ⟨b+1,2,none⟩=some (.slice mp wi.ma.length mc):=BN.out.facts.1 2
   have hw3:W4.cell? ⟨b+1,3,none⟩=some (.slice op wi.on.length oc):=BN.out.facts.1 3
   have hwl:=BN.out.facts.2.2
   go_wp2_with fail
   refine (nY S wi.ts tp tc W4 (fun c hc=>Nat.lt_of_lt_of_le (hS c hc) KN.out.size) (HW.out.keep hS KN.out).ts h6).mono ?_
   rintro e W5 ⟨v5,rfl,o5,k5⟩
   obtain ⟨np,nc,rfl,-⟩:=o5.is.len
   have O5:=hid o5
   have KX:=hid (KN.out.trans k5)
   have VX:=hid (VN.out.keep k5 VN.out.facts.2.2)
   have BX:=hid (BN.out.keep k5 BN.out.facts.2.2)
   have CX:=hid (CN.out.keep k5 CN.out.facts.2.2)
   have K45:=hid k5
   clear k5 o5 hw0 hw1 hw2 hw3 hwl
   have hxo:W5.cell? ⟨bb,0,none⟩=some (.slice tp wi.ts.length tc):=CX.out.facts.1 0
   have hxf:=CX.out.facts.2.1 0
   have hxl:=CX.out.facts.2.2
   have HQ:=hid (show aA w (W5.setCell ⟨bb,0,none⟩ (.slice np wi.ts.length nc))/\aE b 24 pv (W5.setCell ⟨bb,0,none⟩ (.slice np wi.ts.length nc))/\aD bb 30 #[.slice np wi.ts.length nc,.slice ip wi.ins.length ic,.slice mp wi.ma.length mc,.slice op wi.on.length oc] (W5.setCell ⟨bb,0,none⟩ (.slice np wi.ts.length nc))/\aD (b+1) 30 #[.slice tp wi.ts.length tc,.slice ip wi.ins.length ic,.slice mp wi.ma.length mc,.slice op wi.on.length oc] (W5.setCell ⟨bb,0,none⟩ (.slice np wi.ts.length nc))/\jO W4.heap.size (.slice np wi.ts.length nc) wi.ts (W5.setCell ⟨bb,0,none⟩ (.slice np wi.ts.length nc))/\aA W3 (W5.setCell ⟨bb,0,none⟩ (.slice np wi.ts.length nc)) from by
    have hbs:=aL W5 bb 0 (.slice np wi.ts.length nc)
    have hbx:=CX.out.set 0 (.slice np wi.ts.length nc)
    simp only [List.setIfInBounds_toArray,List.set_cons_zero] at hbx
    refine ⟨Below.trans KX.out (hbs.mono (by omega)),VX.out.keep hbs (by omega),hbx,BX.out.keep hbs (by omega),?_⟩
    exact ⟨Cn.bY O5.out fun g hg=>fJ W5 bb 0 _ g (by have:=(cN O5.out hg).1;omega),Below.trans (KC.out.trans K45.out) (hbs.mono HBE.out)⟩)
   go_upto_region 6 with fail
   refine bO (fun W'=>aA w W'/\aE b 24 pv W'/\aD bb 30 #[.slice np wi.ts.length nc,.slice ip wi.ins.length ic,.slice mp wi.ma.length mc,.slice op wi.on.length oc] W'/\aD (b+1) 30 #[.slice tp wi.ts.length tc,.slice ip wi.ins.length ic,.slice mp wi.ma.length mc,.slice op wi.on.length oc] W'/\jO W4.heap.size (.slice np wi.ts.length nc) wi.ts W'/\aA W3 W') ?_ ?_
   ·exact HQ.out
   rintro W6 ⟨k6,v6,c6,b6,o6,k36⟩
   have K6:=hid k6
   have V6:=hid v6
   have C6:=hid c6
   have B6:=hid b6
   have O6:=hid o6
   have K36:=hid k36
   clear k6 v6 c6 b6 o6 k36 HQ hxo hxf hxl KX VX BX CX K45 O5
   have hy0:W6.cell? ⟨bb,0,none⟩=some (.slice np wi.ts.length nc):=C6.out.facts.1 0
   have hyl:=C6.out.facts.2.2
   go_wp2_with fail
   refine (rB W4.heap.size wi.ts _ W6 O6.out h6).mono ?_
   rintro e W7 ⟨rfl,a7,k7⟩
   have A7:=hid a7
   have hw47:w.heap.size<=W4.heap.size:=KN.out.size
   have K7:=hid (show aA w W7 from Below.trans K6.out (k7.mono hw47))
   have V7:=hid (V6.out.keep k7 (by omega))
   have C7:=hid (C6.out.keep k7 (by omega))
   have B7:=hid (B6.out.keep k7 (by omega))
   have K37:=hid (show aA W3 W7 from Below.trans K36.out (k7.mono KC.out.size))
   clear a7 k7 K6 V6 C6 B6 K36 O6 hy0 hyl
   have ht0:=V7.out.facts.1
   have htl7:=V7.out.facts.2.2
   have hc0:W7.cell? ⟨bb,0,none⟩=some (.slice np wi.ts.length nc):=C7.out.facts.1 0
   have hc1:W7.cell? ⟨bb,1,none⟩=some (.slice ip wi.ins.length ic):=C7.out.facts.1 1
   have hc2:W7.cell? ⟨bb,2,none⟩=some (.slice mp wi.ma.length mc):=C7.out.facts.1 2
   have hc3:W7.cell? ⟨bb,3,none⟩=some (.slice op wi.on.length oc):=C7.out.facts.1 3
   have hcl:=C7.out.facts.2.2
   have HW7:=hid ((HW.out.keep hS K7.out).mono (S':=fun c=>c<W7.heap.size) fun c hc=>Nat.lt_of_lt_of_le (hS c hc) K7.out.size)
   go_wp2_with fail
   refine (dF (fun c=>c<W7.heap.size) ps (tsW wi wi.ts.reverse) 40000 _ _ _ _ _ W7 (fun _ h=>h) ((HP.out.keep hS K7.out).mono (fun _ _=>rfl) fun c hc=>Nat.lt_of_lt_of_le (hS c hc) K7.out.size) ⟨A7.out.mono (fun _ _=>rfl) fun c hc=>hc.2,HW7.out.ins,HW7.out.ma,HW7.out.on⟩ hcap).mono ?_
   rintro e W8 h8'
   obtain ⟨k8,mv,q8,rfl,hm8,-⟩:=h8'.gen (by omega) (by omega)
   rw [HT1.out]
   rw [HT2.out] at hm8
   have HL8:=hid (HL3.out.mono (S':=fun c=>c<W8.heap.size) (fun p hp=>(K37.out.trans k8).cell (p:=p) hp) fun c hc=>Nat.lt_of_lt_of_le hc (K37.out.trans k8).size)
   have HM8:=hid (hm8.mono (S':=fun c=>c<W8.heap.size) (fun _ _=>rfl) fun c hc=>hc.2)
   have K8:=hid (K7.out.trans k8)
   have V8:=hid (V7.out.keep k8 V7.out.facts.2.2)
   have B8:=hid (B7.out.keep k8 B7.out.facts.2.2)
   obtain ⟨p8,c8,rfl,-⟩:=hm8.len
   clear k8 h8' hm8 ht0 htl7 hc0 hc1 hc2 hc3 hcl HW7 K7 V7 C7 B7 A7 K37
   generalize mI ps wi 40000=LL at HL8 HM8 ⊢
   go_wp2_with fail
   refine (pM (fun c=>c<W8.heap.size) LL LL _ _ W8 (fun _ h=>h) HL8.out HM8.out).mono ?_
   rintro e W9 ⟨β,rfl,hβ,k9⟩
   obtain rfl:β=true:=hβ.2 rfl
   have K9:=hid (K8.out.trans k9)
   have V9:=hid (V8.out.keep k9 V8.out.facts.2.2)
   have B9:=hid (B8.out.keep k9 B8.out.facts.2.2)
   clear k9 hβ K8 V8 B8 HL8 HM8
   go_wp2_with fail
   go_ret
   exact ⟨rfl,K9.out⟩
end Go.Proofs.YtonlloiemgdfkaaGreatDoor
namespace Go.Proofs.YtonlloiemgdfkaaGreatDoor
open Go.RowKit
theorem oJ {P:Program} {w:World} : ∀ {l:List (String × DataW Unit)} {ps:List MemPlace} {x:String × DataW Unit},DataW.LaidVars P w l ps->x∈l->∃ qs,DataW.LaidVars P w [x] qs/\qs.Sublist ps
 | [],_,_,_,hx=>by cases hx
 | (n,d) :: r,ps,x,h,hx=>by
  obtain ⟨g,t,cs,fuel,p,q,h1,h2,h3,h4,h5,rfl⟩:=h
  rcases List.mem_cons.1 hx with rfl | hx
  ·exact ⟨MemPlace.row ⟨g,0,none⟩ cs.size++p ++ [],⟨g,t,cs,fuel,p,[],h1,h2,h3,h4,rfl,rfl⟩,by rw [List.append_nil];exact List.sublist_append_left _ _⟩
  ·obtain ⟨qs,h6,h7⟩:=oJ h5 hx
   exact ⟨qs,h6,h7.trans (List.sublist_append_right _ _)⟩
theorem jJ {P:Program} {w:World} {l:List (String × DataW Unit)} {x:String × DataW Unit} (h:laidMet P l w) (hx:x∈l):laidMet P [x] w:=by
 obtain ⟨ps,h1,h2,h3⟩:=h
 obtain ⟨qs,h4,h5⟩:=oJ h1 hx
 exact ⟨qs,h4,h5.nodup h2,fun b off hb=>h3 b off (h5.subset hb)⟩
theorem oP {w:World} {b o:Nat} {v:Value} (h:w.cell? ⟨b,o,none⟩=some v):b<w.heap.size:=by
 rcases Nat.lt_or_ge b w.heap.size with h' | h'
 ·exact h'
 ·simp [World.cell?,Array.getElem?_eq_none h'] at h
theorem aKy : Tryz.prog.globalNamed "quartermaster/atom.signs" = some 8 := by kernel_rfl
theorem aRa:(Tryz.prog.globals[8]?).map (·.type)=some 351:=by kernel_rfl
theorem aSk:(Tryz.prog.globals[1]?).map (·.type)=some 307:=by kernel_rfl
theorem aSh:Tryz.prog.cellsOf 307=20:=by kernel_rfl
theorem aSi:Tryz.prog.cellsOf 277=1:=by kernel_rfl
theorem aCp:Tryz.prog.cellsOf 9=1:=by kernel_rfl
theorem aRh:Tryz.prog.cellsOf 346=1:=by kernel_rfl
theorem aRw : Tryz.prog.globalNamed "strconv.ErrSyntax" = some 4 := by kernel_rfl
theorem aSm:(Tryz.prog.globals[4]?).map (·.type)=some 267:=by kernel_rfl
theorem aRv : Tryz.prog.globalNamed "strconv.ErrRange" = some 5 := by kernel_rfl
theorem aSl:(Tryz.prog.globals[5]?).map (·.type)=some 267:=by kernel_rfl
theorem aSe : "*" ++ "errors.errorString" = "*errors.errorString" := by decide
theorem aMk (u : TypeId) (h : Tryz.prog.typeName? 3 u = some "*errors.errorString") : u = 344 :=
 typeName_ptr_named (nm := "errors.errorString") (by rw [aSe]; kernel_rfl) (by kernel_rfl) (by decide) u (by rw [aSe]; exact h)
theorem aMr {W : World} (h : laidMet Tryz.prog [("quartermaster/atom.signs", Rows.laid_quartermaster_atom_signs)] W) : zH W := by
 obtain ⟨ps,⟨g,t,cs,fuel,p,q,hg,ht,hv,hd,_,_⟩,_⟩:=h
 obtain rfl:=Option.some.inj (aKy.symm.trans hg)
 obtain rfl:=Option.some.inj (aRa.symm.trans ht)
 obtain ⟨xs,m,rfl,hx,hlen,hn,hel⟩:=DataW.trod_array Tryz.underlying351 hd
 simp only [Rows.laid_quartermaster_atom_signs,Prod.mk.injEq,DataW.agg.injEq] at hx
 match xs,hn,hx,hel with
 | [x0,x1,x2,x3],_,hx,hel=>
  have cell : ∀ (k:Nat) (x:DataW Unit × List MemPlace) (l:List UInt8),k<4->[x0,x1,x2,x3][k]? = some x->x.1=.lit (.string l)->W.cell? ⟨8,k,none⟩=some (.string ⟨l.toArray⟩):=by
   intro k x l hk hxk hl
   have h1:=hel k hk
   rw [hxk] at h1
   obtain ⟨s,e1,e2,_⟩:=DataW.trod_string Tryz.underlying9 h1
   rw [e2] at hl
   have hs:s.data.toList=l:=by simpa using hl
   have hs':s=⟨l.toArray⟩:=by cases s;simp at hs;rw [← hs]
   have h2:=World.var?_cell aKy hv k
   rw [aCp,Nat.mul_one] at e1
   have h3:cs[k]? = some (.string s):=by
    have:=congrArg (·[0]?) e1
    simpa [List.getElem?_take,List.getElem?_drop] using this
   rw [h2,h3,hs']
  simp only [List.map_cons,List.map_nil,List.cons.injEq,and_true] at hx
  have c1:=cell 1 x1 [61] (by decide) rfl hx.1.2.1.symm
  refine ⟨oP c1,c1,cell 2 x2 [62,61] (by decide) rfl hx.1.2.2.1.symm,cell 3 x3 [60] (by decide) rfl hx.1.2.2.2.symm⟩
theorem aQe {W : World} {l : List (String × DataW Unit)} (h : laidMet Tryz.prog l W) (h1 : ("quartermaster/atom.signs", Rows.laid_quartermaster_atom_signs) ∈ l) (h2 : ("internal/strconv.uint64pow10", Rows.laid_internal_strconv_uint64pow10) ∈ l)
  (h3 : ("strconv.ErrSyntax", Rows.laid_strconv_ErrSyntax) ∈ l) (h4 : ("strconv.ErrRange", Rows.laid_strconv_ErrRange) ∈ l) : Env W := by
 have tab : Lib.TabIs Tryz.prog W "internal/strconv.uint64pow10" .u64 Lib.pow10Tab := Lib.tabIs_of_head (rest := []) jL aSk Tryz.underlying307 Tryz.underlying277 aSi aSh (jJ h h2)
 obtain ⟨a0,s0,hv0,-,-,-⟩:=laid_sentinel (jJ h h3) aRw aSm Tryz.underlying267 aMk Tryz.underlying344 Tryz.underlying346 rfl rfl Tryz.underlying9 aRh aCp
 obtain ⟨a1,s1,hv1,-,-,-⟩:=laid_sentinel (jJ h h4) aRv aSl Tryz.underlying267 aMk Tryz.underlying344 Tryz.underlying346 rfl rfl Tryz.underlying9 aRh aCp
 have c0:W.cell? ⟨4,0,none⟩=some (.iface 344 (.pointer (some a0))):=by simpa using World.var?_cell aRw hv0 0
 have c1:W.cell? ⟨5,0,none⟩=some (.iface 344 (.pointer (some a1))):=by simpa using World.var?_cell aRv hv1 0
 exact ⟨aMr (jJ h h1),⟨oP (tab.cell jL 0 (by decide)),tab⟩,⟨oP c0,_,_,c0⟩,⟨oP c1,_,_,c1⟩⟩
end Go.Proofs.YtonlloiemgdfkaaGreatDoor
namespace Go.Proofs.YtonlloiemgdfkaaGreatDoor
open Go.ChangeShapes Go.WideShapes Go.ChangeAt Go.RowKit Go.Joins
theorem nV:Tryz.prog.cellsOf 48=6:=by kernel_rfl
theorem hJ:Tryz.prog.cellsOf 3=1:=by kernel_rfl
theorem nW:Tryz.prog.cellsOf 4=1:=by kernel_rfl
end Go.Proofs.YtonlloiemgdfkaaGreatDoor
namespace Go.Proofs.YtonlloiemgdfkaaGreatDoor
open Go.ChangeShapes Go.WideShapes Go.ChangeAt Go.RowKit Go.Joins
theorem nX:Tryz.prog.cellsOf 73=10:=by kernel_rfl
theorem sN:Tryz.prog.cellsOf 71=1:=by kernel_rfl
theorem aSa {α:Type} {cs:List α} (h:cs.length=6) : ∃ c0 c1 c2 c3 c4 c5,cs = [c0,c1,c2,c3,c4,c5]:=by
 match cs,h with
 | [c0,c1,c2,c3,c4,c5],_=>exact ⟨c0,c1,c2,c3,c4,c5,rfl⟩
theorem aQl {α:Type} {cs:List α} (h:cs.length=10) : ∃ c0 c1 c2 c3 c4 c5 c6 c7 c8 c9,cs = [c0,c1,c2,c3,c4,c5,c6,c7,c8,c9]:=by
 match cs,h with
 | [c0,c1,c2,c3,c4,c5,c6,c7,c8,c9],_=>exact ⟨c0,c1,c2,c3,c4,c5,c6,c7,c8,c9,rfl⟩
section
variable {H:Type} {enc:TypeId × Value->H} {w:World} {base:Nat} {sp:Nat->Bool} {held:Bool}
theorem wW {fuel:Nat} {cs:List Value} {x:DataW H × List MemPlace} (h:DataW.trod enc Tryz.prog w base sp held fuel 48 cs=some x) : ∃ a:At,cs = [.string a.n,.int .i64 a.op,.int .i64 a.v,.int .i64 a.sl,.string a.f,.bool a.on]:=by
 obtain ⟨xs,m,_,hx,hl,hlen,hel⟩:=DataW.trod_struct Tryz.underlying48 h
 obtain ⟨c0,c1,c2,c3,c4,c5,rfl⟩:=aSa (hl.trans nV)
 match xs,hlen with
 | [y0,y1,y2,y3,y4,y5],_=>
  obtain ⟨n,e0,g0,_⟩:=DataW.trod_string Tryz.underlying9 (by simpa using hel 0 _ rfl)
  obtain ⟨op,e1,g1,_⟩:=DataW.trod_int Tryz.underlying3 (by simpa using hel 1 _ rfl)
  obtain ⟨v,e2,g2,_⟩:=DataW.trod_int Tryz.underlying3 (by simpa using hel 2 _ rfl)
  obtain ⟨sl,e3,g3,_⟩:=DataW.trod_int Tryz.underlying3 (by simpa using hel 3 _ rfl)
  obtain ⟨f,e4,g4,_⟩:=DataW.trod_string Tryz.underlying9 (by simpa using hel 4 _ rfl)
  obtain ⟨on,e5,g5⟩:=DataW.trod_bool Tryz.underlying4 (by simpa using hel 5 _ rfl)
  refine ⟨⟨n,op,v,sl,f,on⟩,?_⟩
  simp [hJ,nW,aCp] at e0 e1 e2 e3 e4 e5
  rw [e0,e1,e2,e3,e4,e5]
theorem aJd : ∀ (fuel:Nat) (cs:List Value) (x:DataW H × List MemPlace),DataW.trod enc Tryz.prog w base sp held fuel 73 cs=some x->∃ t:NT,aJ (fun b=>b<w.heap.size) w t cs:=by
 intro fuel
 induction fuel using Nat.strongRecOn with
 | ind fuel ih=>
 intro cs x h
 obtain ⟨xs,m,hm,hx,hl,hlen,hel⟩:=DataW.trod_struct Tryz.underlying73 h
 obtain ⟨c0,c1,c2,c3,c4,c5,c6,c7,c8,c9,rfl⟩:=aQl (hl.trans nX)
 match xs,hlen with
 | [y0,y1,y2,y3,y4],_=>
  obtain ⟨k,e0,-,-⟩:=DataW.trod_int Tryz.underlying3 (by simpa using hel 0 _ rfl)
  obtain ⟨a,e1⟩:=wW (by simpa using hel 1 _ rfl)
  obtain ⟨fl,e2,-,-⟩:=DataW.trod_string Tryz.underlying9 (by simpa using hel 2 _ rfl)
  obtain ⟨nt,e3,-⟩:=DataW.trod_bool Tryz.underlying4 (by simpa using hel 3 _ rfl)
  have hs:=DataW.trod_slice Tryz.underlying71 (show DataW.trod enc Tryz.prog w base sp held m 71 _=some y4 by simpa using hel 4 _ rfl)
  simp [hJ,nW,aCp,nV] at e0 e1 e2 e3
  obtain ⟨e10,e11,e12,e13,e14,e15⟩:=e1
  rcases hs with ⟨e4,-⟩ | ⟨ad,len,cap,elems,rest,mm,hmm,e4,-,-,hlc,hcm,hle,hcell,-,-⟩
  ·simp [sN] at e4
   refine ⟨.node k a fl nt [],?_⟩
   rw [aJ]
   exact ⟨none,0,by rw [e0,e10,e11,e12,e13,e14,e15,e2,e3,e4];rfl,Nat.le_refl _,by simp,by rw [bB];trivial⟩
  ·simp [sN] at e4
   have key : ∀ (q i:Nat),i+q=len->∃ ts:List NT,ts.length=q/\bB (fun b=>b<w.heap.size) w ts (some ad) i:=by
    intro q
    induction q with
    | zero=>intro i _;exact ⟨[],rfl,by rw [bB];trivial⟩
    | succ q ihq=>
     intro i hi
     obtain ⟨ts,hts,hk⟩:=ihq (i+1) (by omega)
     have hci:=hcell i (by omega)
     rw [nX,List.getElem?_eq_getElem (by omega)] at hci
     obtain ⟨csi,hc1,hc2⟩:=Option.bind_eq_some_iff.1 hci
     obtain ⟨t,ht⟩:=ih mm (by omega) csi _ hc2
     obtain ⟨hb1,hb2,hb3⟩:=World.cells?_some hc1
     have hblk:=World.cells?_block hc1 (by decide)
     refine ⟨t :: ts,by simp [hts],?_⟩
     rw [bB]
     refine ⟨⟨ad,csi,rfl,by rw [mR] at hblk;exact hblk,fun j v hv=> ?_,ht⟩,hk⟩
     have hj:j<10:=by rw [← hb2];exact (List.getElem?_eq_some_iff.1 hv).1
     rw [hb3 j hj];exact hv
   obtain ⟨ts,hts,hk⟩:=key len 0 (by omega)
   refine ⟨.node k a fl nt ts,?_⟩
   rw [aJ]
   exact ⟨some ad,cap,by rw [e0,e10,e11,e12,e13,e14,e15,e2,e3,e4,hts],by omega,by unfold maxLen at hcm;omega,hk⟩
end
theorem aLo {w:World} (h:w.ShapedOpen Tryz.prog):jY w:=by
 obtain ⟨m,hm⟩:=cell_of_shapedOpen_int (g:=0) (t:=3) (zero:=#[.int .i64 0]) (k:= .i64) h (of_decide_eq_true (by kernel_rfl)) (by kernel_rfl) rfl (by kernel_rfl) (by kernel_rfl) Tryz.underlying3
 exact ⟨oP hm,m,hm⟩
theorem vJ {H:Type} {enc:TypeId × Value->H} {a:Assume} {C:Checked} {os:Os} {f:FuncId} {fn:Func} {s:ChangeSpec} {conds:List PathCond} {apart fresh handsOn again:Bool} {X:World->Array Value->Prop}
  (hX : ∀ (w w':World) (args:Array Value),w.heap=w'.heap->X w args->X w' args)
  (own:ownKnob C.prog.godebug=none) (started:os.Started) (noInit:C.prog.inits.idxOf? f=none) (hfn:C.prog.funcs[f]? = some fn)
  (witness : ∃ (w:World) (tape:Tape) (i:Input),w.os=os/\(w.forCall tape i).Shaped C.prog/\i.vars = []/\Input.okWide C.prog (w.forCall tape i) .any w.heap.size f i/\
   ((s.pre enc C.prog fn conds apart (w.forCall tape i).memory i.args/\X (w.forCall tape i).memory i.args)/\sizedMet enc C.prog fn (OpenSpec.ofChange s) apart (w.forCall tape i).memory i.args)/\a.holds C.prog (lone (Frame.enter C.prog f i.args .normal) [] (w.forCall tape i)))
  (sS : ∀ (W:World) (base:Nat) (args:Array Value) (ds gs:List (DataW H)) (before:List MemPlace),
   (∀ (j:Nat) t v,fn.params[j]? = some t->args[j]? = some v->Value.okWide C.prog W .any base t v)->
   DataW.Whole enc C.prog fn.params.toList s.vars apart W args.toList ds gs before->
   X W args->W.ShapedOpen C.prog->
   Calls C.prog f args W fun e W'=> ∃ v,e=.returned v/\s.post enc C.prog fn apart fresh handsOn again W args v W') :
  ReturnsInHanded a C os f .any (fun w args=>(s.pre enc C.prog fn conds apart w args/\X w args)/\sizedMet enc C.prog fn (OpenSpec.ofChange s) apart w args) (s.post enc C.prog fn apart fresh handsOn again):=by
 refine returnsInHanded_of_calls own started noInit witness ?_
 intro w tape i _ hsh _ hok hpre _
 obtain ⟨_,_,_,fn',hfn',_,_,_,_,hval⟩:=hok
 obtain rfl:fn'=fn:=Option.some.inj (hfn'.symm.trans hfn)
 obtain ⟨⟨⟨ds,gs,before,hw,_⟩,hx⟩,_⟩:=hpre
 have hw':=DataW.Whole.of_heap (w':=w.forCall tape i) (by rfl) hw
 refine (sS (w.forCall tape i) w.heap.size i.args ds gs before hval hw' (hX _ _ _ (by rfl) hx) hsh).mono fun e W' ⟨v,he,hp⟩=> ?_
 subst he
 exact ChangeSpec.post_blind hp
end Go.Proofs.YtonlloiemgdfkaaGreatDoor
namespace Go.Proofs.YtonlloiemgdfkaaGreatDoor
open Go.ChangeShapes Go.WideShapes Go.ChangeAt Go.RowKit Go.Joins
theorem vT:Tryz.prog.cellsOf 75=14:=by kernel_rfl
theorem aCr:Tryz.prog.cellsOf 70=1:=by kernel_rfl
theorem sO:Tryz.prog.cellsOf 22=1:=by kernel_rfl
theorem aCs:Tryz.prog.cellsOf 24=1:=by kernel_rfl
theorem pV {a:Addr} (h:a.spot=none):a=⟨a.block,a.off,none⟩:=by cases a;simp at h;subst h;rfl
theorem aQm {α:Type} {cs:List α} (h:cs.length=14) : ∃ c0 c1 c2 c3 c4 c5 c6 c7 c8 c9 c10 c11 c12 c13,cs = [c0,c1,c2,c3,c4,c5,c6,c7,c8,c9,c10,c11,c12,c13]:=by
 match cs,h with
 | [c0,c1,c2,c3,c4,c5,c6,c7,c8,c9,c10,c11,c12,c13],_=>exact ⟨c0,c1,c2,c3,c4,c5,c6,c7,c8,c9,c10,c11,c12,c13,rfl⟩
section
variable {H:Type} {enc:TypeId × Value->H} {w:World} {base:Nat} {sp:Nat->Bool} {held:Bool}
theorem rU {α:Type} {P:Nat->α->Prop} : ∀ (n:Nat),(∀ i,i<n->∃ x,P i x)->∃ l:List α,l.length=n/\∀ (i:Nat) (h:i<l.length),P i l[i]
 | 0,_=>⟨[],rfl,fun i h=>absurd h (Nat.not_lt_zero _)⟩
 | n+1,h=>by
  obtain ⟨l,hl,hp⟩:=rU n (fun i hi=>h i (by omega))
  obtain ⟨x,hx⟩:=h n (by omega)
  refine ⟨l ++ [x],by simp [hl],fun i hi=> ?_⟩
  by_cases hlt:i<l.length
  ·rw [List.getElem_append_left hlt];exact hp i hlt
  ·have:i=l.length:=by simp at hi;omega
   subst this
   rw [List.getElem_append_right (Nat.le_refl _)]
   simp only [Nat.sub_self,List.getElem_cons_zero]
   rw [hl];exact hx
theorem aJg {fuel:Nat} {cs:List Value} {x:DataW H × List MemPlace} (h:DataW.trod enc Tryz.prog w base sp held fuel 70 cs=some x) : ∃ (fs:List ByteArray) (v:Value),cs = [v]/\cE (fun b=>b<w.heap.size) w fs v:=by
 rcases DataW.trod_slice Tryz.underlying70 h with ⟨rfl,-⟩ | ⟨ad,len,cap,elems,rest,mm,hmm,rfl,-,-,hlc,hcm,hle,hcell,-,-⟩
 ·exact ⟨[],_,rfl,Or.inl ⟨rfl,none,0,rfl⟩⟩
 ·have one : ∀ i,i<len->∃ y:ByteArray,ad.block<w.heap.size/\w.cell? (ad.add i)=some (.string y):=by
   intro i hi
   have hci:=hcell i hi
   rw [aCp,Nat.mul_one,List.getElem?_eq_getElem (by omega)] at hci
   obtain ⟨csi,hc1,hc2⟩:=Option.bind_eq_some_iff.1 hci
   obtain ⟨y,e0,-,-⟩:=DataW.trod_string Tryz.underlying9 hc2
   obtain ⟨hb1,hb2,hb3⟩:=World.cells?_some hc1
   have hblk:=World.cells?_block hc1 (by decide)
   rw [mR] at hblk
   refine ⟨y,hblk,?_⟩
   have:=hb3 0 (by decide)
   rw [e0] at this
   simpa [Addr.add] using this
  by_cases h0:len=0
  ·subst h0
   exact ⟨[],_,rfl,Or.inl ⟨rfl,_,_,rfl⟩⟩
  ·obtain ⟨fs,hfl,hfs⟩:=rU len one
   have hz:=hfs 0 (by omega)
   have hsp:ad.spot=none:=by
    have:=World.cell?_spot hz.2
    simpa [Addr.add] using this
   have had:=pV hsp
   refine ⟨fs,_,rfl,Or.inr ⟨ad.block,ad.off,cap,by rw [hfl,← had],⟨hz.1,by omega⟩,by unfold maxLen at hcm;omega,fun j y hy=> ?_⟩⟩
   obtain ⟨hj,rfl⟩:=List.getElem?_eq_some_iff.1 hy
   have:=(hfs j hj).2
   rw [had] at this
   rwa [Addr.add_mid] at this
theorem aMz {fuel:Nat} {cs:List Value} {x:DataW H × List MemPlace} (h:DataW.trod enc Tryz.prog w base sp held fuel 75 cs=some x) : ∃ p:PK,dL (fun b=>b<w.heap.size) w p cs/\cs.length=14:=by
 obtain ⟨xs,m,hm,hx,hl,hlen,hel⟩:=DataW.trod_struct Tryz.underlying75 h
 have hl14:=hl.trans vT
 obtain ⟨c0,c1,c2,c3,c4,c5,c6,c7,c8,c9,c10,c11,c12,c13,rfl⟩:=aQm hl14
 match xs,hlen with
 | [y0,y1,y2,y3,y4],_=>
  obtain ⟨n,e0,-,-⟩:=DataW.trod_string Tryz.underlying9 (by simpa using hel 0 _ rfl)
  obtain ⟨v,e1,-,-⟩:=DataW.trod_int Tryz.underlying3 (by simpa using hel 1 _ rfl)
  obtain ⟨sl,e2,-,-⟩:=DataW.trod_int Tryz.underlying3 (by simpa using hel 2 _ rfl)
  obtain ⟨fs,fv,e3,hf⟩:=aJg (show DataW.trod enc Tryz.prog w base sp held m 70 _=some y3 by simpa using hel 3 _ rfl)
  obtain ⟨t,ht⟩:=aJd m _ _ (show DataW.trod enc Tryz.prog w base sp held m 73 _=some y4 by simpa using hel 4 _ rfl)
  simp [hJ,aCp,aCr,nX] at e0 e1 e2 e3 ht
  refine ⟨⟨n,v,sl,fs,t⟩,⟨fv,[c4,c5,c6,c7,c8,c9,c10,c11,c12,c13],by rw [e0,e1,e2,e3],hf,ht⟩,rfl⟩
theorem aJf {fuel:Nat} {cs:List Value} {x:DataW H × List MemPlace} (h:DataW.trod enc Tryz.prog w base sp held fuel 22 cs=some x) : ∃ (ps:List PK) (v:Value),cs = [v]/\bD (fun b=>b<w.heap.size) w ps v:=by
 rcases DataW.trod_slice Tryz.underlying22 h with ⟨rfl,-⟩ | ⟨ad,len,cap,elems,rest,mm,hmm,rfl,-,-,hlc,hcm,hle,hcell,-,-⟩
 ·exact ⟨[],_,rfl,Or.inl ⟨rfl,none,0,rfl⟩⟩
 ·have one : ∀ i,i<len->∃ y:PK,ad.block<w.heap.size/\∃ cs:List Value,cs.length=14/\(∀ m,m<14->w.cell? ((ad.add (i*14)).add m)=cs[m]?)/\dL (fun b=>b<w.heap.size) w y cs:=by
   intro i hi
   have hci:=hcell i hi
   rw [vT,List.getElem?_eq_getElem (by omega)] at hci
   obtain ⟨csi,hc1,hc2⟩:=Option.bind_eq_some_iff.1 hci
   obtain ⟨p,hp,hl⟩:=aMz hc2
   obtain ⟨hb1,hb2,hb3⟩:=World.cells?_some hc1
   have hblk:=World.cells?_block hc1 (by decide)
   rw [mR] at hblk
   exact ⟨p,hblk,csi,hl,hb3,hp⟩
  by_cases h0:len=0
  ·subst h0
   exact ⟨[],_,rfl,Or.inl ⟨rfl,_,_,rfl⟩⟩
  ·obtain ⟨ps,hfl,hfs⟩:=rU len one
   obtain ⟨hz,cs0,hl0,hc0,-⟩:=hfs 0 (by omega)
   have hsp:ad.spot=none:=by
    have h1:=hc0 0 (by decide)
    rw [List.getElem?_eq_getElem (by omega)] at h1
    have:=World.cell?_spot h1
    simpa [Addr.add] using this
   have had:=pV hsp
   refine ⟨ps,_,rfl,Or.inr ⟨ad.block,ad.off,cap,by rw [hfl,← had],hz,by unfold maxLen at hcm;omega,fun j hj=> ?_⟩⟩
   obtain ⟨-,csj,hlj,hcj,hpj⟩:=hfs j hj
   refine ⟨csj,fun m y hy=> ?_,hpj⟩
   have hm:m<14:=by rw [← hlj];exact (List.getElem?_eq_some_iff.1 hy).1
   have:=hcj m hm
   rw [had,Addr.add_mid,Addr.add_mid,hy] at this
   exact this
end
theorem aIn {H:Type} {enc:TypeId × Value->H} {w:World} {base b0:Nat} {sp:Nat->Bool} {held:Bool} {x:Value} {d:DataW H} {p:List MemPlace} (hv:Value.okWide Tryz.prog w .any b0 24 x) (h:DataW.Trod enc Tryz.prog w base sp held 24 x d p) :
  ∃ (ps:List PK) (v:Value),x=.agg #[v]/\bD (fun b=>b<w.heap.size) w ps v:=by
 obtain ⟨cs,rfl,hsz⟩:=okWide_struct Tryz.underlying24 hv
 obtain ⟨fuel,hf⟩:=h
 obtain ⟨xs,m,hm,hx,hl,hlen,hel⟩:=DataW.trod_struct Tryz.underlying24 (show DataW.trod enc Tryz.prog w base sp held fuel 24 cs.toList=some (d,p) from hf)
 match xs,hlen with
 | [y0],_=>
  obtain ⟨ps,v,e,hp⟩:=aJf (show DataW.trod enc Tryz.prog w base sp held m 22 _=some y0 by simpa using hel 0 _ rfl)
  refine ⟨ps,v,?_,hp⟩
  have hl1:=hl.trans aCs
  simp [sO] at e
  obtain ⟨l⟩:=cs
  simp at hl1 e
  match l,hl1 with
  | [c],_=>simp at e;subst e;rfl
end Go.Proofs.YtonlloiemgdfkaaGreatDoor
namespace Go.Proofs.YtonlloiemgdfkaaGreatDoor
open Go.ChangeShapes Go.WideShapes Go.ChangeAt Go.RowKit Go.Joins
theorem zS:Tryz.prog.cellsOf 68=2:=by kernel_rfl
theorem zR:Tryz.prog.cellsOf 66=1:=by kernel_rfl
theorem vU:Tryz.prog.cellsOf 105=2:=by kernel_rfl
theorem aHh:Tryz.prog.cellsOf 26=1:=by kernel_rfl
theorem aHg:Tryz.prog.cellsOf 25=1:=by kernel_rfl
theorem aCq:Tryz.prog.cellsOf 27=1:=by kernel_rfl
theorem aHi:Tryz.prog.cellsOf 28=1:=by kernel_rfl
theorem aCt:Tryz.prog.cellsOf 30=4:=by kernel_rfl
section
variable {H:Type} {enc:TypeId × Value->H} {w:World} {base:Nat} {sp:Nat->Bool} {held:Bool}
theorem mM {T e:TypeId} {k:Nat} (hT:Tryz.prog.underlying T=some (.slice e)) (hk:Tryz.prog.cellsOf e=k) (hk0:0<k) {α:Type} (R:α->List Value->Prop)
  (hel : ∀ (m:Nat) (cs:List Value) (y:DataW H × List MemPlace),DataW.trod enc Tryz.prog w base sp held m e cs=some y->∃ a,R a cs/\cs.length=k)
  {fuel:Nat} {cs:List Value} {x:DataW H × List MemPlace} (h:DataW.trod enc Tryz.prog w base sp held fuel T cs=some x) :
  ∃ (xs:List α) (p:Option Addr) (cap:Nat),cs = [.slice p xs.length cap]/\(xs.length<=cap/\xs.length<=9223372036854775807)/\(0<xs.length->∃ b off,p=some ⟨b,off,none⟩/\b<w.heap.size/\∀ (j:Nat) (a:α),xs[j]? = some a->∃ cs:List Value,cs.length=k/\R a cs/\∀ (m:Nat) (v:Value),cs[m]? = some v->w.cell? ⟨b,off+j*k+m,none⟩=some v):=by
 rcases DataW.trod_slice hT h with ⟨rfl,-⟩ | ⟨ad,len,cap,elems,rest,mm,hmm,rfl,-,-,hlc,hcm,hle,hcell,-,-⟩
 ·exact ⟨[],none,0,rfl,⟨Nat.le_refl _,Nat.zero_le _⟩,fun h=>absurd h (Nat.lt_irrefl 0)⟩
 ·have one : ∀ i,i<len->∃ y:α,ad.block<w.heap.size/\∃ cs:List Value,cs.length=k/\(∀ m,m<k->w.cell? ((ad.add (i*k)).add m)=cs[m]?)/\R y cs:=by
   intro i hi
   have hci:=hcell i hi
   rw [hk,List.getElem?_eq_getElem (by omega)] at hci
   obtain ⟨csi,hc1,hc2⟩:=Option.bind_eq_some_iff.1 hci
   obtain ⟨p,hp,hl⟩:=hel _ _ _ hc2
   obtain ⟨hb1,hb2,hb3⟩:=World.cells?_some hc1
   have hblk:=World.cells?_block hc1 hk0
   rw [mR] at hblk
   exact ⟨p,hblk,csi,hl,hb3,hp⟩
  obtain ⟨ps,hfl,hfs⟩:=rU len one
  refine ⟨ps,some ad,cap,by rw [hfl],⟨by omega,by unfold maxLen at hcm;omega⟩,fun hpos=> ?_⟩
  obtain ⟨hz,cs0,hl0,hc0,-⟩:=hfs 0 hpos
  have hsp:ad.spot=none:=by
   have h1:=hc0 0 hk0
   rw [List.getElem?_eq_getElem (by omega)] at h1
   have:=World.cell?_spot h1
   simpa [Addr.add] using this
  have had:=pV hsp
  refine ⟨ad.block,ad.off,by rw [← had],hz,fun j a ha=> ?_⟩
  obtain ⟨hj,rfl⟩:=List.getElem?_eq_some_iff.1 ha
  obtain ⟨-,csj,hlj,hcj,hpj⟩:=hfs j hj
  refine ⟨csj,hlj,hpj,fun m y hy=> ?_⟩
  have hm:m<k:=by rw [← hlj];exact (List.getElem?_eq_some_iff.1 hy).1
  have:=hcj m hm
  rw [had,Addr.add_mid,Addr.add_mid,hy] at this
  exact this
theorem aEp {fuel:Nat} {cs:List Value} {x:DataW H × List MemPlace} (h:DataW.trod enc Tryz.prog w base sp held fuel 66 cs=some x) : ∃ (bs:List Bool) (v:Value),cs = [v]/\bA (fun b=>b<w.heap.size) w bs v:=by
 obtain ⟨bs,p,cap,rfl,hl,hr⟩:=mM Tryz.underlying66 nW (by decide) (fun (b:Bool) cs=>cs = [.bool b]) (fun m cs y hy=>by obtain ⟨b,rfl,-⟩:=DataW.trod_bool Tryz.underlying4 hy;exact ⟨b,rfl,rfl⟩) h
 refine ⟨bs,_,rfl,p,cap,rfl,hl.2,fun h0=> ?_⟩
 obtain ⟨b,off,h1,h2,h3⟩:=hr h0
 refine ⟨b,off,h1,h2,fun j y hy=> ?_⟩
 obtain ⟨cs,-,rfl,h4⟩:=h3 j y hy
 have:=h4 0 _ rfl
 rwa [Nat.mul_one,Nat.add_zero] at this
theorem aJe {fuel:Nat} {cs:List Value} {x:DataW H × List MemPlace} (h:DataW.trod enc Tryz.prog w base sp held fuel 27 cs=some x) : ∃ (zs:List Int) (v:Value),cs = [v]/\aH (fun b=>b<w.heap.size) w zs v:=by
 obtain ⟨bs,p,cap,rfl,hl,hr⟩:=mM Tryz.underlying27 hJ (by decide) (fun (z:Int) cs=>cs = [.int .i64 z]) (fun m cs y hy=>by obtain ⟨z,rfl,-,-⟩:=DataW.trod_int Tryz.underlying3 hy;exact ⟨z,rfl,rfl⟩) h
 refine ⟨bs,_,rfl,p,cap,rfl,hl.2,fun h0=> ?_⟩
 obtain ⟨b,off,h1,h2,h3⟩:=hr h0
 refine ⟨b,off,h1,h2,fun j y hy=> ?_⟩
 obtain ⟨cs,-,rfl,h4⟩:=h3 j y hy
 have:=h4 0 _ rfl
 rwa [Nat.mul_one,Nat.add_zero] at this
theorem aNa {fuel:Nat} {cs:List Value} {x:DataW H × List MemPlace} (h:DataW.trod enc Tryz.prog w base sp held fuel 28 cs=some x) : ∃ (zs:List (Int × Int)) (v:Value),cs = [v]/\jB (fun b=>b<w.heap.size) w zs v:=by
 obtain ⟨bs,p,cap,rfl,hl,hr⟩:=mM Tryz.underlying28 vU (by decide) (fun (z:Int × Int) cs=>cs = [.int .i64 z.1,.int .i64 z.2]) (fun m cs y hy=>by
  obtain ⟨xs,n,-,-,hl,hlen,hel⟩:=DataW.trod_array Tryz.underlying105 hy
  rw [vU] at hl
  match xs,hlen,cs,hl with
  | [y0,y1],_,[c0,c1],_=>
   obtain ⟨a,e0,-,-⟩:=DataW.trod_int Tryz.underlying3 (show DataW.trod enc Tryz.prog w base sp held n 3 _=some y0 by simpa using hel 0 (by decide))
   obtain ⟨b,e1,-,-⟩:=DataW.trod_int Tryz.underlying3 (show DataW.trod enc Tryz.prog w base sp held n 3 _=some y1 by simpa using hel 1 (by decide))
   simp [hJ] at e0 e1
   exact ⟨(a,b),by rw [e0,e1],rfl⟩) h
 refine ⟨bs,_,rfl,p,cap,rfl,hl.2,fun h0=> ?_⟩
 obtain ⟨b,off,h1,h2,h3⟩:=hr h0
 refine ⟨b,off,h1,h2,fun j y hy=> ?_⟩
 obtain ⟨cs,-,rfl,h4⟩:=h3 j y hy
 exact ⟨by have:=h4 0 _ rfl;rwa [Nat.add_zero] at this,h4 1 _ rfl⟩
theorem aMy {fuel:Nat} {cs:List Value} {x:DataW H × List MemPlace} (h:DataW.trod enc Tryz.prog w base sp held fuel 26 cs=some x) : ∃ (ms:List MB) (v:Value),cs = [v]/\cB (fun b=>b<w.heap.size) w ms v:=by
 obtain ⟨ms,p,cap,rfl,hl,hr⟩:=mM Tryz.underlying26 zS (by decide) (fun (m:MB) cs=> ∃ ov,cs = [.int .i64 m.pl,ov]/\bA (fun b=>b<w.heap.size) w m.on ov) (fun m cs y hy=>by
  obtain ⟨xs,n,-,-,hl,hlen,hel⟩:=DataW.trod_struct Tryz.underlying68 hy
  rw [zS] at hl
  match xs,hlen,cs,hl with
  | [y0,y1],_,[c0,c1],_=>
   obtain ⟨a,e0,-,-⟩:=DataW.trod_int Tryz.underlying3 (show DataW.trod enc Tryz.prog w base sp held n 3 _=some y0 by simpa using hel 0 _ rfl)
   obtain ⟨bs,v,e1,hb⟩:=aEp (show DataW.trod enc Tryz.prog w base sp held n 66 _=some y1 by simpa using hel 1 _ rfl)
   simp [hJ,zR] at e0 e1
   exact ⟨⟨a,bs⟩,⟨v,by rw [e0,e1],hb⟩,rfl⟩) h
 refine ⟨ms,_,rfl,p,cap,rfl,hl,fun h0=> ?_⟩
 obtain ⟨b,off,h1,h2,h3⟩:=hr h0
 refine ⟨b,off,h1,h2,fun j y hy=> ?_⟩
 obtain ⟨cs,-,⟨ov,rfl,hb⟩,h4⟩:=h3 j y hy
 exact ⟨ov,by have:=h4 0 _ rfl;rwa [Nat.add_zero] at this,h4 1 _ rfl,hb⟩
theorem aMx {fuel:Nat} {cs:List Value} {x:DataW H × List MemPlace} (h:DataW.trod enc Tryz.prog w base sp held fuel 25 cs=some x) : ∃ (ts:List At) (v:Value),cs = [v]/\eG (fun b=>b<w.heap.size) w ts v:=by
 obtain ⟨ts,p,cap,rfl,hl,hr⟩:=mM Tryz.underlying25 nV (by decide) (fun (a:At) cs=>cs = [.string a.n,.int .i64 a.op,.int .i64 a.v,.int .i64 a.sl,.string a.f,.bool a.on]) (fun m cs y hy=>by
  obtain ⟨a,e⟩:=wW hy
  exact ⟨a,e,by rw [e];rfl⟩) h
 refine ⟨ts,_,rfl,p,cap,rfl,hl.2,fun h0=> ?_⟩
 obtain ⟨b,off,h1,h2,h3⟩:=hr h0
 refine ⟨b,off,h1,h2,fun j y hy=> ?_⟩
 obtain ⟨cs,-,rfl,h4⟩:=h3 j y hy
 exact ⟨by have:=h4 0 _ rfl;rwa [Nat.add_zero] at this,h4 1 _ rfl,h4 2 _ rfl,h4 3 _ rfl,h4 4 _ rfl,h4 5 _ rfl⟩
end
theorem aIo {H:Type} {enc:TypeId × Value->H} {w:World} {base b0:Nat} {sp:Nat->Bool} {held:Bool} {x:Value} {d:DataW H} {p:List MemPlace} (hv:Value.okWide Tryz.prog w .any b0 30 x) (h:DataW.Trod enc Tryz.prog w base sp held 30 x d p) :
  ∃ (wi:WI) (tsv inv mav onv:Value),x=.agg #[tsv,inv,mav,onv]/\eJ (fun b=>b<w.heap.size) w wi tsv inv mav onv:=by
 obtain ⟨cs,rfl,hsz⟩:=okWide_struct Tryz.underlying30 hv
 obtain ⟨fuel,hf⟩:=h
 obtain ⟨xs,m,hm,hx,hl,hlen,hel⟩:=DataW.trod_struct Tryz.underlying30 (show DataW.trod enc Tryz.prog w base sp held fuel 30 cs.toList=some (d,p) from hf)
 have hl4:=hl.trans aCt
 obtain ⟨l⟩:=cs
 simp only at hl4 hel
 match xs,hlen,l,hl4 with
 | [y0,y1,y2,y3],_,[c0,c1,c2,c3],_=>
  obtain ⟨ts,v0,e0,h0⟩:=aMx (show DataW.trod enc Tryz.prog w base sp held m 25 _=some y0 by simpa using hel 0 _ rfl)
  obtain ⟨ins,v1,e1,h1⟩:=aMy (show DataW.trod enc Tryz.prog w base sp held m 26 _=some y1 by simpa using hel 1 _ rfl)
  obtain ⟨ma,v2,e2,h2⟩:=aJe (show DataW.trod enc Tryz.prog w base sp held m 27 _=some y2 by simpa using hel 2 _ rfl)
  obtain ⟨on,v3,e3,h3⟩:=aNa (show DataW.trod enc Tryz.prog w base sp held m 28 _=some y3 by simpa using hel 3 _ rfl)
  simp [aHg,aHh,aCq,aHi] at e0 e1 e2 e3
  exact ⟨⟨ts,ins,ma,on⟩,v0,v1,v2,v3,by rw [e0,e1,e2,e3],⟨h0,h1,h2,h3⟩⟩
end Go.Proofs.YtonlloiemgdfkaaGreatDoor
namespace Go.Proofs.YtonlloiemgdfkaaGreatDoor
open Go.RowKit
theorem aMc {H:Type} {enc:TypeId × Value->H} {w:World} {base:Nat} {sp:Nat->Bool} {held:Bool} {v:Value} {d:DataW H} {p:List MemPlace} (h:DataW.Trod enc Tryz.prog w base sp held 24 (.agg #[v]) d p):jX v:=by
 obtain ⟨fuel,hf⟩:=h
 obtain ⟨xs,m,hm,hx,hl,hlen,hel⟩:=DataW.trod_struct Tryz.underlying24 (show DataW.trod enc Tryz.prog w base sp held fuel 24 [v]=some (d,p) from hf)
 match xs,hlen with
 | [y0],_=>
  have h0:DataW.trod enc Tryz.prog w base sp held m 22 [v]=some y0:=by
   have:=hel 0 _ rfl
   simpa [sO] using this
  rcases DataW.trod_slice Tryz.underlying22 h0 with ⟨e,-⟩ | ⟨ad,len,cap,elems,rest,mm,hmm,e,-,-,hlc,-⟩
  ·cases e;exact hD
  ·cases e
   intro p n c e
   cases e
   exact hlc
end Go.Proofs.YtonlloiemgdfkaaGreatDoor
