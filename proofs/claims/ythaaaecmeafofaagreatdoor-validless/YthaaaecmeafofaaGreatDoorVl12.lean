/- Steps of the proof: ValidValid, NeedNeeded, TreeForest, ValidSmall, ValidAllowed, ValidLessWalk, AtomOpen, NeedOpen. -/
import Derived.Test.YthaaaecmeafofaaGreatDoorVl11
import Derived.Test.YthaaaecmeafofaaGreatDoorVl07
import Derived.Test.YthaaaecmeafofaaGreatDoorVl09
import Derived.BigRegion
import Derived.Test.YthaaaecmeafofaaGreatDoorVl03
import Derived.Lib.LaidTab
import Derived.Stop.LaidErr
import Derived.OpenShut
import Derived.Lib.SmallJoins
import Derived.Deep.DeepWitnessRowRef
import Derived.LaidMore
import Derived.Stop.Joined
import Derived.ChangeOld
import Derived.Shelf.Vars
import Derived.HandedShaped
set_option maxHeartbeats 16000000
set_option maxRecDepth 100000
namespace Go.Proofs.YthaaaecmeafofaaGreatDoor
open Go.RowKit Go.Sort
def gI (ps:List PK) (ms:List MB) (k:Int):Bool:=decide (dN ps ms k=0)&&dK ps ms k.toNat
theorem nP (S:Nat->Prop) (ps:List PK) (ms:List MB) (tv lv:Value) (k:Int) (w:World) (hS : ∀ b,S b->b<w.heap.size) (hp:aR S w ps tv) (hm:bM S w ms lv) :
  Calls Tryz.prog 31 #[.agg #[tv],lv,.int .i64 k] w fun e w'=>e=.returned (.tuple #[.bool (gI ps ms k),.int .i64 (dN ps ms k)])/\aA w w':=by
 have HP:=hid hp
 have HMS:=hid hm
 obtain ⟨tp,tc,rfl,hlen⟩:=hp.len
 obtain ⟨lp,lc,rfl,hllen⟩:=hm.len
 have HX:Hid (dN ps ms k=if bE ps ms≠0 then bE ps ms else if k<0∨(ms.length:Int)<=k then 5 else 0):=rfl
 have HR:Hid (gI ps ms k=(decide (dN ps ms k=0)&&dK ps ms k.toNat)):=rfl
 clear hp hm
 go_enter Tryz.func31,Tryz.ntmps31
 go_wp2_with fail
 refine bA (fun W'=>aA w W'/\aD w.heap.size 24 (.slice tp ps.length tc) W') ⟨aA.alloc _ _,aD.new _ _ _⟩ ?_
 rintro W0 ⟨k0,v0⟩
 refine (fR S ps ms _ _ W0 (fun b hb=>Nat.lt_of_lt_of_le (hS b hb) k0.size) (HP.out.keep hS k0) (HMS.out.keep hS k0)).mono ?_
 rintro e w1 ⟨rfl,k1⟩
 have K1:=hid (k0.trans k1)
 have V1:=hid (v0.keep k1 v0.facts.2.2)
 clear k0 v0 k1
 by_cases hz:bE ps ms=0
 ·have HOK:=hid (pV hz)
  have HCT:=hid (oC hz)
  have HX1:Hid (dN ps ms k=if k<0∨(ms.length:Int)<=k then 5 else 0):=by show _=_;rw [HX.out,if_neg (fun h=>h hz)]
  rw [hz]
  clear hz HX
  by_cases h0:k<0
  ·have HY:Hid (dN ps ms k=5):=by show _=_;rw [HX1.out,if_pos (Or.inl h0)]
   have HZ:Hid (gI ps ms k=false):=by show _=_;rw [HR.out,HY.out];rfl
   clear HX1 HR
   go_wp2_with fail
   go_ret2
   exact ⟨by rw [HY.out,HZ.out];rfl,K1.out⟩
  by_cases h1:(ms.length:Int)<=k
  ·have HY:Hid (dN ps ms k=5):=by show _=_;rw [HX1.out,if_pos (Or.inr h1)]
   have HZ:Hid (gI ps ms k=false):=by show _=_;rw [HR.out,HY.out];rfl
   clear HX1 HR
   go_wp2_with fail
   go_ret2
   exact ⟨by rw [HY.out,HZ.out];rfl,K1.out⟩
  obtain ⟨q,rfl⟩ : ∃ q:Nat,k=q:=⟨k.toNat,by omega⟩
  have hq:q<ms.length:=by omega
  have HY:Hid (dN ps ms (q:Int)=0):=by show _=_;rw [HX1.out,if_neg (by omega)]
  have HZ:Hid (gI ps ms (q:Int)=dK ps ms q):=by show _=_;rw [HR.out,HY.out];simp
  obtain ⟨hct,-,hlt⟩:=V1.out.facts
  clear HX1 HR
  go_wp2_with fail
  refine (mO S ps ms _ _ q w1 (fun b hb=>Nat.lt_of_lt_of_le (hS b hb) K1.out.size) (HP.out.keep hS K1.out) (HMS.out.keep hS K1.out) hq HOK.out HCT.out).mono ?_
  rintro e w2 ⟨rfl,k2⟩
  have K2:=hid (K1.out.trans k2)
  clear k2 hct
  go_wp2_with fail
  go_ret2
  exact ⟨by rw [HY.out,HZ.out];rfl,K2.out⟩
 ·have HY:Hid (dN ps ms k=bE ps ms):=by show _=_;rw [HX.out,if_pos hz]
  have HZ:Hid (gI ps ms k=false):=by show _=_;rw [HR.out,HY.out,decide_eq_false hz];rfl
  generalize bE ps ms=ct at HY hz ⊢
  have hz1:(ct==0)=false:=by simp [hz]
  have hz2:(ct != 0)=true:=by simp [hz]
  clear hz HX HR
  go_wp2_with fail
  go_ret2
  exact ⟨by rw [HY.out,HZ.out];rfl,K1.out⟩
def bI (ps:List PK) (wi:WI) (ms:List MB):Bool:=decide (bH ps wi ms=0)&&jF ps wi ms
theorem pP (S:Nat->Prop) (zs:List Int) (v:Value) (x:Int) (w:World) (h:cP S w zs v) :
  Calls Tryz.prog 78 #[v,.int .i64 x] w fun e w'=>e=.returned (.bool (zs.contains x))/\w'=w:=by
 obtain ⟨p,c,rfl,hl⟩:=h.len
 by_cases h0:zs = []
 ·subst h0
  refine (Tryz.slices_Contains_int_empty p c x w).mono ?_
  rintro e w' ⟨rfl,rfl⟩
  exact ⟨rfl,rfl⟩
 ·obtain ⟨g,off,rfl,-,hc⟩:=h.get (List.length_pos_iff.2 h0)
  refine (Tryz.slices_Contains_int g off zs.length c zs x w (Nat.le_refl _) hl hc).mono ?_
  rintro e w' ⟨rfl,rfl⟩
  exact ⟨aF (by rw [List.take_length]),rfl⟩
theorem sB {ps:List PK} {ma:List Int} {ms:List MB} : ∀ {i:Nat} (j:Nat),eX ps ma ms i=false->eX ps ma ms (i+j)=false
 | _,0,h=>h
 | i,j+1,h=>by
  rw [← Nat.add_assoc,eX,sB j h];rfl
theorem dY (S:Nat->Prop) (ps:List PK) (wi:WI) (ms:List MB) (tv tsv inv mav onv lv:Value) (w:World) (hS : ∀ b,S b->b<w.heap.size) (hp:aR S w ps tv) (hw:fP S w wi tsv inv mav onv) (hm:bM S w ms lv) :
  Calls Tryz.prog 28 #[.agg #[tv],.agg #[tsv,inv,mav,onv],lv] w fun e w'=>e=.returned (.tuple #[.bool (bI ps wi ms),.int .i64 (bH ps wi ms)])/\aA w w':=by
 have HP:=hid hp
 have HW:=hid hw
 have HMS:=hid hm
 obtain ⟨tp,tc,rfl,htlen⟩:=hp.len
 obtain ⟨p0,c0,rfl,hl0⟩:=hw.ts.len
 obtain ⟨p1,c1,rfl,hl1⟩:=hw.ins.len
 obtain ⟨p2,c2,rfl,hl2⟩:=hw.ma.len
 obtain ⟨p3,c3,rfl,hl3⟩:=hw.on.len
 obtain ⟨lp,lc,rfl,hllen⟩:=hm.len
 have HX:Hid (bH ps wi ms=if eY ps wi≠0 then eY ps wi else bE ps ms):=rfl
 have HR:Hid (bI ps wi ms=(decide (bH ps wi ms=0)&&(hJ ps ms wi.ts&&eX ps wi.ma ms ms.length))):=rfl
 clear hp hw hm
 go_enter Tryz.func28,Tryz.ntmps28
 go_wp2_with fail
 refine bA (fun W'=>aA w W'/\aD w.heap.size 24 (.slice tp ps.length tc) W'/\aI (w.heap.size+1) #[.slice p0 wi.ts.length c0,.slice p1 wi.ins.length c1,.slice p2 wi.ma.length c2,.slice p3 wi.on.length c3] W') ⟨(aA.alloc _ _).alloc' _,(aD.new _ _ _).keep (aA.alloc _ _) (by simp),?_⟩ ?_
 ·have:=aI.new (w.alloc (.cells #[.slice tp ps.length tc] 24)) #[.slice p0 wi.ts.length c0,.slice p1 wi.ins.length c1,.slice p2 wi.ma.length c2,.slice p3 wi.on.length c3] 46
  rw [aG] at this;exact this
 rintro W0 ⟨k0,v0,b0⟩
 refine (lY S ps wi _ _ _ _ _ W0 (fun b hb=>Nat.lt_of_lt_of_le (hS b hb) k0.size) (HP.out.keep hS k0) (HW.out.keep hS k0)).mono ?_
 rintro e w1 ⟨rfl,k1⟩
 have K1:=hid (k0.trans k1)
 have V1:=hid (v0.keep k1 v0.facts.2.2)
 have B1:=hid (b0.keep k1 b0.1)
 clear k0 v0 b0 k1
 by_cases hz:eY ps wi=0
 ·have HX1:Hid (bH ps wi ms=bE ps ms):=by show _=_;rw [HX.out,if_neg (fun h=>h hz)]
  rw [hz]
  clear hz HX
  obtain ⟨hct,-,hlt⟩:=V1.out.facts
  go_wp2_with fail
  refine (fR S ps ms _ _ w1 (fun b hb=>Nat.lt_of_lt_of_le (hS b hb) K1.out.size) (HP.out.keep hS K1.out) (HMS.out.keep hS K1.out)).mono ?_
  rintro e w2 ⟨rfl,k2⟩
  have K2:=hid (K1.out.trans k2)
  have V2:=hid (V1.out.keep k2 V1.out.facts.2.2)
  have B2:=hid (B1.out.keep k2 B1.out.1)
  clear k2 V1 B1 hct hlt
  by_cases hz:bE ps ms=0
  ·have HOK:=hid (pV hz)
   have HCT:=hid (oC hz)
   have HE0:Hid (bH ps wi ms=0):=by show _=_;rw [HX1.out,hz]
   have HR1:Hid (bI ps wi ms=(hJ ps ms wi.ts&&eX ps wi.ma ms ms.length)):=by show _=_;rw [HR.out,HE0.out];simp
   rw [hz]
   have hcb:=B2.out.2
   have hlb:=B2.out.1
   clear hz HX1 HR
   go_wp2_with fail
   clear hcb hlb
   go_loopg [28] wi.ts.length (fun gk i wr=> ∃ j:Nat,j+gk=wi.ts.length/\i=.int .i64 j/\(wi.ts.take j).all (fun a=>cM ps ms (-1) a)=true/\aA w wr/\aD w.heap.size 24 (.slice tp ps.length tc) wr/\aI (w.heap.size+1) #[.slice p0 wi.ts.length c0,.slice p1 wi.ins.length c1,.slice p2 wi.ma.length c2,.slice p3 wi.on.length c3] wr)
   case atStart=>exact ⟨0,by simp,rfl,by simp,K2.out,V2.out,B2.out⟩
   case round=>
    obtain ⟨j,hj,rfl,hall,hkp,hvt,hbx⟩:=hrel
    have HALL:=hid hall
    have HK:=hid hkp
    have HV:=hid hvt
    have HB:=hid hbx
    clear hall hkp hvt hbx K2 V2 B2
    by_cases hlt:j<wi.ts.length
    ·obtain ⟨b,off,hp,hSb,c0',c1',c2',c3',c4',c5'⟩:=(HW.out.keep hS HK.out).ts.get hlt
     subst hp
     have HST:Hid ((wi.ts.take (j+1)).all (fun a=>cM ps ms (-1) a)=cM ps ms (-1) wi.ts[j]):=by
      show _=_
      rw [List.take_succ_eq_append_getElem hlt,List.all_append,HALL.out];simp
     have HNO:Hid (cM ps ms (-1) wi.ts[j]=false->bI ps wi ms=false):=fun h=>by
      rw [HR1.out]
      have:hJ ps ms wi.ts=false:=by
       unfold hJ
       rw [List.all_eq_false]
       exact ⟨wi.ts[j],List.getElem_mem hlt,by rw [h];decide⟩
      rw [this];rfl
     generalize wi.ts[j]=a at c0' c1' c2' c3' c4' c5' HST HNO
     obtain ⟨hct,-,hltt⟩:=HV.out.facts
     go_wp2_with fail
     refine bA (fun W'=>aA wr W') (aA.alloc _ _) ?_
     intro W3 k3
     refine (fB S ps ms _ _ (-1) a.n a.f a.op a.v a.sl a.on W3 (fun b hb=>Nat.lt_of_lt_of_le (Nat.lt_of_lt_of_le (hS b hb) HK.out.size) k3.size) (HP.out.keep hS (HK.out.trans k3)) (HMS.out.keep hS (HK.out.trans k3)) HOK.out).mono ?_
     rintro e w4 ⟨rfl,k4⟩
     have K4':=hid (k3.trans k4)
     have K4:=hid (HK.out.trans K4'.out)
     have V4:=hid (HV.out.keep K4'.out HV.out.facts.2.2)
     have B4:=hid (HB.out.keep K4'.out HB.out.1)
     clear k3 k4 c0' c1' c2' c3' c4' c5' hct
     have HST2:Hid ((wi.ts.take (j+1)).all (fun a=>cM ps ms (-1) a)=cM ps ms (-1) ⟨a.n,a.op,a.v,a.sl,a.f,a.on⟩):=HST.out
     have HNO2:Hid (cM ps ms (-1) ⟨a.n,a.op,a.v,a.sl,a.f,a.on⟩=false->bI ps wi ms=false):=HNO.out
     generalize cM ps ms (-1) ⟨a.n,a.op,a.v,a.sl,a.f,a.on⟩=β at HST2 HNO2 ⊢
     clear HST HNO
     cases β
     ·have HF:=hid (HNO2.out rfl)
      clear HNO2
      go_wp2_with fail
      go_ret2
      exact ⟨by rw [HF.out,HE0.out];rfl,K4.out⟩
     ·clear HNO2
      go_wp2_with fail
      go_roundg (wi.ts.length-(j+1))
      case rel=>exact ⟨j+1,by omega,by go_num,HST2.out,K4.out,V4.out,B4.out⟩
      case measure=>omega
    ·obtain rfl:j=wi.ts.length:=by omega
     have HR2:Hid (bI ps wi ms=eX ps wi.ma ms ms.length):=by
      show _=_
      have h:=HALL.out
      rw [List.take_length] at h
      rw [HR1.out,show hJ ps ms wi.ts=true from h];rfl
     clear HALL HR1 hj hlt
     go_wp2_with fail
     go_loopg [40] ms.length (fun gk i wr'=> ∃ j:Nat,j+gk=ms.length/\i=.int .i64 j/\eX ps wi.ma ms j=true/\aA w wr'/\aD w.heap.size 24 (.slice tp ps.length tc) wr'/\aI (w.heap.size+1) #[.slice p0 wi.ts.length c0,.slice p1 wi.ins.length c1,.slice p2 wi.ma.length c2,.slice p3 wi.on.length c3] wr')
     case atStart=>exact ⟨0,by simp,rfl,rfl,HK.out,HV.out,HB.out⟩
     case round=>
      obtain ⟨j,hj,rfl,hall,hkp,hvt,hbx⟩:=hrel
      clear HK HV HB
      have HALL:=hid hall
      have HK:=hid hkp
      have HV:=hid hvt
      have HB:=hid hbx
      clear hall hkp hvt hbx
      by_cases hlt:j<ms.length
      ·have hSr : ∀ b,S b->b<wr.heap.size:=fun b hb=>Nat.lt_of_lt_of_le (hS b hb) HK.out.size
       obtain ⟨mb,moff,mcap,hmv,hmS,-,hrow⟩:=(HMS.out.keep hS HK.out).get hlt
       cases hmv
       obtain ⟨op,oc,hc0,-,-,-⟩:=hrow j _ (List.getElem?_eq_getElem hlt)
       have HST:Hid (eX ps wi.ma ms (j+1)=(!wi.ma.contains ms[j].pl&&dK ps ms j && !dO ps ms j j)):=by
        show _=_
        rw [eX,HALL.out,pK,dT ms j hlt];rfl
       have HNO:Hid (eX ps wi.ma ms (j+1)=false->bI ps wi ms=false):=fun h=>by
        have:=sB (ms.length-(j+1)) h
        rw [show j+1+(ms.length-(j+1))=ms.length by omega] at this
        rw [HR2.out];exact this
       generalize ms[j].pl=pl at hc0 HST
       have hmlt:=hSr mb hmS
       clear hrow HALL
       go_upto_region 16 with fail
       have dw : ∀ o d os,(grow (redrawn wr d) os).cell? ⟨w.heap.size+1,o,none⟩=(#[.slice p0 wi.ts.length c0,.slice p1 wi.ins.length c1,.slice p2 wi.ma.length c2,.slice p3 wi.on.length c3]:Array Value)[o]? :=fun o d os=>(HB.out.keep (below_regrown wr d os) HB.out.1).2 o
       have dt : ∀ d os,(grow (redrawn wr d) os).cell? ⟨w.heap.size,0,none⟩=some (.slice tp ps.length tc):=fun d os=>((below_regrown wr d os).cell (p:=⟨w.heap.size,0,none⟩) HV.out.facts.2.2).trans HV.out.facts.1
       have dm : ∀ d os,(grow (redrawn wr d) os).cell? ⟨mb,moff+j*2,none⟩=some (.int .i64 pl):=fun d os=>((below_regrown wr d os).cell (p:=⟨mb,moff+j*2,none⟩) hmlt).trans hc0
       have hSg : ∀ d os b,S b->b<(grow (redrawn wr d) os).heap.size:=fun d os b hb=>Nat.lt_of_lt_of_le (hSr b hb) (below_regrown wr d os).size
       generalize hb1:wi.ma.contains pl=β1 at HST
       generalize hb2:dK ps ms j=β2 at HST
       generalize hb3:dO ps ms j j=β3 at HST
       have cC:=hid (show ∀ d os,Calls Tryz.prog 78 #[.slice p2 wi.ma.length c2,.int .i64 pl] (grow (redrawn wr d) os) fun e w''=>e=.returned (.bool β1)/\∃ p:Regrown,w''=grow (redrawn wr p.d) p.os from fun d os=>by
        rw [← hb1]
        refine (pP S wi.ma _ pl _ (HW.out.ma.keep hS (HK.out.trans (below_regrown wr d os)))).mono ?_
        rintro e w' ⟨rfl,rfl⟩
        exact ⟨rfl,⟨d,os⟩,rfl⟩)
       have cH:=hid (show ∀ d os,Calls Tryz.prog 79 #[.agg #[.slice tp ps.length tc],.slice (some ⟨mb,moff,none⟩) ms.length lc,.int .i64 j] (grow (redrawn wr d) os) fun e w''=>e=.returned (.bool β2)/\∃ p:Regrown,w''=grow (redrawn wr p.d) p.os from fun d os=>by
        rw [← hb2]
        exact Calls.regrown_of (mO S ps ms _ _ j _ (hSg d os) (HP.out.keep hS (HK.out.trans (below_regrown wr d os))) (HMS.out.keep hS (HK.out.trans (below_regrown wr d os))) hlt HOK.out HCT.out))
       have cS:=hid (show ∀ d os,Calls Tryz.prog 80 #[.agg #[.slice tp ps.length tc],.slice (some ⟨mb,moff,none⟩) ms.length lc,.int .i64 j] (grow (redrawn wr d) os) fun e w''=>e=.returned (.bool β3)/\∃ p:Regrown,w''=grow (redrawn wr p.d) p.os from fun d os=>by
        rw [← hb3]
        exact Calls.regrown_of (rN S ps ms _ _ j _ (hSg d os) (HP.out.keep hS (HK.out.trans (below_regrown wr d os))) (HMS.out.keep hS (HK.out.trans (below_regrown wr d os))) hlt HOK.out))
       clear hc0 hSg hb1 hb2 hb3
       cases β1
       ·cases β2
        ·refine wp_region_quiet_below (by kernel_rfl) (by kernel_rfl) ?_
         repeat (first | go_big_quiet_step (first | exact cC.out _ _ | exact cH.out _ _ | exact cS.out _ _) | quiet_step (first | exact cC.out _ _ | exact cH.out _ _ | exact cS.out _ _))
         refine wpQuiet_nil ?_
         intro _ hw'
         obtain ⟨⟨dq,osq⟩,hw''⟩:=hw'
         subst hw''
         have k4:=below_regrown wr dq osq
         generalize grow (redrawn wr dq) osq=W4 at k4 ⊢
         have K4:=hid (HK.out.trans k4)
         have V4:=hid (HV.out.keep k4 HV.out.facts.2.2)
         have B4:=hid (HB.out.keep k4 HB.out.1)
         clear dw dt dm cC cH cS k4
         have HF:=hid (HNO.out HST.out)
         clear HNO
         go_wp2_with fail
         go_ret2
         exact ⟨by rw [HF.out,HE0.out];rfl,K4.out⟩
        ·cases β3
         ·refine wp_region_quiet_below (by kernel_rfl) (by kernel_rfl) ?_
          repeat (first | go_big_quiet_step (first | exact cC.out _ _ | exact cH.out _ _ | exact cS.out _ _) | quiet_step (first | exact cC.out _ _ | exact cH.out _ _ | exact cS.out _ _))
          refine wpQuiet_nil ?_
          intro _ hw'
          obtain ⟨⟨dq,osq⟩,hw''⟩:=hw'
          subst hw''
          have k4:=below_regrown wr dq osq
          generalize grow (redrawn wr dq) osq=W4 at k4 ⊢
          have K4:=hid (HK.out.trans k4)
          have V4:=hid (HV.out.keep k4 HV.out.facts.2.2)
          have B4:=hid (HB.out.keep k4 HB.out.1)
          clear dw dt dm cC cH cS k4
          clear HNO
          go_wp2_with fail
          go_roundg (ms.length-(j+1))
          case rel=>exact ⟨j+1,by omega,by go_num,HST.out,K4.out,V4.out,B4.out⟩
          case measure=>omega
         ·refine wp_region_quiet_below (by kernel_rfl) (by kernel_rfl) ?_
          repeat (first | go_big_quiet_step (first | exact cC.out _ _ | exact cH.out _ _ | exact cS.out _ _) | quiet_step (first | exact cC.out _ _ | exact cH.out _ _ | exact cS.out _ _))
          refine wpQuiet_nil ?_
          intro _ hw'
          obtain ⟨⟨dq,osq⟩,hw''⟩:=hw'
          subst hw''
          have k4:=below_regrown wr dq osq
          generalize grow (redrawn wr dq) osq=W4 at k4 ⊢
          have K4:=hid (HK.out.trans k4)
          have V4:=hid (HV.out.keep k4 HV.out.facts.2.2)
          have B4:=hid (HB.out.keep k4 HB.out.1)
          clear dw dt dm cC cH cS k4
          have HF:=hid (HNO.out HST.out)
          clear HNO
          go_wp2_with fail
          go_ret2
          exact ⟨by rw [HF.out,HE0.out];rfl,K4.out⟩
       ·refine wp_region_quiet_below (by kernel_rfl) (by kernel_rfl) ?_
        repeat (first | go_big_quiet_step (first | exact cC.out _ _ | exact cH.out _ _ | exact cS.out _ _) | quiet_step (first | exact cC.out _ _ | exact cH.out _ _ | exact cS.out _ _))
        refine wpQuiet_nil ?_
        intro _ hw'
        obtain ⟨⟨dq,osq⟩,hw''⟩:=hw'
        subst hw''
        have k4:=below_regrown wr dq osq
        generalize grow (redrawn wr dq) osq=W4 at k4 ⊢
        have K4:=hid (HK.out.trans k4)
        have V4:=hid (HV.out.keep k4 HV.out.facts.2.2)
        have B4:=hid (HB.out.keep k4 HB.out.1)
        clear dw dt dm cC cH cS k4
        have HF:=hid (HNO.out HST.out)
        clear HNO
        go_wp2_with fail
        go_ret2
        exact ⟨by rw [HF.out,HE0.out];rfl,K4.out⟩
      ·obtain rfl:j=ms.length:=by omega
       go_wp2_with fail
       go_ret2
       exact ⟨by rw [HR2.out,HALL.out,HE0.out];rfl,HK.out⟩
  ·have HY:Hid (bH ps wi ms=bE ps ms):=HX1.out
   have HZ:Hid (bI ps wi ms=false):=by show _=_;rw [HR.out,HY.out,decide_eq_false hz];rfl
   generalize bE ps ms=ct at HY hz ⊢
   have hz1:(ct==0)=false:=by simp [hz]
   have hz2:(ct != 0)=true:=by simp [hz]
   clear hz HX1 HR
   go_wp2_with fail
   go_ret2
   exact ⟨by rw [HY.out,HZ.out];rfl,K2.out⟩
 ·have HY:Hid (bH ps wi ms=eY ps wi):=by show _=_;rw [HX.out,if_pos hz]
  have HZ:Hid (bI ps wi ms=false):=by show _=_;rw [HR.out,HY.out,decide_eq_false hz];rfl
  generalize eY ps wi=ct at HY hz ⊢
  have hz1:(ct==0)=false:=by simp [hz]
  have hz2:(ct != 0)=true:=by simp [hz]
  clear hz HX HR
  go_wp2_with fail
  go_ret2
  exact ⟨by rw [HY.out,HZ.out];rfl,K1.out⟩
end Go.Proofs.YthaaaecmeafofaaGreatDoor
namespace Go.Proofs.YthaaaecmeafofaaGreatDoor
open Go.RowKit
def jZ (c:UInt8):NT:= .node 1 ⟨⟨#[c]⟩,0,0,0,⟨#[]⟩,false⟩ ⟨#[]⟩ false []
end Go.Proofs.YthaaaecmeafofaaGreatDoor
namespace Go.Proofs.YthaaaecmeafofaaGreatDoor
def nIf:NT:= .node 5 At.zero ⟨#[120]⟩ false [jZ 98]
def jC:NT:= .node 3 At.zero ⟨#[]⟩ false [nIf]
def gB:NT:= .node 3 At.zero ⟨#[]⟩ false []
def F2:List UInt8:= [97,32,49,32,49,32,120,44,121,32,40,32,120,63,32,40,32,98,32,41,32,41,10,98,32,50,32,49,32,32,40,32,41,10]
theorem sE {c:UInt8} (h:aJ [c]=true):(jZ c).ok:=by
 unfold jZ
 rw [NT.ok]
 exact ⟨fV 1 _ (Or.inl rfl) (by show chk [c] 0 0 0 [] false=0;unfold chk;rw [if_neg (by simp [h]),if_neg (by decide),if_neg (by decide)]),trivial⟩
theorem xQ:nIf.ok:=by
 unfold nIf
 rw [NT.ok,okL,okL]
 exact ⟨pN _ _ _ (by decide),sE (by decide),trivial⟩
theorem wU:jC.ok:=by
 unfold jC
 rw [NT.ok,okL,okL]
 exact ⟨cW 3 _ (Or.inl rfl),xQ,trivial⟩
theorem vL:gB.ok:=by
 unfold gB
 rw [NT.ok,okL]
 exact ⟨cW 3 _ (Or.inl rfl),trivial⟩
theorem jQ:cR nIf=false/\cR jC=false/\cR gB=false:=by
 have i1:aH 1=2:=eU (by decide) (by decide)
 have i2:aH 2=3:=eU (by decide) (by decide)
 refine ⟨?_,?_,?_⟩<;>simp [cR,nIf,jC,gB,jZ,bC,aZ,fN,i1,i2]
theorem vK:cF jC=0:=cJ.2 ⟨jQ.2.1,wU⟩
theorem tL:cF gB=0:=cJ.2 ⟨jQ.2.2,vL⟩
theorem yP:Lib.itoa 1 = [49]:=pH (k:=1) (by decide)
theorem yQ:Lib.itoa 2 = [50]:=pH (k:=2) (by decide)
theorem pX:jC.sorted = [[120]]:=by
 have:jC.flags = [⟨#[120]⟩]:=by simp [jC,nIf,jZ,NT.flags,dF]
 unfold NT.sorted
 rw [this,List.map_cons,List.map_nil,List.mergeSort_singleton]
 rfl
theorem nY:gB.sorted = []:=by
 have:gB.flags = []:=by simp [gB,NT.flags,dF]
 unfold NT.sorted
 rw [this,List.map_nil,List.mergeSort_nil];exact eP
theorem rF:aJ [97]=true:=by decide
theorem xR:aJ [98]=true:=by decide
end Go.Proofs.YthaaaecmeafofaaGreatDoor
namespace Go.Proofs.YthaaaecmeafofaaGreatDoor
open Go.RowKit
end Go.Proofs.YthaaaecmeafofaaGreatDoor
namespace Go.Proofs.YthaaaecmeafofaaGreatDoor
def nB1:NT:= .node 3 At.zero ⟨#[]⟩ false [jZ 98]
def rA:NT:= .node 2 ⟨⟨#[99]⟩,0,0,0,⟨#[]⟩,false⟩ ⟨#[]⟩ false []
def kA:NT:= .node 3 At.zero ⟨#[]⟩ false [rA]
def q0:PK:=⟨⟨#[97]⟩,1,1,[],nB1⟩
def q1:PK:=⟨⟨#[97]⟩,2,1,[⟨#[120]⟩],jC⟩
def q2:PK:=⟨⟨#[98]⟩,1,1,[],kA⟩
def q3:PK:=⟨⟨#[99]⟩,1,1,[],gB⟩
def aN:List PK:= [q0,q1,q2,q3]
def F3:List UInt8:= [97,32,49,32,49,32,32,40,32,98,32,41,10,97,32,50,32,49,32,120,32,40,32,120,63,32,40,32,98,32,41,32,41,10,98,32,49,32,49,32,32,40,32,33,99,32,41,10,99,32,49,32,49,32,32,40,32,41,10]
theorem wS:rA.ok:=by
 unfold rA
 rw [NT.ok]
 have h:aJ [99]=true:=by decide
 exact ⟨fV 2 _ (Or.inr rfl) (by show chk [99] 0 0 0 [] false=0;unfold chk;rw [if_neg (by simp [h]),if_neg (by decide),if_neg (by decide)]),trivial⟩
theorem xP:nB1.ok:=by
 unfold nB1
 rw [NT.ok,okL,okL]
 exact ⟨cW 3 _ (Or.inl rfl),sE (by decide),trivial⟩
theorem wW:kA.ok:=by
 unfold kA
 rw [NT.ok,okL,okL]
 exact ⟨cW 3 _ (Or.inl rfl),wS,trivial⟩
theorem iO:cR nB1=false/\cR kA=false:=by
 have i1:aH 1=2:=eU (by decide) (by decide)
 refine ⟨?_,?_⟩<;>simp [cR,nB1,kA,rA,jZ,bC,aZ,fN,i1]
theorem wV:cF nB1=0:=cJ.2 ⟨iO.1,xP⟩
theorem vM:cF kA=0:=cJ.2 ⟨iO.2,wW⟩
theorem rZ:hN aN=F3:=by
 simp [hN,gL,aN,q0,q1,q2,q3,nB1,kA,rA,jC,nIf,gB,NT.text,jZ,NT.words,aW,cN,bD,yP,yQ,F3,Lib.join]
theorem rP:nB1.sorted = []:=by
 have:nB1.flags = []:=by simp [nB1,jZ,NT.flags,dF]
 unfold NT.sorted
 rw [this,List.map_nil,List.mergeSort_nil];exact eP
theorem pY:kA.sorted = []:=by
 have:kA.flags = []:=by simp [kA,rA,NT.flags,dF]
 unfold NT.sorted
 rw [this,List.map_nil,List.mergeSort_nil];exact eP
theorem vA:cG [(⟨#[120]⟩:ByteArray)]=0:=by
 have n1:aJ [120]=true:=by decide
 simp [cG,aO,flE,n1]
theorem xK:fT [(⟨#[120]⟩:ByteArray)] [120]=true:=by unfold fT;rw [Lib.containsS_iff];simp
theorem xS:aJ [99]=true:=by decide
theorem xE:cL q0=0:=by
 have hk:nB1.kind=3:=rfl
 simp [cL,q0,rF,cG,aO,dP,hk,wV,rP]
theorem xF:cL q1=0:=by
 have hk:jC.kind=3:=rfl
 simp [cL,q1,rF,vA,dP,hk,vK,pX,xK]
theorem xG:cL q2=0:=by
 have hk:kA.kind=3:=rfl
 simp [cL,q2,xR,cG,aO,dP,hk,vM,pY]
theorem xH:cL q3=0:=by
 have hk:gB.kind=3:=rfl
 simp [cL,q3,xS,cG,aO,dP,hk,tL,nY]
theorem sR:cE q1 q0=true:=by simp [cE,q0,q1]
theorem sS:cE q2 q1=true:=by
 have h1:leS ⟨#[98]⟩ ⟨#[97]⟩=false:=by unfold leS;rw [Lib.toList_data,Lib.toList_data];decide
 simp [cE,q1,q2,h1]
theorem sT:cE q3 q2=true:=by
 have h1:leS ⟨#[99]⟩ ⟨#[98]⟩=false:=by unfold leS;rw [Lib.toList_data,Lib.toList_data];decide
 simp [cE,q3,q2,h1]
theorem eC:dD aN=0:=by
 have s1:cY aN 1=0:=rfl
 have s2:cY aN 2=1:=rfl
 have s3:cY aN 3=1:=rfl
 have s4:cY aN 4=1:=rfl
 have h8 : ¬ 8<aN.length:=by decide
 have hl:aN.length=4:=rfl
 unfold dD
 rw [if_neg h8]
 have e0:pkE aN 0=0:=by unfold pkE;rw [show aN.getD 0 PK.zero=q0 from rfl,xE];simp [s1,hl]
 have e1:pkE aN 1=0:=by unfold pkE;rw [show aN.getD 1 PK.zero=q1 from rfl,show aN.getD (1-1) PK.zero=q0 from rfl,xF,sR];simp [s2,hl]
 have e2:pkE aN 2=0:=by unfold pkE;rw [show aN.getD 2 PK.zero=q2 from rfl,show aN.getD (2-1) PK.zero=q1 from rfl,xG,sS];simp [s3,hl]
 have e3:pkE aN 3=0:=by unfold pkE;rw [show aN.getD 3 PK.zero=q3 from rfl,show aN.getD (3-1) PK.zero=q2 from rfl,xH,sT];simp [s4,hl]
 rw [hl]
 simp [aO,e0,e1,e2,e3]
theorem wG:rdT F3=(0,0,aN):=by
 rw [← rZ]
 exact vT eC (by rw [rZ];decide)
def atA:At:=⟨⟨#[97]⟩,0,0,0,⟨#[]⟩,false⟩
def wA:WI:=⟨[atA],[],[],[]⟩
def mA:List MB:= [⟨1,[false]⟩]
def mB:List MB:= [⟨1,[true]⟩]
def mC:List MB:= [⟨0,[]⟩,⟨2,[]⟩,⟨3,[]⟩]
theorem qQ:eY aN wA=0:=by
 have h1:bE aN []=0:=by unfold bE;rw [eC];rfl
 have h2:taE [atA]=0:=by
  have:gE atA=0:=by
   show chk [97] 0 0 0 [] false=0
   unfold chk
   rw [if_neg (by simp [rF]),if_neg (by decide),if_neg (by decide)]
  simp [taE,aO,this]
 unfold eY
 rw [show wA.ins = [] from rfl,show wA.ts = [atA] from rfl,show wA.ma = [] from rfl,show wA.on = [] from rfl,h1,h2]
 rfl
theorem yU:bE aN mA=0:=by
 unfold bE;rw [eC]
 show uU aN mA=0
 decide
theorem yV:bE aN mB=0:=by
 unfold bE;rw [eC]
 show uU aN mB=0
 decide
theorem yW:bE aN mC=0:=by
 unfold bE;rw [eC]
 show uU aN mC=0
 decide
theorem sL:bH aN wA mA=0/\bI aN wA mA=true:=by
 have h:bH aN wA mA=0:=by unfold bH;rw [qQ,yU];rfl
 refine ⟨h,?_⟩
 unfold bI
 rw [h]
 simp [jF,hJ,eX,pK,dK,aV,oI,dO,cM,eK,isB,bV,wA,mA,atA,aN,q0,q1,q2,q3,jC,nIf,jZ,bG,Lib.toList_data,gG]
theorem sM:bH aN wA mB=0/\bI aN wA mB=false:=by
 have h:bH aN wA mB=0:=by unfold bH;rw [qQ,yV];rfl
 refine ⟨h,?_⟩
 unfold bI
 rw [h]
 simp [jF,hJ,eX,pK,dK,aV,oI,dO,cM,eK,isB,bV,wA,mB,atA,aN,q0,q1,q2,q3,jC,nIf,jZ,bG,Lib.toList_data,gG]
theorem sN:bH aN wA mC=0/\bI aN wA mC=false:=by
 have h:bH aN wA mC=0:=by unfold bH;rw [qQ,yW];rfl
 refine ⟨h,?_⟩
 unfold bI
 rw [h]
 simp [jF,hJ,eX,pK,dK,aV,oI,dO,cM,eK,isB,bV,wA,mC,atA,aN,q0,q1,q2,q3,nB1,kA,rA,gB,jZ,bG,Lib.toList_data,gG]
end Go.Proofs.YthaaaecmeafofaaGreatDoor
namespace Go.Proofs.YthaaaecmeafofaaGreatDoor
open Go.RowKit Go.Sort
theorem rO (w:World) (hE:Env w) (hM:eN w) :
  Calls Tryz.prog 58 #[] w fun e w'=> ∃ v,e=.returned (.tuple #[.agg #[v],.bool true])/\aR (fun b=>w.heap.size<=b/\b<w'.heap.size) w' aN v/\aA w w'/\rY v:=by
 have HE:=hid hE
 have HM:=hid hM
 clear hE hM
 go_enter Tryz.func58,Tryz.ntmps58
 go_wp2_with fail
 refine bA (fun W'=>aA w W'/\aD w.heap.size 24 (.slice none 0 0) W') ⟨aA.alloc _ _,aD.new _ _ _⟩ ?_
 rintro W0 ⟨k0,v0⟩
 refine (lL _ W0 (HE.out.keep k0) (HM.out.keep k0)).mono ?_
 rintro e w1 ⟨v1,rfl,-,hp1,k1,hcap1⟩
 have hrd:rdT (ByteArray.mk #[97,32,49,32,49,32,32,40,32,98,32,41,10,97,32,50,32,49,32,120,32,40,32,120,63,32,40,32,98,32,41,32,41,10,98,32,49,32,49,32,32,40,32,33,99,32,41,10,99,32,49,32,49,32,32,40,32,41,10]).data.toList=(0,0,aN):=wG
 rw [hrd] at hp1 ⊢
 simp only at hp1 ⊢
 obtain ⟨p1,c1,rfl,-⟩:=hp1.len
 have hlen:aN.length=4:=rfl
 rw [hlen] at hp1 hcap1 ⊢
 have HCAP:=hid hcap1
 clear hcap1
 have K0s:=k0.size
 have hW0:w.heap.size+1<=W0.heap.size:=v0.facts.2.2
 have HP1:Hid (aR (fun b=>w.heap.size+1<=b/\b<w1.heap.size) w1 aN (.slice p1 4 c1)):=aR.mono (fun _ _=>rfl) (fun b hb=>⟨Nat.le_trans hW0 hb.1,hb.2⟩) hp1
 have K1:=hid (k0.trans k1)
 have V1:=hid (v0.keep k1 v0.facts.2.2)
 have hsz1:w.heap.size+1<=w1.heap.size:=by have:=V1.out.facts.2.2;omega
 clear k0 v0 hp1 k1 hrd hlen
 go_upto_region 2 with fail
 refine dJ (fun W'=>aA w W'/\aA w1 W'/\aD w.heap.size 24 (.slice none 0 0) W'/\aD w1.heap.size 24 (.slice p1 4 c1) W') ⟨K1.out.alloc' _,aA.alloc _ _,V1.out.keep (aA.alloc _ _) V1.out.facts.2.2,aD.new _ _ _⟩ ?_
 rintro W2 ⟨k2,k12,v2,t2⟩
 have K2:=hid k2
 have K12:=hid k12
 have V2:=hid v2
 obtain ⟨g1,z1,l1⟩:=v2.facts
 obtain ⟨g2,z2,l2⟩:=t2.facts
 clear k2 k12 v2 t2
 go_region
 have v3:=V2.out.set (.slice p1 4 c1)
 have HQ:Hid (aD w.heap.size 24 (.slice p1 4 c1) (W2.setCell ⟨w.heap.size,0,none⟩ (.slice p1 4 c1)).drew/\aA w (W2.setCell ⟨w.heap.size,0,none⟩ (.slice p1 4 c1)).drew/\aR (fun b=>w.heap.size<=b/\b<(W2.setCell ⟨w.heap.size,0,none⟩ (.slice p1 4 c1)).drew.heap.size) (W2.setCell ⟨w.heap.size,0,none⟩ (.slice p1 4 c1)).drew aN (.slice p1 4 c1)):=by
  have ap:=dI w.heap.size W2 (.slice p1 4 c1)
  have hz:W2.heap.size<=(W2.setCell ⟨w.heap.size,0,none⟩ (.slice p1 4 c1)).heap.size:=ap.size
  refine ⟨v3.keep (fL _) v3.facts.2.2,aA.trans (show aA w (W2.setCell ⟨w.heap.size,0,none⟩ (.slice p1 4 c1)) from Below.trans K2.out (ap.below K2.out.size fun b hb e=>by have:b=w.heap.size:=e;omega)) (fL _),?_⟩
  refine aR.mono (fun p hp=> ?_) (fun b hb=>⟨by omega,Nat.lt_of_lt_of_le hb.2 (Nat.le_trans K12.out.size hz)⟩) HP1.out
  exact (ap.cell p (Nat.lt_of_lt_of_le hp.2 K12.out.size) (fun e=>by have e':p.block=w.heap.size:=e;have:=hp.1;omega)).trans (K12.out.cell (p:=p) hp.2)
 clear v3 g1 z1 g2 z2
 go_wp2_with fail
 refine eB (v:= .tuple #[.agg #[.slice p1 4 c1],.bool true]) (fun W'=>aD w.heap.size 24 (.slice p1 4 c1) W'/\aA w W'/\aR (fun b=>w.heap.size<=b/\b<W'.heap.size) W' aN (.slice p1 4 c1)) ?_ rfl ?_
 ·exact HQ.out
 rintro W ⟨hb,hk,hp⟩
 obtain ⟨hcW,-,-⟩:=hb.facts
 exact ⟨by simp [results,Tryz.results58,go_sem,hcW],_,rfl,hp,hk,HCAP.out⟩
theorem tY (w:World) (hE:Env w) (hM:eN w) :
  Calls Tryz.prog 58 #[] w fun e w'=> ∃ v,e=.returned (.tuple #[.agg #[v],.bool true])/\aR (fun b=>w.heap.size<=b/\b<w'.heap.size) w' aN v/\aA w w':=
 (rO w hE hM).mono fun _ _ ⟨v,h1,h2,h3,_⟩=>⟨v,h1,h2,h3⟩
theorem fJ {W:World} {n:Nat} (h:W.heap.size=n) (cs:Array Value) (T:TypeId):aI n cs (W.alloc (.cells cs T)):=h ▸ aI.new W cs T
def inW (W:World) (b:Nat):Prop:=b<W.heap.size
theorem iE {b:Nat} {W:World} (hb:aI b #[.string ⟨#[97]⟩,.int .i64 0,.int .i64 0,.int .i64 0,.string ⟨#[]⟩,.bool false] W):fP (inW W) W wA (.slice (some ⟨b,0,none⟩) 1 1) (.slice none 0 0) (.slice none 0 0) (.slice none 0 0):=by
 refine ⟨⟨_,_,rfl,by decide,fun _=>⟨b,0,rfl,hb.1,fun j a ha=> ?_⟩⟩,⟨_,_,rfl,by decide,fun h=>absurd h (by decide)⟩,⟨_,_,rfl,by decide,fun h=>absurd h (by decide)⟩,⟨_,_,rfl,by decide,fun h=>absurd h (by decide)⟩⟩
 match j,ha with
 | 0,ha=>cases ha;exact ⟨hb.2 0,hb.2 1,hb.2 2,hb.2 3,hb.2 4,hb.2 5⟩
theorem sF {b c:Nat} {x:Bool} {W:World} (hb:aI b #[.int .i64 1,.slice (some ⟨c,0,none⟩) 1 1] W) (hc:aI c #[.bool x] W):bM (inW W) W [⟨1,[x]⟩] (.slice (some ⟨b,0,none⟩) 1 1):=by
 refine ⟨_,_,rfl,by simp,fun _=>⟨b,0,rfl,hb.1,fun j m hm=> ?_⟩⟩
 match j,hm with
 | 0,hm=>
  cases hm
  refine ⟨_,hb.2 0,hb.2 1,_,_,rfl,by simp,fun _=>⟨c,0,rfl,hc.1,fun j y hy=> ?_⟩⟩
  match j,hy with
  | 0,hy=>cases hy;exact hc.2 0
theorem tK {b:Nat} {W:World} (hb:aI b #[.int .i64 0,.slice none 0 0,.int .i64 2,.slice none 0 0,.int .i64 3,.slice none 0 0] W):bM (inW W) W mC (.slice (some ⟨b,0,none⟩) 3 3):=by
 refine ⟨_,_,rfl,by decide,fun _=>⟨b,0,rfl,hb.1,fun j m hm=> ?_⟩⟩
 match j,hm with
 | 0,hm=>cases hm;exact ⟨_,hb.2 0,hb.2 1,none,0,rfl,by simp,fun h=>absurd h (by simp)⟩
 | 1,hm=>cases hm;exact ⟨_,hb.2 2,hb.2 3,none,0,rfl,by simp,fun h=>absurd h (by simp)⟩
 | 2,hm=>cases hm;exact ⟨_,hb.2 4,hb.2 5,none,0,rfl,by simp,fun h=>absurd h (by simp)⟩
theorem gD (w:World) (hE:Env w) (hM:eN w) :
  Calls Tryz.prog 33 #[] w fun e w'=>e=.returned (.bool true)/\aA w w':=by
 go_enter Tryz.func33,Tryz.ntmps33
 go_wp2_with fail
 refine (tY w hE hM).mono ?_
 rintro e w1 ⟨v1,rfl,hp1,k1⟩
 obtain ⟨p1,c1,rfl,-⟩:=hp1.len
 have HP1:=hid (aR.mono (S':=inW w1) (fun _ _=>rfl) (fun b hb=>hb.2) hp1)
 have K1:=hid k1
 clear hp1 k1 hE hM
 go_wp2_with fail
 refine bA (fun W'=>aA w1 W'/\aD w1.heap.size 24 (.slice p1 aN.length c1) W'/\aI (w1.heap.size+1) #[.string ⟨#[97]⟩,.int .i64 0,.int .i64 0,.int .i64 0,.string ⟨#[]⟩,.bool false] W'/\aI (w1.heap.size+1+1) #[.slice (some ⟨w1.heap.size+1,0,none⟩) 1 1,.slice none 0 0,.slice none 0 0,.slice none 0 0] W'/\aI (w1.heap.size+1+1+1) #[.bool false] W'/\aI (w1.heap.size+1+1+1+1) #[.int .i64 1,.slice (some ⟨w1.heap.size+1+1+1,0,none⟩) 1 1] W')
  ⟨((((aA.alloc _ _).alloc' _).alloc' _).alloc' _).alloc' _,(aD.new _ _ _).keep ((((aA.alloc _ _).alloc' _).alloc' _).alloc' _) (by simp),(fJ (by simp) _ _).keep (((aA.alloc _ _).alloc' _).alloc' _) (by simp),(fJ (by simp) _ _).keep ((aA.alloc _ _).alloc' _) (by simp),(fJ (by simp) _ _).keep (aA.alloc _ _) (by simp),fJ (by simp) _ _⟩ ?_
 rintro W2 ⟨k2,v2,b2,x2,y2,z2⟩
 refine (dY (inW W2) aN wA mA _ _ _ _ _ _ W2 (fun _ h=>h) (aR.mono (bB (fun _ h=>h) k2) (fun b hb=>Nat.lt_of_lt_of_le hb k2.size) HP1.out) (iE b2) (sF z2 y2)).mono ?_
 rintro e w3 ⟨rfl,k3⟩
 rw [sL.1,sL.2]
 have K3:=hid (k2.trans k3)
 have V3:=hid (v2.keep k3 v2.facts.2.2)
 have B3:=hid (b2.keep k3 b2.1)
 have X3:=hid (x2.keep k3 x2.1)
 obtain ⟨hcv,-,hlv⟩:=V3.out.facts
 have hcx:=X3.out.2
 have hlx:=X3.out.1
 clear k2 v2 b2 x2 y2 z2 k3
 go_wp2_with fail
 refine bA (fun W'=>aA w1 W'/\aD w1.heap.size 24 (.slice p1 aN.length c1) W'/\aI (w1.heap.size+1) #[.string ⟨#[97]⟩,.int .i64 0,.int .i64 0,.int .i64 0,.string ⟨#[]⟩,.bool false] W'/\aI (w1.heap.size+1+1) #[.slice (some ⟨w1.heap.size+1,0,none⟩) 1 1,.slice none 0 0,.slice none 0 0,.slice none 0 0] W'/\aI w3.heap.size #[.bool true] W'/\aI (w3.heap.size+1) #[.int .i64 1,.slice (some ⟨w3.heap.size,0,none⟩) 1 1] W')
  ⟨(K3.out.alloc' _).alloc' _,V3.out.keep ((aA.alloc _ _).alloc' _) V3.out.facts.2.2,B3.out.keep ((aA.alloc _ _).alloc' _) B3.out.1,X3.out.keep ((aA.alloc _ _).alloc' _) X3.out.1,(aI.new _ _ _).keep (aA.alloc _ _) (by simp),fJ (by simp) _ _⟩ ?_
 rintro W4 ⟨k4,v4,b4,x4,y4,z4⟩
 refine (dY (inW W4) aN wA mB _ _ _ _ _ _ W4 (fun _ h=>h) (aR.mono (bB (fun _ h=>h) k4) (fun b hb=>Nat.lt_of_lt_of_le hb k4.size) HP1.out) (iE b4) (sF z4 y4)).mono ?_
 rintro e w5 ⟨rfl,k5⟩
 rw [sM.1,sM.2]
 have K5:=hid (k4.trans k5)
 have V5:=hid (v4.keep k5 v4.facts.2.2)
 have B5:=hid (b4.keep k5 b4.1)
 have X5:=hid (x4.keep k5 x4.1)
 clear k4 v4 b4 x4 y4 z4 k5 hcv hlv hcx hlx
 obtain ⟨hcv,-,hlv⟩:=V5.out.facts
 have hcx:=X5.out.2
 have hlx:=X5.out.1
 go_wp2_with fail
 refine bA (fun W'=>aA w1 W'/\aD w1.heap.size 24 (.slice p1 aN.length c1) W'/\aI (w1.heap.size+1) #[.string ⟨#[97]⟩,.int .i64 0,.int .i64 0,.int .i64 0,.string ⟨#[]⟩,.bool false] W'/\aI (w1.heap.size+1+1) #[.slice (some ⟨w1.heap.size+1,0,none⟩) 1 1,.slice none 0 0,.slice none 0 0,.slice none 0 0] W'/\aI w5.heap.size #[.int .i64 0,.slice none 0 0,.int .i64 2,.slice none 0 0,.int .i64 3,.slice none 0 0] W')
  ⟨K5.out.alloc' _,V5.out.keep (aA.alloc _ _) V5.out.facts.2.2,B5.out.keep (aA.alloc _ _) B5.out.1,X5.out.keep (aA.alloc _ _) X5.out.1,aI.new _ _ _⟩ ?_
 rintro W6 ⟨k6,v6,b6,x6,z6⟩
 refine (dY (inW W6) aN wA mC _ _ _ _ _ _ W6 (fun _ h=>h) (aR.mono (bB (fun _ h=>h) k6) (fun b hb=>Nat.lt_of_lt_of_le hb k6.size) HP1.out) (iE b6) (tK z6)).mono ?_
 rintro e w7 ⟨rfl,k7⟩
 rw [sN.1,sN.2]
 have K7:=hid (K1.out.trans (k6.trans k7))
 clear k6 v6 b6 x6 z6 k7 hcv hlv hcx hlx
 go_wp2_with fail
 go_ret
 exact ⟨rfl,K7.out⟩
def w0:WI:=⟨[],[],[],[]⟩
def wM (ma:List Int):WI:=⟨[],[],ma,[]⟩
theorem mM {ps:List PK} (h:dD ps=0):bE ps []=0:=by unfold bE;rw [h];rfl
theorem iS {ps:List PK} {wi:WI} {ms:List MB} (h:bH ps wi ms=0):bE ps ms=0/\dD ps=0/\aO (maE ps wi.ma) 0 wi.ma.length=0:=by
 unfold bH at h
 split at h
 ·rename_i hn;exact absurd h hn
 ·rename_i hn
  have hw:=Decidable.of_not_not hn
  refine ⟨h,oC h,?_⟩
  unfold eY at hw
  split at hw
  ·rename_i hn;exact absurd hw hn
  ·split at hw
   ·rename_i hn;exact absurd hw hn
   ·split at hw
    ·rename_i hn;exact absurd hw hn
    ·rename_i hn;exact Decidable.of_not_not hn
theorem uV {ps:List PK} {ma:List Int} (h:dD ps=0) (hm:aO (maE ps ma) 0 ma.length=0):eY ps (wM ma)=0:=by
 unfold eY
 rw [show (wM ma).ins = [] from rfl,show (wM ma).ts = [] from rfl,show (wM ma).ma=ma from rfl,show (wM ma).on = [] from rfl,mM h,hm]
 rfl
theorem vG {ps:List PK} {wi:WI} {ms:List MB} (h:bH ps wi ms=0):bH ps w0 ms=0:=by
 obtain ⟨h1,h2,-⟩:=iS h
 unfold bH
 rw [show eY ps w0=0 from uV h2 rfl]
 exact h1
theorem mH {ps:List PK} {ma:List Int} {ms:List MB} : ∀ n,eX ps ma ms n=true->eX ps [] ms n=true
 | 0,_=>rfl
 | n+1,h=>by
  rw [eX,Bool.and_eq_true] at h
  rw [eX,Bool.and_eq_true]
  refine ⟨mH n h.1,?_⟩
  have:=h.2
  unfold pK at this ⊢
  simp only [Bool.and_eq_true] at this ⊢
  exact ⟨⟨by simp,this.1.2⟩,this.2⟩
theorem xM {ps:List PK} {wi:WI} {ms:List MB} (hr:bI ps wi ms=true):bI ps w0 ms=true:=by
 unfold bI at hr ⊢
 rw [Bool.and_eq_true] at hr
 have h0:=vG (of_decide_eq_true hr.1)
 rw [h0]
 have h2:=hr.2
 unfold jF at h2 ⊢
 rw [Bool.and_eq_true] at h2
 rw [show hJ ps ms w0.ts=true from rfl,show w0.ma = [] from rfl,mH _ h2.2]
 rfl
theorem oJ {ps:List PK} {ma:List Int} {ms:List MB} : ∀ n,eX ps ma ms n=true->∀ k,k<n->pK ps ma ms k=true
 | 0,_,k,hk=>absurd hk (Nat.not_lt_zero _)
 | n+1,h,k,hk=>by
  rw [eX,Bool.and_eq_true] at h
  by_cases e:k=n
  ·rw [e];exact h.2
  ·exact oJ n h.1 k (by omega)
theorem bare_holds {ps:List PK} {ms:List MB} (h:bI ps w0 ms=true) : ∀ k,k<ms.length->dK ps ms k=true:=by
 intro k hk
 unfold bI jF at h
 rw [Bool.and_eq_true,Bool.and_eq_true] at h
 have:=oJ _ h.2.2 k hk
 unfold pK at this
 simp only [Bool.and_eq_true] at this
 exact this.1.2
theorem tG {ps:List PK} {ms:List MB} (h:bE ps ms=0) (k:Nat) (hk:k<ms.length):dN ps ms k=0/\gI ps ms k=dK ps ms k:=by
 have h1:dN ps ms k=0:=by unfold dN;rw [h,if_neg (by simp),if_neg (by omega)]
 refine ⟨h1,?_⟩
 unfold gI
 rw [h1];simp
theorem rG {ps:List PK} {ma:List Int} (h:dD ps=0) (hm:aO (maE ps ma) 0 ma.length=0):bH ps (wM ma) []=0/\bI ps (wM ma) []=true:=by
 have h1:bH ps (wM ma) []=0:=by unfold bH;rw [uV h hm];exact mM h
 refine ⟨h1,?_⟩
 unfold bI
 rw [h1];rfl
theorem pM (S:Nat->Prop) (w:World) (ma:List Int) (mav:Value) (h:cP S w ma mav):fP S w (wM ma) (.slice none 0 0) (.slice none 0 0) mav (.slice none 0 0):=
 ⟨⟨_,_,rfl,Nat.zero_le _,fun h=>absurd h (Nat.lt_irrefl 0)⟩,⟨_,_,rfl,⟨Nat.zero_le _,Nat.zero_le _⟩,fun h=>absurd h (Nat.lt_irrefl 0)⟩,h,⟨_,_,rfl,Nat.zero_le _,fun h=>absurd h (Nat.lt_irrefl 0)⟩⟩
theorem wX (S:Nat->Prop) (w:World):bM S w [] (.slice none 0 0):=⟨_,_,rfl,by decide,fun h=>absurd h (by decide)⟩
theorem lM (S:Nat->Prop) (ps:List PK) (wi:WI) (ms:List MB) (tv tsv inv mav onv lv:Value) (w:World) (hS : ∀ b,S b->b<w.heap.size) (hp:aR S w ps tv) (hw:fP S w wi tsv inv mav onv) (hm:bM S w ms lv) (hE:Env w) (hM:eN w) :
  Calls Tryz.prog 7 #[.agg #[tv],.agg #[tsv,inv,mav,onv],lv] w fun e w'=>e=.returned (.bool true)/\aA w w':=by
 have HP:=hid hp
 have HW:=hid hw
 have HMS:=hid hm
 have HE:=hid hE
 have HM:=hid hM
 obtain ⟨tp,tc,rfl,htlen⟩:=hp.len
 obtain ⟨p0,c0,rfl,hl0⟩:=hw.ts.len
 obtain ⟨p1,c1,rfl,hl1⟩:=hw.ins.len
 obtain ⟨p2,c2,rfl,hl2⟩:=hw.ma.len
 obtain ⟨p3,c3,rfl,hl3⟩:=hw.on.len
 obtain ⟨lp,lc,rfl,hllen⟩:=hm.len
 clear hp hw hm hE hM
 go_enter Tryz.func7,Tryz.ntmps7
 go_wp2_with fail
 refine bA (fun W'=>aA w W'/\aD w.heap.size 24 (.slice tp ps.length tc) W'/\aI (w.heap.size+1) #[.slice p0 wi.ts.length c0,.slice p1 wi.ins.length c1,.slice p2 wi.ma.length c2,.slice p3 wi.on.length c3] W') ⟨(aA.alloc _ _).alloc' _,(aD.new _ _ _).keep (aA.alloc _ _) (by simp),fJ (by simp) _ _⟩ ?_
 rintro W0 ⟨k0,v0,b0⟩
 refine (dY S ps wi ms _ _ _ _ _ _ W0 (fun b hb=>Nat.lt_of_lt_of_le (hS b hb) k0.size) (HP.out.keep hS k0) (HW.out.keep hS k0) (HMS.out.keep hS k0)).mono ?_
 rintro e w1 ⟨rfl,k1⟩
 have K1:=hid (k0.trans k1)
 have V1:=hid (v0.keep k1 v0.facts.2.2)
 have B1:=hid (b0.keep k1 b0.1)
 clear k0 v0 b0 k1
 by_cases hz:bH ps wi ms=0
 ·obtain ⟨hts,hct,hma⟩:=iS hz
  have HE1:=hid (vG hz)
  have HR1:Hid (bI ps wi ms=true->bI ps w0 ms=true):=xM
  have HH:=hid (bare_holds (ps:=ps) (ms:=ms))
  have HIN:=hid (tG hts)
  have HNO:=hid (rG hct hma)
  rw [hz]
  generalize bI ps wi ms=r1 at HR1 ⊢
  clear hz hts hct hma
  go_wp2_with fail
  refine (gD w1 (HE.out.keep K1.out) (HM.out.keep K1.out)).mono ?_
  rintro e w2 ⟨rfl,k2⟩
  have K2:=hid (K1.out.trans k2)
  have V2:=hid (V1.out.keep k2 V1.out.facts.2.2)
  have B2:=hid (B1.out.keep k2 B1.out.1)
  clear k2 K1 V1 B1
  obtain ⟨hct,-,hlt⟩:=V2.out.facts
  go_wp2_with fail
  refine (dY S ps w0 ms _ _ _ _ _ _ w2 (fun b hb=>Nat.lt_of_lt_of_le (hS b hb) K2.out.size) (HP.out.keep hS K2.out) (pM S w2 [] (.slice none 0 0) ⟨_,_,rfl,by decide,fun h=>absurd h (by decide)⟩) (HMS.out.keep hS K2.out)).mono ?_
  rintro e w3 ⟨rfl,k3⟩
  rw [HE1.out]
  have K3:=hid (K2.out.trans k3)
  have V3:=hid (V2.out.keep k3 V2.out.facts.2.2)
  have B3:=hid (B2.out.keep k3 B2.out.1)
  clear k3 K2 V2 B2 hct hlt HE1
  generalize bI ps w0 ms=r2 at HR1 HH ⊢
  have hcond : ¬ (r1=true/\r2=false):=fun ⟨h1,h2⟩=>by
   have:=HR1.out h1
   rw [h2] at this;cases this
  have hnext : ∀ (k:Nat),k<ms.length->r2=true->dK ps ms k=true:=fun k hk h=>HH.out h k hk
  have HNX:=hid hnext
  clear HR1 HH hnext
  have tail:Hid (∀ (W:World),aA w W->aD w.heap.size 24 (.slice tp ps.length tc) W->aI (w.heap.size+1) #[.slice p0 wi.ts.length c0,.slice p1 wi.ins.length c1,.slice p2 wi.ma.length c2,.slice p3 wi.on.length c3] W->True):=fun _ _ _ _=>trivial
  clear tail
  cases r1<;>cases r2
  case true.false=>exact absurd ⟨rfl,rfl⟩ hcond
  all_goals
   clear hcond
   go_wp2_with fail
   go_loopg [46] ms.length (fun gk i wr=> ∃ j:Nat,j+gk=ms.length/\i=.int .i64 j/\aA w wr/\aD w.heap.size 24 (.slice tp ps.length tc) wr/\aI (w.heap.size+1) #[.slice p0 wi.ts.length c0,.slice p1 wi.ins.length c1,.slice p2 wi.ma.length c2,.slice p3 wi.on.length c3] wr)
   case atStart=>exact ⟨0,by simp,rfl,K3.out,V3.out,B3.out⟩
   case round=>
    obtain ⟨j,hj,rfl,hkp,hvt,hbx⟩:=hrel
    have HK:=hid hkp
    have HV:=hid hvt
    have HB:=hid hbx
    obtain ⟨hct,-,hltv⟩:=hvt.facts
    have hcb:=hbx.2
    have hlb:=hbx.1
    clear hkp hvt hbx K3 V3 B3
    by_cases hlt:j<ms.length
    ·obtain ⟨hi1,hi2⟩:=HIN.out j hlt
     have HI1:=hid hi1
     have HI2:=hid hi2
     have HN1:=hid (HNX.out j hlt)
     clear hi1 hi2
     go_wp2_with fail
     refine (nP S ps ms _ _ j wr (fun b hb=>Nat.lt_of_lt_of_le (hS b hb) HK.out.size) (HP.out.keep hS HK.out) (HMS.out.keep hS HK.out)).mono ?_
     rintro e w4 ⟨rfl,k4⟩
     rw [HI1.out,HI2.out]
     have K4:=hid (HK.out.trans k4)
     have V4:=hid (HV.out.keep k4 HV.out.facts.2.2)
     have B4:=hid (HB.out.keep k4 HB.out.1)
     clear k4 hct hcb HI1 HI2
     first
      | (have hh:dK ps ms j=true:=HN1.out (by trivial)
         rw [hh]
         clear hh HN1)
      | (generalize dK ps ms j=β at HN1 ⊢
         clear HN1)
     go_wp2_with fail
     go_roundg (ms.length-(j+1))
     case rel=>exact ⟨j+1,by omega,by go_num,K4.out,V4.out,B4.out⟩
     case measure=>omega
    ·go_wp2_with fail
     refine (dY S ps (wM wi.ma) [] _ _ _ _ _ _ wr (fun b hb=>Nat.lt_of_lt_of_le (hS b hb) HK.out.size) (HP.out.keep hS HK.out) (pM S wr wi.ma _ (HW.out.keep hS HK.out).ma) (wX S wr)).mono ?_
     rintro e w4 ⟨rfl,k4⟩
     rw [HNO.out.1,HNO.out.2]
     have K4:=hid (HK.out.trans k4)
     clear k4 hct hcb
     go_wp2_with fail
     go_ret
     exact ⟨rfl,K4.out⟩
 ·generalize bH ps wi ms=ve at hz ⊢
  have hz1:(ve==0)=false:=by simp [hz]
  have hz2:(ve != 0)=true:=by simp [hz]
  generalize bI ps wi ms=r1
  clear hz
  go_wp2_with fail
  refine (gD w1 (HE.out.keep K1.out) (HM.out.keep K1.out)).mono ?_
  rintro e w2 ⟨rfl,k2⟩
  have K2:=hid (K1.out.trans k2)
  clear k2
  go_wp2_with fail
  refine (gD w2 (HE.out.keep K2.out) (HM.out.keep K2.out)).mono ?_
  rintro e w3 ⟨rfl,k3⟩
  have K3:=hid (K2.out.trans k3)
  clear k3
  go_wp2_with fail
  go_ret
  exact ⟨rfl,K3.out⟩
end Go.Proofs.YthaaaecmeafofaaGreatDoor
namespace Go.Proofs.YthaaaecmeafofaaGreatDoor
open Go.RowKit
theorem iF {P:Program} {w:World} : ∀ {l:List (String × DataW Unit)} {ps:List MemPlace} {x:String × DataW Unit},DataW.LaidVars P w l ps->x∈l->∃ qs,DataW.LaidVars P w [x] qs/\qs.Sublist ps
 | [],_,_,_,hx=>by cases hx
 | (n,d) :: r,ps,x,h,hx=>by
  obtain ⟨g,t,cs,fuel,p,q,h1,h2,h3,h4,h5,rfl⟩:=h
  rcases List.mem_cons.1 hx with rfl | hx
  ·exact ⟨MemPlace.row ⟨g,0,none⟩ cs.size++p ++ [],⟨g,t,cs,fuel,p,[],h1,h2,h3,h4,rfl,rfl⟩,by rw [List.append_nil];exact List.sublist_append_left _ _⟩
  ·obtain ⟨qs,h6,h7⟩:=iF h5 hx
   exact ⟨qs,h6,h7.trans (List.sublist_append_right _ _)⟩
theorem eV {P:Program} {w:World} {l:List (String × DataW Unit)} {x:String × DataW Unit} (h:laidMet P l w) (hx:x∈l):laidMet P [x] w:=by
 obtain ⟨ps,h1,h2,h3⟩:=h
 obtain ⟨qs,h4,h5⟩:=iF h1 hx
 exact ⟨qs,h4,h5.nodup h2,fun b off hb=>h3 b off (h5.subset hb)⟩
theorem iG {w:World} {b o:Nat} {v:Value} (h:w.cell? ⟨b,o,none⟩=some v):b<w.heap.size:=by
 rcases Nat.lt_or_ge b w.heap.size with h' | h'
 ·exact h'
 ·simp [World.cell?,Array.getElem?_eq_none h'] at h
theorem vB : Tryz.prog.globalNamed "quartermaster/atom.signs" = some 8 := by kernel_rfl
theorem xX:(Tryz.prog.globals[8]?).map (·.type)=some 324:=by kernel_rfl
theorem zB:(Tryz.prog.globals[1]?).map (·.type)=some 270:=by kernel_rfl
theorem yY:Tryz.prog.cellsOf 270=20:=by kernel_rfl
theorem yZ:Tryz.prog.cellsOf 237=1:=by kernel_rfl
theorem qI:Tryz.prog.cellsOf 9=1:=by kernel_rfl
theorem yA:Tryz.prog.cellsOf 319=1:=by kernel_rfl
theorem yO : Tryz.prog.globalNamed "strconv.ErrSyntax" = some 6 := by kernel_rfl
theorem zD:(Tryz.prog.globals[6]?).map (·.type)=some 260:=by kernel_rfl
theorem yN : Tryz.prog.globalNamed "strconv.ErrRange" = some 7 := by kernel_rfl
theorem zC:(Tryz.prog.globals[7]?).map (·.type)=some 260:=by kernel_rfl
theorem yX : "*" ++ "errors.errorString" = "*errors.errorString" := by decide
theorem vV (u : TypeId) (h : Tryz.prog.typeName? 3 u = some "*errors.errorString") : u = 317 :=
 typeName_ptr_named (nm := "errors.errorString") (by rw [yX]; kernel_rfl) (by kernel_rfl) (by decide) u (by rw [yX]; exact h)
theorem vY {W : World} (h : laidMet Tryz.prog [("quartermaster/atom.signs", Rows.laid_quartermaster_atom_signs)] W) : oH W := by
 obtain ⟨ps,⟨g,t,cs,fuel,p,q,hg,ht,hv,hd,_,_⟩,_⟩:=h
 obtain rfl:=Option.some.inj (vB.symm.trans hg)
 obtain rfl:=Option.some.inj (xX.symm.trans ht)
 obtain ⟨xs,m,rfl,hx,hlen,hn,hel⟩:=DataW.trod_array Tryz.underlying324 hd
 simp only [Rows.laid_quartermaster_atom_signs,Prod.mk.injEq,DataW.agg.injEq] at hx
 match xs,hn,hx,hel with
 | [x0,x1,x2,x3],_,hx,hel=>
  have cell : ∀ (k:Nat) (x:DataW Unit × List MemPlace) (l:List UInt8),k<4->[x0,x1,x2,x3][k]? = some x->x.1=.lit (.string l)->W.cell? ⟨8,k,none⟩=some (.string ⟨l.toArray⟩):=by
   intro k x l hk hxk hl
   have h1:=hel k hk
   rw [hxk] at h1
   obtain ⟨s,e1,e2,_⟩:=DataW.trod_string Tryz.underlying9 h1
   rw [e2] at hl
   have hs:s.data.toList=l:=by simpa using hl
   have hs':s=⟨l.toArray⟩:=by cases s;simp at hs;rw [← hs]
   have h2:=World.var?_cell vB hv k
   rw [qI,Nat.mul_one] at e1
   have h3:cs[k]? = some (.string s):=by
    have:=congrArg (·[0]?) e1
    simpa [List.getElem?_take,List.getElem?_drop] using this
   rw [h2,h3,hs']
  simp only [List.map_cons,List.map_nil,List.cons.injEq,and_true] at hx
  have c1:=cell 1 x1 [61] (by decide) rfl hx.1.2.1.symm
  refine ⟨iG c1,c1,cell 2 x2 [62,61] (by decide) rfl hx.1.2.2.1.symm,cell 3 x3 [60] (by decide) rfl hx.1.2.2.2.symm⟩
theorem xI {W : World} {l : List (String × DataW Unit)} (h : laidMet Tryz.prog l W) (h1 : ("quartermaster/atom.signs", Rows.laid_quartermaster_atom_signs) ∈ l) (h2 : ("internal/strconv.uint64pow10", Rows.laid_internal_strconv_uint64pow10) ∈ l)
  (h3 : ("strconv.ErrSyntax", Rows.laid_strconv_ErrSyntax) ∈ l) (h4 : ("strconv.ErrRange", Rows.laid_strconv_ErrRange) ∈ l) : Env W := by
 have tab : Lib.TabIs Tryz.prog W "internal/strconv.uint64pow10" .u64 Lib.pow10Tab := Lib.tabIs_of_head (rest := []) eW zB Tryz.underlying270 Tryz.underlying237 yZ yY (eV h h2)
 obtain ⟨a0,s0,hv0,-,-,-⟩:=laid_sentinel (eV h h3) yO zD Tryz.underlying260 vV Tryz.underlying317 Tryz.underlying319 rfl rfl Tryz.underlying9 yA qI
 obtain ⟨a1,s1,hv1,-,-,-⟩:=laid_sentinel (eV h h4) yN zC Tryz.underlying260 vV Tryz.underlying317 Tryz.underlying319 rfl rfl Tryz.underlying9 yA qI
 have c0:W.cell? ⟨6,0,none⟩=some (.iface 317 (.pointer (some a0))):=by simpa using World.var?_cell yO hv0 0
 have c1:W.cell? ⟨7,0,none⟩=some (.iface 317 (.pointer (some a1))):=by simpa using World.var?_cell yN hv1 0
 exact ⟨vY (eV h h1),⟨iG (tab.cell eW 0 (by decide)),tab⟩,⟨iG c0,_,_,c0⟩,⟨iG c1,_,_,c1⟩⟩
end Go.Proofs.YthaaaecmeafofaaGreatDoor
namespace Go.Proofs.YthaaaecmeafofaaGreatDoor
open Go.ChangeShapes Go.WideShapes Go.ChangeAt Go.RowKit Go.Joins
theorem hU:Tryz.prog.cellsOf 71=6:=by kernel_rfl
theorem dV:Tryz.prog.cellsOf 3=1:=by kernel_rfl
theorem hY:Tryz.prog.cellsOf 4=1:=by kernel_rfl
end Go.Proofs.YthaaaecmeafofaaGreatDoor
namespace Go.Proofs.YthaaaecmeafofaaGreatDoor
open Go.ChangeShapes Go.WideShapes Go.ChangeAt Go.RowKit Go.Joins
theorem hZ:Tryz.prog.cellsOf 74=10:=by kernel_rfl
theorem kJ:Tryz.prog.cellsOf 72=1:=by kernel_rfl
theorem yS {α:Type} {cs:List α} (h:cs.length=6) : ∃ c0 c1 c2 c3 c4 c5,cs = [c0,c1,c2,c3,c4,c5]:=by
 match cs,h with
 | [c0,c1,c2,c3,c4,c5],_=>exact ⟨c0,c1,c2,c3,c4,c5,rfl⟩
theorem xN {α:Type} {cs:List α} (h:cs.length=10) : ∃ c0 c1 c2 c3 c4 c5 c6 c7 c8 c9,cs = [c0,c1,c2,c3,c4,c5,c6,c7,c8,c9]:=by
 match cs,h with
 | [c0,c1,c2,c3,c4,c5,c6,c7,c8,c9],_=>exact ⟨c0,c1,c2,c3,c4,c5,c6,c7,c8,c9,rfl⟩
section
variable {H:Type} {enc:TypeId × Value->H} {w:World} {base:Nat} {sp:Nat->Bool} {held:Bool}
theorem mY {fuel:Nat} {cs:List Value} {x:DataW H × List MemPlace} (h:DataW.trod enc Tryz.prog w base sp held fuel 71 cs=some x) : ∃ a:At,cs = [.string a.n,.int .i64 a.op,.int .i64 a.v,.int .i64 a.sl,.string a.f,.bool a.on]:=by
 obtain ⟨xs,m,_,hx,hl,hlen,hel⟩:=DataW.trod_struct Tryz.underlying71 h
 obtain ⟨c0,c1,c2,c3,c4,c5,rfl⟩:=yS (hl.trans hU)
 match xs,hlen with
 | [y0,y1,y2,y3,y4,y5],_=>
  obtain ⟨n,e0,g0,_⟩:=DataW.trod_string Tryz.underlying9 (by simpa using hel 0 _ rfl)
  obtain ⟨op,e1,g1,_⟩:=DataW.trod_int Tryz.underlying3 (by simpa using hel 1 _ rfl)
  obtain ⟨v,e2,g2,_⟩:=DataW.trod_int Tryz.underlying3 (by simpa using hel 2 _ rfl)
  obtain ⟨sl,e3,g3,_⟩:=DataW.trod_int Tryz.underlying3 (by simpa using hel 3 _ rfl)
  obtain ⟨f,e4,g4,_⟩:=DataW.trod_string Tryz.underlying9 (by simpa using hel 4 _ rfl)
  obtain ⟨on,e5,g5⟩:=DataW.trod_bool Tryz.underlying4 (by simpa using hel 5 _ rfl)
  refine ⟨⟨n,op,v,sl,f,on⟩,?_⟩
  simp [dV,hY,qI] at e0 e1 e2 e3 e4 e5
  rw [e0,e1,e2,e3,e4,e5]
theorem uD : ∀ (fuel:Nat) (cs:List Value) (x:DataW H × List MemPlace),DataW.trod enc Tryz.prog w base sp held fuel 74 cs=some x->∃ t:NT,aC (fun b=>b<w.heap.size) w t cs:=by
 intro fuel
 induction fuel using Nat.strongRecOn with
 | ind fuel ih=>
 intro cs x h
 obtain ⟨xs,m,hm,hx,hl,hlen,hel⟩:=DataW.trod_struct Tryz.underlying74 h
 obtain ⟨c0,c1,c2,c3,c4,c5,c6,c7,c8,c9,rfl⟩:=xN (hl.trans hZ)
 match xs,hlen with
 | [y0,y1,y2,y3,y4],_=>
  obtain ⟨k,e0,-,-⟩:=DataW.trod_int Tryz.underlying3 (by simpa using hel 0 _ rfl)
  obtain ⟨a,e1⟩:=mY (by simpa using hel 1 _ rfl)
  obtain ⟨fl,e2,-,-⟩:=DataW.trod_string Tryz.underlying9 (by simpa using hel 2 _ rfl)
  obtain ⟨nt,e3,-⟩:=DataW.trod_bool Tryz.underlying4 (by simpa using hel 3 _ rfl)
  have hs:=DataW.trod_slice Tryz.underlying72 (show DataW.trod enc Tryz.prog w base sp held m 72 _=some y4 by simpa using hel 4 _ rfl)
  simp [dV,hY,qI,hU] at e0 e1 e2 e3
  obtain ⟨e10,e11,e12,e13,e14,e15⟩:=e1
  rcases hs with ⟨e4,-⟩ | ⟨ad,len,cap,elems,rest,mm,hmm,e4,-,-,hlc,hcm,hle,hcell,-,-⟩
  ·simp [kJ] at e4
   refine ⟨.node k a fl nt [],?_⟩
   rw [aC]
   exact ⟨none,0,by rw [e0,e10,e11,e12,e13,e14,e15,e2,e3,e4];rfl,Nat.le_refl _,by simp,by rw [aP];trivial⟩
  ·simp [kJ] at e4
   have key : ∀ (q i:Nat),i+q=len->∃ ts:List NT,ts.length=q/\aP (fun b=>b<w.heap.size) w ts (some ad) i:=by
    intro q
    induction q with
    | zero=>intro i _;exact ⟨[],rfl,by rw [aP];trivial⟩
    | succ q ihq=>
     intro i hi
     obtain ⟨ts,hts,hk⟩:=ihq (i+1) (by omega)
     have hci:=hcell i (by omega)
     rw [hZ,List.getElem?_eq_getElem (by omega)] at hci
     obtain ⟨csi,hc1,hc2⟩:=Option.bind_eq_some_iff.1 hci
     obtain ⟨t,ht⟩:=ih mm (by omega) csi _ hc2
     obtain ⟨hb1,hb2,hb3⟩:=World.cells?_some hc1
     have hblk:=World.cells?_block hc1 (by decide)
     refine ⟨t :: ts,by simp [hts],?_⟩
     rw [aP]
     refine ⟨⟨ad,csi,rfl,by rw [gR] at hblk;exact hblk,fun j v hv=> ?_,ht⟩,hk⟩
     have hj:j<10:=by rw [← hb2];exact (List.getElem?_eq_some_iff.1 hv).1
     rw [hb3 j hj];exact hv
   obtain ⟨ts,hts,hk⟩:=key len 0 (by omega)
   refine ⟨.node k a fl nt ts,?_⟩
   rw [aC]
   exact ⟨some ad,cap,by rw [e0,e10,e11,e12,e13,e14,e15,e2,e3,e4,hts],by omega,by unfold maxLen at hcm;omega,hk⟩
end
theorem vH {w:World} (h:w.ShapedOpen Tryz.prog):eN w:=by
 obtain ⟨m,hm⟩:=cell_of_shapedOpen_int (g:=0) (t:=3) (zero:=#[.int .i64 0]) (k:= .i64) h (of_decide_eq_true (by kernel_rfl)) (by kernel_rfl) rfl (by kernel_rfl) (by kernel_rfl) Tryz.underlying3
 exact ⟨iG hm,m,hm⟩
theorem mD {H:Type} {enc:TypeId × Value->H} {a:Assume} {C:Checked} {os:Os} {f:FuncId} {fn:Func} {s:ChangeSpec} {conds:List PathCond} {apart fresh handsOn again:Bool} {X:World->Array Value->Prop}
  (hX : ∀ (w w':World) (args:Array Value),w.heap=w'.heap->X w args->X w' args)
  (own:ownKnob C.prog.godebug=none) (started:os.Started) (noInit:C.prog.inits.idxOf? f=none) (hfn:C.prog.funcs[f]? = some fn)
  (witness : ∃ (w:World) (tape:Tape) (i:Input),w.os=os/\(w.forCall tape i).Shaped C.prog/\i.vars = []/\Input.okWide C.prog (w.forCall tape i) .any w.heap.size f i/\
   ((s.pre enc C.prog fn conds apart (w.forCall tape i).memory i.args/\X (w.forCall tape i).memory i.args)/\sizedMet enc C.prog fn (OpenSpec.ofChange s) apart (w.forCall tape i).memory i.args)/\a.holds C.prog (lone (Frame.enter C.prog f i.args .normal) [] (w.forCall tape i)))
  (kK : ∀ (W:World) (base:Nat) (args:Array Value) (ds gs:List (DataW H)) (before:List MemPlace),
   (∀ (j:Nat) t v,fn.params[j]? = some t->args[j]? = some v->Value.okWide C.prog W .any base t v)->
   DataW.Whole enc C.prog fn.params.toList s.vars apart W args.toList ds gs before->
   X W args->W.ShapedOpen C.prog->
   Calls C.prog f args W fun e W'=> ∃ v,e=.returned v/\s.post enc C.prog fn apart fresh handsOn again W args v W') :
  ReturnsInHanded a C os f .any (fun w args=>(s.pre enc C.prog fn conds apart w args/\X w args)/\sizedMet enc C.prog fn (OpenSpec.ofChange s) apart w args) (s.post enc C.prog fn apart fresh handsOn again):=by
 refine returnsInHanded_of_calls own started noInit witness ?_
 intro w tape i _ hsh _ hok hpre _
 obtain ⟨_,_,_,fn',hfn',_,_,_,_,hval⟩:=hok
 obtain rfl:fn'=fn:=Option.some.inj (hfn'.symm.trans hfn)
 obtain ⟨⟨⟨ds,gs,before,hw,_⟩,hx⟩,_⟩:=hpre
 have hw':=DataW.Whole.of_heap (w':=w.forCall tape i) (by rfl) hw
 refine (kK (w.forCall tape i) w.heap.size i.args ds gs before hval hw' (hX _ _ _ (by rfl) hx) hsh).mono fun e W' ⟨v,he,hp⟩=> ?_
 subst he
 exact ChangeSpec.post_blind hp
end Go.Proofs.YthaaaecmeafofaaGreatDoor
