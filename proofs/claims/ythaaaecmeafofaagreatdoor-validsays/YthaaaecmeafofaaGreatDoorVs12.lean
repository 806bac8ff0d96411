/- Steps of the proof: ValidValid, NeedNeeded, TreeForest, ValidSmall, ValidAllowed, RefSame, ShelfB. -/
import Derived.Test.YthaaaecmeafofaaGreatDoorVs11
import Derived.Test.YthaaaecmeafofaaGreatDoorVs07
import Derived.Test.YthaaaecmeafofaaGreatDoorVs09
import Derived.BigRegion
import Derived.Shelf.Strings.Trim
import Derived.Shelf.LaysM
import Derived.Shelf.LaysC
import Derived.Shelf.Strings.Search2
import Derived.Shelf.Strings.Search3
import Derived.Shelf.Sort.Plain
import Derived.Shelf.Slices.In.SortNone2
import Derived.Test.YthaaaecmeafofaaGreatDoorProg
set_option maxHeartbeats 16000000
set_option maxRecDepth 100000
namespace Go.Proofs.YthaaaecmeafofaaGreatDoor
open Go.RowKit Go.Sort
def cN (ps:List PK) (ms:List MB) (k:Int):Bool:=decide (cA ps ms k=0)&&dY ps ms k.toNat
theorem qC (S:Nat->Prop) (ps:List PK) (ms:List MB) (tv lv:Value) (k:Int) (w:World) (hS : ∀ b,S b->b<w.heap.size) (hp:aT S w ps tv) (hm:bS S w ms lv) :
  Calls Tryz.prog 31 #[.agg #[tv],lv,.int .i64 k] w fun e w'=>e=.returned (.tuple #[.bool (cN ps ms k),.int .i64 (cA ps ms k)])/\aA w w':=by
 have HP:=hid hp
 have HMS:=hid hm
 obtain ⟨tp,tc,rfl,hlen⟩:=hp.len
 obtain ⟨lp,lc,rfl,hllen⟩:=hm.len
 have HX:Hid (cA ps ms k=if bK ps ms≠0 then bK ps ms else if k<0∨(ms.length:Int)<=k then 5 else 0):=rfl
 have HR:Hid (cN ps ms k=(decide (cA ps ms k=0)&&dY ps ms k.toNat)):=rfl
 clear hp hm
 go_enter Tryz.func31,Tryz.ntmps31
 go_wp2_with fail
 refine bE (fun W'=>aA w W'/\aD w.heap.size 24 (.slice tp ps.length tc) W') ⟨aA.alloc _ _,aD.new _ _ _⟩ ?_
 rintro W0 ⟨k0,v0⟩
 refine (hJ S ps ms _ _ W0 (fun b hb=>Nat.lt_of_lt_of_le (hS b hb) k0.size) (HP.out.keep hS k0) (HMS.out.keep hS k0)).mono ?_
 rintro e w1 ⟨rfl,k1⟩
 have K1:=hid (k0.trans k1)
 have V1:=hid (v0.keep k1 v0.facts.2.2)
 clear k0 v0 k1
 by_cases hz:bK ps ms=0
 ·have HOK:=hid (iR hz)
  have HCT:=hid (vH hz)
  have HX1:Hid (cA ps ms k=if k<0∨(ms.length:Int)<=k then 5 else 0):=by show _=_;rw [HX.out,if_neg (fun h=>h hz)]
  rw [hz]
  clear hz HX
  by_cases h0:k<0
  ·have HY:Hid (cA ps ms k=5):=by show _=_;rw [HX1.out,if_pos (Or.inl h0)]
   have HZ:Hid (cN ps ms k=false):=by show _=_;rw [HR.out,HY.out];rfl
   clear HX1 HR
   go_wp2_with fail
   go_ret2
   exact ⟨by rw [HY.out,HZ.out];rfl,K1.out⟩
  by_cases h1:(ms.length:Int)<=k
  ·have HY:Hid (cA ps ms k=5):=by show _=_;rw [HX1.out,if_pos (Or.inr h1)]
   have HZ:Hid (cN ps ms k=false):=by show _=_;rw [HR.out,HY.out];rfl
   clear HX1 HR
   go_wp2_with fail
   go_ret2
   exact ⟨by rw [HY.out,HZ.out];rfl,K1.out⟩
  obtain ⟨q,rfl⟩ : ∃ q:Nat,k=q:=⟨k.toNat,by omega⟩
  have hq:q<ms.length:=by omega
  have HY:Hid (cA ps ms (q:Int)=0):=by show _=_;rw [HX1.out,if_neg (by omega)]
  have HZ:Hid (cN ps ms (q:Int)=dY ps ms q):=by show _=_;rw [HR.out,HY.out];simp
  obtain ⟨hct,-,hlt⟩:=V1.out.facts
  clear HX1 HR
  go_wp2_with fail
  refine (oV S ps ms _ _ q w1 (fun b hb=>Nat.lt_of_lt_of_le (hS b hb) K1.out.size) (HP.out.keep hS K1.out) (HMS.out.keep hS K1.out) hq HOK.out HCT.out).mono ?_
  rintro e w2 ⟨rfl,k2⟩
  have K2:=hid (K1.out.trans k2)
  clear k2 hct
  go_wp2_with fail
  go_ret2
  exact ⟨by rw [HY.out,HZ.out];rfl,K2.out⟩
 ·have HY:Hid (cA ps ms k=bK ps ms):=by show _=_;rw [HX.out,if_pos hz]
  have HZ:Hid (cN ps ms k=false):=by show _=_;rw [HR.out,HY.out,decide_eq_false hz];rfl
  generalize bK ps ms=ct at HY hz ⊢
  have hz1:(ct==0)=false:=by simp [hz]
  have hz2:(ct != 0)=true:=by simp [hz]
  clear hz HX HR
  go_wp2_with fail
  go_ret2
  exact ⟨by rw [HY.out,HZ.out];rfl,K1.out⟩
def cD (ps:List PK) (wi:WI) (ms:List MB):Bool:=decide (cB ps wi ms=0)&&fP ps wi ms
theorem lI (S:Nat->Prop) (zs:List Int) (v:Value) (x:Int) (w:World) (h:dW S w zs v) :
  Calls Tryz.prog 78 #[v,.int .i64 x] w fun e w'=>e=.returned (.bool (zs.contains x))/\w'=w:=by
 obtain ⟨p,c,rfl,hl⟩:=h.len
 by_cases h0:zs = []
 ·subst h0
  refine (Tryz.slices_Contains_int_empty p c x w).mono ?_
  rintro e w' ⟨rfl,rfl⟩
  exact ⟨rfl,rfl⟩
 ·obtain ⟨g,off,rfl,-,hc⟩:=h.get (List.length_pos_iff.2 h0)
  refine (Tryz.slices_Contains_int g off zs.length c zs x w (Nat.le_refl _) hl hc).mono ?_
  rintro e w' ⟨rfl,rfl⟩
  exact ⟨aE (by rw [List.take_length]),rfl⟩
theorem pU {ps:List PK} {ma:List Int} {ms:List MB} : ∀ {i:Nat} (j:Nat),gE ps ma ms i=false->gE ps ma ms (i+j)=false
 | _,0,h=>h
 | i,j+1,h=>by
  rw [← Nat.add_assoc,gE,pU j h];rfl
theorem jH (S:Nat->Prop) (ps:List PK) (wi:WI) (ms:List MB) (tv tsv inv mav onv lv:Value) (w:World) (hS : ∀ b,S b->b<w.heap.size) (hp:aT S w ps tv) (hw:gD S w wi tsv inv mav onv) (hm:bS S w ms lv) :
  Calls Tryz.prog 28 #[.agg #[tv],.agg #[tsv,inv,mav,onv],lv] w fun e w'=>e=.returned (.tuple #[.bool (cD ps wi ms),.int .i64 (cB ps wi ms)])/\aA w w':=by
 have HP:=hid hp
 have HW:=hid hw
 have HMS:=hid hm
 obtain ⟨tp,tc,rfl,htlen⟩:=hp.len
 obtain ⟨p0,c0,rfl,hl0⟩:=hw.ts.len
 obtain ⟨p1,c1,rfl,hl1⟩:=hw.ins.len
 obtain ⟨p2,c2,rfl,hl2⟩:=hw.ma.len
 obtain ⟨p3,c3,rfl,hl3⟩:=hw.on.len
 obtain ⟨lp,lc,rfl,hllen⟩:=hm.len
 have HX:Hid (cB ps wi ms=if dN ps wi≠0 then dN ps wi else bK ps ms):=rfl
 have HR:Hid (cD ps wi ms=(decide (cB ps wi ms=0)&&(gX ps ms wi.ts&&gE ps wi.ma ms ms.length))):=rfl
 clear hp hw hm
 go_enter Tryz.func28,Tryz.ntmps28
 go_wp2_with fail
 refine bE (fun W'=>aA w W'/\aD w.heap.size 24 (.slice tp ps.length tc) W'/\aG (w.heap.size+1) #[.slice p0 wi.ts.length c0,.slice p1 wi.ins.length c1,.slice p2 wi.ma.length c2,.slice p3 wi.on.length c3] W') ⟨(aA.alloc _ _).alloc' _,(aD.new _ _ _).keep (aA.alloc _ _) (by simp),?_⟩ ?_
 ·have:=aG.new (w.alloc (.cells #[.slice tp ps.length tc] 24)) #[.slice p0 wi.ts.length c0,.slice p1 wi.ins.length c1,.slice p2 wi.ma.length c2,.slice p3 wi.on.length c3] 46
  rw [aJ] at this;exact this
 rintro W0 ⟨k0,v0,b0⟩
 refine (gF S ps wi _ _ _ _ _ W0 (fun b hb=>Nat.lt_of_lt_of_le (hS b hb) k0.size) (HP.out.keep hS k0) (HW.out.keep hS k0)).mono ?_
 rintro e w1 ⟨rfl,k1⟩
 have K1:=hid (k0.trans k1)
 have V1:=hid (v0.keep k1 v0.facts.2.2)
 have B1:=hid (b0.keep k1 b0.1)
 clear k0 v0 b0 k1
 by_cases hz:dN ps wi=0
 ·have HX1:Hid (cB ps wi ms=bK ps ms):=by show _=_;rw [HX.out,if_neg (fun h=>h hz)]
  rw [hz]
  clear hz HX
  obtain ⟨hct,-,hlt⟩:=V1.out.facts
  go_wp2_with fail
  refine (hJ S ps ms _ _ w1 (fun b hb=>Nat.lt_of_lt_of_le (hS b hb) K1.out.size) (HP.out.keep hS K1.out) (HMS.out.keep hS K1.out)).mono ?_
  rintro e w2 ⟨rfl,k2⟩
  have K2:=hid (K1.out.trans k2)
  have V2:=hid (V1.out.keep k2 V1.out.facts.2.2)
  have B2:=hid (B1.out.keep k2 B1.out.1)
  clear k2 V1 B1 hct hlt
  by_cases hz:bK ps ms=0
  ·have HOK:=hid (iR hz)
   have HCT:=hid (vH hz)
   have HE0:Hid (cB ps wi ms=0):=by show _=_;rw [HX1.out,hz]
   have HR1:Hid (cD ps wi ms=(gX ps ms wi.ts&&gE ps wi.ma ms ms.length)):=by show _=_;rw [HR.out,HE0.out];simp
   rw [hz]
   have hcb:=B2.out.2
   have hlb:=B2.out.1
   clear hz HX1 HR
   go_wp2_with fail
   clear hcb hlb
   go_loopg [28] wi.ts.length (fun gk i wr=> ∃ j:Nat,j+gk=wi.ts.length/\i=.int .i64 j/\(wi.ts.take j).all (fun a=>bY ps ms (-1) a)=true/\aA w wr/\aD w.heap.size 24 (.slice tp ps.length tc) wr/\aG (w.heap.size+1) #[.slice p0 wi.ts.length c0,.slice p1 wi.ins.length c1,.slice p2 wi.ma.length c2,.slice p3 wi.on.length c3] wr)
   case atStart=>exact ⟨0,by simp,rfl,by simp,K2.out,V2.out,B2.out⟩
   case round=>
    obtain ⟨j,hj,rfl,hall,hkp,hvt,hbx⟩:=hrel
    have HALL:=hid hall
    have HK:=hid hkp
    have HV:=hid hvt
    have HB:=hid hbx
    clear hall hkp hvt hbx K2 V2 B2
    by_cases hlt:j<wi.ts.length
    ·obtain ⟨b,off,hp,hSb,c0',c1',c2',c3',c4',c5'⟩:=(HW.out.keep hS HK.out).ts.get hlt
     subst hp
     have HST:Hid ((wi.ts.take (j+1)).all (fun a=>bY ps ms (-1) a)=bY ps ms (-1) wi.ts[j]):=by
      show _=_
      rw [List.take_succ_eq_append_getElem hlt,List.all_append,HALL.out];simp
     have HNO:Hid (bY ps ms (-1) wi.ts[j]=false->cD ps wi ms=false):=fun h=>by
      rw [HR1.out]
      have:gX ps ms wi.ts=false:=by
       unfold gX
       rw [List.all_eq_false]
       exact ⟨wi.ts[j],List.getElem_mem hlt,by rw [h];decide⟩
      rw [this];rfl
     generalize wi.ts[j]=a at c0' c1' c2' c3' c4' c5' HST HNO
     obtain ⟨hct,-,hltt⟩:=HV.out.facts
     go_wp2_with fail
     refine bE (fun W'=>aA wr W') (aA.alloc _ _) ?_
     intro W3 k3
     refine (gL S ps ms _ _ (-1) a.n a.f a.op a.v a.sl a.on W3 (fun b hb=>Nat.lt_of_lt_of_le (Nat.lt_of_lt_of_le (hS b hb) HK.out.size) k3.size) (HP.out.keep hS (HK.out.trans k3)) (HMS.out.keep hS (HK.out.trans k3)) HOK.out).mono ?_
     rintro e w4 ⟨rfl,k4⟩
     have K4':=hid (k3.trans k4)
     have K4:=hid (HK.out.trans K4'.out)
     have V4:=hid (HV.out.keep K4'.out HV.out.facts.2.2)
     have B4:=hid (HB.out.keep K4'.out HB.out.1)
     clear k3 k4 c0' c1' c2' c3' c4' c5' hct
     have HST2:Hid ((wi.ts.take (j+1)).all (fun a=>bY ps ms (-1) a)=bY ps ms (-1) ⟨a.n,a.op,a.v,a.sl,a.f,a.on⟩):=HST.out
     have HNO2:Hid (bY ps ms (-1) ⟨a.n,a.op,a.v,a.sl,a.f,a.on⟩=false->cD ps wi ms=false):=HNO.out
     generalize bY ps ms (-1) ⟨a.n,a.op,a.v,a.sl,a.f,a.on⟩=β at HST2 HNO2 ⊢
     clear HST HNO
     cases β
     ·have HF:=hid (HNO2.out rfl)
      clear HNO2
      go_wp2_with fail
      go_ret2
      exact ⟨by rw [HF.out,HE0.out];rfl,K4.out⟩
     ·clear HNO2
      go_wp2_with fail
      go_roundg (wi.ts.length-(j+1))
      case rel=>exact ⟨j+1,by omega,by go_num,HST2.out,K4.out,V4.out,B4.out⟩
      case measure=>omega
    ·obtain rfl:j=wi.ts.length:=by omega
     have HR2:Hid (cD ps wi ms=gE ps wi.ma ms ms.length):=by
      show _=_
      have h:=HALL.out
      rw [List.take_length] at h
      rw [HR1.out,show gX ps ms wi.ts=true from h];rfl
     clear HALL HR1 hj hlt
     go_wp2_with fail
     go_loopg [40] ms.length (fun gk i wr'=> ∃ j:Nat,j+gk=ms.length/\i=.int .i64 j/\gE ps wi.ma ms j=true/\aA w wr'/\aD w.heap.size 24 (.slice tp ps.length tc) wr'/\aG (w.heap.size+1) #[.slice p0 wi.ts.length c0,.slice p1 wi.ins.length c1,.slice p2 wi.ma.length c2,.slice p3 wi.on.length c3] wr')
     case atStart=>exact ⟨0,by simp,rfl,rfl,HK.out,HV.out,HB.out⟩
     case round=>
      obtain ⟨j,hj,rfl,hall,hkp,hvt,hbx⟩:=hrel
      clear HK HV HB
      have HALL:=hid hall
      have HK:=hid hkp
      have HV:=hid hvt
      have HB:=hid hbx
      clear hall hkp hvt hbx
      by_cases hlt:j<ms.length
      ·have hSr : ∀ b,S b->b<wr.heap.size:=fun b hb=>Nat.lt_of_lt_of_le (hS b hb) HK.out.size
       obtain ⟨mb,moff,mcap,hmv,hmS,-,hrow⟩:=(HMS.out.keep hS HK.out).get hlt
       cases hmv
       obtain ⟨op,oc,hc0,-,-,-⟩:=hrow j _ (List.getElem?_eq_getElem hlt)
       have HST:Hid (gE ps wi.ma ms (j+1)=(!wi.ma.contains ms[j].pl&&dY ps ms j && !dI ps ms j j)):=by
        show _=_
        rw [gE,HALL.out,wL,cJ ms j hlt];rfl
       have HNO:Hid (gE ps wi.ma ms (j+1)=false->cD ps wi ms=false):=fun h=>by
        have:=pU (ms.length-(j+1)) h
        rw [show j+1+(ms.length-(j+1))=ms.length by omega] at this
        rw [HR2.out];exact this
       generalize ms[j].pl=pl at hc0 HST
       have hmlt:=hSr mb hmS
       clear hrow HALL
       go_upto_region 16 with fail
       have dw : ∀ o d os,(grow (redrawn wr d) os).cell? ⟨w.heap.size+1,o,none⟩=(#[.slice p0 wi.ts.length c0,.slice p1 wi.ins.length c1,.slice p2 wi.ma.length c2,.slice p3 wi.on.length c3]:Array Value)[o]? :=fun o d os=>(HB.out.keep (below_regrown wr d os) HB.out.1).2 o
       have dt : ∀ d os,(grow (redrawn wr d) os).cell? ⟨w.heap.size,0,none⟩=some (.slice tp ps.length tc):=fun d os=>((below_regrown wr d os).cell (p:=⟨w.heap.size,0,none⟩) HV.out.facts.2.2).trans HV.out.facts.1
       have dm : ∀ d os,(grow (redrawn wr d) os).cell? ⟨mb,moff+j*2,none⟩=some (.int .i64 pl):=fun d os=>((below_regrown wr d os).cell (p:=⟨mb,moff+j*2,none⟩) hmlt).trans hc0
       have hSg : ∀ d os b,S b->b<(grow (redrawn wr d) os).heap.size:=fun d os b hb=>Nat.lt_of_lt_of_le (hSr b hb) (below_regrown wr d os).size
       generalize hb1:wi.ma.contains pl=β1 at HST
       generalize hb2:dY ps ms j=β2 at HST
       generalize hb3:dI ps ms j j=β3 at HST
       have cC:=hid (show ∀ d os,Calls Tryz.prog 78 #[.slice p2 wi.ma.length c2,.int .i64 pl] (grow (redrawn wr d) os) fun e w''=>e=.returned (.bool β1)/\∃ p:Regrown,w''=grow (redrawn wr p.d) p.os from fun d os=>by
        rw [← hb1]
        refine (lI S wi.ma _ pl _ (HW.out.ma.keep hS (HK.out.trans (below_regrown wr d os)))).mono ?_
        rintro e w' ⟨rfl,rfl⟩
        exact ⟨rfl,⟨d,os⟩,rfl⟩)
       have cH:=hid (show ∀ d os,Calls Tryz.prog 79 #[.agg #[.slice tp ps.length tc],.slice (some ⟨mb,moff,none⟩) ms.length lc,.int .i64 j] (grow (redrawn wr d) os) fun e w''=>e=.returned (.bool β2)/\∃ p:Regrown,w''=grow (redrawn wr p.d) p.os from fun d os=>by
        rw [← hb2]
        exact Calls.regrown_of (oV S ps ms _ _ j _ (hSg d os) (HP.out.keep hS (HK.out.trans (below_regrown wr d os))) (HMS.out.keep hS (HK.out.trans (below_regrown wr d os))) hlt HOK.out HCT.out))
       have cS:=hid (show ∀ d os,Calls Tryz.prog 80 #[.agg #[.slice tp ps.length tc],.slice (some ⟨mb,moff,none⟩) ms.length lc,.int .i64 j] (grow (redrawn wr d) os) fun e w''=>e=.returned (.bool β3)/\∃ p:Regrown,w''=grow (redrawn wr p.d) p.os from fun d os=>by
        rw [← hb3]
        exact Calls.regrown_of (uI S ps ms _ _ j _ (hSg d os) (HP.out.keep hS (HK.out.trans (below_regrown wr d os))) (HMS.out.keep hS (HK.out.trans (below_regrown wr d os))) hlt HOK.out))
       clear hc0 hSg hb1 hb2 hb3
       cases β1
       ·cases β2
        ·refine wp_region_quiet_below (by kernel_rfl) (by kernel_rfl) ?_
         repeat (first | go_big_quiet_step (first | exact cC.out _ _ | exact cH.out _ _ | exact cS.out _ _) | quiet_step (first | exact cC.out _ _ | exact cH.out _ _ | exact cS.out _ _))
         refine wpQuiet_nil ?_
         intro _ hw'
         obtain ⟨⟨dq,osq⟩,hw''⟩:=hw'
         subst hw''
         have k4:=below_regrown wr dq osq
         generalize grow (redrawn wr dq) osq=W4 at k4 ⊢
         have K4:=hid (HK.out.trans k4)
         have V4:=hid (HV.out.keep k4 HV.out.facts.2.2)
         have B4:=hid (HB.out.keep k4 HB.out.1)
         clear dw dt dm cC cH cS k4
         have HF:=hid (HNO.out HST.out)
         clear HNO
         go_wp2_with fail
         go_ret2
         exact ⟨by rw [HF.out,HE0.out];rfl,K4.out⟩
        ·cases β3
         ·refine wp_region_quiet_below (by kernel_rfl) (by kernel_rfl) ?_
          repeat (first | go_big_quiet_step (first | exact cC.out _ _ | exact cH.out _ _ | exact cS.out _ _) | quiet_step (first | exact cC.out _ _ | exact cH.out _ _ | exact cS.out _ _))
          refine wpQuiet_nil ?_
          intro _ hw'
          obtain ⟨⟨dq,osq⟩,hw''⟩:=hw'
          subst hw''
          have k4:=below_regrown wr dq osq
          generalize grow (redrawn wr dq) osq=W4 at k4 ⊢
          have K4:=hid (HK.out.trans k4)
          have V4:=hid (HV.out.keep k4 HV.out.facts.2.2)
          have B4:=hid (HB.out.keep k4 HB.out.1)
          clear dw dt dm cC cH cS k4
          clear HNO
          go_wp2_with fail
          go_roundg (ms.length-(j+1))
          case rel=>exact ⟨j+1,by omega,by go_num,HST.out,K4.out,V4.out,B4.out⟩
          case measure=>omega
         ·refine wp_region_quiet_below (by kernel_rfl) (by kernel_rfl) ?_
          repeat (first | go_big_quiet_step (first | exact cC.out _ _ | exact cH.out _ _ | exact cS.out _ _) | quiet_step (first | exact cC.out _ _ | exact cH.out _ _ | exact cS.out _ _))
          refine wpQuiet_nil ?_
          intro _ hw'
          obtain ⟨⟨dq,osq⟩,hw''⟩:=hw'
          subst hw''
          have k4:=below_regrown wr dq osq
          generalize grow (redrawn wr dq) osq=W4 at k4 ⊢
          have K4:=hid (HK.out.trans k4)
          have V4:=hid (HV.out.keep k4 HV.out.facts.2.2)
          have B4:=hid (HB.out.keep k4 HB.out.1)
          clear dw dt dm cC cH cS k4
          have HF:=hid (HNO.out HST.out)
          clear HNO
          go_wp2_with fail
          go_ret2
          exact ⟨by rw [HF.out,HE0.out];rfl,K4.out⟩
       ·refine wp_region_quiet_below (by kernel_rfl) (by kernel_rfl) ?_
        repeat (first | go_big_quiet_step (first | exact cC.out _ _ | exact cH.out _ _ | exact cS.out _ _) | quiet_step (first | exact cC.out _ _ | exact cH.out _ _ | exact cS.out _ _))
        refine wpQuiet_nil ?_
        intro _ hw'
        obtain ⟨⟨dq,osq⟩,hw''⟩:=hw'
        subst hw''
        have k4:=below_regrown wr dq osq
        generalize grow (redrawn wr dq) osq=W4 at k4 ⊢
        have K4:=hid (HK.out.trans k4)
        have V4:=hid (HV.out.keep k4 HV.out.facts.2.2)
        have B4:=hid (HB.out.keep k4 HB.out.1)
        clear dw dt dm cC cH cS k4
        have HF:=hid (HNO.out HST.out)
        clear HNO
        go_wp2_with fail
        go_ret2
        exact ⟨by rw [HF.out,HE0.out];rfl,K4.out⟩
      ·obtain rfl:j=ms.length:=by omega
       go_wp2_with fail
       go_ret2
       exact ⟨by rw [HR2.out,HALL.out,HE0.out];rfl,HK.out⟩
  ·have HY:Hid (cB ps wi ms=bK ps ms):=HX1.out
   have HZ:Hid (cD ps wi ms=false):=by show _=_;rw [HR.out,HY.out,decide_eq_false hz];rfl
   generalize bK ps ms=ct at HY hz ⊢
   have hz1:(ct==0)=false:=by simp [hz]
   have hz2:(ct != 0)=true:=by simp [hz]
   clear hz HX1 HR
   go_wp2_with fail
   go_ret2
   exact ⟨by rw [HY.out,HZ.out];rfl,K2.out⟩
 ·have HY:Hid (cB ps wi ms=dN ps wi):=by show _=_;rw [HX.out,if_pos hz]
  have HZ:Hid (cD ps wi ms=false):=by show _=_;rw [HR.out,HY.out,decide_eq_false hz];rfl
  generalize dN ps wi=ct at HY hz ⊢
  have hz1:(ct==0)=false:=by simp [hz]
  have hz2:(ct != 0)=true:=by simp [hz]
  clear hz HX HR
  go_wp2_with fail
  go_ret2
  exact ⟨by rw [HY.out,HZ.out];rfl,K1.out⟩
end Go.Proofs.YthaaaecmeafofaaGreatDoor
namespace Go.Proofs.YthaaaecmeafofaaGreatDoor
open Go.RowKit
def lS (c:UInt8):NT:= .node 1 ⟨⟨#[c]⟩,0,0,0,⟨#[]⟩,false⟩ ⟨#[]⟩ false []
end Go.Proofs.YthaaaecmeafofaaGreatDoor
namespace Go.Proofs.YthaaaecmeafofaaGreatDoor
def nIf:NT:= .node 5 At.zero ⟨#[120]⟩ false [lS 98]
def kU:NT:= .node 3 At.zero ⟨#[]⟩ false [nIf]
def iC:NT:= .node 3 At.zero ⟨#[]⟩ false []
def F2:List UInt8:= [97,32,49,32,49,32,120,44,121,32,40,32,120,63,32,40,32,98,32,41,32,41,10,98,32,50,32,49,32,32,40,32,41,10]
theorem vA {c:UInt8} (h:aH [c]=true):(lS c).ok:=by
 unfold lS
 rw [NT.ok]
 exact ⟨hP 1 _ (Or.inl rfl) (by show chk [c] 0 0 0 [] false=0;unfold chk;rw [if_neg (by simp [h]),if_neg (by decide),if_neg (by decide)]),trivial⟩
theorem aBd:nIf.ok:=by
 unfold nIf
 rw [NT.ok,okL,okL]
 exact ⟨rW _ _ _ (by decide),vA (by decide),trivial⟩
theorem aAe:kU.ok:=by
 unfold kU
 rw [NT.ok,okL,okL]
 exact ⟨dR 3 _ (Or.inl rfl),aBd,trivial⟩
theorem yT:iC.ok:=by
 unfold iC
 rw [NT.ok,okL]
 exact ⟨dR 3 _ (Or.inl rfl),trivial⟩
theorem lK:cO nIf=false/\cO kU=false/\cO iC=false:=by
 have i1:aL 1=2:=eK (by decide) (by decide)
 have i2:aL 2=3:=eK (by decide) (by decide)
 refine ⟨?_,?_,?_⟩<;>simp [cO,nIf,kU,iC,lS,bI,aZ,fN,i1,i2]
theorem yS:cF kU=0:=dD.2 ⟨lK.2.1,aAe⟩
theorem wM:cF iC=0:=dD.2 ⟨lK.2.2,yT⟩
theorem aCd:Lib.itoa 1 = [49]:=rQ (k:=1) (by decide)
theorem aCe:Lib.itoa 2 = [50]:=rQ (k:=2) (by decide)
theorem sI:kU.sorted = [[120]]:=by
 have:kU.flags = [⟨#[120]⟩]:=by simp [kU,nIf,lS,NT.flags,bP]
 unfold NT.sorted
 rw [this,List.map_cons,List.map_nil,List.mergeSort_singleton]
 rfl
theorem qL:iC.sorted = []:=by
 have:iC.flags = []:=by simp [iC,NT.flags,bP]
 unfold NT.sorted
 rw [this,List.map_nil,List.mergeSort_nil];exact fU
theorem uB:aH [97]=true:=by decide
theorem aBe:aH [98]=true:=by decide
end Go.Proofs.YthaaaecmeafofaaGreatDoor
namespace Go.Proofs.YthaaaecmeafofaaGreatDoor
open Go.RowKit
end Go.Proofs.YthaaaecmeafofaaGreatDoor
namespace Go.Proofs.YthaaaecmeafofaaGreatDoor
def nB1:NT:= .node 3 At.zero ⟨#[]⟩ false [lS 98]
def tV:NT:= .node 2 ⟨⟨#[99]⟩,0,0,0,⟨#[]⟩,false⟩ ⟨#[]⟩ false []
def lT:NT:= .node 3 At.zero ⟨#[]⟩ false [tV]
def q0:PK:=⟨⟨#[97]⟩,1,1,[],nB1⟩
def q1:PK:=⟨⟨#[97]⟩,2,1,[⟨#[120]⟩],kU⟩
def q2:PK:=⟨⟨#[98]⟩,1,1,[],lT⟩
def q3:PK:=⟨⟨#[99]⟩,1,1,[],iC⟩
def aP:List PK:= [q0,q1,q2,q3]
def F3:List UInt8:= [97,32,49,32,49,32,32,40,32,98,32,41,10,97,32,50,32,49,32,120,32,40,32,120,63,32,40,32,98,32,41,32,41,10,98,32,49,32,49,32,32,40,32,33,99,32,41,10,99,32,49,32,49,32,32,40,32,41,10]
theorem aAc:tV.ok:=by
 unfold tV
 rw [NT.ok]
 have h:aH [99]=true:=by decide
 exact ⟨hP 2 _ (Or.inr rfl) (by show chk [99] 0 0 0 [] false=0;unfold chk;rw [if_neg (by simp [h]),if_neg (by decide),if_neg (by decide)]),trivial⟩
theorem aBc:nB1.ok:=by
 unfold nB1
 rw [NT.ok,okL,okL]
 exact ⟨dR 3 _ (Or.inl rfl),vA (by decide),trivial⟩
theorem aAg:lT.ok:=by
 unfold lT
 rw [NT.ok,okL,okL]
 exact ⟨dR 3 _ (Or.inl rfl),aAc,trivial⟩
theorem kI:cO nB1=false/\cO lT=false:=by
 have i1:aL 1=2:=eK (by decide) (by decide)
 refine ⟨?_,?_⟩<;>simp [cO,nB1,lT,tV,lS,bI,aZ,fN,i1]
theorem aAf:cF nB1=0:=dD.2 ⟨kI.1,aBc⟩
theorem yU:cF lT=0:=dD.2 ⟨kI.2,aAg⟩
theorem uU:jJ aP=F3:=by
 simp [jJ,iM,aP,q0,q1,q2,q3,nB1,lT,tV,kU,nIf,iC,NT.text,lS,NT.words,bB,dL,bL,aCd,aCe,F3,Lib.join]
theorem uK:nB1.sorted = []:=by
 have:nB1.flags = []:=by simp [nB1,lS,NT.flags,bP]
 unfold NT.sorted
 rw [this,List.map_nil,List.mergeSort_nil];exact fU
theorem sJ:lT.sorted = []:=by
 have:lT.flags = []:=by simp [lT,tV,NT.flags,bP]
 unfold NT.sorted
 rw [this,List.map_nil,List.mergeSort_nil];exact fU
theorem yG:bR [(⟨#[120]⟩:ByteArray)]=0:=by
 have n1:aH [120]=true:=by decide
 simp [bR,aI,flE,n1]
theorem aAy:dU [(⟨#[120]⟩:ByteArray)] [120]=true:=by unfold dU;rw [Lib.containsS_iff];simp
theorem aBf:aH [99]=true:=by decide
theorem aAs:cU q0=0:=by
 have hk:nB1.kind=3:=rfl
 simp [cU,q0,uB,bR,aI,dE,hk,aAf,uK]
theorem aAt:cU q1=0:=by
 have hk:kU.kind=3:=rfl
 simp [cU,q1,uB,yG,dE,hk,yS,sI,aAy]
theorem aAu:cU q2=0:=by
 have hk:lT.kind=3:=rfl
 simp [cU,q2,aBe,bR,aI,dE,hk,yU,sJ]
theorem aAv:cU q3=0:=by
 have hk:iC.kind=3:=rfl
 simp [cU,q3,aBf,bR,aI,dE,hk,wM,qL]
theorem vO:bZ q1 q0=true:=by simp [bZ,q0,q1]
theorem vP:bZ q2 q1=true:=by
 have h1:leS ⟨#[98]⟩ ⟨#[97]⟩=false:=by unfold leS;rw [Lib.toList_data,Lib.toList_data];decide
 simp [bZ,q1,q2,h1]
theorem vQ:bZ q3 q2=true:=by
 have h1:leS ⟨#[99]⟩ ⟨#[98]⟩=false:=by unfold leS;rw [Lib.toList_data,Lib.toList_data];decide
 simp [bZ,q3,q2,h1]
theorem fD:cG aP=0:=by
 have s1:bM aP 1=0:=rfl
 have s2:bM aP 2=1:=rfl
 have s3:bM aP 3=1:=rfl
 have s4:bM aP 4=1:=rfl
 have h8 : ¬ 8<aP.length:=by decide
 have hl:aP.length=4:=rfl
 unfold cG
 rw [if_neg h8]
 have e0:pkE aP 0=0:=by unfold pkE;rw [show aP.getD 0 PK.zero=q0 from rfl,aAs];simp [s1,hl]
 have e1:pkE aP 1=0:=by unfold pkE;rw [show aP.getD 1 PK.zero=q1 from rfl,show aP.getD (1-1) PK.zero=q0 from rfl,aAt,vO];simp [s2,hl]
 have e2:pkE aP 2=0:=by unfold pkE;rw [show aP.getD 2 PK.zero=q2 from rfl,show aP.getD (2-1) PK.zero=q1 from rfl,aAu,vP];simp [s3,hl]
 have e3:pkE aP 3=0:=by unfold pkE;rw [show aP.getD 3 PK.zero=q3 from rfl,show aP.getD (3-1) PK.zero=q2 from rfl,aAv,vQ];simp [s4,hl]
 rw [hl]
 simp [aI,e0,e1,e2,e3]
theorem zR:rdT F3=(0,0,aP):=by
 rw [← uU]
 exact zB fD (by rw [uU];decide)
def atA:At:=⟨⟨#[97]⟩,0,0,0,⟨#[]⟩,false⟩
def wA:WI:=⟨[atA],[],[],[]⟩
def mA:List MB:= [⟨1,[false]⟩]
def mB:List MB:= [⟨1,[true]⟩]
def mC:List MB:= [⟨0,[]⟩,⟨2,[]⟩,⟨3,[]⟩]
theorem tF:dN aP wA=0:=by
 have h1:bK aP []=0:=by unfold bK;rw [fD];rfl
 have h2:taE [atA]=0:=by
  have:eT atA=0:=by
   show chk [97] 0 0 0 [] false=0
   unfold chk
   rw [if_neg (by simp [uB]),if_neg (by decide),if_neg (by decide)]
  simp [taE,aI,this]
 unfold dN
 rw [show wA.ins = [] from rfl,show wA.ts = [atA] from rfl,show wA.ma = [] from rfl,show wA.on = [] from rfl,h1,h2]
 rfl
theorem aCi:bK aP mA=0:=by
 unfold bK;rw [fD]
 show jZ aP mA=0
 decide
theorem aCj:bK aP mB=0:=by
 unfold bK;rw [fD]
 show jZ aP mB=0
 decide
theorem aCk:bK aP mC=0:=by
 unfold bK;rw [fD]
 show jZ aP mC=0
 decide
theorem vI:cB aP wA mA=0/\cD aP wA mA=true:=by
 have h:cB aP wA mA=0:=by unfold cB;rw [tF,aCi];rfl
 refine ⟨h,?_⟩
 unfold cD
 rw [h]
 simp [fP,gX,gE,wL,dY,aK,qT,dI,bY,dK,isB,aV,wA,mA,atA,aP,q0,q1,q2,q3,kU,nIf,lS,aQ,Lib.toList_data,dT]
theorem vJ:cB aP wA mB=0/\cD aP wA mB=false:=by
 have h:cB aP wA mB=0:=by unfold cB;rw [tF,aCj];rfl
 refine ⟨h,?_⟩
 unfold cD
 rw [h]
 simp [fP,gX,gE,wL,dY,aK,qT,dI,bY,dK,isB,aV,wA,mB,atA,aP,q0,q1,q2,q3,kU,nIf,lS,aQ,Lib.toList_data,dT]
theorem vK:cB aP wA mC=0/\cD aP wA mC=false:=by
 have h:cB aP wA mC=0:=by unfold cB;rw [tF,aCk];rfl
 refine ⟨h,?_⟩
 unfold cD
 rw [h]
 simp [fP,gX,gE,wL,dY,aK,qT,dI,bY,dK,isB,aV,wA,mC,atA,aP,q0,q1,q2,q3,nB1,lT,tV,iC,lS,aQ,Lib.toList_data,dT]
end Go.Proofs.YthaaaecmeafofaaGreatDoor
namespace Go.Proofs.YthaaaecmeafofaaGreatDoor
open Go.RowKit Go.Sort
theorem uJ (w:World) (hE:Env w) (hM:fS w) :
  Calls Tryz.prog 58 #[] w fun e w'=> ∃ v,e=.returned (.tuple #[.agg #[v],.bool true])/\aT (fun b=>w.heap.size<=b/\b<w'.heap.size) w' aP v/\aA w w'/\uT v:=by
 have HE:=hid hE
 have HM:=hid hM
 clear hE hM
 go_enter Tryz.func58,Tryz.ntmps58
 go_wp2_with fail
 refine bE (fun W'=>aA w W'/\aD w.heap.size 24 (.slice none 0 0) W') ⟨aA.alloc _ _,aD.new _ _ _⟩ ?_
 rintro W0 ⟨k0,v0⟩
 refine (nR _ W0 (HE.out.keep k0) (HM.out.keep k0)).mono ?_
 rintro e w1 ⟨v1,rfl,-,hp1,k1,hcap1⟩
 have hrd:rdT (ByteArray.mk #[97,32,49,32,49,32,32,40,32,98,32,41,10,97,32,50,32,49,32,120,32,40,32,120,63,32,40,32,98,32,41,32,41,10,98,32,49,32,49,32,32,40,32,33,99,32,41,10,99,32,49,32,49,32,32,40,32,41,10]).data.toList=(0,0,aP):=zR
 rw [hrd] at hp1 ⊢
 simp only at hp1 ⊢
 obtain ⟨p1,c1,rfl,-⟩:=hp1.len
 have hlen:aP.length=4:=rfl
 rw [hlen] at hp1 hcap1 ⊢
 have HCAP:=hid hcap1
 clear hcap1
 have K0s:=k0.size
 have hW0:w.heap.size+1<=W0.heap.size:=v0.facts.2.2
 have HP1:Hid (aT (fun b=>w.heap.size+1<=b/\b<w1.heap.size) w1 aP (.slice p1 4 c1)):=aT.mono (fun _ _=>rfl) (fun b hb=>⟨Nat.le_trans hW0 hb.1,hb.2⟩) hp1
 have K1:=hid (k0.trans k1)
 have V1:=hid (v0.keep k1 v0.facts.2.2)
 have hsz1:w.heap.size+1<=w1.heap.size:=by have:=V1.out.facts.2.2;omega
 clear k0 v0 hp1 k1 hrd hlen
 go_upto_region 2 with fail
 refine bW (fun W'=>aA w W'/\aA w1 W'/\aD w.heap.size 24 (.slice none 0 0) W'/\aD w1.heap.size 24 (.slice p1 4 c1) W') ⟨K1.out.alloc' _,aA.alloc _ _,V1.out.keep (aA.alloc _ _) V1.out.facts.2.2,aD.new _ _ _⟩ ?_
 rintro W2 ⟨k2,k12,v2,t2⟩
 have K2:=hid k2
 have K12:=hid k12
 have V2:=hid v2
 obtain ⟨g1,z1,l1⟩:=v2.facts
 obtain ⟨g2,z2,l2⟩:=t2.facts
 clear k2 k12 v2 t2
 go_region
 have v3:=V2.out.set (.slice p1 4 c1)
 have HQ:Hid (aD w.heap.size 24 (.slice p1 4 c1) (W2.setCell ⟨w.heap.size,0,none⟩ (.slice p1 4 c1)).drew/\aA w (W2.setCell ⟨w.heap.size,0,none⟩ (.slice p1 4 c1)).drew/\aT (fun b=>w.heap.size<=b/\b<(W2.setCell ⟨w.heap.size,0,none⟩ (.slice p1 4 c1)).drew.heap.size) (W2.setCell ⟨w.heap.size,0,none⟩ (.slice p1 4 c1)).drew aP (.slice p1 4 c1)):=by
  have ap:=eJ w.heap.size W2 (.slice p1 4 c1)
  have hz:W2.heap.size<=(W2.setCell ⟨w.heap.size,0,none⟩ (.slice p1 4 c1)).heap.size:=ap.size
  refine ⟨v3.keep (gU _) v3.facts.2.2,aA.trans (show aA w (W2.setCell ⟨w.heap.size,0,none⟩ (.slice p1 4 c1)) from Below.trans K2.out (ap.below K2.out.size fun b hb e=>by have:b=w.heap.size:=e;omega)) (gU _),?_⟩
  refine aT.mono (fun p hp=> ?_) (fun b hb=>⟨by omega,Nat.lt_of_lt_of_le hb.2 (Nat.le_trans K12.out.size hz)⟩) HP1.out
  exact (ap.cell p (Nat.lt_of_lt_of_le hp.2 K12.out.size) (fun e=>by have e':p.block=w.heap.size:=e;have:=hp.1;omega)).trans (K12.out.cell (p:=p) hp.2)
 clear v3 g1 z1 g2 z2
 go_wp2_with fail
 refine fB (v:= .tuple #[.agg #[.slice p1 4 c1],.bool true]) (fun W'=>aD w.heap.size 24 (.slice p1 4 c1) W'/\aA w W'/\aT (fun b=>w.heap.size<=b/\b<W'.heap.size) W' aP (.slice p1 4 c1)) ?_ rfl ?_
 ·exact HQ.out
 rintro W ⟨hb,hk,hp⟩
 obtain ⟨hcW,-,-⟩:=hb.facts
 exact ⟨by simp [results,Tryz.results58,go_sem,hcW],_,rfl,hp,hk,HCAP.out⟩
theorem xE (w:World) (hE:Env w) (hM:fS w) :
  Calls Tryz.prog 58 #[] w fun e w'=> ∃ v,e=.returned (.tuple #[.agg #[v],.bool true])/\aT (fun b=>w.heap.size<=b/\b<w'.heap.size) w' aP v/\aA w w':=
 (uJ w hE hM).mono fun _ _ ⟨v,h1,h2,h3,_⟩=>⟨v,h1,h2,h3⟩
theorem iF {W:World} {n:Nat} (h:W.heap.size=n) (cs:Array Value) (T:TypeId):aG n cs (W.alloc (.cells cs T)):=h ▸ aG.new W cs T
def inW (W:World) (b:Nat):Prop:=b<W.heap.size
theorem jU {b:Nat} {W:World} (hb:aG b #[.string ⟨#[97]⟩,.int .i64 0,.int .i64 0,.int .i64 0,.string ⟨#[]⟩,.bool false] W):gD (inW W) W wA (.slice (some ⟨b,0,none⟩) 1 1) (.slice none 0 0) (.slice none 0 0) (.slice none 0 0):=by
 refine ⟨⟨_,_,rfl,by decide,fun _=>⟨b,0,rfl,hb.1,fun j a ha=> ?_⟩⟩,⟨_,_,rfl,by decide,fun h=>absurd h (by decide)⟩,⟨_,_,rfl,by decide,fun h=>absurd h (by decide)⟩,⟨_,_,rfl,by decide,fun h=>absurd h (by decide)⟩⟩
 match j,ha with
 | 0,ha=>cases ha;exact ⟨hb.2 0,hb.2 1,hb.2 2,hb.2 3,hb.2 4,hb.2 5⟩
theorem vB {b c:Nat} {x:Bool} {W:World} (hb:aG b #[.int .i64 1,.slice (some ⟨c,0,none⟩) 1 1] W) (hc:aG c #[.bool x] W):bS (inW W) W [⟨1,[x]⟩] (.slice (some ⟨b,0,none⟩) 1 1):=by
 refine ⟨_,_,rfl,by simp,fun _=>⟨b,0,rfl,hb.1,fun j m hm=> ?_⟩⟩
 match j,hm with
 | 0,hm=>
  cases hm
  refine ⟨_,hb.2 0,hb.2 1,_,_,rfl,by simp,fun _=>⟨c,0,rfl,hc.1,fun j y hy=> ?_⟩⟩
  match j,hy with
  | 0,hy=>cases hy;exact hc.2 0
theorem wK {b:Nat} {W:World} (hb:aG b #[.int .i64 0,.slice none 0 0,.int .i64 2,.slice none 0 0,.int .i64 3,.slice none 0 0] W):bS (inW W) W mC (.slice (some ⟨b,0,none⟩) 3 3):=by
 refine ⟨_,_,rfl,by decide,fun _=>⟨b,0,rfl,hb.1,fun j m hm=> ?_⟩⟩
 match j,hm with
 | 0,hm=>cases hm;exact ⟨_,hb.2 0,hb.2 1,none,0,rfl,by simp,fun h=>absurd h (by simp)⟩
 | 1,hm=>cases hm;exact ⟨_,hb.2 2,hb.2 3,none,0,rfl,by simp,fun h=>absurd h (by simp)⟩
 | 2,hm=>cases hm;exact ⟨_,hb.2 4,hb.2 5,none,0,rfl,by simp,fun h=>absurd h (by simp)⟩
theorem lA (w:World) (hE:Env w) (hM:fS w) :
  Calls Tryz.prog 33 #[] w fun e w'=>e=.returned (.bool true)/\aA w w':=by
 go_enter Tryz.func33,Tryz.ntmps33
 go_wp2_with fail
 refine (xE w hE hM).mono ?_
 rintro e w1 ⟨v1,rfl,hp1,k1⟩
 obtain ⟨p1,c1,rfl,-⟩:=hp1.len
 have HP1:=hid (aT.mono (S':=inW w1) (fun _ _=>rfl) (fun b hb=>hb.2) hp1)
 have K1:=hid k1
 clear hp1 k1 hE hM
 go_wp2_with fail
 refine bE (fun W'=>aA w1 W'/\aD w1.heap.size 24 (.slice p1 aP.length c1) W'/\aG (w1.heap.size+1) #[.string ⟨#[97]⟩,.int .i64 0,.int .i64 0,.int .i64 0,.string ⟨#[]⟩,.bool false] W'/\aG (w1.heap.size+1+1) #[.slice (some ⟨w1.heap.size+1,0,none⟩) 1 1,.slice none 0 0,.slice none 0 0,.slice none 0 0] W'/\aG (w1.heap.size+1+1+1) #[.bool false] W'/\aG (w1.heap.size+1+1+1+1) #[.int .i64 1,.slice (some ⟨w1.heap.size+1+1+1,0,none⟩) 1 1] W')
  ⟨((((aA.alloc _ _).alloc' _).alloc' _).alloc' _).alloc' _,(aD.new _ _ _).keep ((((aA.alloc _ _).alloc' _).alloc' _).alloc' _) (by simp),(iF (by simp) _ _).keep (((aA.alloc _ _).alloc' _).alloc' _) (by simp),(iF (by simp) _ _).keep ((aA.alloc _ _).alloc' _) (by simp),(iF (by simp) _ _).keep (aA.alloc _ _) (by simp),iF (by simp) _ _⟩ ?_
 rintro W2 ⟨k2,v2,b2,x2,y2,z2⟩
 refine (jH (inW W2) aP wA mA _ _ _ _ _ _ W2 (fun _ h=>h) (aT.mono (bJ (fun _ h=>h) k2) (fun b hb=>Nat.lt_of_lt_of_le hb k2.size) HP1.out) (jU b2) (vB z2 y2)).mono ?_
 rintro e w3 ⟨rfl,k3⟩
 rw [vI.1,vI.2]
 have K3:=hid (k2.trans k3)
 have V3:=hid (v2.keep k3 v2.facts.2.2)
 have B3:=hid (b2.keep k3 b2.1)
 have X3:=hid (x2.keep k3 x2.1)
 obtain ⟨hcv,-,hlv⟩:=V3.out.facts
 have hcx:=X3.out.2
 have hlx:=X3.out.1
 clear k2 v2 b2 x2 y2 z2 k3
 go_wp2_with fail
 refine bE (fun W'=>aA w1 W'/\aD w1.heap.size 24 (.slice p1 aP.length c1) W'/\aG (w1.heap.size+1) #[.string ⟨#[97]⟩,.int .i64 0,.int .i64 0,.int .i64 0,.string ⟨#[]⟩,.bool false] W'/\aG (w1.heap.size+1+1) #[.slice (some ⟨w1.heap.size+1,0,none⟩) 1 1,.slice none 0 0,.slice none 0 0,.slice none 0 0] W'/\aG w3.heap.size #[.bool true] W'/\aG (w3.heap.size+1) #[.int .i64 1,.slice (some ⟨w3.heap.size,0,none⟩) 1 1] W')
  ⟨(K3.out.alloc' _).alloc' _,V3.out.keep ((aA.alloc _ _).alloc' _) V3.out.facts.2.2,B3.out.keep ((aA.alloc _ _).alloc' _) B3.out.1,X3.out.keep ((aA.alloc _ _).alloc' _) X3.out.1,(aG.new _ _ _).keep (aA.alloc _ _) (by simp),iF (by simp) _ _⟩ ?_
 rintro W4 ⟨k4,v4,b4,x4,y4,z4⟩
 refine (jH (inW W4) aP wA mB _ _ _ _ _ _ W4 (fun _ h=>h) (aT.mono (bJ (fun _ h=>h) k4) (fun b hb=>Nat.lt_of_lt_of_le hb k4.size) HP1.out) (jU b4) (vB z4 y4)).mono ?_
 rintro e w5 ⟨rfl,k5⟩
 rw [vJ.1,vJ.2]
 have K5:=hid (k4.trans k5)
 have V5:=hid (v4.keep k5 v4.facts.2.2)
 have B5:=hid (b4.keep k5 b4.1)
 have X5:=hid (x4.keep k5 x4.1)
 clear k4 v4 b4 x4 y4 z4 k5 hcv hlv hcx hlx
 obtain ⟨hcv,-,hlv⟩:=V5.out.facts
 have hcx:=X5.out.2
 have hlx:=X5.out.1
 go_wp2_with fail
 refine bE (fun W'=>aA w1 W'/\aD w1.heap.size 24 (.slice p1 aP.length c1) W'/\aG (w1.heap.size+1) #[.string ⟨#[97]⟩,.int .i64 0,.int .i64 0,.int .i64 0,.string ⟨#[]⟩,.bool false] W'/\aG (w1.heap.size+1+1) #[.slice (some ⟨w1.heap.size+1,0,none⟩) 1 1,.slice none 0 0,.slice none 0 0,.slice none 0 0] W'/\aG w5.heap.size #[.int .i64 0,.slice none 0 0,.int .i64 2,.slice none 0 0,.int .i64 3,.slice none 0 0] W')
  ⟨K5.out.alloc' _,V5.out.keep (aA.alloc _ _) V5.out.facts.2.2,B5.out.keep (aA.alloc _ _) B5.out.1,X5.out.keep (aA.alloc _ _) X5.out.1,aG.new _ _ _⟩ ?_
 rintro W6 ⟨k6,v6,b6,x6,z6⟩
 refine (jH (inW W6) aP wA mC _ _ _ _ _ _ W6 (fun _ h=>h) (aT.mono (bJ (fun _ h=>h) k6) (fun b hb=>Nat.lt_of_lt_of_le hb k6.size) HP1.out) (jU b6) (wK z6)).mono ?_
 rintro e w7 ⟨rfl,k7⟩
 rw [vK.1,vK.2]
 have K7:=hid (K1.out.trans (k6.trans k7))
 clear k6 v6 b6 x6 z6 k7 hcv hlv hcx hlx
 go_wp2_with fail
 go_ret
 exact ⟨rfl,K7.out⟩
end Go.Proofs.YthaaaecmeafofaaGreatDoor
namespace Go.Proofs.YthaaaecmeafofaaGreatDoor
open Go.RowKit
mutual
def szN:NT->Nat->Int × Int
 | .node _ _ _ _ kids,g=>match g with
  | 0=>(0,99)
  | g+1=>szK kids g 1 0
def szK:List NT->Nat->Int->Int->Int × Int
 | [],_,n,d=>(n,d+1)
 | t :: ts,g,n,d=>if n+(szN t g).1 > 100∨(szN t g).2 > 50 then (101,99) else szK ts g (n+(szN t g).1) (max d (szN t g).2)
end
mutual
theorem jS : ∀ (t:NT) (g:Nat),0<=(szN t g).1/\(szN t g).1<=101/\0<=(szN t g).2/\(szN t g).2<=99
 | .node k a fl nt kids,0=>by rw [szN];decide
 | .node k a fl nt kids,g+1=>by rw [szN];exact nP kids g 1 0 (by decide) (by decide) (by decide) (by decide)
theorem nP : ∀ (ts:List NT) (g:Nat) (n d:Int),0<=n->n<=100->0<=d->d<=50->0<=(szK ts g n d).1/\(szK ts g n d).1<=101/\0<=(szK ts g n d).2/\(szK ts g n d).2<=99
 | [],g,n,d,h1,h2,h3,h4=>by rw [szK];simp only;omega
 | t :: ts,g,n,d,h1,h2,h3,h4=>by
  have hb:=jS t g
  rw [szK]
  split
  ·simp only;omega
  ·exact nP ts g _ _ (by omega) (by omega) (by omega) (by omega)
end
mutual
theorem sO : ∀ (t:NT) (g:Nat),g<=50->(t.ht<=g/\t.size<=100->szN t g=((t.size:Int),(t.ht:Int)))/\(¬ (t.ht<=g/\t.size<=100)->(szN t g).2=99)
 | .node k a fl nt kids,0,_=>by
  rw [szN,NT.ht]
  exact ⟨fun h=>absurd h.1 (by omega),fun _=>rfl⟩
 | .node k a fl nt kids,g+1,hg=>by
  rw [szN,NT.ht,NT.size]
  obtain ⟨h1,h2⟩:=sN kids g 1 0 (by omega) (by omega) (by omega) (by omega) (by omega)
  refine ⟨fun h=> ?_,fun h=>h2 (by omega)⟩
  rw [h1 (by omega)]
  refine Prod.ext ?_ ?_
  ·simp
  ·simp;omega
theorem sN : ∀ (ts:List NT) (g:Nat) (n d:Int),g<=50->0<=d->d<=50->0<=n->n<=100->(htL ts<=g/\n+aW ts<=100->szK ts g n d=(n+aW ts,max d (htL ts)+1))/\(¬ (htL ts<=g/\n+aW ts<=100)->(szK ts g n d).2=99)
 | [],g,n,d,hg,hd,hd2,hn0,hn=>by
  rw [szK,htL,aW]
  refine ⟨fun _=>Prod.ext ?_ ?_,fun h=> ?_⟩
  ·simp
  ·simp;omega
  ·exact absurd ⟨Nat.zero_le _,by simp;omega⟩ h
 | t :: ts,g,n,d,hg,hd,hd2,hn0,hn=>by
  rw [szK,htL,aW]
  obtain ⟨h1,h2⟩:=sO t g hg
  by_cases hok:t.ht<=g/\t.size<=100
  ·have e:=h1 hok
   rw [e]
   simp only
   by_cases hbig:n+(t.size:Int) > 100∨(t.ht:Int) > 50
   ·rw [if_pos hbig]
    exact ⟨fun h=>by omega,fun _=>rfl⟩
   ·rw [if_neg hbig]
    obtain ⟨h3,h4⟩:=sN ts g (n+t.size) (max d t.ht) hg (by omega) (by omega) (by omega) (by omega)
    refine ⟨fun h=> ?_,fun h=>h4 (by omega)⟩
    rw [h3 (by omega)]
    refine Prod.ext ?_ ?_
    ·simp;omega
    ·simp;omega
  ·have e:=h2 hok
   rw [if_pos (Or.inr (by rw [e];decide))]
   exact ⟨fun h=>absurd ⟨by omega,by omega⟩ hok,fun _=>rfl⟩
end
mutual
theorem nX : ∀ (t:NT) (s d:Int),1<=d->0<=s->s+t.size<=20->d+t.ht<=5->bI aL fN s t d=(s+t.size,true)
 | .node k a fl nt kids,s,d,hd,hs,h1,h2=>by
  rw [NT.size] at h1 ⊢
  rw [NT.ht] at h2
  have e:(fN s (.node k a fl nt kids) d).2=true:=by simp [fN];omega
  rw [bI,if_pos e,eK (by omega) (by omega)]
  show aZ aL fN (s+1) kids (d+1)=_
  rw [mY kids (s+1) (d+1) (by omega) (by omega) (by omega) (by omega)]
  refine Prod.ext ?_ rfl
  show s+1+(aW kids:Int)=s+((1+aW kids:Nat):Int)
  omega
theorem mY : ∀ (ts:List NT) (s d:Int),1<=d->0<=s->s+aW ts<=20->d+htL ts<=5->aZ aL fN s ts d=(s+aW ts,true)
 | [],s,d,_,_,_,_=>by rw [aZ,aW];simp
 | t :: ts,s,d,hd,hs,h1,h2=>by
  rw [aW] at h1 ⊢
  rw [htL] at h2
  rw [aZ,nX t s d hd hs (by omega) (by omega),if_pos rfl,mY ts _ d hd (by simp only;omega) (by simp only;omega) (by omega)]
  refine Prod.ext ?_ rfl
  show s+(t.size:Int)+(aW ts:Int)=s+((t.size+aW ts:Nat):Int)
  omega
end
theorem sG (t:NT):((szN t 4).1 > 20∨(szN t 4).2 > 4)↔cO t=true:=by
 obtain ⟨h1,h2⟩:=sO t 4 (by omega)
 by_cases hs:t.size<=20/\t.ht<=4
 ·rw [h1 (by omega)]
  have:cO t=false:=by
   unfold cO
   rw [nX t 0 1 (by omega) (by omega) (by omega) (by omega)];rfl
  rw [this]
  simp only [Bool.false_eq_true,iff_false]
  omega
 ·have:cO t=true:=by
   cases h:cO t
   ·exact absurd (gW h) hs
   ·rfl
  rw [this]
  simp only [iff_true]
  by_cases hok:t.ht<=4/\t.size<=100
  ·rw [h1 hok];simp only;omega
  ·right;rw [h2 hok];decide
theorem zH {g:Nat} {n d:Int} {ts:List NT} {i:Nat} (h:i<ts.length):szK (ts.drop i) g n d=if n+(szN ts[i] g).1 > 100∨(szN ts[i] g).2 > 50 then (101,99) else szK (ts.drop (i+1)) g (n+(szN ts[i] g).1) (max d (szN ts[i] g).2):=by
 rw [List.drop_eq_getElem_cons h,szK]
theorem xD (S:Nat->Prop) : ∀ (m:Nat) (t:NT),t.size<=m->∀ (g:Nat) (cs:List Value) (w:World),g<=4->(∀ b,S b->b<w.heap.size)->aC S w t cs->
  Calls Tryz.prog 119 #[.agg cs.toArray,.int .i64 g] w fun e w'=>e=.returned (.tuple #[.int .i64 (szN t g).1,.int .i64 (szN t g).2])/\aA w w':=by
 intro m
 induction m with
 | zero=>
  rintro ⟨k,a,fl,nt,kids⟩ hm
  rw [NT.size] at hm;omega
 | succ m ih=>
  rintro ⟨k,a,fl,nt,kids⟩ hm g cs w hg hS hn
  rw [NT.size] at hm
  rw [aC] at hn
  obtain ⟨kp,kc,rfl,hcap,hmax,hkids⟩:=hn
  have K0:=hid (aA.alloc w (.cells #[.int .i64 k,.string a.n,.int .i64 a.op,.int .i64 a.v,.int .i64 a.sl,.string a.f,.bool a.on,.string fl,.bool nt,.slice kp kids.length kc] 74))
  have hb0:Hid (aG w.heap.size #[.int .i64 k,.string a.n,.int .i64 a.op,.int .i64 a.v,.int .i64 a.sl,.string a.f,.bool a.on,.string fl,.bool nt,.slice kp kids.length kc] (w.alloc (.cells #[.int .i64 k,.string a.n,.int .i64 a.op,.int .i64 a.v,.int .i64 a.sl,.string a.f,.bool a.on,.string fl,.bool nt,.slice kp kids.length kc] 74))):=aG.new w #[.int .i64 k,.string a.n,.int .i64 a.op,.int .i64 a.v,.int .i64 a.sl,.string a.f,.bool a.on,.string fl,.bool nt,.slice kp kids.length kc] 74
  have HK:=hid hkids
  have HIH:=hid ih
  clear ih hkids
  cases g with
  | zero=>
   go_enter Tryz.func119,Tryz.ntmps119
   go_wp2_with fail
   go_ret2
   exact ⟨rfl,K0.out⟩
  | succ g=>
   have HR:Hid (szN (.node k a fl nt kids) (g+1)=szK kids g 1 0):=by show _=_;rw [szN]
   go_enter Tryz.func119,Tryz.ntmps119
   go_upto_region 4 with fail
   generalize w.alloc (.cells #[.int .i64 k,.string a.n,.int .i64 a.op,.int .i64 a.v,.int .i64 a.sl,.string a.f,.bool a.on,.string fl,.bool nt,.slice kp kids.length kc] 74)=W0 at K0 hb0 ⊢
   have hc0:=hb0.out.2
   have hl0:=hb0.out.1
   go_wp2_with fail
   clear hc0
   go_loopg [4,5,15] kids.length (fun gk vn vd i wr=> ∃ j:Nat,j+gk=kids.length/\i=.int .i64 j/\∃ n d:Int,vn=.int .i64 n/\vd=.int .i64 d/\0<=n/\n<=100/\0<=d/\d<=50/\szK kids g 1 0=szK (kids.drop j) g n d/\aA w wr)
   case atStart=>exact ⟨0,by simp,rfl,1,0,rfl,rfl,by decide,by decide,by decide,by decide,by simp,K0.out⟩
   case round=>
    obtain ⟨j,hj,rfl,n,d,rfl,rfl,hn0,hn1,hd0,hd1,heq,hkw⟩:=hrel
    have HEQ:=hid heq
    have HKW:=hid hkw
    clear heq hkw
    by_cases hlt:j<kids.length
    ·obtain ⟨p,cs,hp,hSp,hcell,hneed⟩:=cI HK.out j hlt
     have hcr : ∀ q:Addr,S q.block->wr.cell? q=w.cell? q:=fun q hq=>HKW.out.cell (hS _ hq)
     have hneed':aC S wr kids[j] cs:=aC.mono hcr (fun _ h=>h) _ _ hneed
     have HN:=hid hneed'
     have hcell' : ∀ m v,cs[m]? = some v->wr.cell? ((p.add (j*10)).add m)=some v:=fun m v hv=>by
      rw [hcr _ (by rw [bC,bC];exact hSp)]
      have:=hcell m v hv
      rwa [Nat.zero_add] at this
     have hSr : ∀ b,S b->b<wr.heap.size:=fun b hb=>Nat.lt_of_lt_of_le (hS b hb) HKW.out.size
     have hb:=jS kids[j] g
     have hdr:=zH (g:=g) (n:=n) (d:=d) hlt
     have HDR:=hid (HEQ.out.trans hdr)
     have hih:=HIH.out kids[j] (by have:=cR kids j hlt;omega) g
     clear hcell hneed hcr hdr
     subst hp
     cases hkid:kids[j] with
     | node k' a' fl' nt' kids'=>
     rw [hkid,aC] at hneed'
     obtain ⟨kp',kc',rfl,-,-,-⟩:=hneed'
     obtain ⟨c0,c1,c2,c3,c4,c5,c6,c7,c8,c9⟩:=eH hcell'
     clear hcell' hkid
     have K2:=hid (aA.alloc wr (.cells #[.int .i64 k',.string a'.n,.int .i64 a'.op,.int .i64 a'.v,.int .i64 a'.sl,.string a'.f,.bool a'.on,.string fl',.bool nt',.slice kp' kids'.length kc'] 74))
     have HN2:Hid (aC S (wr.alloc (.cells #[.int .i64 k',.string a'.n,.int .i64 a'.op,.int .i64 a'.v,.int .i64 a'.sl,.string a'.f,.bool a'.on,.string fl',.bool nt',.slice kp' kids'.length kc'] 74)) kids[j] [.int .i64 k',.string a'.n,.int .i64 a'.op,.int .i64 a'.v,.int .i64 a'.sl,.string a'.f,.bool a'.on,.string fl',.bool nt',.slice kp' kids'.length kc']):=HN.out.keep hSr K2.out
     have HIJ:=hid (hih [.int .i64 k',.string a'.n,.int .i64 a'.op,.int .i64 a'.v,.int .i64 a'.sl,.string a'.f,.bool a'.on,.string fl',.bool nt',.slice kp' kids'.length kc'] _ (by omega) (fun b hb=>Nat.lt_of_lt_of_le (hSr b hb) K2.out.size) HN2.out)
     clear hih
     generalize szN kids[j] g=r at hb HDR HIJ
     obtain ⟨r1,r2⟩:=r
     simp only at hb
     go_wp2_with fail
     clear c0 c1 c2 c3 c4 c5 c6 c7 c8 c9
     refine HIJ.out.mono ?_
     rintro e w3 ⟨rfl,k3⟩
     have K3:=hid (HKW.out.trans (K2.out.trans k3))
     clear k3
     by_cases hbig:n+r1 > 100
     ·have HX:Hid (szK kids g 1 0=(101,99)):=by show _=_;rw [HDR.out,if_pos (Or.inl hbig)]
      go_wp2_with fail
      go_ret2
      exact ⟨by rw [HR.out,HX.out];rfl,K3.out⟩
     ·by_cases hdeep:r2 > 50
      ·have HX:Hid (szK kids g 1 0=(101,99)):=by show _=_;rw [HDR.out,if_pos (Or.inr hdeep)]
       go_wp2_with fail
       go_ret2
       exact ⟨by rw [HR.out,HX.out];rfl,K3.out⟩
      ·have HX:Hid (szK kids g 1 0=szK (kids.drop (j+1)) g (n+r1) (max d r2)):=by show _=_;rw [HDR.out,if_neg (by omega)]
       go_wp2_with fail
       go_roundg (kids.length-(j+1))
       case rel=>exact ⟨j+1,by omega,by go_num,n+r1,max d r2,rfl,rfl,by omega,by omega,by omega,by omega,HX.out,K3.out⟩
       case measure=>omega
    ·have HX:Hid (szK kids g 1 0=(n,d+1)):=by show _=_;rw [HEQ.out,List.drop_eq_nil_of_le (by omega),szK]
     go_wp2_with fail
     go_ret2
     exact ⟨by rw [HR.out,HX.out];rfl,HKW.out⟩
end Go.Proofs.YthaaaecmeafofaaGreatDoor
namespace Go.Proofs.YthaaaecmeafofaaGreatDoor
open Go.RowKit
end Go.Proofs.YthaaaecmeafofaaGreatDoor
namespace Go.Proofs
open Go.Shelf
def Tryz.lays160_ren:Go.Shelf.Ren:=⟨fun | 160=>118 | 232=>157 | 231=>156 | 227=>158 | 234=>160 | 233=>159 | 236=>162 | 235=>161 | 228=>181 | 271=>184 | 151=>183 | 197=>182 | 120=>209 | 152=>208 | 260=>207 | 137=>237 | 119=>238 | 224=>205 | 225=>204 | 217=>203 | 266=>235 | n=>n,fun | 9=>9 | 4=>4 | 3=>3 | 5=>5 | 117=>205 | 116=>204 | 0=>0 | 124=>208 | 21=>21 | 105=>223 | 46=>228 | 119=>277 | 139=>280 | 138=>279 | n=>n,fun | 3=>2 | 4=>3 | n=>n⟩
theorem Tryz.lays160:Go.Proofs.Lays.n160 Tryz.prog Tryz.lays160_ren:= {
 mixed:=by kernel_rfl
 f119:=Tryz.func238.trans (congrArg some (by kernel_rfl))
 f120:=Tryz.func209.trans (congrArg some (by kernel_rfl))
 f137:=Tryz.func237.trans (congrArg some (by kernel_rfl))
 f151:=Tryz.func183.trans (congrArg some (by kernel_rfl))
 f152:=Tryz.func208.trans (congrArg some (by kernel_rfl))
 f160:=Tryz.func118.trans (congrArg some (by kernel_rfl))
 f197:=Tryz.func182.trans (congrArg some (by kernel_rfl))
 f217:=Tryz.func203.trans (congrArg some (by kernel_rfl))
 f224:=Tryz.func205.trans (congrArg some (by kernel_rfl))
 f225:=Tryz.func204.trans (congrArg some (by kernel_rfl))
 f227:=Tryz.func158.trans (congrArg some (by kernel_rfl))
 f228:=Tryz.func181.trans (congrArg some (by kernel_rfl))
 f231:=Tryz.func156.trans (congrArg some (by kernel_rfl))
 f232:=Tryz.func157.trans (congrArg some (by kernel_rfl))
 f233:=Tryz.func159.trans (congrArg some (by kernel_rfl))
 f234:=Tryz.func160.trans (congrArg some (by kernel_rfl))
 f235:=Tryz.func161.trans (congrArg some (by kernel_rfl))
 f236:=Tryz.func162.trans (congrArg some (by kernel_rfl))
 f260:=Tryz.func207.trans (congrArg some (by kernel_rfl))
 f266:=Tryz.func235.trans (congrArg some (by kernel_rfl))
 f271:=Tryz.func184.trans (congrArg some (by kernel_rfl))
 t0:=Tryz.underlying0
 a0:=Tryz.isAgg0
 z0:=Tryz.sizeOf0
 v0:=Tryz.zeroValue0
 t3:=Tryz.underlying3
 a3:=Tryz.isAgg3
 z3:=Tryz.sizeOf3
 v3:=Tryz.zeroValue3
 t4:=Tryz.underlying4
 a4:=Tryz.isAgg4
 z4:=Tryz.sizeOf4
 v4:=Tryz.zeroValue4
 t5:=Tryz.underlying5
 a5:=Tryz.isAgg5
 z5:=Tryz.sizeOf5
 v5:=Tryz.zeroValue5
 t9:=Tryz.underlying9
 a9:=Tryz.isAgg9
 z9:=Tryz.sizeOf9
 v9:=Tryz.zeroValue9
 t21:=Tryz.underlying21
 a21:=Tryz.isAgg21
 z21:=Tryz.sizeOf21
 v21:=Tryz.zeroValue21
 t46:=Tryz.underlying228
 a46:=Tryz.isAgg228
 z46:=Tryz.sizeOf228
 v46:=Tryz.zeroValue228
 t105:=Tryz.underlying223
 a105:=Tryz.isAgg223
 z105:=Tryz.sizeOf223
 v105:=Tryz.zeroValue223
 t116:=Tryz.underlying204
 a116:=Tryz.isAgg204
 z116:=Tryz.sizeOf204
 t117:=Tryz.underlying205
 a117:=Tryz.isAgg205
 z117:=Tryz.sizeOf205
 v117:=Tryz.zeroValue205
 t119:=Tryz.underlying277
 a119:=Tryz.isAgg277
 z119:=Tryz.sizeOf277
 t124:=Tryz.underlying208
 a124:=Tryz.isAgg208
 z124:=Tryz.sizeOf208
 v124:=Tryz.zeroValue208
 t138:=Tryz.underlying279
 a138:=Tryz.isAgg279
 z138:=Tryz.sizeOf279
 v138:=Tryz.zeroValue279
 t139:=Tryz.underlying280
 a139:=Tryz.isAgg280
 z139:=Tryz.sizeOf280
 v139:=Tryz.zeroValue280
 g3:=by kernel_rfl
 g4:=by kernel_rfl }
def Tryz.lays219_ren:Go.Shelf.Ren:=⟨fun | 219=>180 | 217=>203 | 225=>204 | 224=>205 | 267=>206 | 266=>235 | 314=>236 | n=>n,fun | 9=>9 | 3=>3 | 4=>4 | 5=>5 | 46=>228 | 146=>275 | 51=>257 | n=>n,fun | 1=>0 | n=>n⟩
def Tryz.lays144_ren:Go.Shelf.Ren:=⟨fun | 144=>117 | 143=>155 | 219=>180 | 217=>203 | 225=>204 | 224=>205 | 267=>206 | 266=>235 | 314=>236 | n=>n,fun | 9=>9 | 4=>4 | 3=>3 | 5=>5 | 46=>228 | 146=>275 | 51=>257 | n=>n,fun | 1=>0 | n=>n⟩
theorem Tryz.lays144:Go.Proofs.Lays.n144 Tryz.prog Tryz.lays144_ren:= {
 mixed:=by kernel_rfl
 f143:=Tryz.func155.trans (congrArg some (by kernel_rfl))
 f144:=Tryz.func117.trans (congrArg some (by kernel_rfl))
 f217:=Tryz.func203.trans (congrArg some (by kernel_rfl))
 f219:=Tryz.func180.trans (congrArg some (by kernel_rfl))
 f224:=Tryz.func205.trans (congrArg some (by kernel_rfl))
 f225:=Tryz.func204.trans (congrArg some (by kernel_rfl))
 f266:=Tryz.func235.trans (congrArg some (by kernel_rfl))
 f267:=Tryz.func206.trans (congrArg some (by kernel_rfl))
 f314:=Tryz.func236.trans (congrArg some (by kernel_rfl))
 t3:=Tryz.underlying3
 a3:=Tryz.isAgg3
 z3:=Tryz.sizeOf3
 v3:=Tryz.zeroValue3
 t4:=Tryz.underlying4
 a4:=Tryz.isAgg4
 z4:=Tryz.sizeOf4
 v4:=Tryz.zeroValue4
 t5:=Tryz.underlying5
 a5:=Tryz.isAgg5
 z5:=Tryz.sizeOf5
 v5:=Tryz.zeroValue5
 t9:=Tryz.underlying9
 a9:=Tryz.isAgg9
 z9:=Tryz.sizeOf9
 v9:=Tryz.zeroValue9
 t46:=Tryz.underlying228
 a46:=Tryz.isAgg228
 z46:=Tryz.sizeOf228
 v46:=Tryz.zeroValue228
 t51:=Tryz.underlying257
 a51:=Tryz.isAgg257
 z51:=Tryz.sizeOf257
 v51:=Tryz.zeroValue257
 t146:=Tryz.underlying275
 a146:=Tryz.isAgg275
 z146:=Tryz.sizeOf275
 v146:=Tryz.zeroValue275
 g1:=by kernel_rfl }
open Go.RowKit Go.Lib in
theorem Tryz.strings_Contains_one (s:ByteArray) (c:UInt8) (w:World) :
  Calls Tryz.prog 117 #[.string s,.string ⟨#[c]⟩] w fun e w'=>e=.returned (.bool (decide (0<=Lib.indexByte s.data.toList c)))/\w'=w:=Any.strings_Contains_one Tryz.lays144 s c w
def Tryz.lays192_ren:Go.Shelf.Ren:=⟨fun | 192=>122 | 190=>163 | 125=>186 | 258=>185 | 128=>219 | 129=>220 | 302=>210 | 303=>211 | 304=>212 | 305=>213 | 306=>214 | 307=>215 | 308=>216 | 309=>217 | 310=>218 | 333=>239 | 329=>240 | 330=>241 | 334=>242 | 335=>243 | 336=>244 | 344=>259 | n=>n,fun | 31=>69 | 0=>0 | 9=>9 | 3=>3 | 46=>228 | 51=>257 | 53=>237 | 4=>4 | 183=>251 | 182=>250 | 131=>230 | 5=>5 | 218=>282 | 222=>286 | 228=>296 | 229=>171 | n=>n,fun | n=>n⟩
theorem Tryz.lays192:Go.Proofs.Lays.n192 Tryz.prog Tryz.lays192_ren:= {
 mixed:=by kernel_rfl
 f125:=Tryz.func186.trans (congrArg some (by kernel_rfl))
 f128:=Tryz.func219.trans (congrArg some (by kernel_rfl))
 f129:=Tryz.func220.trans (congrArg some (by kernel_rfl))
 f190:=Tryz.func163.trans (congrArg some (by kernel_rfl))
 f192:=Tryz.func122.trans (congrArg some (by kernel_rfl))
 f258:=Tryz.func185.trans (congrArg some (by kernel_rfl))
 f302:=Tryz.func210.trans (congrArg some (by kernel_rfl))
 f303:=Tryz.func211.trans (congrArg some (by kernel_rfl))
 f304:=Tryz.func212.trans (congrArg some (by kernel_rfl))
 f305:=Tryz.func213.trans (congrArg some (by kernel_rfl))
 f306:=Tryz.func214.trans (congrArg some (by kernel_rfl))
 f307:=Tryz.func215.trans (congrArg some (by kernel_rfl))
 f308:=Tryz.func216.trans (congrArg some (by kernel_rfl))
 f309:=Tryz.func217.trans (congrArg some (by kernel_rfl))
 f310:=Tryz.func218.trans (congrArg some (by kernel_rfl))
 f329:=Tryz.func240.trans (congrArg some (by kernel_rfl))
 f330:=Tryz.func241.trans (congrArg some (by kernel_rfl))
 f333:=Tryz.func239.trans (congrArg some (by kernel_rfl))
 f334:=Tryz.func242.trans (congrArg some (by kernel_rfl))
 f335:=Tryz.func243.trans (congrArg some (by kernel_rfl))
 f336:=Tryz.func244.trans (congrArg some (by kernel_rfl))
 f344:=Tryz.func259.trans (congrArg some (by kernel_rfl))
 t0:=Tryz.underlying0
 a0:=Tryz.isAgg0
 z0:=Tryz.sizeOf0
 v0:=Tryz.zeroValue0
 t3:=Tryz.underlying3
 a3:=Tryz.isAgg3
 z3:=Tryz.sizeOf3
 v3:=Tryz.zeroValue3
 t4:=Tryz.underlying4
 a4:=Tryz.isAgg4
 z4:=Tryz.sizeOf4
 v4:=Tryz.zeroValue4
 t5:=Tryz.underlying5
 a5:=Tryz.isAgg5
 z5:=Tryz.sizeOf5
 v5:=Tryz.zeroValue5
 t9:=Tryz.underlying9
 a9:=Tryz.isAgg9
 z9:=Tryz.sizeOf9
 v9:=Tryz.zeroValue9
 t31:=Tryz.underlying69
 a31:=Tryz.isAgg69
 z31:=Tryz.sizeOf69
 v31:=Tryz.zeroValue69
 t46:=Tryz.underlying228
 a46:=Tryz.isAgg228
 z46:=Tryz.sizeOf228
 v46:=Tryz.zeroValue228
 t51:=Tryz.underlying257
 a51:=Tryz.isAgg257
 z51:=Tryz.sizeOf257
 v51:=Tryz.zeroValue257
 t53:=Tryz.underlying237
 a53:=Tryz.isAgg237
 z53:=Tryz.sizeOf237
 v53:=Tryz.zeroValue237
 t131:=Tryz.underlying230
 a131:=Tryz.isAgg230
 z131:=Tryz.sizeOf230
 v131:=Tryz.zeroValue230
 t182:=Tryz.underlying250
 a182:=Tryz.isAgg250
 z182:=Tryz.sizeOf250
 v182:=Tryz.zeroValue250
 t183:=Tryz.underlying251
 a183:=Tryz.isAgg251
 z183:=Tryz.sizeOf251
 v183:=Tryz.zeroValue251
 t218:=Tryz.underlying282
 a218:=Tryz.isAgg282
 z218:=Tryz.sizeOf282
 v218:=Tryz.zeroValue282
 t222:=Tryz.underlying286
 a222:=Tryz.isAgg286
 z222:=Tryz.sizeOf286
 v222:=Tryz.zeroValue286
 t228:=Tryz.underlying296
 a228:=Tryz.isAgg296
 z228:=Tryz.sizeOf296
 v228:=Tryz.zeroValue296
 t229:=Tryz.underlying171
 a229:=Tryz.isAgg171
 z229:=Tryz.sizeOf171
 v229:=Tryz.zeroValue171 }
open Go.Sort Go.RowKit in
theorem Tryz.sort_Strings (blk off cap:Nat) (ss:List (List UInt8)) (w:World) (hH:Holds encStr w blk off ss.toArray) (hblk:blk<w.heap.size) (hsz:ss.length<4611686018427387904) :
  Calls Tryz.prog 122 #[.slice (some ⟨blk,off,none⟩) ss.length cap] w fun e w'=>
   e=.returned (.tuple #[])/\∃ n os,w'=grow (putRow encStr (Sort.ahead w n) blk off (ss.mergeSort fun x y=>decide (x<=y)).toArray) os:=Any.sort_Strings Tryz.lays192 blk off cap ss w hH hblk hsz
open Go.RowKit Go.Sort in
theorem Tryz.sort_Strings_none (p:Option Addr) (cap:Nat) (w:World) :
  Calls Tryz.prog 122 #[.slice p 0 cap] w fun e w'=>e=.returned (.tuple #[])/\w'=w:=Any.sort_Strings_none Tryz.lays192 p cap w
end Go.Proofs
