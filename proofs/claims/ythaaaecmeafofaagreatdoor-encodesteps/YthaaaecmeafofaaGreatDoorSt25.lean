/- Steps of the proof: ValidValid, EncLiterals. -/
import Derived.Test.YthaaaecmeafofaaGreatDoorSt24
import Derived.Test.YthaaaecmeafofaaGreatDoorSt10
import Derived.Test.YthaaaecmeafofaaGreatDoorSt14
import Derived.Test.YthaaaecmeafofaaGreatDoorSt21
set_option maxHeartbeats 16000000
set_option maxRecDepth 100000
namespace Go.Proofs.YthaaaecmeafofaaGreatDoor
open Go.RowKit Go.Sort
def jO (ps:List PK) (wi:WI) (ms:List MB):Bool:=decide (dH ps wi ms=0)&&uC ps wi ms
theorem aAt (S:Nat->Prop) (zs:List Int) (v:Value) (x:Int) (w:World) (h:aK S w zs v) :
  Calls Tryz.prog 78 #[v,.int .i64 x] w fun e w'=>e=.returned (.bool (zs.contains x))/\w'=w:=by
 obtain ⟨p,c,rfl,hl⟩:=h.len
 by_cases h0:zs = []
 ·subst h0
  refine (Tryz.slices_Contains_int_empty p c x w).mono ?_
  rintro e w' ⟨rfl,rfl⟩
  exact ⟨rfl,rfl⟩
 ·obtain ⟨g,off,rfl,-,hc⟩:=h.get (List.length_pos_iff.2 h0)
  refine (Tryz.slices_Contains_int g off zs.length c zs x w (Nat.le_refl _) hl hc).mono ?_
  rintro e w' ⟨rfl,rfl⟩
  exact ⟨aJ (by rw [List.take_length]),rfl⟩
theorem aEs {ps:List PK} {ma:List Int} {ms:List MB} : ∀ {i:Nat} (j:Nat),nI ps ma ms i=false->nI ps ma ms (i+j)=false
 | _,0,h=>h
 | i,j+1,h=>by
  rw [← Nat.add_assoc,nI,aEs j h];rfl
theorem aIt (S:Nat->Prop) (ps:List PK) (wi:WI) (ms:List MB) (tv tsv inv mav onv lv:Value) (w:World) (hS : ∀ b,S b->b<w.heap.size) (hp:bD S w ps tv) (hw:fR S w wi tsv inv mav onv) (hm:bX S w ms lv) :
  Calls Tryz.prog 28 #[.agg #[tv],.agg #[tsv,inv,mav,onv],lv] w fun e w'=>e=.returned (.tuple #[.bool (jO ps wi ms),.int .i64 (dH ps wi ms)])/\aA w w':=by
 have HP:=hid hp
 have HW:=hid hw
 have HMS:=hid hm
 obtain ⟨tp,tc,rfl,htlen⟩:=hp.len
 obtain ⟨p0,c0,rfl,hl0⟩:=hw.ts.len
 obtain ⟨p1,c1,rfl,hl1⟩:=hw.ins.len
 obtain ⟨p2,c2,rfl,hl2⟩:=hw.ma.len
 obtain ⟨p3,c3,rfl,hl3⟩:=hw.on.len
 obtain ⟨lp,lc,rfl,hllen⟩:=hm.len
 have HX:Hid (dH ps wi ms=if cQ ps wi≠0 then cQ ps wi else cM ps ms):=rfl
 have HR:Hid (jO ps wi ms=(decide (dH ps wi ms=0)&&(tZ ps ms wi.ts&&nI ps wi.ma ms ms.length))):=rfl
 clear hp hw hm
 go_enter Tryz.func28,Tryz.ntmps28
 go_wp2_with fail
 refine aV (fun W'=>aA w W'/\aE w.heap.size 24 (.slice tp ps.length tc) W'/\aL (w.heap.size+1) #[.slice p0 wi.ts.length c0,.slice p1 wi.ins.length c1,.slice p2 wi.ma.length c2,.slice p3 wi.on.length c3] W') ⟨(aA.alloc _ _).alloc' _,(aE.new _ _ _).keep (aA.alloc _ _) (by simp),?_⟩ ?_
 ·have:=aL.new (w.alloc (.cells #[.slice tp ps.length tc] 24)) #[.slice p0 wi.ts.length c0,.slice p1 wi.ins.length c1,.slice p2 wi.ma.length c2,.slice p3 wi.on.length c3] 46
  rw [aC] at this;exact this
 rintro W0 ⟨k0,v0,b0⟩
 refine (jE S ps wi _ _ _ _ _ W0 (fun b hb=>Nat.lt_of_lt_of_le (hS b hb) k0.size) (HP.out.keep hS k0) (HW.out.keep hS k0)).mono ?_
 rintro e w1 ⟨rfl,k1⟩
 have K1:=hid (k0.trans k1)
 have V1:=hid (v0.keep k1 v0.facts.2.2)
 have B1:=hid (b0.keep k1 b0.1)
 clear k0 v0 b0 k1
 by_cases hz:cQ ps wi=0
 ·have HX1:Hid (dH ps wi ms=cM ps ms):=by show _=_;rw [HX.out,if_neg (fun h=>h hz)]
  rw [hz]
  clear hz HX
  obtain ⟨hct,-,hlt⟩:=V1.out.facts
  go_wp2_with fail
  refine (oJ S ps ms _ _ w1 (fun b hb=>Nat.lt_of_lt_of_le (hS b hb) K1.out.size) (HP.out.keep hS K1.out) (HMS.out.keep hS K1.out)).mono ?_
  rintro e w2 ⟨rfl,k2⟩
  have K2:=hid (K1.out.trans k2)
  have V2:=hid (V1.out.keep k2 V1.out.facts.2.2)
  have B2:=hid (B1.out.keep k2 B1.out.1)
  clear k2 V1 B1 hct hlt
  by_cases hz:cM ps ms=0
  ·have HOK:=hid (aBj hz)
   have HCT:=hid (aOa hz)
   have HE0:Hid (dH ps wi ms=0):=by show _=_;rw [HX1.out,hz]
   have HR1:Hid (jO ps wi ms=(tZ ps ms wi.ts&&nI ps wi.ma ms ms.length)):=by show _=_;rw [HR.out,HE0.out];simp
   rw [hz]
   have hcb:=B2.out.2
   have hlb:=B2.out.1
   clear hz HX1 HR
   go_wp2_with fail
   clear hcb hlb
   go_loopg [28] wi.ts.length (fun gk i wr=> ∃ j:Nat,j+gk=wi.ts.length/\i=.int .i64 j/\(wi.ts.take j).all (fun a=>eH ps ms (-1) a)=true/\aA w wr/\aE w.heap.size 24 (.slice tp ps.length tc) wr/\aL (w.heap.size+1) #[.slice p0 wi.ts.length c0,.slice p1 wi.ins.length c1,.slice p2 wi.ma.length c2,.slice p3 wi.on.length c3] wr)
   case atStart=>exact ⟨0,by simp,rfl,by simp,K2.out,V2.out,B2.out⟩
   case round=>
    obtain ⟨j,hj,rfl,hall,hkp,hvt,hbx⟩:=hrel
    have HALL:=hid hall
    have HK:=hid hkp
    have HV:=hid hvt
    have HB:=hid hbx
    clear hall hkp hvt hbx K2 V2 B2
    by_cases hlt:j<wi.ts.length
    ·obtain ⟨b,off,hp,hSb,c0',c1',c2',c3',c4',c5'⟩:=(HW.out.keep hS HK.out).ts.get hlt
     subst hp
     have HST:Hid ((wi.ts.take (j+1)).all (fun a=>eH ps ms (-1) a)=eH ps ms (-1) wi.ts[j]):=by
      show _=_
      rw [List.take_succ_eq_append_getElem hlt,List.all_append,HALL.out];simp
     have HNO:Hid (eH ps ms (-1) wi.ts[j]=false->jO ps wi ms=false):=fun h=>by
      rw [HR1.out]
      have:tZ ps ms wi.ts=false:=by
       unfold tZ
       rw [List.all_eq_false]
       exact ⟨wi.ts[j],List.getElem_mem hlt,by rw [h];decide⟩
      rw [this];rfl
     generalize wi.ts[j]=a at c0' c1' c2' c3' c4' c5' HST HNO
     obtain ⟨hct,-,hltt⟩:=HV.out.facts
     go_wp2_with fail
     refine aV (fun W'=>aA wr W') (aA.alloc _ _) ?_
     intro W3 k3
     refine (jK S ps ms _ _ (-1) a.n a.f a.op a.v a.sl a.on W3 (fun b hb=>Nat.lt_of_lt_of_le (Nat.lt_of_lt_of_le (hS b hb) HK.out.size) k3.size) (HP.out.keep hS (HK.out.trans k3)) (HMS.out.keep hS (HK.out.trans k3)) HOK.out).mono ?_
     rintro e w4 ⟨rfl,k4⟩
     have K4':=hid (k3.trans k4)
     have K4:=hid (HK.out.trans K4'.out)
     have V4:=hid (HV.out.keep K4'.out HV.out.facts.2.2)
     have B4:=hid (HB.out.keep K4'.out HB.out.1)
     clear k3 k4 c0' c1' c2' c3' c4' c5' hct
     have HST2:Hid ((wi.ts.take (j+1)).all (fun a=>eH ps ms (-1) a)=eH ps ms (-1) ⟨a.n,a.op,a.v,a.sl,a.f,a.on⟩):=HST.out
     have HNO2:Hid (eH ps ms (-1) ⟨a.n,a.op,a.v,a.sl,a.f,a.on⟩=false->jO ps wi ms=false):=HNO.out
     generalize eH ps ms (-1) ⟨a.n,a.op,a.v,a.sl,a.f,a.on⟩=β at HST2 HNO2 ⊢
     clear HST HNO
     cases β
     ·have HF:=hid (HNO2.out rfl)
      clear HNO2
      go_wp2_with fail
      go_ret2
      exact ⟨by rw [HF.out,HE0.out];rfl,K4.out⟩
     ·clear HNO2
      go_wp2_with fail
      go_roundg (wi.ts.length-(j+1))
      case rel=>exact ⟨j+1,by omega,by go_num,HST2.out,K4.out,V4.out,B4.out⟩
      case measure=>omega
    ·obtain rfl:j=wi.ts.length:=by omega
     have HR2:Hid (jO ps wi ms=nI ps wi.ma ms ms.length):=by
      show _=_
      have h:=HALL.out
      rw [List.take_length] at h
      rw [HR1.out,show tZ ps ms wi.ts=true from h];rfl
     clear HALL HR1 hj hlt
     go_wp2_with fail
     go_loopg [40] ms.length (fun gk i wr'=> ∃ j:Nat,j+gk=ms.length/\i=.int .i64 j/\nI ps wi.ma ms j=true/\aA w wr'/\aE w.heap.size 24 (.slice tp ps.length tc) wr'/\aL (w.heap.size+1) #[.slice p0 wi.ts.length c0,.slice p1 wi.ins.length c1,.slice p2 wi.ma.length c2,.slice p3 wi.on.length c3] wr')
     case atStart=>exact ⟨0,by simp,rfl,rfl,HK.out,HV.out,HB.out⟩
     case round=>
      obtain ⟨j,hj,rfl,hall,hkp,hvt,hbx⟩:=hrel
      clear HK HV HB
      have HALL:=hid hall
      have HK:=hid hkp
      have HV:=hid hvt
      have HB:=hid hbx
      clear hall hkp hvt hbx
      by_cases hlt:j<ms.length
      ·have hSr : ∀ b,S b->b<wr.heap.size:=fun b hb=>Nat.lt_of_lt_of_le (hS b hb) HK.out.size
       obtain ⟨mb,moff,mcap,hmv,hmS,-,hrow⟩:=(HMS.out.keep hS HK.out).get hlt
       cases hmv
       obtain ⟨op,oc,hc0,-,-,-⟩:=hrow j _ (List.getElem?_eq_getElem hlt)
       have HST:Hid (nI ps wi.ma ms (j+1)=(!wi.ma.contains ms[j].pl&&qO ps ms j && !fM ps ms j j)):=by
        show _=_
        rw [nI,HALL.out,aDj,gO ms j hlt];rfl
       have HNO:Hid (nI ps wi.ma ms (j+1)=false->jO ps wi ms=false):=fun h=>by
        have:=aEs (ms.length-(j+1)) h
        rw [show j+1+(ms.length-(j+1))=ms.length by omega] at this
        rw [HR2.out];exact this
       generalize ms[j].pl=pl at hc0 HST
       have hmlt:=hSr mb hmS
       clear hrow HALL
       go_upto_region 16 with fail
       have dw : ∀ o d os,(grow (redrawn wr d) os).cell? ⟨w.heap.size+1,o,none⟩=(#[.slice p0 wi.ts.length c0,.slice p1 wi.ins.length c1,.slice p2 wi.ma.length c2,.slice p3 wi.on.length c3]:Array Value)[o]? :=fun o d os=>(HB.out.keep (below_regrown wr d os) HB.out.1).2 o
       have dt : ∀ d os,(grow (redrawn wr d) os).cell? ⟨w.heap.size,0,none⟩=some (.slice tp ps.length tc):=fun d os=>((below_regrown wr d os).cell (p:=⟨w.heap.size,0,none⟩) HV.out.facts.2.2).trans HV.out.facts.1
       have dm : ∀ d os,(grow (redrawn wr d) os).cell? ⟨mb,moff+j*2,none⟩=some (.int .i64 pl):=fun d os=>((below_regrown wr d os).cell (p:=⟨mb,moff+j*2,none⟩) hmlt).trans hc0
       have hSg : ∀ d os b,S b->b<(grow (redrawn wr d) os).heap.size:=fun d os b hb=>Nat.lt_of_lt_of_le (hSr b hb) (below_regrown wr d os).size
       generalize hb1:wi.ma.contains pl=β1 at HST
       generalize hb2:qO ps ms j=β2 at HST
       generalize hb3:fM ps ms j j=β3 at HST
       have cC:=hid (show ∀ d os,Calls Tryz.prog 78 #[.slice p2 wi.ma.length c2,.int .i64 pl] (grow (redrawn wr d) os) fun e w''=>e=.returned (.bool β1)/\∃ p:Regrown,w''=grow (redrawn wr p.d) p.os from fun d os=>by
        rw [← hb1]
        refine (aAt S wi.ma _ pl _ (HW.out.ma.keep hS (HK.out.trans (below_regrown wr d os)))).mono ?_
        rintro e w' ⟨rfl,rfl⟩
        exact ⟨rfl,⟨d,os⟩,rfl⟩)
       have cH:=hid (show ∀ d os,Calls Tryz.prog 79 #[.agg #[.slice tp ps.length tc],.slice (some ⟨mb,moff,none⟩) ms.length lc,.int .i64 j] (grow (redrawn wr d) os) fun e w''=>e=.returned (.bool β2)/\∃ p:Regrown,w''=grow (redrawn wr p.d) p.os from fun d os=>by
        rw [← hb2]
        exact Calls.regrown_of (aHd S ps ms _ _ j _ (hSg d os) (HP.out.keep hS (HK.out.trans (below_regrown wr d os))) (HMS.out.keep hS (HK.out.trans (below_regrown wr d os))) hlt HOK.out HCT.out))
       have cS:=hid (show ∀ d os,Calls Tryz.prog 80 #[.agg #[.slice tp ps.length tc],.slice (some ⟨mb,moff,none⟩) ms.length lc,.int .i64 j] (grow (redrawn wr d) os) fun e w''=>e=.returned (.bool β3)/\∃ p:Regrown,w''=grow (redrawn wr p.d) p.os from fun d os=>by
        rw [← hb3]
        exact Calls.regrown_of (aDy S ps ms _ _ j _ (hSg d os) (HP.out.keep hS (HK.out.trans (below_regrown wr d os))) (HMS.out.keep hS (HK.out.trans (below_regrown wr d os))) hlt HOK.out))
       clear hc0 hSg hb1 hb2 hb3
       cases β1
       ·cases β2
        ·refine wp_region_quiet_below (by kernel_rfl) (by kernel_rfl) ?_
         repeat (first | go_big_quiet_step (first | exact cC.out _ _ | exact cH.out _ _ | exact cS.out _ _) | quiet_step (first | exact cC.out _ _ | exact cH.out _ _ | exact cS.out _ _))
         refine wpQuiet_nil ?_
         intro _ hw'
         obtain ⟨⟨dq,osq⟩,hw''⟩:=hw'
         subst hw''
         have k4:=below_regrown wr dq osq
         generalize grow (redrawn wr dq) osq=W4 at k4 ⊢
         have K4:=hid (HK.out.trans k4)
         have V4:=hid (HV.out.keep k4 HV.out.facts.2.2)
         have B4:=hid (HB.out.keep k4 HB.out.1)
         clear dw dt dm cC cH cS k4
         have HF:=hid (HNO.out HST.out)
         clear HNO
         go_wp2_with fail
         go_ret2
         exact ⟨by rw [HF.out,HE0.out];rfl,K4.out⟩
        ·cases β3
         ·refine wp_region_quiet_below (by kernel_rfl) (by kernel_rfl) ?_
          repeat (first | go_big_quiet_step (first | exact cC.out _ _ | exact cH.out _ _ | exact cS.out _ _) | quiet_step (first | exact cC.out _ _ | exact cH.out _ _ | exact cS.out _ _))
          refine wpQuiet_nil ?_
          intro _ hw'
          obtain ⟨⟨dq,osq⟩,hw''⟩:=hw'
          subst hw''
          have k4:=below_regrown wr dq osq
          generalize grow (redrawn wr dq) osq=W4 at k4 ⊢
          have K4:=hid (HK.out.trans k4)
          have V4:=hid (HV.out.keep k4 HV.out.facts.2.2)
          have B4:=hid (HB.out.keep k4 HB.out.1)
          clear dw dt dm cC cH cS k4
          clear HNO
          go_wp2_with fail
          go_roundg (ms.length-(j+1))
          case rel=>exact ⟨j+1,by omega,by go_num,HST.out,K4.out,V4.out,B4.out⟩
          case measure=>omega
         ·refine wp_region_quiet_below (by kernel_rfl) (by kernel_rfl) ?_
          repeat (first | go_big_quiet_step (first | exact cC.out _ _ | exact cH.out _ _ | exact cS.out _ _) | quiet_step (first | exact cC.out _ _ | exact cH.out _ _ | exact cS.out _ _))
          refine wpQuiet_nil ?_
          intro _ hw'
          obtain ⟨⟨dq,osq⟩,hw''⟩:=hw'
          subst hw''
          have k4:=below_regrown wr dq osq
          generalize grow (redrawn wr dq) osq=W4 at k4 ⊢
          have K4:=hid (HK.out.trans k4)
          have V4:=hid (HV.out.keep k4 HV.out.facts.2.2)
          have B4:=hid (HB.out.keep k4 HB.out.1)
          clear dw dt dm cC cH cS k4
          have HF:=hid (HNO.out HST.out)
          clear HNO
          go_wp2_with fail
          go_ret2
          exact ⟨by rw [HF.out,HE0.out];rfl,K4.out⟩
       ·refine wp_region_quiet_below (by kernel_rfl) (by kernel_rfl) ?_
        repeat (first | go_big_quiet_step (first | exact cC.out _ _ | exact cH.out _ _ | exact cS.out _ _) | quiet_step (first | exact cC.out _ _ | exact cH.out _ _ | exact cS.out _ _))
        refine wpQuiet_nil ?_
        intro _ hw'
        obtain ⟨⟨dq,osq⟩,hw''⟩:=hw'
        subst hw''
        have k4:=below_regrown wr dq osq
        generalize grow (redrawn wr dq) osq=W4 at k4 ⊢
        have K4:=hid (HK.out.trans k4)
        have V4:=hid (HV.out.keep k4 HV.out.facts.2.2)
        have B4:=hid (HB.out.keep k4 HB.out.1)
        clear dw dt dm cC cH cS k4
        have HF:=hid (HNO.out HST.out)
        clear HNO
        go_wp2_with fail
        go_ret2
        exact ⟨by rw [HF.out,HE0.out];rfl,K4.out⟩
      ·obtain rfl:j=ms.length:=by omega
       go_wp2_with fail
       go_ret2
       exact ⟨by rw [HR2.out,HALL.out,HE0.out];rfl,HK.out⟩
  ·have HY:Hid (dH ps wi ms=cM ps ms):=HX1.out
   have HZ:Hid (jO ps wi ms=false):=by show _=_;rw [HR.out,HY.out,decide_eq_false hz];rfl
   generalize cM ps ms=ct at HY hz ⊢
   have hz1:(ct==0)=false:=by simp [hz]
   have hz2:(ct != 0)=true:=by simp [hz]
   clear hz HX1 HR
   go_wp2_with fail
   go_ret2
   exact ⟨by rw [HY.out,HZ.out];rfl,K2.out⟩
 ·have HY:Hid (dH ps wi ms=cQ ps wi):=by show _=_;rw [HX.out,if_pos hz]
  have HZ:Hid (jO ps wi ms=false):=by show _=_;rw [HR.out,HY.out,decide_eq_false hz];rfl
  generalize cQ ps wi=ct at HY hz ⊢
  have hz1:(ct==0)=false:=by simp [hz]
  have hz2:(ct != 0)=true:=by simp [hz]
  clear hz HX HR
  go_wp2_with fail
  go_ret2
  exact ⟨by rw [HY.out,HZ.out];rfl,K1.out⟩
end Go.Proofs.YthaaaecmeafofaaGreatDoor
namespace Go.Proofs.YthaaaecmeafofaaGreatDoor
open Go.RowKit
theorem wZ (args:Array Value) (w:World):(callFunc 82 args).run Tryz.prog w=.ok (.enter 82 args) w:=enters_of Tryz.func82 (by kernel_rfl) rfl args w
def aMp (ps:List PK) (wi:WI) (ms:List MB) (w:World) (e:Ending) (w':World):Prop:=
 aA w w'/\((dH ps wi ms≠0/\e=.returned (.tuple #[.slice none 0 0,.int .i64 (dH ps wi ms)]))∨(dH ps wi ms=0/\∃ rb,e=.returned (.tuple #[.slice (some ⟨rb,0,none⟩) (aB ps wi).many (aB ps wi).many,.int .i64 0])/\w.heap.size<=rb/\aD rb 3 ((Cn.chL ((aB ps wi).mod (kF ms))).map (Value.int .i64)).toArray w'))
theorem aMf {c:Nat} {T:TypeId} {v:Value} {w w':World} {O O':Nat->Prop} (h:aE c T v w) (k:Cn.aF O O' w w') (hc : ¬ O c):aE c T v w':=by
 have hl:=h.facts.2.2
 unfold aE at *;rw [k.block c hl hc];exact h
structure LB (ps:List PK) (wi:WI) (cb tb g lb rb:Nat) (W:World):Prop where
 bx:aD cb 134 #[.int .i64 (aB ps wi).many,.slice (some ⟨tb,0,none⟩) ps.length ps.length,.map (some g)] W
 tk:Cn.aK (fun b=>b=tb) W (aB ps wi).tks (.slice (some ⟨tb,0,none⟩) ps.length ps.length)
 fg : ∃ k,Cn.fO g k ((aB ps wi).fgs wi.on) W
 lv:aE lb 37 (.slice (some ⟨rb,0,none⟩) (aB ps wi).many (aB ps wi).many) W
theorem LB.turn {ps:List PK} {wi:WI} {cb tb g lb rb:Nat} {W W':World} (h:LB ps wi cb tb g lb rb W) (hn:rb≠cb/\rb≠tb/\rb≠g/\rb≠lb) (htl:tb<W.heap.size) (t:Cn.aF (fun c=>c=rb) (fun c=>c=rb) W W'):LB ps wi cb tb g lb rb W':=by
 obtain ⟨h1,h2,h3,h4⟩:=hn
 obtain ⟨k,hf⟩:=h.fg
 exact ⟨Cn.aD.turn h.bx t (Ne.symm h1),h.tk.mono (fun p hp=>by have e:p.block=tb:=hp;exact World.cell?_of_block (w:=W) (t.block _ (by omega) (by omega))) (fun _ h=>h),⟨k,hf.at (t.block _ hf.lt (Ne.symm h3))⟩,aMf h.lv t (Ne.symm h4)⟩
def aQp (s2 s8 g s3 s4:Nat):Prop:=s3≠s8/\s3≠s2+3/\s3≠g/\s3≠s4
theorem xJ (S:Nat->Prop) (ps:List PK) (wi:WI) (ms:List MB) (pv tsv inv mav onv lv:Value) (w:World) (hS : ∀ b,S b->b<w.heap.size) (hp:bD S w ps pv) (hw:fR S w wi tsv inv mav onv) (hm:bX S w ms lv) :
  Calls Tryz.prog 29 #[.agg #[pv],.agg #[tsv,inv,mav,onv],lv] w fun e w'=>aMp ps wi ms w e w':=by
 obtain ⟨i0,hi,hz0,hz1,hz2⟩:=info_parts cT
 have HP:=hid hp
 have HW:=hid hw
 have HM:=hid hm
 have hent:=wZ
 obtain ⟨lp,lc,hlv,⟨hlc,hlen⟩,-⟩:=id hm
 subst hlv
 clear hp hw hm
 go_enter Tryz.func29,Tryz.ntmps29
 go_upto_region 1 with fail
 refine bJ (fun W'=>aA w W'/\aE w.heap.size 24 pv W'/\aD (w.heap.size+1) 46 #[tsv,inv,mav,onv] W') ⟨(aA.alloc _ _).alloc' _,(aE.new _ _ _).keep (aA.alloc _ _) (by simp),?_⟩ ?_
 ·have:=aD.new (w.alloc (.cells #[pv] 24)) 46 #[tsv,inv,mav,onv]
  rw [aC] at this;exact this
 rintro W1 ⟨k1,v1,b1⟩
 have K1:=hid k1
 have V1:=hid v1
 have B1:=hid b1
 obtain ⟨b,hb⟩ : ∃ b,b=w.heap.size:=⟨_,rfl⟩
 rw [← hb] at V1 B1 ⊢
 have HB:=hid hb
 clear k1 v1 b1 hb
 have ht0:=V1.out.facts.1
 have htl:=V1.out.facts.2.2
 have hw0:W1.cell? ⟨b+1,0,none⟩=some tsv:=B1.out.facts.1 0
 have hw1:W1.cell? ⟨b+1,1,none⟩=some inv:=B1.out.facts.1 1
 have hw2:W1.cell? ⟨b+1,2,none⟩=some mav:=B1.out.facts.1 2
 have hw3:W1.cell? ⟨b+1,3,none⟩=some onv:=B1.out.facts.1 3
 have hwl:=B1.out.facts.2.2
 go_wp2_with fail
 refine (aIt S ps wi ms _ _ _ _ _ _ W1 (fun c hc=>Nat.lt_of_lt_of_le (hS c hc) K1.out.size) (HP.out.keep hS K1.out) (HW.out.keep hS K1.out) (HM.out.keep hS K1.out)).mono ?_
 rintro e W2 ⟨rfl,k2⟩
 have K2:=hid (K1.out.trans k2)
 have V2:=hid (V1.out.keep k2 V1.out.facts.2.2)
 have B2:=hid (B1.out.keep k2 B1.out.facts.2.2)
 clear ht0 htl hw0 hw1 hw2 hw3 hwl V1 B1 K1 k2
 generalize jO ps wi ms=vr
 by_cases hz:dH ps wi ms=0
 ·have hz1':(dH ps wi ms==0)=true:=by simpa using hz
  have hz2':(dH ps wi ms != 0)=false:=by simp [bne,hz1']
  have HZ:=hid hz
  rw [hz] at hz1' hz2' ⊢
  have hzw:cQ ps wi=0:=by unfold dH at hz;by_cases e:cQ ps wi=0;exact e;rw [if_pos e] at hz;exact hz
  have hzm:cM ps ms=0:=by unfold dH at hz;rw [if_neg (by simp [hzw])] at hz;exact hz
  obtain ⟨hT,hTS,-,-,-,-,-,hone⟩:=fZ hzw
  obtain ⟨h8,hf2,-,hin,hil,-⟩:=fX hTS
  have hok:=lJ hTS
  have h14:=(oY wi hT).1
  have hon:=tK hone h8 hf2
  have HSET:=hid (aLu wi hzm)
  have hms:=fX hzm
  have HMS:=hid hms
  have ht0:=V2.out.facts.1
  have htl:=V2.out.facts.2.2
  have hw0:W2.cell? ⟨b+1,0,none⟩=some tsv:=B2.out.facts.1 0
  have hw1:W2.cell? ⟨b+1,1,none⟩=some inv:=B2.out.facts.1 1
  have hw2:W2.cell? ⟨b+1,2,none⟩=some mav:=B2.out.facts.1 2
  have hw3:W2.cell? ⟨b+1,3,none⟩=some onv:=B2.out.facts.1 3
  have hwl:=B2.out.facts.2.2
  clear hz hone hms
  go_wp2_with fail
  refine (nP S ps wi _ _ _ _ _ W2 (fun c hc=>Nat.lt_of_lt_of_le (hS c hc) K2.out.size) (HP.out.keep hS K2.out) (HW.out.keep hS K2.out) h8 hf2 hok hin hil h14 hon).mono ?_
  rintro e w8 ⟨g,kk,rfl,htk,hfg,hge,k8⟩
  have G1:=hid htk
  have G2:=hid hfg
  have G3:=hid hge
  have K8:=hid (K2.out.trans k8)
  have K28:=hid k8.size
  clear htk hfg hge k8 ht0 htl hw0 hw1 hw2 hw3 hwl V2 B2
  go_upto_region 5 with fail
  refine bJ (fun W'=>aA w8 W'/\W'.heap.size=w8.heap.size+1/\aD w8.heap.size 134 #[.int .i64 (aB ps wi).many,.slice (some ⟨W2.heap.size+3,0,none⟩) ps.length ps.length,.map (some g)] W') ⟨aA.alloc _ _,aC _ _,aD.new _ _ _⟩ ?_
  rintro W3 ⟨k3,z3,b3⟩
  have hc0:W3.cell? ⟨w8.heap.size,0,none⟩=some (.int .i64 (aB ps wi).many):=b3.facts.1 0
  have hcl:=b3.facts.2.2
  have K3:=hid k3
  have Z3:=hid z3
  have B3:=hid b3
  clear k3 z3 b3
  go_upto_region 6 with (at_make;refine wpList_make_full _ rfl _ _ 37 rfl W3.heap.size 3 i0 (.int .i64 0) 1 Tryz.underlying37 hi hz0 hz1 .i64 .i64 ((aB ps wi).many:Int) ((aB ps wi).many:Int) (aB ps wi).many rfl rfl rfl rfl (by rw [hz2];omega) (by unfold maxLen;omega) (Nat.le_refl _) ?_;intro w4 h1 h2;have K4:=hid (Cn.mM h2);have F4:=hid (Cn.fJ (v:= .int .i64 0) rfl h1);clear h1 h2)
  have h24:=K28.out
  have h34:=Z3.out
  have h44:=K4.out.size
  have hgl:=G2.out.lt
  have hg4:=G3.out
  have hf4:=F4.out.facts.2.2
  have HPL:=hid (show aQp W2.heap.size w8.heap.size g W3.heap.size w4.heap.size from ⟨by omega,by omega,by omega,by omega⟩)
  refine bJ (fun W'=>LB ps wi w8.heap.size (W2.heap.size+3) g w4.heap.size W3.heap.size W'/\aD W3.heap.size 3 ((Cn.tP (aB ps wi).many 0).map (Value.int .i64)).toArray W'/\aA w W'/\w4.heap.size<W'.heap.size) ?_ ?_
  ·have ka:=aA.alloc w4 (.cells #[.slice (some ⟨W3.heap.size,0,none⟩) (aB ps wi).many (aB ps wi).many] 37)
   have k34:aA W3 w4:=K4.out
   have k35:aA W3 _:=k34.trans ka
   have k85:aA w8 _:=K3.out.trans k35
   refine ⟨⟨B3.out.keep k35 B3.out.facts.2.2,?_,⟨_,G2.out.keep k85⟩,aE.new _ _ _⟩,?_,K8.out.trans k85,by rw [aC];omega⟩
   ·exact G1.out.keep (B:=w8.heap.size) (fun c hc=>by have:c=W2.heap.size+3:=hc;omega) k85
   ·have h5:aD W3.heap.size 3 (List.replicate (aB ps wi).many (Value.int .i64 0)).toArray w4:=F4.out
    unfold Cn.tP
    rw [List.map_replicate]
    exact h5.keep ka h5.facts.2.2
  rintro W5 ⟨l5,r5,k5,z5⟩
  have L5:=hid l5
  have F5:=hid r5
  have K5:=hid k5
  obtain ⟨hn1,hn2,hn3,hn4⟩:=HPL.out
  have hrw:w.heap.size<=W3.heap.size:=by have:=K8.out.size;omega
  have htw:W2.heap.size+3<W5.heap.size:=by omega
  generalize W2.heap.size+3=tb at L5 hn2 htw
  generalize w8.heap.size=cb at L5 hn1 ⊢
  generalize w4.heap.size=lb at L5 hn4 ⊢
  generalize W3.heap.size=rb at L5 F5 hn1 hn2 hn3 hn4 hrw ⊢
  clear h24 h34 h44 hgl hg4 hf4 HPL l5 r5 k5 z5 G1 G2 G3 K8 K28 K3 Z3 B3 K4 F4 hc0 hcl K2
  have HLB:=hid (show ∀ W,Cn.aF (fun c=>c=rb) (fun c=>c=rb) W5 W->LB ps wi cb tb g lb rb W/\aA w W/\tb<W.heap.size from fun W t=>⟨L5.out.turn ⟨hn1,hn2,hn3,hn4⟩ htw t,Below.trans K5.out (t.below (B:=w.heap.size) K5.out.size fun c hc e=>by have e:c=rb:=e;omega),Nat.lt_of_lt_of_le htw t.size⟩)
  have hx0:W5.cell? ⟨cb,0,none⟩=some (.int .i64 (aB ps wi).many):=L5.out.bx.facts.1 0
  have hxl:=L5.out.bx.facts.2.2
  go_wp2_with fail
  go_loopg [39] (aB ps wi).many (fun gk iv wr=> ∃ j:Nat,j+gk=(aB ps wi).many/\iv=.int .i64 j/\aD rb 3 ((Cn.tP (aB ps wi).many j).map (Value.int .i64)).toArray wr/\Cn.aF (fun c=>c=rb) (fun c=>c=rb) W5 wr)
  case atStart=>exact ⟨0,by omega,rfl,F5.out,Cn.aF.refl _ _⟩
  case round=>
  obtain ⟨j,hj,rfl,hf,ht⟩:=hrel
  have F1:=hid hf
  have T1:=hid ht
  clear hf ht hx0 hxl
  by_cases hlt:j<(aB ps wi).many
  ·have hjI:(j:Int)<((aB ps wi).many:Int):=by omega
   have hlen:=Cn.pF (aB ps wi).many j
   have HST:=hid (eV (Cn.tP (aB ps wi).many j) lb rb (-((j:Int)+1)) wr (by rw [hlen];exact (HLB.out wr T1.out).1.lv) F1.out (Ne.symm hn4) (by omega) (by omega) (by omega))
   clear hlen
   have hw1:IntKind.i64.wrap ((j:Int)+1)=(j:Int)+1:=cA (by omega)
   have hw2:IntKind.i64.wrap (-((j:Int)+1)) = -((j:Int)+1):=cA (by omega)
   go_wp2_with fail
   refine HST.out.mono ?_
   rintro e w9 ⟨rfl,f9,t9⟩
   have F9:=hid f9
   have T9:=hid (T1.out.trans t9)
   clear f9 t9
   go_wp2_with fail
   clear hw1 hw2
   go_roundg ((aB ps wi).many-(j+1))
   case rel=>exact ⟨j+1,by omega,by go_num,F9.out,T9.out⟩
   case measure=>omega
  have hje:j=(aB ps wi).many:=by omega
  have hnl : ¬ ((j:Int)<((aB ps wi).many:Int)):=by omega
  have F2:=hid (show aD rb 3 ((Cn.chL ((aB ps wi).l2 0)).map (Value.int .i64)).toArray wr from by
   have:=F1.out
   rw [hje,Cn.aIc] at this
   exact this)
  have hx1:wr.cell? ⟨cb,1,none⟩=some (.slice (some ⟨tb,0,none⟩) ps.length ps.length):=(HLB.out wr T1.out).1.bx.facts.1 1
  have hxl:=(HLB.out wr T1.out).1.bx.facts.2.2
  clear hje F1 hlt hj
  go_wp2_with fail
  obtain ⟨wo,rfl⟩ : ∃ wo:World,wo=wr:=⟨_,rfl⟩
  go_loopg [51] ps.length (fun gk iv wr=> ∃ j:Nat,j+gk=ps.length/\iv=.int .i64 j/\aD rb 3 ((Cn.chL ((aB ps wi).l2 j)).map (Value.int .i64)).toArray wr/\Cn.aF (fun c=>c=rb) (fun c=>c=rb) W5 wr)
  case atStart=>exact ⟨0,by omega,rfl,F2.out,T1.out⟩
  case round=>
  clear hnl hx1 hxl F2 T1
  obtain ⟨j2,hj,rfl,hf,ht⟩:=hrel
  have F1:=hid hf
  have T1:=hid ht
  clear hf ht
  by_cases hlt:j2<ps.length
  ·obtain ⟨L1,-,htbl⟩:=HLB.out wr T1.out
   have hnl2:=bV ps wi
   obtain ⟨tb',tof,htp,htb',htc⟩:=(show Cn.aK (fun b=>b=tb) wr (aB ps wi).tks (.slice (some ⟨tb,0,none⟩) (aB ps wi).tks.length ps.length) from by rw [Cn.CT.tks_len,hnl2];exact L1.tk).nth (k:=j2) (by rw [Cn.CT.tks_len];omega)
   cases htp
   have hct:=htc j2 _ (Cn.CT.tks_get (aB ps wi) (i:=j2) (by omega))
   rw [Nat.zero_add] at hct
   have htk:=Cn.CT.tk_lit hok (i:=j2) (by omega)
   have hml:=Cn.CT.l2_len (aB ps wi) j2
   have HSTE:=hid (Cn.CT.set_tkN hok hml (i:=j2) (by omega))
   have HN2:=hid (show (aB ps wi).l2 (j2+1)=(aB ps wi).stT ((aB ps wi).l2 j2) j2 from rfl)
   have hlen:(Cn.chL ((aB ps wi).l2 j2)).length=(aB ps wi).many:=by rw [Cn.kL,hml]
   obtain ⟨htk0,htkn⟩:=htk
   have HST:=hid (eV (Cn.chL ((aB ps wi).l2 j2)) lb rb (-(aB ps wi).tkL j2) wr (by rw [hlen];exact L1.lv) F1.out (Ne.symm hn4) (by omega) (by omega) (by omega))
   rw [HSTE.out] at HST
   have hjI:(j2:Int)<(ps.length:Int):=by omega
   clear hlen hml htc htb' L1 hnl2
   generalize (aB ps wi).tkL j2=tn at hct htk0 htkn HST HSTE
   have hwn:IntKind.i64.wrap (-tn) = -tn:=cA (by omega)
   go_wp2_with fail
   refine HST.out.mono ?_
   rintro e w9 ⟨rfl,f9,t9⟩
   have F9:=hid f9
   have T9:=hid (T1.out.trans t9)
   clear f9 t9
   go_wp2_with fail
   go_roundg (ps.length-(j2+1))
   case rel=>exact ⟨j2+1,by omega,by go_num,by rw [HN2.out];exact F9.out,T9.out⟩
   case measure=>omega
  have hje:j2=ps.length:=by omega
  have hnl : ¬ ((j2:Int)<(ps.length:Int)):=by omega
  have F2:=hid (show aD rb 3 ((Cn.chL ((aB ps wi).l3 (kF ms) 0)).map (Value.int .i64)).toArray wr from by
   have:=F1.out
   rw [hje,← bV ps wi] at this
   exact this)
  clear hje F1 hlt hj
  go_wp2_with fail
  obtain ⟨wp,rfl⟩ : ∃ wp:World,wp=wr:=⟨_,rfl⟩
  go_loopg [62] ms.length (fun gk iv wr=> ∃ j:Nat,j+gk=ms.length/\iv=.int .i64 j/\aD rb 3 ((Cn.chL ((aB ps wi).l3 (kF ms) j)).map (Value.int .i64)).toArray wr/\Cn.aF (fun c=>c=rb) (fun c=>c=rb) W5 wr)
  case atStart=>exact ⟨0,by omega,rfl,F2.out,T1.out⟩
  case round=>
  clear hnl F2 T1
  obtain ⟨j3,hj,rfl,hf,ht⟩:=hrel
  have F1:=hid hf
  have T1:=hid ht
  clear hf ht
  by_cases hlt:j3<ms.length
  ·obtain ⟨L1,hkw,htbl⟩:=HLB.out wr T1.out
   obtain ⟨lb',lo,lc',hlv',hSl,-,hlrow⟩:=(HM.out.keep hS hkw).get hlt
   cases hlv'
   obtain ⟨op,oc,hc0,hc1,hol,hob⟩:=hlrow j3 _ (List.getElem?_eq_getElem hlt)
   have hlbl:lb'<wr.heap.size:=Nat.lt_of_lt_of_le (hS lb' hSl) hkw.size
   have hpl:=HMS.out.2.2.2.1 ms[j3].pl (List.mem_map.2 ⟨_,List.getElem_mem hlt,rfl⟩)
   have HN3:=hid (show (aB ps wi).l3 (kF ms) (j3+1)=(aB ps wi).stF ms[j3].pl.toNat ms[j3].on ((aB ps wi).stY ((aB ps wi).l3 (kF ms) j3) ms[j3].pl.toNat) ms[j3].on.length by
    rw [Cn.CT.l3]
    have:(kF ms).getD j3 (0,[])=(ms[j3].pl.toNat,ms[j3].on):=by simp [kF,List.getD_eq_getElem?_getD,List.getElem?_eq_getElem hlt]
    rw [this])
   have hfle:ms[j3].on.length=(aB ps wi).nf.getD ms[j3].pl.toNat 0:=HSET.out.fl (ms[j3].pl.toNat,ms[j3].on) (List.mem_map.2 ⟨ms[j3],List.getElem_mem hlt,rfl⟩)
   generalize ms[j3]=mm at hc0 hc1 hol hob hpl HN3 hfle
   obtain ⟨i,hi'⟩ : ∃ i:Nat,mm.pl=(i:Int):=⟨mm.pl.toNat,by omega⟩
   rw [hi'] at hc0 HN3 hpl hfle
   rw [Int.toNat_natCast] at HN3 hfle
   have HFLE:=hid hfle
   clear hfle
   have hiP:i<ps.length:=by omega
   have hiI:(i:Int)<(ps.length:Int):=by omega
   have hnl2:=bV ps wi
   obtain ⟨tb',tof,htp,htb',htc⟩:=(show Cn.aK (fun b=>b=tb) wr (aB ps wi).tks (.slice (some ⟨tb,0,none⟩) (aB ps wi).tks.length ps.length) from by rw [Cn.CT.tks_len,hnl2];exact L1.tk).nth (k:=i) (by rw [Cn.CT.tks_len];omega)
   cases htp
   have hct:=htc i _ (Cn.CT.tks_get (aB ps wi) (i:=i) (by omega))
   rw [Nat.zero_add] at hct
   obtain ⟨htk0,htkn⟩:=Cn.CT.tk_lit hok (i:=i) (by omega)
   have hml:=Cn.CT.l3_len (aB ps wi) (kF ms) j3
   have HSTE:=hid (Cn.CT.set_tkY hok hml (i:=i) (by omega))
   have hlen:(Cn.chL ((aB ps wi).l3 (kF ms) j3)).length=(aB ps wi).many:=by rw [Cn.kL,hml]
   have HST:=hid (show ∀ W,aA wr W->Calls Tryz.prog 82 #[.int .i64 ((aB ps wi).tkL i),.pointer (some ⟨lb,0,none⟩)] W _ from fun W kW=>eV (Cn.chL ((aB ps wi).l3 (kF ms) j3)) lb rb ((aB ps wi).tkL i) W (by rw [hlen];exact L1.lv.keep kW L1.lv.facts.2.2) (F1.out.keep kW F1.out.facts.2.2) (Ne.symm hn4) (by omega) (by omega) (by omega))
   rw [HSTE.out] at HST
   have hm0l:((aB ps wi).stY ((aB ps wi).l3 (kF ms) j3) i).length=(aB ps wi).many:=by rw [Cn.CT.stY,List.length_set,hml]
   generalize (aB ps wi).stY ((aB ps wi).l3 (kF ms) j3) i=m0 at HST HN3 hm0l
   have hx1:wr.cell? ⟨cb,1,none⟩=some (.slice (some ⟨tb,0,none⟩) ps.length ps.length):=L1.bx.facts.1 1
   have hxl:=L1.bx.facts.2.2
   have hjI:(j3:Int)<(ms.length:Int):=by omega
   have HOB:=hid hob
   have HWW:=hid (show ∀ W,Cn.aF (fun c=>c=rb) (fun c=>c=rb) W5 W->∀ p:Addr,S p.block->W.cell? p=wr.cell? p from fun W t p hp=>((HLB.out W t).2.1.cell (hS _ hp)).trans (hkw.cell (hS _ hp)).symm)
   have HKW:=hid hkw
   have HOK:=hid hok
   generalize (aB ps wi).tkL i=tn at hct htk0 htkn HST HSTE
   clear hlen hml htc htb' L1 hlrow hpl hi' hob hkw
   go_upto_region 20 with fail
   refine bJ (fun W'=>aA wr W'/\aD wr.heap.size 64 #[.int .i64 i,.slice op mm.on.length oc] W') ⟨aA.alloc _ _,aD.new _ _ _⟩ ?_
   rintro W6 ⟨k6,b6⟩
   have B6:=hid b6
   have K6:=hid k6
   have hp0:W6.cell? ⟨wr.heap.size,0,none⟩=some (.int .i64 i):=b6.facts.1 0
   have hpl:=b6.facts.2.2
   have hct6:=(k6.cell (p:=⟨tb,i,none⟩) htbl).trans hct
   have hx16:=(k6.cell (p:=⟨cb,1,none⟩) hxl).trans hx1
   have hxl6:cb<W6.heap.size:=Nat.lt_of_lt_of_le hxl k6.size
   have htbl6:tb<W6.heap.size:=Nat.lt_of_lt_of_le htbl k6.size
   have hmr:wr.heap.size≠rb:=by have:=F1.out.facts.2.2;omega
   clear hct hx1 hxl htbl k6 b6 hc0 hc1 hlbl
   generalize wr.heap.size=mb at B6 hp0 hpl hmr ⊢
   go_wp2_with fail
   refine (HST.out W6 K6.out).mono ?_
   rintro e w7 ⟨rfl,f7,t7⟩
   have F7:=hid f7
   have T7:=hid ((T1.out.trans (Cn.aF.keep K6.out)).trans t7)
   have B7:=hid (Cn.aD.turn B6.out t7 hmr)
   have hp1:w7.cell? ⟨mb,1,none⟩=some (.slice op mm.on.length oc):=B7.out.facts.1 1
   have hpl7:=B7.out.facts.2.2
   clear f7 t7 hp0 hpl hct6 hx16 hxl6 htbl6 B6 K6 HST T1 F1
   go_wp2_with fail
   clear hp1 hpl7
   obtain ⟨wq,rfl⟩ : ∃ wq:World,wq=wr:=⟨_,rfl⟩
   go_loopg [77] mm.on.length (fun gk iv wr=> ∃ k:Nat,k+gk=mm.on.length/\iv=.int .i64 k/\aD rb 3 ((Cn.chL ((aB ps wi).stF i mm.on m0 k)).map (Value.int .i64)).toArray wr/\Cn.aF (fun c=>c=rb) (fun c=>c=rb) W5 wr/\aD mb 64 #[.int .i64 i,.slice op mm.on.length oc] wr)
   case atStart=>exact ⟨0,by omega,rfl,F7.out,T7.out,B7.out⟩
   case round=>
   clear F7 T7 B7
   obtain ⟨k,hk,rfl,hf,ht,hbx⟩:=hrel
   have F1:=hid hf
   have T1:=hid ht
   have B1:=hid hbx
   clear hf ht hbx
   by_cases hlt2:k<mm.on.length
   ·obtain ⟨L1,hkw,htbl⟩:=HLB.out wr T1.out
    have hfle:=HFLE.out
    obtain ⟨ob,oo,hop,hobS,hoc⟩:=((HOB.out.mono (S':=S) (fun _ _=>rfl) (fun _ h=>h)).cell (q:=k) hlt2)
    subst hop
    have hocw:=(HWW.out wr T1.out ⟨ob,oo+k,none⟩ hobS).trans hoc
    have hobl:ob<wr.heap.size:=Nat.lt_of_lt_of_le (hS ob hobS) hkw.size
    have hkI:(k:Int)<(mm.on.length:Int):=by omega
    have hp0:wr.cell? ⟨mb,0,none⟩=some (.int .i64 i):=B1.out.facts.1 0
    have hpl:=B1.out.facts.2.2
    have hx2:wr.cell? ⟨cb,2,none⟩=some (.map (some g)):=L1.bx.facts.1 2
    have hxl:=L1.bx.facts.2.2
    obtain ⟨nk,hfg⟩:=L1.fg
    have hfl2:(aB ps wi).nf.getD i 0<=100:=by rw [kR wi hiP];have:=hf2 (ps.getD i PK.zero) (by rw [List.getD_eq_getElem?_getD,List.getElem?_eq_getElem hiP];exact List.getElem_mem hiP);omega
    have hlk:=hfg.look pL (x:=(i:Int)) (y:=(k:Int)) (by unfold Cn.SmP;omega) (by unfold Cn.SmP;omega)
    rw [Cn.CT.fgs_get (c:=aB ps wi) (on:=wi.on) (fun _ _=>rfl) (by rw [bV];exact hiP) (show k<(aB ps wi).nf.getD i 0 by omega)] at hlk
    obtain ⟨hfg0,hfgn⟩:=Cn.CT.fg_lit (aB ps wi) (i:=i) (k:=k) (by rw [bV];exact hiP) (by omega)
    have hfr0:((aB ps wi).fgL i k).natAbs<=900000:=by omega
    have hml:((aB ps wi).stF i mm.on m0 k).length=(aB ps wi).many:=by rw [Cn.CT.stF_len,hm0l]
    have hlen:(Cn.chL ((aB ps wi).stF i mm.on m0 k)).length=(aB ps wi).many:=by rw [Cn.kL,hml]
    have HSTE:=hid (Cn.CT.set_fg (aB ps wi) hm0l (i:=i) (k:=k) (by rw [bV];exact hiP) (by omega) mm.on)
    have hsab:=Cn.mB ((aB ps wi).fgL i k) (mm.on.getD k false)
    have HST:=hid (eV (Cn.chL ((aB ps wi).stF i mm.on m0 k)) lb rb (Cn.sg ((aB ps wi).fgL i k) (mm.on.getD k false)) wr (by rw [hlen];exact L1.lv) F1.out (Ne.symm hn4) (by omega) (by omega) (by omega))
    rw [HSTE.out] at HST
    generalize mm.on.getD k false=bk at hocw hoc HST HSTE hsab
    generalize (aB ps wi).fgL i k=fr at hlk hfg0 hfgn hfr0 HST HSTE hsab
    clear hlen hml hsab L1 hfg hoc hkw hfle
    go_wp2_with fail
    refine (nW fr bk _ hfr0).mono ?_
    rintro e w8 ⟨rfl,hw8⟩
    rw [hw8]
    clear hw8
    go_wp2_with fail
    refine HST.out.mono ?_
    rintro e w9 ⟨rfl,f9,t9⟩
    have F9:=hid f9
    have T9:=hid (T1.out.trans t9)
    have B9:=hid (Cn.aD.turn B1.out t9 hmr)
    clear f9 t9 hlk hocw hp0 hx2 HST T1 F1 B1
    go_wp2_with fail
    go_roundg (mm.on.length-(k+1))
    case rel=>exact ⟨k+1,by omega,by go_num,F9.out,T9.out,B9.out⟩
    case measure=>omega
   have hke:k=mm.on.length:=by omega
   have hnl : ¬ ((k:Int)<(mm.on.length:Int)):=by omega
   have F9:=hid (show aD rb 3 ((Cn.chL ((aB ps wi).l3 (kF ms) (j3+1))).map (Value.int .i64)).toArray wr from by
    have:=F1.out
    rw [hke,← HN3.out] at this
    exact this)
   have T9:=hid T1.out
   clear hke F1 T1 hk hlt2
   go_wp2_with fail
   go_roundg (ms.length-(j3+1))
   case rel=>exact ⟨j3+1,by omega,by go_num,F9.out,T9.out⟩
   case measure=>omega
  have hje:j3=ms.length:=by omega
  have hnl : ¬ ((j3:Int)<(ms.length:Int)):=by omega
  obtain ⟨L1,hkw,-⟩:=HLB.out wr T1.out
  have hlv:=L1.lv.facts.1
  have hll:=L1.lv.facts.2.2
  have HFIN:=hid (show aD rb 3 ((Cn.chL ((aB ps wi).mod (kF ms))).map (Value.int .i64)).toArray wr from by
   have:=F1.out
   rw [hje,show ms.length=(kF ms).length by simp [kF],Cn.CT.l3_done hok HSET.out] at this
   exact this)
  have HKF:=hid hkw
  clear hje hj L1 hkw F1
  go_wp2_with fail
  refine dL (v:= .tuple #[.slice (some ⟨rb,0,none⟩) (aB ps wi).many (aB ps wi).many,.int .i64 0]) (fun W'=>aA w W'/\aD rb 3 ((Cn.chL ((aB ps wi).mod (kF ms))).map (Value.int .i64)).toArray W') ⟨HKF.out,HFIN.out⟩ rfl ?_
  rintro W ⟨hkW,hbW⟩
  exact ⟨by simp [results,Tryz.results29,go_sem],hkW,.inr ⟨HZ.out,rb,rfl,hrw,hbW⟩⟩
 ·have hz1':(dH ps wi ms==0)=false:=by simpa using hz
  have hz2':(dH ps wi ms != 0)=true:=by simp [bne,hz1']
  have HZ:=hid hz
  generalize hve:dH ps wi ms=ve at hz1' hz2' ⊢
  have HVE:=hid hve
  clear hz hve
  go_wp2_with fail
  refine dL (v:= .tuple #[.slice none 0 0,.int .i64 ve]) (fun W'=>aA w W') K2.out rfl ?_
  rintro W hkW
  exact ⟨by simp [results,Tryz.results29,go_sem],hkW,.inl ⟨HZ.out,by rw [HVE.out]⟩⟩
end Go.Proofs.YthaaaecmeafofaaGreatDoor
