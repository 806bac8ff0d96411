/- Steps of the proof: RefWish, EncSaysWalk, AtomOpen, NeedOpen. -/
import Derived.Test.YthaaaecmeafofaaGreatDoorEs25
import Derived.Test.YthaaaecmeafofaaGreatDoorEs10
import Derived.Test.YthaaaecmeafofaaGreatDoorEs23
import Derived.Test.YthaaaecmeafofaaGreatDoorEs11
import Derived.Test.YthaaaecmeafofaaGreatDoorEs03
import Derived.Lib.LaidTab
import Derived.Stop.LaidErr
import Derived.OpenShut
import Derived.Lib.SmallJoins
import Derived.Deep.DeepWitnessRowRef
import Derived.LaidMore
import Derived.Stop.Joined
import Derived.ChangeOld
import Derived.Test.YthaaaecmeafofaaGreatDoorEs22
import Derived.Shelf.Vars
import Derived.HandedShaped
set_option maxHeartbeats 16000000
set_option maxRecDepth 100000
namespace Go.Proofs.YthaaaecmeafofaaGreatDoor
open Go.RowKit Go.Sort
theorem aJz {x0 x1 y0 y1:Int} (h1:0<=x1) (h2:x1<10) (h3:0<=y1) (h4:y1<10):(10*x0+x1<=10*y0+y1) ↔ ¬ (y0<x0∨y0=x0/\y1<x1):=by omega
theorem yM (S:Nat->Prop) (ps:List PK) (wi:WI) (tv tsv inv mav onv:Value) (w:World) (hS : ∀ b,S b->b<w.heap.size) (hp:aU S w ps tv) (hct:bZ ps=0) (h:dV S w wi tsv inv mav onv) :
  Calls Tryz.prog 32 #[.agg #[tv],.agg #[tsv,inv,mav,onv]] w fun e w'=>e=.returned (.int .i64 (bW ps wi))/\aA w w':=by
 have HP:=hid hp
 have HW:=hid h
 obtain ⟨tp,tc,rfl,htlen⟩:=hp.len
 obtain ⟨p0,c0,rfl,hl0⟩:=h.ts.len
 obtain ⟨p1,c1,rfl,hl1⟩:=h.ins.len
 obtain ⟨p2,c2,rfl,hl2⟩:=h.ma.len
 obtain ⟨p3,c3,rfl,hl3⟩:=h.on.len
 have HX:Hid (bW ps wi=if kE ps wi.ins≠0 then kE ps wi.ins else if taE wi.ts≠0 then taE wi.ts else if aL (maE ps wi.ma) 0 wi.ma.length≠0 then aL (maE ps wi.ma) 0 wi.ma.length else aL (onE ps wi.on) 0 wi.on.length):=by
  show _=_
  have:cD ps wi.ins=kE ps wi.ins:=by unfold cD;rw [if_neg (fun h=>h hct)]
  unfold bW;rw [this]
 have HLP:Hid (ps.length<=8):=(cW hct).1
 have HFL:Hid (∀ p∈ps,p.fl.length<=2):=fun p hp=>(jC (gA ((cW hct).2 p hp)).2.2.1).1
 clear hp h
 go_enter Tryz.func32,Tryz.ntmps32
 go_wp2_with fail
 refine aV (fun W'=>aA w W'/\aE w.heap.size 24 (.slice tp ps.length tc) W'/\aJ (w.heap.size+1) #[.slice p0 wi.ts.length c0,.slice p1 wi.ins.length c1,.slice p2 wi.ma.length c2,.slice p3 wi.on.length c3] W') ⟨(aA.alloc _ _).alloc' _,(aE.new _ _ _).keep (aA.alloc _ _) (by simp),?_⟩ ?_
 ·have:=aJ.new (w.alloc (.cells #[.slice tp ps.length tc] 24)) #[.slice p0 wi.ts.length c0,.slice p1 wi.ins.length c1,.slice p2 wi.ma.length c2,.slice p3 wi.on.length c3] 46
  rw [aC] at this;exact this
 rintro W0 ⟨k0,v0,b0⟩
 refine (rV S ps wi.ins _ _ W0 (fun b hb=>Nat.lt_of_lt_of_le (hS b hb) k0.size) (HP.out.keep hS k0) (HW.out.keep hS k0).ins).mono ?_
 rintro e w1 ⟨rfl,k1⟩
 have K1:=hid (k0.trans k1)
 have V1:=hid (v0.keep k1 v0.facts.2.2)
 have B1:=hid (b0.keep k1 b0.1)
 clear k0 v0 b0 k1
 generalize kE ps wi.ins=e1 at HX ⊢
 by_cases hz:e1=0
 case neg=>
  have HY:Hid (bW ps wi=e1):=by show _=_;rw [HX.out,if_pos hz]
  have hz1:(e1==0)=false:=by simp [hz]
  have hz2:(e1 != 0)=true:=by simp [hz]
  clear hz HX
  go_wp2_with fail
  go_ret
  exact ⟨aD HY.out.symm,K1.out⟩
 subst hz
 have HX1:Hid (bW ps wi=if taE wi.ts≠0 then taE wi.ts else if aL (maE ps wi.ma) 0 wi.ma.length≠0 then aL (maE ps wi.ma) 0 wi.ma.length else aL (onE ps wi.on) 0 wi.on.length):=HX.out
 have hcb:=B1.out.2
 have hlb:=B1.out.1
 clear HX
 by_cases h6:6<wi.ts.length
 ·have h6':(6:Int)<(wi.ts.length:Int):=by omega
  have HY:Hid (bW ps wi=2):=by
   show _=_
   have:taE wi.ts=2:=by unfold taE;rw [if_pos h6]
   rw [HX1.out,this];rfl
  clear HX1
  go_wp2_with fail
  go_ret
  exact ⟨aD HY.out.symm,K1.out⟩
 have h6' : ¬ (6:Int)<(wi.ts.length:Int):=by omega
 have HTA:Hid (taE wi.ts=aL (fun k=>fA (wi.ts.getD k At.zero)) 0 wi.ts.length):=by show _=_;unfold taE;rw [if_neg h6]
 generalize hg:(fun k=>fA (wi.ts.getD k At.zero))=g at HTA
 have HG:=hid hg
 clear hg
 rw [HTA.out] at HX1
 go_wp2_with fail
 clear hcb hlb
 go_loopg [29] wi.ts.length (fun gk i wr=> ∃ j:Nat,j+gk=wi.ts.length/\i=.int .i64 j/\aL g 0 wi.ts.length=aL g j (wi.ts.length-j)/\aA w wr/\aE w.heap.size 24 (.slice tp ps.length tc) wr/\aJ (w.heap.size+1) #[.slice p0 wi.ts.length c0,.slice p1 wi.ins.length c1,.slice p2 wi.ma.length c2,.slice p3 wi.on.length c3] wr)
 case atStart=>exact ⟨0,by simp,rfl,rfl,K1.out,V1.out,B1.out⟩
 case round=>
  obtain ⟨j,hj,rfl,he,hkp,hvt,hbx⟩:=hrel
  have HEQ:=hid he
  have HK:=hid hkp
  have HV:=hid hvt
  have HB:=hid hbx
  clear he hkp hvt hbx K1 V1 B1
  by_cases hlt:j<wi.ts.length
  ·obtain ⟨b,off,hp,hSb,c0',c1',c2',c3',c4',c5'⟩:=(HW.out.keep hS HK.out).ts.get hlt
   subst hp
   have HST:=hid (cU (f:=g) hlt)
   have HGJ:Hid (g j=fA wi.ts[j]):=by show _=_;rw [← HG.out];show fA (wi.ts.getD j At.zero)=_;rw [List.getD_eq_getElem?_getD,List.getElem?_eq_getElem hlt,Option.getD_some]
   generalize wi.ts[j]=a at c0' c1' c2' c3' c4' c5' HGJ
   go_wp2_with fail
   refine aV (fun W'=>aA wr W') (aA.alloc _ _) ?_
   intro W0 k0
   refine (jW a.n a.f a.op a.v a.sl a.on W0).mono ?_
   rintro e w1 ⟨rfl,k1⟩
   have k01:=k0.trans k1
   have K1:=hid (HK.out.trans k01)
   have V1:=hid (HV.out.keep k01 HV.out.facts.2.2)
   have B1:=hid (HB.out.keep k01 HB.out.1)
   rw [show chk a.n.data.toList a.op a.v a.sl a.f.data.toList a.on=g j from HGJ.out.symm]
   clear k0 k1 k01 c0' c1' c2' c3' c4' c5'
   by_cases hz:g j=0
   ·have HZ:=hid hz
    have hz1:(g j==0)=true:=by simp [hz]
    have hz2:(g j != 0)=false:=by simp [hz]
    clear hz
    go_wp2_with fail
    go_roundg (wi.ts.length-(j+1))
    case rel=>exact ⟨j+1,by omega,by go_num,by rw [HEQ.out,HST.out,if_pos HZ.out],K1.out,V1.out,B1.out⟩
    case measure=>omega
   ·have HZ:=hid hz
    have HY:Hid (bW ps wi=g j):=by
     show _=_
     have e:aL g 0 wi.ts.length=g j:=by rw [HEQ.out,HST.out,if_neg hz]
     rw [HX1.out,e,if_pos hz]
    have hz1:(g j==0)=false:=by simp [hz]
    have hz2:(g j != 0)=true:=by simp [hz]
    clear hz
    go_wp2_with fail
    go_ret
    exact ⟨aD HY.out.symm,K1.out⟩
  ·have HX2:Hid (bW ps wi=if aL (maE ps wi.ma) 0 wi.ma.length≠0 then aL (maE ps wi.ma) 0 wi.ma.length else aL (onE ps wi.on) 0 wi.on.length):=by
    show _=_
    have e:aL g 0 wi.ts.length=0:=by rw [HEQ.out,show wi.ts.length-j=0 by omega];rfl
    rw [HX1.out,e];rfl
   have hcb:=HB.out.2
   have hlb:=HB.out.1
   clear HX1 HEQ HTA HG
   go_wp2_with fail
   clear hcb hlb
   go_loopg [42] wi.ma.length (fun gk i wr'=> ∃ j:Nat,j+gk=wi.ma.length/\i=.int .i64 j/\aL (maE ps wi.ma) 0 wi.ma.length=aL (maE ps wi.ma) j (wi.ma.length-j)/\aA w wr'/\aE w.heap.size 24 (.slice tp ps.length tc) wr'/\aJ (w.heap.size+1) #[.slice p0 wi.ts.length c0,.slice p1 wi.ins.length c1,.slice p2 wi.ma.length c2,.slice p3 wi.on.length c3] wr')
   case atStart=>exact ⟨0,by simp,rfl,rfl,HK.out,HV.out,HB.out⟩
   case round=>
    obtain ⟨j,hj,rfl,he,hkp,hvt,hbx⟩:=hrel
    clear HK HV HB
    have HEQ:=hid he
    have HK:=hid hkp
    have HV:=hid hvt
    have HB:=hid hbx
    obtain ⟨ht0,-,htl⟩:=hvt.facts
    have hcb:=hbx.2
    have hlb:=hbx.1
    clear he hkp hvt hbx
    by_cases hlt:j<wi.ma.length
    ·obtain ⟨b,off,hp,hSb,hc⟩:=(HW.out.keep hS HK.out).ma.get (by omega)
     subst hp
     have hcj:=hc j hlt
     have HST:=hid (cU (f:=maE ps wi.ma) hlt)
     have HRET:Hid (∀ x:Int,x≠0->maE ps wi.ma j=x->bW ps wi=x):=fun x hx hy=>by
      have e:aL (maE ps wi.ma) 0 wi.ma.length=x:=by rw [HEQ.out,HST.out,hy,if_neg hx]
      rw [HX2.out,e,if_pos hx]
     have HMA:Hid (maE ps wi.ma j=if wi.ma.getD j 0<0∨(ps.length:Int)<=wi.ma.getD j 0 then 5 else if 0<j/\wi.ma.getD j 0<=wi.ma.getD (j-1) 0 then 6 else 0):=rfl
     have hprev:0<j->wr.cell? ⟨b,off+(j-1),none⟩=some (.int .i64 (wi.ma.getD (j-1) 0)):=fun h0=>hc (j-1) (by omega)
     generalize wi.ma.getD j 0=x at hcj HMA
     generalize wi.ma.getD (j-1) 0=y at hprev HMA
     clear hc
     by_cases h0:x<0
     ·have HY:=hid (HRET.out 5 (by decide) (by rw [HMA.out,if_pos (Or.inl h0)]))
      clear HMA hprev
      go_wp2_with fail
      go_ret
      exact ⟨aD HY.out.symm,HK.out⟩
     by_cases h1:(ps.length:Int)<=x
     ·have HY:=hid (HRET.out 5 (by decide) (by rw [HMA.out,if_pos (Or.inr h1)]))
      clear HMA hprev
      go_wp2_with fail
      go_ret
      exact ⟨aD HY.out.symm,HK.out⟩
     have HM2:Hid (maE ps wi.ma j=if 0<j/\x<=y then 6 else 0):=by show _=_;rw [HMA.out,if_neg (by omega)]
     clear HMA
     by_cases hj0:0<j
     ·have hcy:=hprev hj0
      obtain ⟨m,rfl⟩ : ∃ m,j=m+1:=⟨j-1,by omega⟩
      have hcy':wr.cell? ⟨b,off+m,none⟩=some (.int .i64 y):=hcy
      have h0':(0:Int)<((m+1:Nat):Int):=by omega
      have hd:decide ((0:Int)<((m+1:Nat):Int))=true:=decide_eq_true h0'
      have e1:((m+1:Nat):Int)-1=(m:Int):=by omega
      have hm:m<wi.ma.length:=by omega
      clear hprev hcy
      by_cases hle:x<=y
      ·have HY:=hid (HRET.out 6 (by decide) (by rw [HM2.out,if_pos ⟨by omega,hle⟩]))
       clear HM2
       go_wp2_with fail
       go_ret
       exact ⟨aD HY.out.symm,HK.out⟩
      ·have HY:Hid (maE ps wi.ma (m+1)=0):=by show _=_;rw [HM2.out,if_neg (fun h=>hle h.2)]
       clear HM2
       go_wp2_with fail
       go_roundg (wi.ma.length-(m+1+1))
       case rel=>exact ⟨m+1+1,by omega,by go_num,by rw [HEQ.out,HST.out,HY.out];rfl,HK.out,HV.out,HB.out⟩
       case measure=>omega
     ·have HY:Hid (maE ps wi.ma j=0):=by show _=_;rw [HM2.out,if_neg (fun h=>hj0 h.1)]
      obtain rfl:j=0:=by omega
      rw [Nat.add_zero] at hcj
      clear HM2 hprev
      go_wp2_with fail
      go_roundg (wi.ma.length-(0+1))
      case rel=>exact ⟨0+1,by omega,by go_num,by rw [HEQ.out,HST.out,HY.out];rfl,HK.out,HV.out,HB.out⟩
      case measure=>omega
    ·have HX3:Hid (bW ps wi=aL (onE ps wi.on) 0 wi.on.length):=by
      show _=_
      have e:aL (maE ps wi.ma) 0 wi.ma.length=0:=by rw [HEQ.out,show wi.ma.length-j=0 by omega];rfl
      rw [HX2.out,e];rfl
     clear HX2 HEQ ht0 htl
     go_wp2_with fail
     clear hcb hlb
     go_loopg [72,11] wi.on.length (fun gk i ls wr'=> ∃ (j:Nat) (la:Int),j+gk=wi.on.length/\i=.int .i64 j/\ls=.int .i64 la/\(j=0->la = -1)/\(0<j->la=10*(wi.on.getD (j-1) (0,0)).1+(wi.on.getD (j-1) (0,0)).2/\0<=(wi.on.getD (j-1) (0,0)).2/\(wi.on.getD (j-1) (0,0)).2<10)/\aL (onE ps wi.on) 0 wi.on.length=aL (onE ps wi.on) j (wi.on.length-j)/\aA w wr'/\aE w.heap.size 24 (.slice tp ps.length tc) wr'/\aJ (w.heap.size+1) #[.slice p0 wi.ts.length c0,.slice p1 wi.ins.length c1,.slice p2 wi.ma.length c2,.slice p3 wi.on.length c3] wr')
     case atStart=>exact ⟨0,-1,by simp,rfl,rfl,fun _=>rfl,fun h=>absurd h (Nat.lt_irrefl 0),rfl,HK.out,HV.out,HB.out⟩
     case round=>
      obtain ⟨j,la,hj,rfl,rfl,hla0,hla,he,hkp,hvt,hbx⟩:=hrel
      clear HK HV HB
      have HEQ:=hid he
      have HK:=hid hkp
      have HV:=hid hvt
      have HB:=hid hbx
      have HLA0:=hid hla0
      have HLA:=hid hla
      clear he hkp hvt hbx hla0 hla
      by_cases hlt:j<wi.on.length
      ·have HST:=hid (cU (f:=onE ps wi.on) hlt)
       have HRET:Hid (∀ x:Int,x≠0->onE ps wi.on j=x->bW ps wi=x):=fun x hx hy=>by
        rw [HX3.out,HEQ.out,HST.out,hy,if_neg hx]
       obtain ⟨b,off,hp,hSb,hc⟩:=(HW.out.keep hS HK.out).on.get (by omega)
       subst hp
       obtain ⟨hc0,hc1⟩:=hc j hlt
       have HNX:Hid (wi.on.getD (j+1-1) (0,0)=wi.on.getD j (0,0)):=by show _=_;rw [Nat.add_sub_cancel]
       have HON:Hid (onE ps wi.on j=if (wi.on.getD j (0,0)).1<0∨(ps.length:Int)<=(wi.on.getD j (0,0)).1 then 5 else if (wi.on.getD j (0,0)).2<0∨((ps.getD (wi.on.getD j (0,0)).1.toNat PK.zero).fl.length:Int)<=(wi.on.getD j (0,0)).2 then 5
        else if 0<j/\¬ ((wi.on.getD (j-1) (0,0)).1<(wi.on.getD j (0,0)).1∨(wi.on.getD (j-1) (0,0)).1=(wi.on.getD j (0,0)).1/\(wi.on.getD (j-1) (0,0)).2<(wi.on.getD j (0,0)).2) then 6 else 0):=rfl
       generalize wi.on.getD j (0,0)=xx at hc0 hc1 HON HNX
       generalize wi.on.getD (j-1) (0,0)=yy at HLA HON
       obtain ⟨x0,x1⟩:=xx
       obtain ⟨y0,y1⟩:=yy
       simp only at hc0 hc1 HON HLA
       have hblt:b<wr.heap.size:=Nat.lt_of_lt_of_le (hS b hSb) HK.out.size
       clear hc
       go_upto_region 25 with fail
       refine bH (fun W'=>aA wr W'/\aJ wr.heap.size #[.int .i64 x0,.int .i64 x1] W') ⟨aA.alloc _ _,aJ.new _ _ _⟩ ?_
       rintro W2 ⟨k2,b2⟩
       have K2:=hid (HK.out.trans k2)
       have V2:=hid (HV.out.keep k2 HV.out.facts.2.2)
       have X2:=hid (HB.out.keep k2 HB.out.1)
       have B2:=hid b2
       have hb2c:=b2.2
       have hb2l:=b2.1
       obtain ⟨ht0,-,htl⟩:=V2.out.facts
       clear k2 b2 hc0 hc1 HK HV HB
       by_cases h0:x0<0
       ·have HY:=hid (HRET.out 5 (by decide) (by rw [HON.out,if_pos (Or.inl h0)]))
        have hd0:decide (x0<0)=true:=decide_eq_true h0
        clear HON HLA HLA0
        go_quiet (fail)
        go_wp2_with fail
        go_ret
        exact ⟨aD HY.out.symm,aA.drewN K2.out _⟩
       have hd0:decide (x0<0)=false:=decide_eq_false h0
       by_cases h1:(ps.length:Int)<=x0
       ·have HY:=hid (HRET.out 5 (by decide) (by rw [HON.out,if_pos (Or.inr h1)]))
        have hd1:decide ((ps.length:Int)<=x0)=true:=decide_eq_true h1
        clear HON HLA HLA0
        go_quiet (fail)
        go_wp2_with fail
        go_ret
        exact ⟨aD HY.out.symm,aA.drewN K2.out _⟩
       have hd1:decide ((ps.length:Int)<=x0)=false:=decide_eq_false h1
       obtain ⟨q,rfl⟩ : ∃ q:Nat,x0=q:=⟨x0.toNat,by omega⟩
       have hqp:q<ps.length:=by omega
       obtain ⟨tb,toff,tcap,htv,htb,-,htrow⟩:=(HP.out.keep hS K2.out).get hqp
       cases htv
       obtain ⟨cs,hcs,hpk⟩:=htrow q hqp
       have hfl2:=HFL.out _ (List.getElem_mem hqp)
       have HO2:Hid (onE ps wi.on j=if x1<0∨(ps[q].fl.length:Int)<=x1 then 5 else if 0<j/\¬ (y0<(q:Int)∨y0=(q:Int)/\y1<x1) then 6 else 0):=by
        show _=_
        rw [HON.out,if_neg (by omega),Int.toNat_natCast,dX ps q hqp]
       generalize ps[q]=p at hpk HO2 hfl2
       obtain ⟨kk,a,fl,nt,kids,kp,fp,kc,fc,hnd,hfl,rfl,hf,hn⟩:=hpk.spelt
       obtain ⟨-,-,-,cc3,-⟩:=cN hcs
       have htl2:tb<W2.heap.size:=Nat.lt_of_lt_of_le (hS tb htb) K2.out.size
       clear hcs hpk htrow hf hn hnd HON
       rcases p with ⟨pn,pv,psl,fs,nd⟩
       simp only at hfl cc3 HO2 hfl2
       by_cases h2:x1<0
       ·have HY:=hid (HRET.out 5 (by decide) (by rw [HO2.out,if_pos (Or.inl h2)]))
        have hd2:decide (x1<0)=true:=decide_eq_true h2
        clear HO2 HLA HLA0
        go_quiet (fail)
        go_wp2_with fail
        go_ret
        exact ⟨aD HY.out.symm,aA.drewN K2.out _⟩
       have hd2:decide (x1<0)=false:=decide_eq_false h2
       by_cases h3:(fs.length:Int)<=x1
       ·have HY:=hid (HRET.out 5 (by decide) (by rw [HO2.out,if_pos (Or.inr h3)]))
        have hd3:decide ((fs.length:Int)<=x1)=true:=decide_eq_true h3
        clear HO2 HLA HLA0
        go_quiet (fail)
        go_wp2_with fail
        go_ret
        exact ⟨aD HY.out.symm,aA.drewN K2.out _⟩
       have hd3:decide ((fs.length:Int)<=x1)=false:=decide_eq_false h3
       have hq8:q<8:=by have:=HLP.out;omega
       have HO3:Hid (onE ps wi.on j=if 10*(q:Int)+x1<=la then 6 else 0):=by
        show _=_
        rw [HO2.out,if_neg (by omega)]
        by_cases hj0:0<j
        ·obtain ⟨ea,eb,ec⟩:=HLA.out hj0
         have hl:=aJz (x0:=(q:Int)) (x1:=x1) (y0:=y0) (y1:=y1) (by omega) (by omega) eb ec
         rw [ea]
         by_cases hc:10*(q:Int)+x1<=10*y0+y1
         ·rw [if_pos hc,if_pos ⟨hj0,hl.1 hc⟩]
         ·rw [if_neg hc,if_neg (fun h=>hc (hl.2 h.2))]
        ·have ea:=HLA0.out (by omega)
         rw [ea,if_neg (fun h=>hj0 h.1),if_neg (by omega)]
       clear HO2 HLA HLA0
       go_quiet (fail)
       have k4:aA W2 (W2.drewN nq):=aA.drewN (aA.refl _) _
       generalize W2.drewN nq=W4 at k4 ⊢
       have K4:=hid (K2.out.trans k4)
       have V4:=hid (V2.out.keep k4 V2.out.facts.2.2)
       have X4:=hid (X2.out.keep k4 X2.out.1)
       have b4:=B2.out.keep k4 B2.out.1
       have hb4c:=b4.2
       have hb4l:=b4.1
       clear k4 b4 hb2c hb2l ht0 htl cc3 K2 V2 X2 B2 hd0 hd1 hd2 hd3
       have hx1:x1<2:=by omega
       have hm1:(10*(q:Int))<=70:=by omega
       by_cases hle:10*(q:Int)+x1<=la
       ·have HY:=hid (HRET.out 6 (by decide) (by rw [HO3.out,if_pos hle]))
        clear HO3
        go_wp2_with fail
        go_ret
        exact ⟨aD HY.out.symm,K4.out⟩
       ·have HY:Hid (onE ps wi.on j=0):=by show _=_;rw [HO3.out,if_neg hle]
        clear HO3
        go_wp2_with fail
        go_roundg (wi.on.length-(j+1))
        case rel=>exact ⟨j+1,10*(q:Int)+x1,by omega,by go_num,by go_num,fun h=>absurd h (by omega),fun _=>by rw [HNX.out];exact ⟨rfl,by omega,by omega⟩,by rw [HEQ.out,HST.out,HY.out];rfl,K4.out,V4.out,X4.out⟩
        case measure=>omega
      ·go_wp2_with fail
       go_ret
       exact ⟨aD (by rw [HX3.out,HEQ.out,show wi.on.length-j=0 by omega];rfl),HK.out⟩
end Go.Proofs.YthaaaecmeafofaaGreatDoor
namespace Go.Proofs.YthaaaecmeafofaaGreatDoor
open Go.RowKit
theorem aNg {f:Int->Value} {A:List Int} {b:Nat} {T:TypeId} {w:World} (h:Cn.dF f A A.length b T w):aG b T (A.map f).toArray w:=by
 obtain ⟨cs,h1,h2,h3⟩:=h
 have e:cs=A.map f:=by
  refine List.ext_getElem? fun i=> ?_
  by_cases hi:i<A.length
  ·rw [h2 i A[i] hi (List.getElem?_eq_getElem hi),List.getElem?_map,List.getElem?_eq_getElem hi];rfl
  ·rw [List.getElem?_eq_none (by omega),List.getElem?_eq_none (by rw [List.length_map];omega)]
 rw [← e]
 exact h3
theorem aNf (m:List Bool):(Cn.chL m).map (fun x=>Value.bool (decide (0<x)))=m.map Value.bool:=by
 refine List.ext_getElem? fun v=> ?_
 by_cases hv:v<m.length
 ·rw [List.getElem?_map,Cn.lK hv,List.getElem?_map,List.getElem?_eq_getElem hv,List.getD_eq_getElem?_getD,List.getElem?_eq_getElem hv]
  cases m[v]<;>simp<;>omega
 ·rw [List.getElem?_eq_none (by rw [List.length_map,Cn.gL];omega),List.getElem?_eq_none (by rw [List.length_map];omega)]
theorem aNc {b n:Nat} {m:List Bool} {w:World} {S:Nat->Prop} (h:aG b 4 (m.map Value.bool).toArray w) (hn:m.length=n) (hs:n<=1000) (hS:S b):bF S w m (.slice (some ⟨b,0,none⟩) n n):=by
 subst hn
 refine ⟨_,_,rfl,by omega,fun _=>⟨b,0,rfl,hS,fun j x hx=> ?_⟩⟩
 rw [Nat.zero_add,h.facts.1,List.getElem?_toArray,List.getElem?_map,hx];rfl
theorem aKw {ps:List PK} (wi:WI) (h:bZ ps≠0):bW ps wi=bZ ps:=by
 have h1:cD ps wi.ins=bZ ps:=by unfold cD;rw [if_pos h]
 unfold bW
 rw [if_pos (by rw [h1];exact h),h1]
theorem aEv (S:Nat->Prop) (ps:List PK) (wi:WI) (pv tsv inv mav onv:Value) (w:World) (hS : ∀ b,S b->b<w.heap.size) (hp:aU S w ps pv) (hw:dV S w wi tsv inv mav onv) :
  Calls Tryz.prog 23 #[.agg #[pv],.agg #[tsv,inv,mav,onv]] w fun e w'=>e=.returned (.int .i64 (bW ps wi))/\aA w w':=by
 have HP:=hid hp
 have HW:=hid hw
 clear hp hw
 go_enter Tryz.func23,Tryz.ntmps23
 go_upto_region 1 with fail
 refine bH (fun W'=>aA w W'/\aE w.heap.size 24 pv W'/\aG (w.heap.size+1) 46 #[tsv,inv,mav,onv] W') ⟨(aA.alloc _ _).alloc' _,(aE.new _ _ _).keep (aA.alloc _ _) (by simp),?_⟩ ?_
 ·have:=aG.new (w.alloc (.cells #[pv] 24)) 46 #[tsv,inv,mav,onv]
  rw [aC] at this;exact this
 rintro W1 ⟨k1,v1,b1⟩
 have K1:=hid k1
 have V1:=hid v1
 have B1:=hid b1
 generalize w.heap.size=b at V1 B1 ⊢
 clear k1 v1 b1
 have ht0:=V1.out.facts.1
 have htl:=V1.out.facts.2.2
 go_wp2_with fail
 refine (oQ S ps _ W1 (fun c hc=>Nat.lt_of_lt_of_le (hS c hc) K1.out.size) (HP.out.keep hS K1.out)).mono ?_
 rintro e W2 ⟨rfl,k2⟩
 have K2:=hid (K1.out.trans k2)
 have V2:=hid (V1.out.keep k2 V1.out.facts.2.2)
 have B2:=hid (B1.out.keep k2 B1.out.facts.2.2)
 clear ht0 htl V1 B1 k2
 by_cases hz:bZ ps=0
 ·have HZ:=hid hz
  have hz1:(bZ ps==0)=true:=by simpa using hz
  have hz2:(bZ ps != 0)=false:=by simp [bne,hz1]
  clear hz
  have ht0:=V2.out.facts.1
  have htl:=V2.out.facts.2.2
  have hw0:W2.cell? ⟨b+1,0,none⟩=some tsv:=B2.out.facts.1 0
  have hw1:W2.cell? ⟨b+1,1,none⟩=some inv:=B2.out.facts.1 1
  have hw2:W2.cell? ⟨b+1,2,none⟩=some mav:=B2.out.facts.1 2
  have hw3:W2.cell? ⟨b+1,3,none⟩=some onv:=B2.out.facts.1 3
  have hwl:=B2.out.facts.2.2
  go_wp2_with fail
  refine (yM S ps wi _ _ _ _ _ W2 (fun c hc=>Nat.lt_of_lt_of_le (hS c hc) K2.out.size) (HP.out.keep hS K2.out) HZ.out (HW.out.keep hS K2.out)).mono ?_
  rintro e W3 ⟨rfl,k3⟩
  have K3:=hid (K2.out.trans k3)
  clear k3
  go_wp2_with fail
  go_ret
  exact ⟨rfl,K3.out⟩
 ·have HCW:=hid (aKw wi hz)
  have hz1:(bZ ps==0)=false:=by simpa using hz
  have hz2:(bZ ps != 0)=true:=by simp [bne,hz1]
  clear hz
  go_wp2_with fail
  go_ret
  exact ⟨by rw [HCW.out];rfl,K2.out⟩
theorem yO (S:Nat->Prop) (ps:List PK) (wi:WI) (pv tsv inv mav onv mdv:Value) (n0 b:Nat) (md:List Bool) (w:World) (hS : ∀ b,S b->b<w.heap.size) (hp:aU S w ps pv) (hon:fY S w wi.on onv) (hmd:bF S w md mdv) (hz:bW ps wi=0) (hc:ChM b pv tsv inv mav onv (plI wi.ins++cJ (plI wi.ins) ps.length) n0 (inI (plI wi.ins)) w) (hml:(aB ps wi).many<=md.length) :
  Calls Tryz.prog 98 #[mdv,.pointer (some ⟨b+3,0,none⟩),.pointer (some ⟨b+5,0,none⟩),.pointer (some ⟨b,0,none⟩),.pointer (some ⟨b+1,0,none⟩)] w fun e w'=>aA w w'/\∃ v,e=.returned v/\bS (fun c=>w.heap.size<=c/\c<w'.heap.size) w' (lA ps wi md) v:=by
 obtain ⟨hT,hTS,-⟩:=fR hz
 obtain ⟨h8,hf2,-,hin,hil,-⟩:=eG hTS
 have hok:=jD hTS
 have h14:=(lO wi hT).1
 have hmc:=aCj hok fun x hx=>(hin x hx).1
 have h0 : ∀ x∈plI wi.ins,0<=x:=fun x hx=>(hin x hx).1
 refine (aId S ps wi.on pv tsv inv mav onv _ n0 b _ md mdv w hS hp hon hmd hc h8 hf2 (by omega) (fun x hx=> ?_) (by omega)).mono ?_
 ·rw [jT ps wi h0] at hx
  obtain ⟨i,hi,rfl⟩:=List.mem_map.1 hx
  have:=(Cn.CT.order_mem hok i).1 hi
  rw [cE] at this
  omega
 ·rintro e w' ⟨k,v,rfl,hv⟩
  rw [aIe ps wi md hok h0] at hv
  exact ⟨k,v,rfl,hv⟩
theorem vB (S:Nat->Prop) (ps:List PK) (wi:WI) (ms:List MB) (md:List Bool) (pv tsv inv mav onv lv mdv:Value) (w:World) (hS : ∀ b,S b->b<w.heap.size) (hp:aU S w ps pv) (hw:dV S w wi tsv inv mav onv) (hm:bS S w ms lv) (hmd:bF S w md mdv) (hcap:lX pv) (hE:Env w) (hM:iZ w) :
  Calls Tryz.prog 8 #[.agg #[pv],.agg #[tsv,inv,mav,onv],lv,mdv] w fun e w'=>e=.returned (.bool true)/\aA w w':=by
 obtain ⟨i0,hi,hz0,hz1,hz2⟩:=info_parts aAn
 have HP:=hid hp
 have HW:=hid hw
 have HL:=hid hm
 have HD:=hid hmd
 have HE:=hid hE
 have HM:=hid hM
 obtain ⟨lp,lc,hlv,-,-⟩:=id hm
 subst hlv
 obtain ⟨dp,dc,hdv,hdl,-⟩:=id hmd
 subst hdv
 clear hp hw hm hmd hE hM
 go_enter Tryz.func8,Tryz.ntmps8
 go_upto_region 1 with fail
 refine bH (fun W'=>aA w W'/\aE w.heap.size 24 pv W'/\aG (w.heap.size+1) 46 #[tsv,inv,mav,onv] W') ⟨(aA.alloc _ _).alloc' _,(aE.new _ _ _).keep (aA.alloc _ _) (by simp),?_⟩ ?_
 ·have:=aG.new (w.alloc (.cells #[pv] 24)) 46 #[tsv,inv,mav,onv]
  rw [aC] at this;exact this
 rintro W1 ⟨k1,v1,b1⟩
 have K1:=hid k1
 have V1:=hid v1
 have B1:=hid b1
 generalize w.heap.size=b at V1 B1 ⊢
 clear k1 v1 b1
 have ht0:=V1.out.facts.1
 have htl:=V1.out.facts.2.2
 have hw0:W1.cell? ⟨b+1,0,none⟩=some tsv:=B1.out.facts.1 0
 have hw1:W1.cell? ⟨b+1,1,none⟩=some inv:=B1.out.facts.1 1
 have hw2:W1.cell? ⟨b+1,2,none⟩=some mav:=B1.out.facts.1 2
 have hw3:W1.cell? ⟨b+1,3,none⟩=some onv:=B1.out.facts.1 3
 have hwl:=B1.out.facts.2.2
 go_wp2_with fail
 refine (qL S ps wi _ _ _ _ _ W1 (fun c hc=>Nat.lt_of_lt_of_le (hS c hc) K1.out.size) (HP.out.keep hS K1.out) (HW.out.keep hS K1.out) hcap).mono ?_
 rintro e W2 ⟨k2,h2o⟩
 have K2:=hid (K1.out.trans k2)
 have V2:=hid (V1.out.keep k2 V1.out.facts.2.2)
 have B2:=hid (B1.out.keep k2 B1.out.facts.2.2)
 clear ht0 htl hw0 hw1 hw2 hw3 hwl V1 B1 k2
 obtain ⟨vn,cp,cn,cc,er,rfl,h2⟩ : ∃ (vn:Int) (cp:Option Addr) (cn cc:Nat) (er:Int),e=.returned (.tuple #[.agg #[.int .i64 vn,.slice cp cn cc],.int .i64 er])/\er=bW ps wi/\(bW ps wi≠0->vn=0/\cn=0)/\(bW ps wi=0->vn=((dZ ps wi).n:Nat)/\cn=(dZ ps wi).cl.length/\Cn.iE (fun b=>W1.heap.size<=b/\b<W2.heap.size) W2 (dZ ps wi).cl (.slice cp cn cc)):=by
  rcases h2o with ⟨hz,rfl⟩ | ⟨hz,cv,rfl,hcls⟩
  ·exact ⟨0,_,_,_,_,rfl,rfl,fun _=>⟨rfl,rfl⟩,fun h=>absurd h hz⟩
  ·obtain ⟨p,c,rfl,-⟩:=hcls.len
   exact ⟨_,_,_,_,0,rfl,hz.symm,fun h=>absurd hz h,fun _=>⟨rfl,rfl,hcls⟩⟩
 have H2:=hid h2
 clear h2 h2o
 go_upto_region 2 with fail
 refine bH (fun W'=>aA W2 W'/\aG W2.heap.size 79 #[.int .i64 vn,.slice cp cn cc] W') ⟨aA.alloc _ _,aG.new _ _ _⟩ ?_
 rintro W3 ⟨k3,b3⟩
 have K23:=hid k3
 have K3:=hid (K2.out.trans k3)
 have F3:=hid b3
 have V3:=hid (V2.out.keep k3 V2.out.facts.2.2)
 have B3:=hid (B2.out.keep k3 B2.out.facts.2.2)
 have ht0:=V3.out.facts.1
 have htl:=V3.out.facts.2.2
 have hw0:W3.cell? ⟨b+1,0,none⟩=some tsv:=B3.out.facts.1 0
 have hw1:W3.cell? ⟨b+1,1,none⟩=some inv:=B3.out.facts.1 1
 have hw2:W3.cell? ⟨b+1,2,none⟩=some mav:=B3.out.facts.1 2
 have hw3:W3.cell? ⟨b+1,3,none⟩=some onv:=B3.out.facts.1 3
 have hwl:=B3.out.facts.2.2
 generalize W2.heap.size=fb at F3 ⊢
 clear k3 b3 V2 B2
 go_wp2_with fail
 refine (nI S ps wi ms _ _ _ _ _ _ W3 (fun c hc=>Nat.lt_of_lt_of_le (hS c hc) K3.out.size) (HP.out.keep hS K3.out) (HW.out.keep hS K3.out) (HL.out.keep hS K3.out)).mono ?_
 rintro e W4 ⟨k4,h4o⟩
 have K24:=hid (K23.out.trans k4)
 have K4:=hid (K3.out.trans k4)
 have F4:=hid (F3.out.keep k4 F3.out.facts.2.2)
 have V4:=hid (V3.out.keep k4 V3.out.facts.2.2)
 have B4:=hid (B3.out.keep k4 B3.out.facts.2.2)
 clear ht0 htl hw0 hw1 hw2 hw3 hwl V3 B3 F3 k4
 obtain ⟨np,nn,nc,eg,rfl,h4⟩ : ∃ (np:Option Addr) (nn nc:Nat) (eg:Int),e=.returned (.tuple #[.slice np nn nc,.int .i64 eg])/\eg=cF ps wi ms/\(cF ps wi ms≠0->nn=0)/\(cF ps wi ms=0->∃ rb,np=some ⟨rb,0,none⟩/\nn=(aB ps wi).many/\nc=(aB ps wi).many/\aG rb 3 ((Cn.chL ((aB ps wi).mod (fQ ms))).map (Value.int .i64)).toArray W4):=by
  rcases h4o with ⟨hz,rfl⟩ | ⟨hz,rb,rfl,hrb,hrow⟩
  ·exact ⟨_,_,_,_,rfl,rfl,fun _=>rfl,fun h=>absurd h hz⟩
  ·exact ⟨_,_,_,_,rfl,hz.symm,fun h=>absurd hz h,fun _=>⟨rb,rfl,rfl,rfl,hrow⟩⟩
 have H4:=hid h4
 clear h4 h4o
 have ht0:=V4.out.facts.1
 have htl:=V4.out.facts.2.2
 have hw0:W4.cell? ⟨b+1,0,none⟩=some tsv:=B4.out.facts.1 0
 have hw1:W4.cell? ⟨b+1,1,none⟩=some inv:=B4.out.facts.1 1
 have hw2:W4.cell? ⟨b+1,2,none⟩=some mav:=B4.out.facts.1 2
 have hw3:W4.cell? ⟨b+1,3,none⟩=some onv:=B4.out.facts.1 3
 have hwl:=B4.out.facts.2.2
 go_wp2_with fail
 refine (aCu S ps wi md _ _ _ _ _ _ W4 (fun c hc=>Nat.lt_of_lt_of_le (hS c hc) K4.out.size) (HP.out.keep hS K4.out) (HW.out.keep hS K4.out) (HD.out.keep hS K4.out)).mono ?_
 rintro e W5 ⟨k5,h5o⟩
 have K25:=hid (K24.out.trans k5)
 have K45:=hid k5
 have K5:=hid (K4.out.trans k5)
 have F5:=hid (F4.out.keep k5 F4.out.facts.2.2)
 have V5:=hid (V4.out.keep k5 V4.out.facts.2.2)
 have B5:=hid (B4.out.keep k5 B4.out.facts.2.2)
 clear ht0 htl hw0 hw1 hw2 hw3 hwl V4 B4 F4 k5
 obtain ⟨sp,sn,sc,eh,rfl,h5⟩ : ∃ (sp:Option Addr) (sn sc:Nat) (eh:Int),e=.returned (.tuple #[.slice sp sn sc,.int .i64 eh])/\(bW ps wi≠0->eh=bW ps wi/\sn=0)/\(bW ps wi=0->(md.length<(aB ps wi).many∨400<md.length)->eh=4/\sn=0)/\(bW ps wi=0->(aB ps wi).many<=md.length->md.length<=400->eh=0/\bS (fun c=>W4.heap.size<=c/\c<W5.heap.size) W5 (lA ps wi md) (.slice sp sn sc)):=by
  rcases h5o with ⟨hz,rfl⟩ | ⟨hz,hb,rfl⟩ | ⟨hz,ha,hb,v,rfl,hv⟩
  ·exact ⟨_,_,_,_,rfl,fun _=>⟨rfl,rfl⟩,fun h=>absurd h hz,fun h=>absurd h hz⟩
  ·exact ⟨_,_,_,_,rfl,fun h=>absurd hz h,fun _ _=>⟨rfl,rfl⟩,fun _ h1 h2=>by omega⟩
  ·obtain ⟨p,c,rfl,-⟩:=hv.len
   exact ⟨_,_,_,_,rfl,fun h=>absurd hz h,fun _ h=>by omega,fun _ _ _=>⟨rfl,hv⟩⟩
 have H5:=hid h5
 clear h5 h5o
 have ht0:=V5.out.facts.1
 have htl:=V5.out.facts.2.2
 have hw0:W5.cell? ⟨b+1,0,none⟩=some tsv:=B5.out.facts.1 0
 have hw1:W5.cell? ⟨b+1,1,none⟩=some inv:=B5.out.facts.1 1
 have hw2:W5.cell? ⟨b+1,2,none⟩=some mav:=B5.out.facts.1 2
 have hw3:W5.cell? ⟨b+1,3,none⟩=some onv:=B5.out.facts.1 3
 have hwl:=B5.out.facts.2.2
 go_wp2_with fail
 refine (aEv S ps wi _ _ _ _ _ W5 (fun c hc=>Nat.lt_of_lt_of_le (hS c hc) K5.out.size) (HP.out.keep hS K5.out) (HW.out.keep hS K5.out)).mono ?_
 rintro e W6 ⟨rfl,k6⟩
 have K26:=hid (K25.out.trans k6)
 have K56:=hid k6
 have K6:=hid (K5.out.trans k6)
 have F6:=hid (F5.out.keep k6 F5.out.facts.2.2)
 have V6:=hid (V5.out.keep k6 V5.out.facts.2.2)
 have B6:=hid (B5.out.keep k6 B5.out.facts.2.2)
 clear ht0 htl hw0 hw1 hw2 hw3 hwl V5 B5 F5 k6
 obtain ⟨cw,hcw⟩ : ∃ cw,cw=bW ps wi:=⟨_,rfl⟩
 have HCW:=hid hcw
 rw [← hcw]
 clear hcw
 go_wp2_with fail
 refine (oW W6 (HE.out.keep K6.out) (HM.out.keep K6.out)).mono ?_
 rintro e W7 ⟨rfl,k7⟩
 have K27:=hid (K26.out.trans k7)
 have K57:=hid (K56.out.trans k7)
 have K7:=hid (K6.out.trans k7)
 have F7:=hid (F6.out.keep k7 F6.out.facts.2.2)
 have V7:=hid (V6.out.keep k7 V6.out.facts.2.2)
 have B7:=hid (B6.out.keep k7 B6.out.facts.2.2)
 clear V6 B6 F6 k7
 by_cases hz:cw=0
 ·subst hz
  have hzw:bW ps wi=0:=HCW.out.symm
  obtain ⟨her,-,hform⟩:=H2.out
  obtain ⟨rfl,rfl,hcls⟩:=hform hzw
  rw [hzw] at her
  subst her
  obtain ⟨hT,hTS,-⟩:=fR hzw
  obtain ⟨h8,hf2,-,hin,hil,-⟩:=eG hTS
  have hok:=jD hTS
  have h14:=(lO wi hT).1
  have hmany:=(nB hzw).1
  have HCLS:=hid hcls
  have HZW:=hid hzw
  have HT:=hid hT
  have HOK:=hid hok
  clear hform hcls hzw hT hTS hok H2
  have ht0:=V7.out.facts.1
  have htl:=V7.out.facts.2.2
  have hw0:W7.cell? ⟨b+1,0,none⟩=some tsv:=B7.out.facts.1 0
  have hw1:W7.cell? ⟨b+1,1,none⟩=some inv:=B7.out.facts.1 1
  have hw2:W7.cell? ⟨b+1,2,none⟩=some mav:=B7.out.facts.1 2
  have hw3:W7.cell? ⟨b+1,3,none⟩=some onv:=B7.out.facts.1 3
  have hwl:=B7.out.facts.2.2
  go_wp2_with fail
  refine (wR S ps wi _ _ _ _ _ W7 (fun c hc=>Nat.lt_of_lt_of_le (hS c hc) K7.out.size) (HP.out.keep hS K7.out) (HW.out.keep hS K7.out) h8 hf2 hil (fun x hx=>by have:=hin x hx;omega)).mono ?_
  rintro e W8 ⟨k8,n8,hch,rfl⟩
  rw [show (((plI wi.ins++cJ (plI wi.ins) ps.length).length:Nat)+(bA ps ps.length:Nat):Int)=((aB ps wi).many:Nat) by rw [← aCj HOK.out fun x hx=>(hin x hx).1];push_cast;rfl]
  have CH8:=hid hch
  have K28:=hid (K27.out.trans k8)
  have K58:=hid (K57.out.trans k8)
  have K8:=hid (K7.out.trans k8)
  have F8:=hid (F7.out.keep k8 F7.out.facts.2.2)
  have V8:=hid (V7.out.keep k8 V7.out.facts.2.2)
  clear ht0 htl hw0 hw1 hw2 hw3 hwl V7 B7 F7 k8 hch h8 hf2 hil hin
  generalize W7.heap.size=hb at CH8 ⊢
  have hf0:W8.cell? ⟨fb,0,none⟩=some (.int .i64 ((dZ ps wi).n:Nat)):=F8.out.facts.1 0
  have hf1:W8.cell? ⟨fb,1,none⟩=some (.slice cp (dZ ps wi).cl.length cc):=F8.out.facts.1 1
  have hfl:=F8.out.facts.2.2
  have hmI : ¬ (((dZ ps wi).n:Nat):Int)<(((aB ps wi).many:Nat):Int):=by omega
  have hmD:decide ((dZ ps wi).n<(aB ps wi).many)=false:=decide_eq_false (by omega)
  go_wp2_with fail
  refine (Cn.tB (fun c=>W1.heap.size<=c/\c<W2.heap.size) _ (dZ ps wi).cl cp cc W8 (fun c hc=>Nat.lt_of_lt_of_le hc.2 K28.out.size) ⟨HCLS.out.mono (fun p hp=>K28.out.cell (p:=p) hp.2) fun _ h=>h,fun c hc x hx=> ?_⟩).mono ?_
  ·have h1:=(((nB HZW.out).2.2.2.1 c hc).1 x hx).2
   have h2:=(nB HZW.out).2.1
   unfold Cn.InR
   omega
  rintro e W9 ⟨rfl,hW9⟩
  have k9:aA W8 W9:=by rw [hW9];exact aA.alloc _ _
  rw [show Cn.xD ((dZ ps wi).n:Nat) (dZ ps wi).cl=0 from by obtain ⟨-,g2,g3,g4,-⟩:=nB HZW.out;exact Cn.aAj g2 g3 fun c hc=>⟨(g4 c hc).2,(g4 c hc).1⟩]
  have K59:=hid (K58.out.trans k9)
  have K9:=hid (K8.out.trans k9)
  have V9:=hid (V8.out.keep k9 V8.out.facts.2.2)
  have CH9:=hid (CH8.out.keep k9)
  have hf0:=(k9.cell (p:=⟨fb,0,none⟩) hfl).trans hf0
  have hfl:=Nat.lt_of_lt_of_le hfl k9.size
  clear k9 hW9 F8 V8 CH8 hf1
  go_upto_region 10 with fail
  obtain ⟨β,hβ⟩ : ∃ β:Bool,β=decide (md.length<(aB ps wi).many∨400<md.length):=⟨_,rfl⟩
  have HB:=hid hβ
  clear hβ
  go_cut [110] from 102 to 110 (fun t110 wc=>t110=.bool β/\wc=W9)
  case first=>
   by_cases h1:md.length<(aB ps wi).many
   ·have h1I:(md.length:Int)<((aB ps wi).many:Int):=by omega
    have hb:=HB.out
    rw [decide_eq_true (.inl h1)] at hb
    subst hb
    clear h1
    go_wp2_with fail
    go_meet
    exact ⟨rfl,rfl⟩
   ·have h1I : ¬ (md.length:Int)<((aB ps wi).many:Int):=by omega
    have h1d:decide ((md.length:Int)<((aB ps wi).many:Int))=false:=decide_eq_false h1I
    by_cases h2:400<md.length
    ·have h2I:(400:Int)<(md.length:Int):=by omega
     have hb:=HB.out
     rw [decide_eq_true (.inr h2)] at hb
     subst hb
     clear h1 h2
     go_wp2_with fail
     go_meet
     exact ⟨rfl,rfl⟩
    ·have h2I : ¬ (400:Int)<(md.length:Int):=by omega
     have hb:=HB.out
     rw [decide_eq_false (by omega)] at hb
     subst hb
     clear h1 h2
     go_wp2_with fail
     go_meet
     exact ⟨rfl,rfl⟩
  case rest=>
  obtain ⟨rfl,rfl⟩:=hcut
  rename_i hK
  refine hK _ _ ?_
  obtain ⟨W9,rfl⟩ : ∃ W9:World,W9=wc:=⟨_,rfl⟩
  go_cut [] from 111 to 128 (fun wd=>aA W9 wd)
  case first=>
   cases β
   ·have hlen : ¬ (md.length<(aB ps wi).many∨400<md.length):=by have:=HB.out;simpa using this.symm
    obtain ⟨rfl,hset⟩:=H5.out.2.2 HZW.out (by omega) (by omega)
    have HSET:=hid hset
    have hle:(aB ps wi).many<=md.length:=by omega
    clear hset hlen
    go_wp2_with fail
    refine (yO (fun c=>c<W9.heap.size) ps wi pv tsv inv mav onv _ n8 hb md W9 (fun _ h=>h) ((HP.out.keep hS K9.out).mono (fun _ _=>rfl) fun c hc=>Nat.lt_of_lt_of_le (hS c hc) K9.out.size) ((HW.out.keep hS K9.out).mono fun c hc=>Nat.lt_of_lt_of_le (hS c hc) K9.out.size).on ((HD.out.keep hS K9.out).mono (fun _ _=>rfl) fun c hc=>Nat.lt_of_lt_of_le (hS c hc) K9.out.size) HZW.out CH9.out hle).mono ?_
    rintro e W10 ⟨k10,v10,rfl,hv10⟩
    have M10:=hid hv10
    have HK10:=hid k10
    clear hv10 k10
    go_wp2_with fail
    refine (gM (fun c=>c<W10.heap.size) (lA ps wi md) (lA ps wi md) _ _ W10 (fun _ h=>h) (HSET.out.mono (fun p hp=>(K59.out.trans HK10.out).cell (p:=p) hp.2) fun c hc=>Nat.lt_of_lt_of_le hc.2 (K59.out.trans HK10.out).size) (M10.out.mono (fun _ _=>rfl) fun c hc=>hc.2)).mono ?_
    rintro e W11 ⟨γ,rfl,hγ,k11⟩
    obtain rfl:γ=true:=hγ.2 rfl
    have HK11:=hid (HK10.out.trans k11)
    clear k11 hγ
    go_wp2_with fail
    go_meet
    exact HK11.out
   ·have hlen:md.length<(aB ps wi).many∨400<md.length:=by have:=HB.out;simpa using this.symm
    obtain ⟨rfl,rfl⟩:=H5.out.2.1 HZW.out hlen
    clear hlen
    go_wp2_with fail
    go_meet
    exact aA.refl _
  case rest=>
  have K10:=hid (K9.out.trans hcut)
  have V10:=hid (V9.out.keep hcut V9.out.facts.2.2)
  have CH10:=hid (CH9.out.keep hcut)
  have HK410:=hid ((K45.out.trans K59.out).trans hcut)
  clear hcut V9 CH9 hf0 hfl HB H5
  have ht0:=V10.out.facts.1
  have htl:=V10.out.facts.2.2
  go_wp2_with fail
  refine (rV S ps ms _ _ wc (fun c hc=>Nat.lt_of_lt_of_le (hS c hc) K10.out.size) (HP.out.keep hS K10.out) (HL.out.keep hS K10.out)).mono ?_
  rintro e W11 ⟨rfl,k11⟩
  have hvv:cF ps wi ms=kE ps ms:=by
   unfold cF
   rw [if_neg (by simp [HZW.out])]
   unfold cD
   rw [if_neg (by simp [HT.out])]
  obtain ⟨hg1,hg2,hg3⟩:=H4.out
  rw [hvv] at hg1 hg2 hg3
  have K11:=hid (K10.out.trans k11)
  have CH11:=hid (CH10.out.keep k11)
  have HK411:=hid (HK410.out.trans k11)
  clear k11 CH10 V10 ht0 htl H4
  by_cases hs:kE ps ms=0
  ·obtain ⟨rb,rfl,rfl,rfl,hrow⟩:=hg3 hs
   rw [hs] at hg1 ⊢
   subst hg1
   have HTS:=hid (show cD ps ms=0 by unfold cD;rw [if_neg (by simp [HT.out])];exact hs)
   have R11:=hid (hrow.keep HK411.out hrow.facts.2.2)
   clear hg2 hg3 hrow hs hvv
   go_wp2_with (at_make;refine wpList_make_full _ rfl _ _ 62 rfl W11.heap.size 4 i0 (.bool false) 1 Tryz.underlying62 hi hz0 hz1 .i64 .i64 ((aB ps wi).many:Int) ((aB ps wi).many:Int) (aB ps wi).many rfl rfl rfl rfl (by rw [hz2];omega) (by unfold maxLen;omega) (Nat.le_refl _) ?_;intro w12 h1 h2;have HK12:=hid (Cn.oH h2);have M12:=hid (Cn.nL (v:= .bool false) rfl h1);clear h1 h2)
   obtain ⟨m0,hm0⟩ : ∃ m0,m0=(aB ps wi).mod (fQ ms):=⟨_,rfl⟩
   have hlen0:m0.length=(aB ps wi).many:=by
    rw [hm0];exact Cn.CT.mod_len HOK.out _
   have HM0:=hid hm0
   rw [← hm0] at R11
   clear hm0
   have hcl0:(Cn.chL m0).length=(aB ps wi).many:=by rw [Cn.gL,hlen0]
   have hrb:rb<W11.heap.size:=R11.out.facts.2.2
   have HFI:=hid (show Cn.dF (fun x=> .bool (decide (0<x))) (Cn.chL m0) 0 W11.heap.size 4 w12 from Cn.dF.start (z:= .bool false) (by rw [hcl0];exact M12.out))
   have k12:aA W11 w12:=HK12.out
   have R12:=hid (R11.out.keep k12 R11.out.facts.2.2)
   have hcb:W11.heap.size<=W11.heap.size:=Nat.le_refl _
   have HKK:=hid k12
   obtain ⟨cb,hcbe⟩ : ∃ cb,cb=W11.heap.size:=⟨_,rfl⟩
   have hcb1:W11.heap.size<=cb:=by omega
   have hrbc:rb<cb:=by omega
   rw [← hcbe] at HFI ⊢
   clear hcbe hcb k12 M12 R11 HK12
   go_loopg [153] (aB ps wi).many (fun gk iv wr=> ∃ j:Nat,j+gk=(aB ps wi).many/\iv=.int .i64 j/\Cn.dF (fun x=> .bool (decide (0<x))) (Cn.chL m0) j cb 4 wr/\Cn.aO (fun c=>c=cb) (fun c=>c=cb) w12 wr)
   case atStart=>exact ⟨0,by omega,rfl,HFI.out,Cn.aO.refl _ _⟩
   case round=>
   obtain ⟨j,hj,rfl,hf,ht⟩:=hrel
   have F1:=hid hf
   have T1:=hid ht
   clear hf ht
   have R1:=hid (Cn.aG.turn R12.out T1.out (fun e=>by have e:rb=cb:=e;omega))
   by_cases hlt:j<(aB ps wi).many
   ·have hjI:(j:Int)<((aB ps wi).many:Int):=by omega
    have hg:=List.getElem?_eq_getElem (l:=Cn.chL m0) (i:=j) (by omega)
    have hcr:wr.cell? ⟨rb,j,none⟩=some (.int .i64 ((Cn.chL m0)[j]'(by omega))):=by rw [R1.out.facts.1,List.getElem?_toArray,List.getElem?_map,hg];rfl
    have hrl:=R1.out.facts.2.2
    have hnx:=F1.out.next hg
    have HN:=hid (show Cn.dF (fun x=> .bool (decide (0<x))) (Cn.chL m0) (j+1) cb 4 _ from hnx)
    obtain ⟨⟨old,hold⟩,hfz,hml⟩:=F1.out.cell (i:=j) (by omega)
    have HTN:=hid (T1.out.trans (Cn.aO.set (fun c=>c=cb) wr cb j (.bool (decide (0<(Cn.chL m0)[j]'(by omega)))) rfl))
    have hxj:(Cn.chL m0)[j]'(by omega)=(j:Int)+1∨(Cn.chL m0)[j]'(by omega) = -(j:Int)-1:=by
     have h3:=Cn.lK (m:=m0) (v:=j) (by omega)
     rw [hg] at h3
     have h4:=Option.some.inj h3
     rw [h4]
     split
     ·exact .inl rfl
     ·exact .inr rfl
    clear hnx hg
    generalize (Cn.chL m0)[j]'(by omega)=xj at hcr HN HTN hxj
    obtain ⟨u,hu⟩ : ∃ u:Int,u=(j:Int)+1:=⟨_,rfl⟩
    obtain ⟨q,hq⟩ : ∃ q:Int,q = -(j:Int):=⟨_,rfl⟩
    have hw1:IntKind.i64.wrap ((j:Int)+1)=u:=by rw [hu];exact bJ (by omega)
    have HU:=hid hu
    have hw2:IntKind.i64.wrap (-(j:Int))=q:=by rw [hq];exact bJ (by omega)
    rcases hxj with rfl | rfl
    ·rw [← hu] at hcr HN HTN
     have hu1:(u==u)=true:=by simp
     have hu2:(u != u)=false:=by simp
     clear hu hq
     go_wp2_with fail
     generalize wr.setCell ⟨cb,j,none⟩ (.bool (decide (0<u)))=W13 at HN HTN ⊢
     clear hw1 hw2 hu1 hu2
     go_roundg ((aB ps wi).many-(j+1))
     case rel=>exact ⟨j+1,by omega,by rw [HU.out];push_cast;rfl,HN.out,HTN.out⟩
     case measure=>omega
    ·obtain ⟨y,hy⟩ : ∃ y:Int,y = -(j:Int)-1:=⟨_,rfl⟩
     have hw3:IntKind.i64.wrap (q-1)=y:=by rw [hy,hq];exact bJ (by omega)
     have hyu:y≠u:=by omega
     have hu1:(y==u)=false:=by simpa using hyu
     have hu2:(y != u)=true:=by simp [bne,hu1]
     have hy1:(y==y)=true:=by simp
     have hy2:(y != y)=false:=by simp
     rw [← hy] at hcr HN HTN
     clear hu hq hy hyu
     go_wp2_with fail
     generalize wr.setCell ⟨cb,j,none⟩ (.bool (decide (0<y)))=W13 at HN HTN ⊢
     clear hw1 hw2 hw3 hu1 hu2 hy1 hy2
     go_roundg ((aB ps wi).many-(j+1))
     case rel=>exact ⟨j+1,by omega,by rw [HU.out];push_cast;rfl,HN.out,HTN.out⟩
     case measure=>omega
   have hje:j=(aB ps wi).many:=by omega
   have hnl : ¬ ((j:Int)<((aB ps wi).many:Int)):=by omega
   have X13:=hid (show aG cb 4 (m0.map Value.bool).toArray wr from by
    have:=F1.out
    rw [hje,← hcl0] at this
    have h5:=aNg this
    rw [aNf] at h5
    exact h5)
   have HK13:=hid (show aA W11 wr from Below.trans HKK.out (T1.out.below (B:=W11.heap.size) HKK.out.size fun c hc e=>by have e:c=cb:=e;omega))
   have hwm:IntKind.i64.wrap (((aB ps wi).many:Int)-1)=((aB ps wi).many:Int)-1:=bJ (by omega)
   clear hje hj hlt F1 T1 R1 R12 HFI
   obtain ⟨wo,rfl⟩ : ∃ wo:World,wo=wr:=⟨_,rfl⟩
   go_wp2_with fail
   clear hwm
   go_loopg [22] (aB ps wi).many (fun gk v wr=>gk<=(aB ps wi).many/\(∃ z:Int,v=.int .i64 z/\z=(gk:Int)-1)/\aG cb 4 (m0.map Value.bool).toArray wr/\aA W11 wr)
   case atStart=>exact ⟨Nat.le_refl _,⟨_,rfl,rfl⟩,X13.out,HK13.out⟩
   case round=>
   obtain ⟨hgk,⟨z,rfl,hz⟩,hx,hk⟩:=hrel
   have X1:=hid hx
   have HK1:=hid hk
   clear hx hk
   have K1w:=hid (K11.out.trans HK1.out)
   have CH1:=hid (CH11.out.keep HK1.out)
   have HSB:=hid (show ∀ (W:World) (m:List Bool),m.length=(aB ps wi).many->aA W11 W->aG cb 4 (m.map Value.bool).toArray W->Calls Tryz.prog 98 #[.slice (some ⟨cb,0,none⟩) (aB ps wi).many (aB ps wi).many,.pointer (some ⟨hb+3,0,none⟩),.pointer (some ⟨hb+5,0,none⟩),.pointer (some ⟨hb,0,none⟩),.pointer (some ⟨hb+1,0,none⟩)] W fun e w'=>aA W w'/\∃ v,e=.returned v/\bS (fun c=>W.heap.size<=c/\c<w'.heap.size) w' (lA ps wi m) v from fun W m hl kW hX=>by
    have kk:=K11.out.trans kW
    exact yO (fun c=>c<W.heap.size) ps wi pv tsv inv mav onv _ n8 hb m W (fun _ h=>h) ((HP.out.keep hS kk).mono (fun _ _=>rfl) fun c hc=>Nat.lt_of_lt_of_le (hS c hc) (kk).size) ((HW.out.keep hS kk).mono fun c hc=>Nat.lt_of_lt_of_le (hS c hc) (kk).size).on (aNc hX hl (by omega) hX.facts.2.2) HZW.out (CH11.out.keep kW) (by omega))
   cases gk with
   | zero=>
    obtain rfl:z = -1:=by simpa using hz
    clear hz hgk
    go_wp2_with fail
    refine (HSB.out wr m0 hlen0 HK1.out X1.out).mono ?_
    rintro e W15 ⟨k15,v15,rfl,hv15⟩
    have M15:=hid hv15
    have HK15:=hid k15
    clear hv15 k15
    go_wp2_with fail
    refine (gM (fun c=>c<W15.heap.size) (lA ps wi m0) ms _ _ W15 (fun _ h=>h) (M15.out.mono (fun _ _=>rfl) fun c hc=>hc.2) ((HL.out.keep hS (K1w.out.trans HK15.out)).mono (fun _ _=>rfl) fun c hc=>Nat.lt_of_lt_of_le (hS c hc) (K1w.out.trans HK15.out).size)).mono ?_
    rintro e W16 ⟨γ,rfl,hγ,k16⟩
    obtain rfl:γ=true:=hγ.2 (by
     unfold lA
     rw [HM0.out,Cn.CT.set_mod HOK.out (sC wi HTS.out),aMu fun x hx=>((eG HTS.out).2.2.2.1 x hx).1])
    have KF:=hid ((K1w.out.trans HK15.out).trans k16)
    clear k16 hγ
    go_wp2_with fail
    go_ret
    exact ⟨rfl,KF.out⟩
   | succ i=>
    obtain rfl:z=(i:Int):=by omega
    have hil:i<m0.length:=by omega
    have hilt:i<(aB ps wi).many:=by omega
    obtain ⟨hcx,hfx,hxl⟩:=X1.out.facts
    have hci:wr.cell? ⟨cb,i,none⟩=some (.bool (m0[i]'hil)):=by rw [hcx,List.getElem?_toArray,List.getElem?_map,List.getElem?_eq_getElem hil];rfl
    have hfi:=hfx i
    have hiI:(0:Int)<=(i:Int):=by omega
    have hiL:(i:Int)<((aB ps wi).many:Int):=by omega
    have hws:IntKind.i64.wrap ((i:Int)-1)=(i:Int)-1:=bJ (by omega)
    clear hz hgk hcx hfx
    cases hb0:m0[i]'hil
    ·rw [hb0] at hci
     go_wp2_with fail
     go_roundg i
     case rel=>exact ⟨by omega,⟨_,rfl,rfl⟩,X1.out,HK1.out⟩
     case measure=>omega
    ·rw [hb0] at hci
     have HX2:=hid (show aG cb 4 ((m0.set i false).map Value.bool).toArray (wr.setCell ⟨cb,i,none⟩ (.bool false)) from by
      have:=X1.out.set i (.bool false)
      rwa [List.setIfInBounds_toArray,← List.map_set] at this)
     have HK2:=hid (show aA W11 (wr.setCell ⟨cb,i,none⟩ (.bool false)) from Below.trans HK1.out ((aX wr cb i (.bool false)).mono hcb1))
     have HNE:=hid (show lA ps wi (m0.set i false)≠ms from fun e=>by
      have h1:=Cn.CT.mod_least HOK.out (sC wi HTS.out) (v:=i) hilt (by rw [← HM0.out,List.getD_eq_getElem?_getD,List.getElem?_eq_getElem hil,hb0];rfl)
      refine h1 ?_
      rw [← HM0.out]
      have h2:fQ (lA ps wi (m0.set i false))=fQ ms:=by rw [e]
      unfold lA fQ xW at h2
      rw [List.map_map] at h2
      refine Eq.trans ?_ h2
      conv=>lhs;rw [← List.map_id (Cn.CT.set _ _)]
      exact List.map_congr_left fun a _=>rfl)
     go_upto_region 33 with fail
     generalize wr.setCell ⟨cb,i,none⟩ (.bool false)=W14 at HX2 HK2 ⊢
     clear hci hfi
     go_wp2_with fail
     refine (HSB.out W14 (m0.set i false) (by rw [List.length_set];exact hlen0) HK2.out HX2.out).mono ?_
     rintro e W15 ⟨k15,v15,rfl,hv15⟩
     have M15:=hid hv15
     have HK15:=hid k15
     clear hv15 k15
     go_wp2_with fail
     refine (gM (fun c=>c<W15.heap.size) (lA ps wi (m0.set i false)) ms _ _ W15 (fun _ h=>h) (M15.out.mono (fun _ _=>rfl) fun c hc=>hc.2) ((HL.out.keep hS (K11.out.trans (HK2.out.trans HK15.out))).mono (fun _ _=>rfl) fun c hc=>Nat.lt_of_lt_of_le (hS c hc) (K11.out.trans (HK2.out.trans HK15.out)).size)).mono ?_
     rintro e W16 ⟨γ,rfl,hγ,k16⟩
     obtain rfl:γ=false:=by
      cases γ with
      | false=>rfl
      | true=>exact absurd (hγ.1 rfl) HNE.out
     have HX6:=hid (HX2.out.keep (HK15.out.trans k16) HX2.out.facts.2.2)
     have HK6:=hid (HK2.out.trans (HK15.out.trans k16))
     clear k16 hγ HX2 HK2
     obtain ⟨hcx6,hfx6,hxl6⟩:=HX6.out.facts
     have hci6:W16.cell? ⟨cb,i,none⟩=some (.bool false):=by rw [hcx6,List.getElem?_toArray,List.getElem?_map,List.getElem?_set_self hil];rfl
     have hfi6:=hfx6 i
     have HX7:=hid (show aG cb 4 (m0.map Value.bool).toArray (W16.setCell ⟨cb,i,none⟩ (.bool true)) from by
      have:=HX6.out.set i (.bool true)
      rw [List.setIfInBounds_toArray,← List.map_set,List.set_set] at this
      rwa [show m0.set i true=m0 by rw [← hb0];exact List.set_getElem_self hil] at this)
     have HK7:=hid (show aA W11 (W16.setCell ⟨cb,i,none⟩ (.bool true)) from Below.trans HK6.out ((aX W16 cb i (.bool true)).mono hcb1))
     clear hcx6 hfx6
     go_wp2_with fail
     generalize W16.setCell ⟨cb,i,none⟩ (.bool true)=W17 at HX7 HK7 ⊢
     go_roundg i
     case rel=>exact ⟨by omega,⟨_,rfl,rfl⟩,HX7.out,HK7.out⟩
     case measure=>omega
  ·obtain rfl:=hg2 hs
   have ha1:(kE ps ms==0)=false:=by simpa using hs
   have ha2:(kE ps ms != 0)=true:=by simp [bne,ha1]
   subst hg1
   have ha3:(kE ps ms==kE ps ms)=true:=by simp
   clear hs hg2 hg3 hvv
   go_wp2_with fail
   go_ret
   exact ⟨rfl,K11.out⟩
 ·obtain ⟨her,hvn,-⟩:=H2.out
  have hne:bW ps wi≠0:=by rw [← HCW.out];exact hz
  obtain ⟨rfl,rfl⟩:=hvn hne
  obtain ⟨hg1,hg2,-⟩:=H4.out
  have hv:cF ps wi ms=bW ps wi:=by unfold cF;rw [if_pos hne]
  obtain rfl:=hg2 (by rw [hv];exact hne)
  obtain ⟨hh,-⟩:=H5.out
  obtain ⟨rfl,rfl⟩:=hh hne
  rw [hv] at hg1
  rw [← HCW.out] at her hg1
  rw [← HCW.out]
  subst her hg1
  have ha1:(eg==0)=false:=by simpa using hz
  have ha2:(eg != 0)=true:=by simp [bne,ha1]
  have ha3:(eg==eg)=true:=by simp
  have hf0:W7.cell? ⟨fb,0,none⟩=some (.int .i64 0):=F7.out.facts.1 0
  have hf1:W7.cell? ⟨fb,1,none⟩=some (.slice cp 0 cc):=F7.out.facts.1 1
  have hfl:=F7.out.facts.2.2
  clear hz hne hv hvn hg2 hh H2 H4 H5
  go_wp2_with fail
  refine (oW W7 (HE.out.keep K7.out) (HM.out.keep K7.out)).mono ?_
  rintro e W8 ⟨rfl,k8⟩
  have K8:=hid (K7.out.trans k8)
  have hf0:=(k8.cell (p:=⟨fb,0,none⟩) hfl).trans hf0
  have hf1:=(k8.cell (p:=⟨fb,1,none⟩) hfl).trans hf1
  have hfl:=Nat.lt_of_lt_of_le hfl k8.size
  clear k8
  go_wp2_with fail
  go_ret
  exact ⟨rfl,K8.out⟩
end Go.Proofs.YthaaaecmeafofaaGreatDoor
namespace Go.Proofs.YthaaaecmeafofaaGreatDoor
open Go.RowKit
theorem mS {P:Program} {w:World} : ∀ {l:List (String × DataW Unit)} {ps:List MemPlace} {x:String × DataW Unit},DataW.LaidVars P w l ps->x∈l->∃ qs,DataW.LaidVars P w [x] qs/\qs.Sublist ps
 | [],_,_,_,hx=>by cases hx
 | (n,d) :: r,ps,x,h,hx=>by
  obtain ⟨g,t,cs,fuel,p,q,h1,h2,h3,h4,h5,rfl⟩:=h
  rcases List.mem_cons.1 hx with rfl | hx
  ·exact ⟨MemPlace.row ⟨g,0,none⟩ cs.size++p ++ [],⟨g,t,cs,fuel,p,[],h1,h2,h3,h4,rfl,rfl⟩,by rw [List.append_nil];exact List.sublist_append_left _ _⟩
  ·obtain ⟨qs,h6,h7⟩:=mS h5 hx
   exact ⟨qs,h6,h7.trans (List.sublist_append_right _ _)⟩
theorem iK {P:Program} {w:World} {l:List (String × DataW Unit)} {x:String × DataW Unit} (h:laidMet P l w) (hx:x∈l):laidMet P [x] w:=by
 obtain ⟨ps,h1,h2,h3⟩:=h
 obtain ⟨qs,h4,h5⟩:=mS h1 hx
 exact ⟨qs,h4,h5.nodup h2,fun b off hb=>h3 b off (h5.subset hb)⟩
theorem mV {w:World} {b o:Nat} {v:Value} (h:w.cell? ⟨b,o,none⟩=some v):b<w.heap.size:=by
 rcases Nat.lt_or_ge b w.heap.size with h' | h'
 ·exact h'
 ·simp [World.cell?,Array.getElem?_eq_none h'] at h
theorem aGu : Tryz.prog.globalNamed "quartermaster/atom.signs" = some 8 := by kernel_rfl
theorem aLv:(Tryz.prog.globals[8]?).map (·.type)=some 324:=by kernel_rfl
theorem aNi:(Tryz.prog.globals[1]?).map (·.type)=some 270:=by kernel_rfl
theorem aNd:Tryz.prog.cellsOf 270=20:=by kernel_rfl
theorem aNe:Tryz.prog.cellsOf 237=1:=by kernel_rfl
theorem zN:Tryz.prog.cellsOf 9=1:=by kernel_rfl
theorem aMa:Tryz.prog.cellsOf 319=1:=by kernel_rfl
theorem aMp : Tryz.prog.globalNamed "strconv.ErrSyntax" = some 6 := by kernel_rfl
theorem aNk:(Tryz.prog.globals[6]?).map (·.type)=some 260:=by kernel_rfl
theorem aMo : Tryz.prog.globalNamed "strconv.ErrRange" = some 7 := by kernel_rfl
theorem aNj:(Tryz.prog.globals[7]?).map (·.type)=some 260:=by kernel_rfl
theorem aNa : "*" ++ "errors.errorString" = "*errors.errorString" := by decide
theorem aHz (u : TypeId) (h : Tryz.prog.typeName? 3 u = some "*errors.errorString") : u = 317 :=
 typeName_ptr_named (nm := "errors.errorString") (by rw [aNa]; kernel_rfl) (by kernel_rfl) (by decide) u (by rw [aNa]; exact h)
theorem aIg {W : World} (h : laidMet Tryz.prog [("quartermaster/atom.signs", Rows.laid_quartermaster_atom_signs)] W) : wG W := by
 obtain ⟨ps,⟨g,t,cs,fuel,p,q,hg,ht,hv,hd,_,_⟩,_⟩:=h
 obtain rfl:=Option.some.inj (aGu.symm.trans hg)
 obtain rfl:=Option.some.inj (aLv.symm.trans ht)
 obtain ⟨xs,m,rfl,hx,hlen,hn,hel⟩:=DataW.trod_array Tryz.underlying324 hd
 simp only [Rows.laid_quartermaster_atom_signs,Prod.mk.injEq,DataW.agg.injEq] at hx
 match xs,hn,hx,hel with
 | [x0,x1,x2,x3],_,hx,hel=>
  have cell : ∀ (k:Nat) (x:DataW Unit × List MemPlace) (l:List UInt8),k<4->[x0,x1,x2,x3][k]? = some x->x.1=.lit (.string l)->W.cell? ⟨8,k,none⟩=some (.string ⟨l.toArray⟩):=by
   intro k x l hk hxk hl
   have h1:=hel k hk
   rw [hxk] at h1
   obtain ⟨s,e1,e2,_⟩:=DataW.trod_string Tryz.underlying9 h1
   rw [e2] at hl
   have hs:s.data.toList=l:=by simpa using hl
   have hs':s=⟨l.toArray⟩:=by cases s;simp at hs;rw [← hs]
   have h2:=World.var?_cell aGu hv k
   rw [zN,Nat.mul_one] at e1
   have h3:cs[k]? = some (.string s):=by
    have:=congrArg (·[0]?) e1
    simpa [List.getElem?_take,List.getElem?_drop] using this
   rw [h2,h3,hs']
  simp only [List.map_cons,List.map_nil,List.cons.injEq,and_true] at hx
  have c1:=cell 1 x1 [61] (by decide) rfl hx.1.2.1.symm
  refine ⟨mV c1,c1,cell 2 x2 [62,61] (by decide) rfl hx.1.2.2.1.symm,cell 3 x3 [60] (by decide) rfl hx.1.2.2.2.symm⟩
theorem aLb {W : World} {l : List (String × DataW Unit)} (h : laidMet Tryz.prog l W) (h1 : ("quartermaster/atom.signs", Rows.laid_quartermaster_atom_signs) ∈ l) (h2 : ("internal/strconv.uint64pow10", Rows.laid_internal_strconv_uint64pow10) ∈ l)
  (h3 : ("strconv.ErrSyntax", Rows.laid_strconv_ErrSyntax) ∈ l) (h4 : ("strconv.ErrRange", Rows.laid_strconv_ErrRange) ∈ l) : Env W := by
 have tab : Lib.TabIs Tryz.prog W "internal/strconv.uint64pow10" .u64 Lib.pow10Tab := Lib.tabIs_of_head (rest := []) iL aNi Tryz.underlying270 Tryz.underlying237 aNe aNd (iK h h2)
 obtain ⟨a0,s0,hv0,-,-,-⟩:=laid_sentinel (iK h h3) aMp aNk Tryz.underlying260 aHz Tryz.underlying317 Tryz.underlying319 rfl rfl Tryz.underlying9 aMa zN
 obtain ⟨a1,s1,hv1,-,-,-⟩:=laid_sentinel (iK h h4) aMo aNj Tryz.underlying260 aHz Tryz.underlying317 Tryz.underlying319 rfl rfl Tryz.underlying9 aMa zN
 have c0:W.cell? ⟨6,0,none⟩=some (.iface 317 (.pointer (some a0))):=by simpa using World.var?_cell aMp hv0 0
 have c1:W.cell? ⟨7,0,none⟩=some (.iface 317 (.pointer (some a1))):=by simpa using World.var?_cell aMo hv1 0
 exact ⟨aIg (iK h h1),⟨mV (tab.cell iL 0 (by decide)),tab⟩,⟨mV c0,_,_,c0⟩,⟨mV c1,_,_,c1⟩⟩
end Go.Proofs.YthaaaecmeafofaaGreatDoor
namespace Go.Proofs.YthaaaecmeafofaaGreatDoor
open Go.ChangeShapes Go.WideShapes Go.ChangeAt Go.RowKit Go.Joins
theorem mD:Tryz.prog.cellsOf 71=6:=by kernel_rfl
theorem gP:Tryz.prog.cellsOf 3=1:=by kernel_rfl
theorem mF:Tryz.prog.cellsOf 4=1:=by kernel_rfl
end Go.Proofs.YthaaaecmeafofaaGreatDoor
namespace Go.Proofs.YthaaaecmeafofaaGreatDoor
open Go.ChangeShapes Go.WideShapes Go.ChangeAt Go.RowKit Go.Joins
theorem mG:Tryz.prog.cellsOf 74=10:=by kernel_rfl
theorem qH:Tryz.prog.cellsOf 72=1:=by kernel_rfl
theorem aMt {α:Type} {cs:List α} (h:cs.length=6) : ∃ c0 c1 c2 c3 c4 c5,cs = [c0,c1,c2,c3,c4,c5]:=by
 match cs,h with
 | [c0,c1,c2,c3,c4,c5],_=>exact ⟨c0,c1,c2,c3,c4,c5,rfl⟩
theorem aLh {α:Type} {cs:List α} (h:cs.length=10) : ∃ c0 c1 c2 c3 c4 c5 c6 c7 c8 c9,cs = [c0,c1,c2,c3,c4,c5,c6,c7,c8,c9]:=by
 match cs,h with
 | [c0,c1,c2,c3,c4,c5,c6,c7,c8,c9],_=>exact ⟨c0,c1,c2,c3,c4,c5,c6,c7,c8,c9,rfl⟩
section
variable {H:Type} {enc:TypeId × Value->H} {w:World} {base:Nat} {sp:Nat->Bool} {held:Bool}
theorem uL {fuel:Nat} {cs:List Value} {x:DataW H × List MemPlace} (h:DataW.trod enc Tryz.prog w base sp held fuel 71 cs=some x) : ∃ a:At,cs = [.string a.n,.int .i64 a.op,.int .i64 a.v,.int .i64 a.sl,.string a.f,.bool a.on]:=by
 obtain ⟨xs,m,_,hx,hl,hlen,hel⟩:=DataW.trod_struct Tryz.underlying71 h
 obtain ⟨c0,c1,c2,c3,c4,c5,rfl⟩:=aMt (hl.trans mD)
 match xs,hlen with
 | [y0,y1,y2,y3,y4,y5],_=>
  obtain ⟨n,e0,g0,_⟩:=DataW.trod_string Tryz.underlying9 (by simpa using hel 0 _ rfl)
  obtain ⟨op,e1,g1,_⟩:=DataW.trod_int Tryz.underlying3 (by simpa using hel 1 _ rfl)
  obtain ⟨v,e2,g2,_⟩:=DataW.trod_int Tryz.underlying3 (by simpa using hel 2 _ rfl)
  obtain ⟨sl,e3,g3,_⟩:=DataW.trod_int Tryz.underlying3 (by simpa using hel 3 _ rfl)
  obtain ⟨f,e4,g4,_⟩:=DataW.trod_string Tryz.underlying9 (by simpa using hel 4 _ rfl)
  obtain ⟨on,e5,g5⟩:=DataW.trod_bool Tryz.underlying4 (by simpa using hel 5 _ rfl)
  refine ⟨⟨n,op,v,sl,f,on⟩,?_⟩
  simp [gP,mF,zN] at e0 e1 e2 e3 e4 e5
  rw [e0,e1,e2,e3,e4,e5]
theorem aFf : ∀ (fuel:Nat) (cs:List Value) (x:DataW H × List MemPlace),DataW.trod enc Tryz.prog w base sp held fuel 74 cs=some x->∃ t:NT,aF (fun b=>b<w.heap.size) w t cs:=by
 intro fuel
 induction fuel using Nat.strongRecOn with
 | ind fuel ih=>
 intro cs x h
 obtain ⟨xs,m,hm,hx,hl,hlen,hel⟩:=DataW.trod_struct Tryz.underlying74 h
 obtain ⟨c0,c1,c2,c3,c4,c5,c6,c7,c8,c9,rfl⟩:=aLh (hl.trans mG)
 match xs,hlen with
 | [y0,y1,y2,y3,y4],_=>
  obtain ⟨k,e0,-,-⟩:=DataW.trod_int Tryz.underlying3 (by simpa using hel 0 _ rfl)
  obtain ⟨a,e1⟩:=uL (by simpa using hel 1 _ rfl)
  obtain ⟨fl,e2,-,-⟩:=DataW.trod_string Tryz.underlying9 (by simpa using hel 2 _ rfl)
  obtain ⟨nt,e3,-⟩:=DataW.trod_bool Tryz.underlying4 (by simpa using hel 3 _ rfl)
  have hs:=DataW.trod_slice Tryz.underlying72 (show DataW.trod enc Tryz.prog w base sp held m 72 _=some y4 by simpa using hel 4 _ rfl)
  simp [gP,mF,zN,mD] at e0 e1 e2 e3
  obtain ⟨e10,e11,e12,e13,e14,e15⟩:=e1
  rcases hs with ⟨e4,-⟩ | ⟨ad,len,cap,elems,rest,mm,hmm,e4,-,-,hlc,hcm,hle,hcell,-,-⟩
  ·simp [qH] at e4
   refine ⟨.node k a fl nt [],?_⟩
   rw [aF]
   exact ⟨none,0,by rw [e0,e10,e11,e12,e13,e14,e15,e2,e3,e4];rfl,Nat.le_refl _,by simp,by rw [aY];trivial⟩
  ·simp [qH] at e4
   have key : ∀ (q i:Nat),i+q=len->∃ ts:List NT,ts.length=q/\aY (fun b=>b<w.heap.size) w ts (some ad) i:=by
    intro q
    induction q with
    | zero=>intro i _;exact ⟨[],rfl,by rw [aY];trivial⟩
    | succ q ihq=>
     intro i hi
     obtain ⟨ts,hts,hk⟩:=ihq (i+1) (by omega)
     have hci:=hcell i (by omega)
     rw [mG,List.getElem?_eq_getElem (by omega)] at hci
     obtain ⟨csi,hc1,hc2⟩:=Option.bind_eq_some_iff.1 hci
     obtain ⟨t,ht⟩:=ih mm (by omega) csi _ hc2
     obtain ⟨hb1,hb2,hb3⟩:=World.cells?_some hc1
     have hblk:=World.cells?_block hc1 (by decide)
     refine ⟨t :: ts,by simp [hts],?_⟩
     rw [aY]
     refine ⟨⟨ad,csi,rfl,by rw [bM] at hblk;exact hblk,fun j v hv=> ?_,ht⟩,hk⟩
     have hj:j<10:=by rw [← hb2];exact (List.getElem?_eq_some_iff.1 hv).1
     rw [hb3 j hj];exact hv
   obtain ⟨ts,hts,hk⟩:=key len 0 (by omega)
   refine ⟨.node k a fl nt ts,?_⟩
   rw [aF]
   exact ⟨some ad,cap,by rw [e0,e10,e11,e12,e13,e14,e15,e2,e3,e4,hts],by omega,by unfold maxLen at hcm;omega,hk⟩
end
theorem aHj {w:World} (h:w.ShapedOpen Tryz.prog):iZ w:=by
 obtain ⟨m,hm⟩:=cell_of_shapedOpen_int (g:=0) (t:=3) (zero:=#[.int .i64 0]) (k:= .i64) h (of_decide_eq_true (by kernel_rfl)) (by kernel_rfl) rfl (by kernel_rfl) (by kernel_rfl) Tryz.underlying3
 exact ⟨mV hm,m,hm⟩
theorem tC {H:Type} {enc:TypeId × Value->H} {a:Assume} {C:Checked} {os:Os} {f:FuncId} {fn:Func} {s:ChangeSpec} {conds:List PathCond} {apart fresh handsOn again:Bool} {X:World->Array Value->Prop}
  (hX : ∀ (w w':World) (args:Array Value),w.heap=w'.heap->X w args->X w' args)
  (own:ownKnob C.prog.godebug=none) (started:os.Started) (noInit:C.prog.inits.idxOf? f=none) (hfn:C.prog.funcs[f]? = some fn)
  (witness : ∃ (w:World) (tape:Tape) (i:Input),w.os=os/\(w.forCall tape i).Shaped C.prog/\i.vars = []/\Input.okWide C.prog (w.forCall tape i) .any w.heap.size f i/\
   ((s.pre enc C.prog fn conds apart (w.forCall tape i).memory i.args/\X (w.forCall tape i).memory i.args)/\sizedMet enc C.prog fn (OpenSpec.ofChange s) apart (w.forCall tape i).memory i.args)/\a.holds C.prog (lone (Frame.enter C.prog f i.args .normal) [] (w.forCall tape i)))
  (qK : ∀ (W:World) (base:Nat) (args:Array Value) (ds gs:List (DataW H)) (before:List MemPlace),
   (∀ (j:Nat) t v,fn.params[j]? = some t->args[j]? = some v->Value.okWide C.prog W .any base t v)->
   DataW.Whole enc C.prog fn.params.toList s.vars apart W args.toList ds gs before->
   X W args->W.ShapedOpen C.prog->
   Calls C.prog f args W fun e W'=> ∃ v,e=.returned v/\s.post enc C.prog fn apart fresh handsOn again W args v W') :
  ReturnsInHanded a C os f .any (fun w args=>(s.pre enc C.prog fn conds apart w args/\X w args)/\sizedMet enc C.prog fn (OpenSpec.ofChange s) apart w args) (s.post enc C.prog fn apart fresh handsOn again):=by
 refine returnsInHanded_of_calls own started noInit witness ?_
 intro w tape i _ hsh _ hok hpre _
 obtain ⟨_,_,_,fn',hfn',_,_,_,_,hval⟩:=hok
 obtain rfl:fn'=fn:=Option.some.inj (hfn'.symm.trans hfn)
 obtain ⟨⟨⟨ds,gs,before,hw,_⟩,hx⟩,_⟩:=hpre
 have hw':=DataW.Whole.of_heap (w':=w.forCall tape i) (by rfl) hw
 refine (qK (w.forCall tape i) w.heap.size i.args ds gs before hval hw' (hX _ _ _ (by rfl) hx) hsh).mono fun e W' ⟨v,he,hp⟩=> ?_
 subst he
 exact ChangeSpec.post_blind hp
end Go.Proofs.YthaaaecmeafofaaGreatDoor
