/- Steps of the proof: RefWish, RefHolds. -/
import Derived.Test.YthaaaecmeafofaaGreatDoorVs13
import Derived.Test.YthaaaecmeafofaaGreatDoorVs11
set_option maxHeartbeats 16000000
set_option maxRecDepth 100000
namespace Go.Proofs.YthaaaecmeafofaaGreatDoor
open Go.RowKit Go.Sort
theorem aAi {x0 x1 y0 y1:Int} (h1:0<=x1) (h2:x1<10) (h3:0<=y1) (h4:y1<10):(10*x0+x1<=10*y0+y1) ↔ ¬ (y0<x0∨y0=x0/\y1<x1):=by omega
theorem sE (S:Nat->Prop) (ps:List PK) (wi:WI) (tv tsv inv mav onv:Value) (w:World) (hS : ∀ b,S b->b<w.heap.size) (hp:aT S w ps tv) (hct:cG ps=0) (h:gD S w wi tsv inv mav onv) :
  Calls Tryz.prog 32 #[.agg #[tv],.agg #[tsv,inv,mav,onv]] w fun e w'=>e=.returned (.int .i64 (dN ps wi))/\aA w w':=by
 have HP:=hid hp
 have HW:=hid h
 obtain ⟨tp,tc,rfl,htlen⟩:=hp.len
 obtain ⟨p0,c0,rfl,hl0⟩:=h.ts.len
 obtain ⟨p1,c1,rfl,hl1⟩:=h.ins.len
 obtain ⟨p2,c2,rfl,hl2⟩:=h.ma.len
 obtain ⟨p3,c3,rfl,hl3⟩:=h.on.len
 have HX:Hid (dN ps wi=if jZ ps wi.ins≠0 then jZ ps wi.ins else if taE wi.ts≠0 then taE wi.ts else if aI (maE ps wi.ma) 0 wi.ma.length≠0 then aI (maE ps wi.ma) 0 wi.ma.length else aI (onE ps wi.on) 0 wi.on.length):=by
  show _=_
  have:bK ps wi.ins=jZ ps wi.ins:=by unfold bK;rw [if_neg (fun h=>h hct)]
  unfold dN;rw [this]
 have HLP:Hid (ps.length<=8):=(dJ hct).1
 have HFL:Hid (∀ p∈ps,p.fl.length<=2):=fun p hp=>(gT (fC ((dJ hct).2 p hp)).2.2.1).1
 clear hp h
 go_enter Tryz.func32,Tryz.ntmps32
 go_wp2_with fail
 refine bE (fun W'=>aA w W'/\aD w.heap.size 24 (.slice tp ps.length tc) W'/\aG (w.heap.size+1) #[.slice p0 wi.ts.length c0,.slice p1 wi.ins.length c1,.slice p2 wi.ma.length c2,.slice p3 wi.on.length c3] W') ⟨(aA.alloc _ _).alloc' _,(aD.new _ _ _).keep (aA.alloc _ _) (by simp),?_⟩ ?_
 ·have:=aG.new (w.alloc (.cells #[.slice tp ps.length tc] 24)) #[.slice p0 wi.ts.length c0,.slice p1 wi.ins.length c1,.slice p2 wi.ma.length c2,.slice p3 wi.on.length c3] 46
  rw [aJ] at this;exact this
 rintro W0 ⟨k0,v0,b0⟩
 refine (nK S ps wi.ins _ _ W0 (fun b hb=>Nat.lt_of_lt_of_le (hS b hb) k0.size) (HP.out.keep hS k0) (HW.out.keep hS k0).ins).mono ?_
 rintro e w1 ⟨rfl,k1⟩
 have K1:=hid (k0.trans k1)
 have V1:=hid (v0.keep k1 v0.facts.2.2)
 have B1:=hid (b0.keep k1 b0.1)
 clear k0 v0 b0 k1
 generalize jZ ps wi.ins=e1 at HX ⊢
 by_cases hz:e1=0
 case neg=>
  have HY:Hid (dN ps wi=e1):=by show _=_;rw [HX.out,if_pos hz]
  have hz1:(e1==0)=false:=by simp [hz]
  have hz2:(e1 != 0)=true:=by simp [hz]
  clear hz HX
  go_wp2_with fail
  go_ret
  exact ⟨aB HY.out.symm,K1.out⟩
 subst hz
 have HX1:Hid (dN ps wi=if taE wi.ts≠0 then taE wi.ts else if aI (maE ps wi.ma) 0 wi.ma.length≠0 then aI (maE ps wi.ma) 0 wi.ma.length else aI (onE ps wi.on) 0 wi.on.length):=HX.out
 have hcb:=B1.out.2
 have hlb:=B1.out.1
 clear HX
 by_cases h6:6<wi.ts.length
 ·have h6':(6:Int)<(wi.ts.length:Int):=by omega
  have HY:Hid (dN ps wi=2):=by
   show _=_
   have:taE wi.ts=2:=by unfold taE;rw [if_pos h6]
   rw [HX1.out,this];rfl
  clear HX1
  go_wp2_with fail
  go_ret
  exact ⟨aB HY.out.symm,K1.out⟩
 have h6' : ¬ (6:Int)<(wi.ts.length:Int):=by omega
 have HTA:Hid (taE wi.ts=aI (fun k=>eT (wi.ts.getD k At.zero)) 0 wi.ts.length):=by show _=_;unfold taE;rw [if_neg h6]
 generalize hg:(fun k=>eT (wi.ts.getD k At.zero))=g at HTA
 have HG:=hid hg
 clear hg
 rw [HTA.out] at HX1
 go_wp2_with fail
 clear hcb hlb
 go_loopg [29] wi.ts.length (fun gk i wr=> ∃ j:Nat,j+gk=wi.ts.length/\i=.int .i64 j/\aI g 0 wi.ts.length=aI g j (wi.ts.length-j)/\aA w wr/\aD w.heap.size 24 (.slice tp ps.length tc) wr/\aG (w.heap.size+1) #[.slice p0 wi.ts.length c0,.slice p1 wi.ins.length c1,.slice p2 wi.ma.length c2,.slice p3 wi.on.length c3] wr)
 case atStart=>exact ⟨0,by simp,rfl,rfl,K1.out,V1.out,B1.out⟩
 case round=>
  obtain ⟨j,hj,rfl,he,hkp,hvt,hbx⟩:=hrel
  have HEQ:=hid he
  have HK:=hid hkp
  have HV:=hid hvt
  have HB:=hid hbx
  clear he hkp hvt hbx K1 V1 B1
  by_cases hlt:j<wi.ts.length
  ·obtain ⟨b,off,hp,hSb,c0',c1',c2',c3',c4',c5'⟩:=(HW.out.keep hS HK.out).ts.get hlt
   subst hp
   have HST:=hid (cE (f:=g) hlt)
   have HGJ:Hid (g j=eT wi.ts[j]):=by show _=_;rw [← HG.out];show eT (wi.ts.getD j At.zero)=_;rw [List.getD_eq_getElem?_getD,List.getElem?_eq_getElem hlt,Option.getD_some]
   generalize wi.ts[j]=a at c0' c1' c2' c3' c4' c5' HGJ
   go_wp2_with fail
   refine bE (fun W'=>aA wr W') (aA.alloc _ _) ?_
   intro W0 k0
   refine (hY a.n a.f a.op a.v a.sl a.on W0).mono ?_
   rintro e w1 ⟨rfl,k1⟩
   have k01:=k0.trans k1
   have K1:=hid (HK.out.trans k01)
   have V1:=hid (HV.out.keep k01 HV.out.facts.2.2)
   have B1:=hid (HB.out.keep k01 HB.out.1)
   rw [show chk a.n.data.toList a.op a.v a.sl a.f.data.toList a.on=g j from HGJ.out.symm]
   clear k0 k1 k01 c0' c1' c2' c3' c4' c5'
   by_cases hz:g j=0
   ·have HZ:=hid hz
    have hz1:(g j==0)=true:=by simp [hz]
    have hz2:(g j != 0)=false:=by simp [hz]
    clear hz
    go_wp2_with fail
    go_roundg (wi.ts.length-(j+1))
    case rel=>exact ⟨j+1,by omega,by go_num,by rw [HEQ.out,HST.out,if_pos HZ.out],K1.out,V1.out,B1.out⟩
    case measure=>omega
   ·have HZ:=hid hz
    have HY:Hid (dN ps wi=g j):=by
     show _=_
     have e:aI g 0 wi.ts.length=g j:=by rw [HEQ.out,HST.out,if_neg hz]
     rw [HX1.out,e,if_pos hz]
    have hz1:(g j==0)=false:=by simp [hz]
    have hz2:(g j != 0)=true:=by simp [hz]
    clear hz
    go_wp2_with fail
    go_ret
    exact ⟨aB HY.out.symm,K1.out⟩
  ·have HX2:Hid (dN ps wi=if aI (maE ps wi.ma) 0 wi.ma.length≠0 then aI (maE ps wi.ma) 0 wi.ma.length else aI (onE ps wi.on) 0 wi.on.length):=by
    show _=_
    have e:aI g 0 wi.ts.length=0:=by rw [HEQ.out,show wi.ts.length-j=0 by omega];rfl
    rw [HX1.out,e];rfl
   have hcb:=HB.out.2
   have hlb:=HB.out.1
   clear HX1 HEQ HTA HG
   go_wp2_with fail
   clear hcb hlb
   go_loopg [42] wi.ma.length (fun gk i wr'=> ∃ j:Nat,j+gk=wi.ma.length/\i=.int .i64 j/\aI (maE ps wi.ma) 0 wi.ma.length=aI (maE ps wi.ma) j (wi.ma.length-j)/\aA w wr'/\aD w.heap.size 24 (.slice tp ps.length tc) wr'/\aG (w.heap.size+1) #[.slice p0 wi.ts.length c0,.slice p1 wi.ins.length c1,.slice p2 wi.ma.length c2,.slice p3 wi.on.length c3] wr')
   case atStart=>exact ⟨0,by simp,rfl,rfl,HK.out,HV.out,HB.out⟩
   case round=>
    obtain ⟨j,hj,rfl,he,hkp,hvt,hbx⟩:=hrel
    clear HK HV HB
    have HEQ:=hid he
    have HK:=hid hkp
    have HV:=hid hvt
    have HB:=hid hbx
    obtain ⟨ht0,-,htl⟩:=hvt.facts
    have hcb:=hbx.2
    have hlb:=hbx.1
    clear he hkp hvt hbx
    by_cases hlt:j<wi.ma.length
    ·obtain ⟨b,off,hp,hSb,hc⟩:=(HW.out.keep hS HK.out).ma.get (by omega)
     subst hp
     have hcj:=hc j hlt
     have HST:=hid (cE (f:=maE ps wi.ma) hlt)
     have HRET:Hid (∀ x:Int,x≠0->maE ps wi.ma j=x->dN ps wi=x):=fun x hx hy=>by
      have e:aI (maE ps wi.ma) 0 wi.ma.length=x:=by rw [HEQ.out,HST.out,hy,if_neg hx]
      rw [HX2.out,e,if_pos hx]
     have HMA:Hid (maE ps wi.ma j=if wi.ma.getD j 0<0∨(ps.length:Int)<=wi.ma.getD j 0 then 5 else if 0<j/\wi.ma.getD j 0<=wi.ma.getD (j-1) 0 then 6 else 0):=rfl
     have hprev:0<j->wr.cell? ⟨b,off+(j-1),none⟩=some (.int .i64 (wi.ma.getD (j-1) 0)):=fun h0=>hc (j-1) (by omega)
     generalize wi.ma.getD j 0=x at hcj HMA
     generalize wi.ma.getD (j-1) 0=y at hprev HMA
     clear hc
     by_cases h0:x<0
     ·have HY:=hid (HRET.out 5 (by decide) (by rw [HMA.out,if_pos (Or.inl h0)]))
      clear HMA hprev
      go_wp2_with fail
      go_ret
      exact ⟨aB HY.out.symm,HK.out⟩
     by_cases h1:(ps.length:Int)<=x
     ·have HY:=hid (HRET.out 5 (by decide) (by rw [HMA.out,if_pos (Or.inr h1)]))
      clear HMA hprev
      go_wp2_with fail
      go_ret
      exact ⟨aB HY.out.symm,HK.out⟩
     have HM2:Hid (maE ps wi.ma j=if 0<j/\x<=y then 6 else 0):=by show _=_;rw [HMA.out,if_neg (by omega)]
     clear HMA
     by_cases hj0:0<j
     ·have hcy:=hprev hj0
      obtain ⟨m,rfl⟩ : ∃ m,j=m+1:=⟨j-1,by omega⟩
      have hcy':wr.cell? ⟨b,off+m,none⟩=some (.int .i64 y):=hcy
      have h0':(0:Int)<((m+1:Nat):Int):=by omega
      have hd:decide ((0:Int)<((m+1:Nat):Int))=true:=decide_eq_true h0'
      have e1:((m+1:Nat):Int)-1=(m:Int):=by omega
      have hm:m<wi.ma.length:=by omega
      clear hprev hcy
      by_cases hle:x<=y
      ·have HY:=hid (HRET.out 6 (by decide) (by rw [HM2.out,if_pos ⟨by omega,hle⟩]))
       clear HM2
       go_wp2_with fail
       go_ret
       exact ⟨aB HY.out.symm,HK.out⟩
      ·have HY:Hid (maE ps wi.ma (m+1)=0):=by show _=_;rw [HM2.out,if_neg (fun h=>hle h.2)]
       clear HM2
       go_wp2_with fail
       go_roundg (wi.ma.length-(m+1+1))
       case rel=>exact ⟨m+1+1,by omega,by go_num,by rw [HEQ.out,HST.out,HY.out];rfl,HK.out,HV.out,HB.out⟩
       case measure=>omega
     ·have HY:Hid (maE ps wi.ma j=0):=by show _=_;rw [HM2.out,if_neg (fun h=>hj0 h.1)]
      obtain rfl:j=0:=by omega
      rw [Nat.add_zero] at hcj
      clear HM2 hprev
      go_wp2_with fail
      go_roundg (wi.ma.length-(0+1))
      case rel=>exact ⟨0+1,by omega,by go_num,by rw [HEQ.out,HST.out,HY.out];rfl,HK.out,HV.out,HB.out⟩
      case measure=>omega
    ·have HX3:Hid (dN ps wi=aI (onE ps wi.on) 0 wi.on.length):=by
      show _=_
      have e:aI (maE ps wi.ma) 0 wi.ma.length=0:=by rw [HEQ.out,show wi.ma.length-j=0 by omega];rfl
      rw [HX2.out,e];rfl
     clear HX2 HEQ ht0 htl
     go_wp2_with fail
     clear hcb hlb
     go_loopg [72,11] wi.on.length (fun gk i ls wr'=> ∃ (j:Nat) (la:Int),j+gk=wi.on.length/\i=.int .i64 j/\ls=.int .i64 la/\(j=0->la = -1)/\(0<j->la=10*(wi.on.getD (j-1) (0,0)).1+(wi.on.getD (j-1) (0,0)).2/\0<=(wi.on.getD (j-1) (0,0)).2/\(wi.on.getD (j-1) (0,0)).2<10)/\aI (onE ps wi.on) 0 wi.on.length=aI (onE ps wi.on) j (wi.on.length-j)/\aA w wr'/\aD w.heap.size 24 (.slice tp ps.length tc) wr'/\aG (w.heap.size+1) #[.slice p0 wi.ts.length c0,.slice p1 wi.ins.length c1,.slice p2 wi.ma.length c2,.slice p3 wi.on.length c3] wr')
     case atStart=>exact ⟨0,-1,by simp,rfl,rfl,fun _=>rfl,fun h=>absurd h (Nat.lt_irrefl 0),rfl,HK.out,HV.out,HB.out⟩
     case round=>
      obtain ⟨j,la,hj,rfl,rfl,hla0,hla,he,hkp,hvt,hbx⟩:=hrel
      clear HK HV HB
      have HEQ:=hid he
      have HK:=hid hkp
      have HV:=hid hvt
      have HB:=hid hbx
      have HLA0:=hid hla0
      have HLA:=hid hla
      clear he hkp hvt hbx hla0 hla
      by_cases hlt:j<wi.on.length
      ·have HST:=hid (cE (f:=onE ps wi.on) hlt)
       have HRET:Hid (∀ x:Int,x≠0->onE ps wi.on j=x->dN ps wi=x):=fun x hx hy=>by
        rw [HX3.out,HEQ.out,HST.out,hy,if_neg hx]
       obtain ⟨b,off,hp,hSb,hc⟩:=(HW.out.keep hS HK.out).on.get (by omega)
       subst hp
       obtain ⟨hc0,hc1⟩:=hc j hlt
       have HNX:Hid (wi.on.getD (j+1-1) (0,0)=wi.on.getD j (0,0)):=by show _=_;rw [Nat.add_sub_cancel]
       have HON:Hid (onE ps wi.on j=if (wi.on.getD j (0,0)).1<0∨(ps.length:Int)<=(wi.on.getD j (0,0)).1 then 5 else if (wi.on.getD j (0,0)).2<0∨((ps.getD (wi.on.getD j (0,0)).1.toNat PK.zero).fl.length:Int)<=(wi.on.getD j (0,0)).2 then 5
        else if 0<j/\¬ ((wi.on.getD (j-1) (0,0)).1<(wi.on.getD j (0,0)).1∨(wi.on.getD (j-1) (0,0)).1=(wi.on.getD j (0,0)).1/\(wi.on.getD (j-1) (0,0)).2<(wi.on.getD j (0,0)).2) then 6 else 0):=rfl
       generalize wi.on.getD j (0,0)=xx at hc0 hc1 HON HNX
       generalize wi.on.getD (j-1) (0,0)=yy at HLA HON
       obtain ⟨x0,x1⟩:=xx
       obtain ⟨y0,y1⟩:=yy
       simp only at hc0 hc1 HON HLA
       have hblt:b<wr.heap.size:=Nat.lt_of_lt_of_le (hS b hSb) HK.out.size
       clear hc
       go_upto_region 25 with fail
       refine bW (fun W'=>aA wr W'/\aG wr.heap.size #[.int .i64 x0,.int .i64 x1] W') ⟨aA.alloc _ _,aG.new _ _ _⟩ ?_
       rintro W2 ⟨k2,b2⟩
       have K2:=hid (HK.out.trans k2)
       have V2:=hid (HV.out.keep k2 HV.out.facts.2.2)
       have X2:=hid (HB.out.keep k2 HB.out.1)
       have B2:=hid b2
       have hb2c:=b2.2
       have hb2l:=b2.1
       obtain ⟨ht0,-,htl⟩:=V2.out.facts
       clear k2 b2 hc0 hc1 HK HV HB
       by_cases h0:x0<0
       ·have HY:=hid (HRET.out 5 (by decide) (by rw [HON.out,if_pos (Or.inl h0)]))
        have hd0:decide (x0<0)=true:=decide_eq_true h0
        clear HON HLA HLA0
        go_quiet (fail)
        go_wp2_with fail
        go_ret
        exact ⟨aB HY.out.symm,aA.drewN K2.out _⟩
       have hd0:decide (x0<0)=false:=decide_eq_false h0
       by_cases h1:(ps.length:Int)<=x0
       ·have HY:=hid (HRET.out 5 (by decide) (by rw [HON.out,if_pos (Or.inr h1)]))
        have hd1:decide ((ps.length:Int)<=x0)=true:=decide_eq_true h1
        clear HON HLA HLA0
        go_quiet (fail)
        go_wp2_with fail
        go_ret
        exact ⟨aB HY.out.symm,aA.drewN K2.out _⟩
       have hd1:decide ((ps.length:Int)<=x0)=false:=decide_eq_false h1
       obtain ⟨q,rfl⟩ : ∃ q:Nat,x0=q:=⟨x0.toNat,by omega⟩
       have hqp:q<ps.length:=by omega
       obtain ⟨tb,toff,tcap,htv,htb,-,htrow⟩:=(HP.out.keep hS K2.out).get hqp
       cases htv
       obtain ⟨cs,hcs,hpk⟩:=htrow q hqp
       have hfl2:=HFL.out _ (List.getElem_mem hqp)
       have HO2:Hid (onE ps wi.on j=if x1<0∨(ps[q].fl.length:Int)<=x1 then 5 else if 0<j/\¬ (y0<(q:Int)∨y0=(q:Int)/\y1<x1) then 6 else 0):=by
        show _=_
        rw [HON.out,if_neg (by omega),Int.toNat_natCast,dF ps q hqp]
       generalize ps[q]=p at hpk HO2 hfl2
       obtain ⟨kk,a,fl,nt,kids,kp,fp,kc,fc,hnd,hfl,rfl,hf,hn⟩:=hpk.spelt
       obtain ⟨-,-,-,cc3,-⟩:=cM hcs
       have htl2:tb<W2.heap.size:=Nat.lt_of_lt_of_le (hS tb htb) K2.out.size
       clear hcs hpk htrow hf hn hnd HON
       rcases p with ⟨pn,pv,psl,fs,nd⟩
       simp only at hfl cc3 HO2 hfl2
       by_cases h2:x1<0
       ·have HY:=hid (HRET.out 5 (by decide) (by rw [HO2.out,if_pos (Or.inl h2)]))
        have hd2:decide (x1<0)=true:=decide_eq_true h2
        clear HO2 HLA HLA0
        go_quiet (fail)
        go_wp2_with fail
        go_ret
        exact ⟨aB HY.out.symm,aA.drewN K2.out _⟩
       have hd2:decide (x1<0)=false:=decide_eq_false h2
       by_cases h3:(fs.length:Int)<=x1
       ·have HY:=hid (HRET.out 5 (by decide) (by rw [HO2.out,if_pos (Or.inr h3)]))
        have hd3:decide ((fs.length:Int)<=x1)=true:=decide_eq_true h3
        clear HO2 HLA HLA0
        go_quiet (fail)
        go_wp2_with fail
        go_ret
        exact ⟨aB HY.out.symm,aA.drewN K2.out _⟩
       have hd3:decide ((fs.length:Int)<=x1)=false:=decide_eq_false h3
       have hq8:q<8:=by have:=HLP.out;omega
       have HO3:Hid (onE ps wi.on j=if 10*(q:Int)+x1<=la then 6 else 0):=by
        show _=_
        rw [HO2.out,if_neg (by omega)]
        by_cases hj0:0<j
        ·obtain ⟨ea,eb,ec⟩:=HLA.out hj0
         have hl:=aAi (x0:=(q:Int)) (x1:=x1) (y0:=y0) (y1:=y1) (by omega) (by omega) eb ec
         rw [ea]
         by_cases hc:10*(q:Int)+x1<=10*y0+y1
         ·rw [if_pos hc,if_pos ⟨hj0,hl.1 hc⟩]
         ·rw [if_neg hc,if_neg (fun h=>hc (hl.2 h.2))]
        ·have ea:=HLA0.out (by omega)
         rw [ea,if_neg (fun h=>hj0 h.1),if_neg (by omega)]
       clear HO2 HLA HLA0
       go_quiet (fail)
       have k4:aA W2 (W2.drewN nq):=aA.drewN (aA.refl _) _
       generalize W2.drewN nq=W4 at k4 ⊢
       have K4:=hid (K2.out.trans k4)
       have V4:=hid (V2.out.keep k4 V2.out.facts.2.2)
       have X4:=hid (X2.out.keep k4 X2.out.1)
       have b4:=B2.out.keep k4 B2.out.1
       have hb4c:=b4.2
       have hb4l:=b4.1
       clear k4 b4 hb2c hb2l ht0 htl cc3 K2 V2 X2 B2 hd0 hd1 hd2 hd3
       have hx1:x1<2:=by omega
       have hm1:(10*(q:Int))<=70:=by omega
       by_cases hle:10*(q:Int)+x1<=la
       ·have HY:=hid (HRET.out 6 (by decide) (by rw [HO3.out,if_pos hle]))
        clear HO3
        go_wp2_with fail
        go_ret
        exact ⟨aB HY.out.symm,K4.out⟩
       ·have HY:Hid (onE ps wi.on j=0):=by show _=_;rw [HO3.out,if_neg hle]
        clear HO3
        go_wp2_with fail
        go_roundg (wi.on.length-(j+1))
        case rel=>exact ⟨j+1,10*(q:Int)+x1,by omega,by go_num,by go_num,fun h=>absurd h (by omega),fun _=>by rw [HNX.out];exact ⟨rfl,by omega,by omega⟩,by rw [HEQ.out,HST.out,HY.out];rfl,K4.out,V4.out,X4.out⟩
        case measure=>omega
      ·go_wp2_with fail
       go_ret
       exact ⟨aB (by rw [HX3.out,HEQ.out,show wi.on.length-j=0 by omega];rfl),HK.out⟩
def gG (ps:List PK) (ms:List MB) (k:Int) (a:At):Nat->Nat
 | 0=>0
 | n+1=>gG ps ms k a n+(if (!decide ((n:Int)=k)&&isB (aV ps (ms.getD n MB.zero)) (ms.getD n MB.zero) a)=true then 1 else 0)
theorem uV (ps:List PK) (ms:List MB) (k:Int) (a:At) : ∀ n,gG ps ms k a n<=n
 | 0=>Nat.le_refl 0
 | n+1=>by have:=uV ps ms k a n;rw [gG];split<;>omega
theorem oP (ps:List PK) (ms:List MB) (k:Int) (a:At) : ∀ n,decide (0<gG ps ms k a n)=dK ps ms k a n
 | 0=>by simp [gG,dK]
 | n+1=>by
  rw [gG,dK,← oP ps ms k a n]
  cases (!decide ((n:Int)=k)&&isB (aV ps (ms.getD n MB.zero)) (ms.getD n MB.zero) a)
  ·simp
  ·simp
theorem uW (ps:List PK) (ms:List MB) (k:Int) (a:At):decide ((0:Int)<((gG ps ms k a ms.length:Nat):Int))=bY ps ms k a:=by
 unfold bY
 rw [← oP]
 exact decide_eq_decide.2 (by omega)
theorem yB (ps:List PK) (ms:List MB) (k:Int) (a:At):(((gG ps ms k a ms.length:Nat):Int)==0) = !bY ps ms k a:=by
 rw [← uW]
 by_cases h:gG ps ms k a ms.length=0
 ·rw [h];rfl
 ·have h1:(0:Int)<((gG ps ms k a ms.length:Nat):Int):=by omega
  rw [decide_eq_true h1]
  simp [h]
theorem vX (g:NT->Bool) (l:List NT):decide ((0:Int)<((l.countP g:Nat):Int))=l.any g:=by
 cases h:l.any g
 ·have h0 : ¬ 0<l.countP g:=fun h1=>by
   obtain ⟨a,ha,hg⟩:=List.countP_pos_iff.1 h1
   rw [List.any_eq_false] at h
   exact h a ha hg
  exact decide_eq_false (by omega)
 ·rw [List.any_eq_true] at h
  have:=List.countP_pos_iff.2 h
  exact decide_eq_true (by omega)
theorem vW (g:NT->Bool) (l:List NT):(((l.countP g:Nat):Int)==(l.length:Int)) = !l.any (fun t=> !g t):=by
 cases h:l.any (fun t=> !g t)
 ·have h1:l.countP g=l.length:=List.countP_eq_length.2 fun a ha=>by
   rw [List.any_eq_false] at h
   have:=h a ha
   simpa using this
  simp [h1]
 ·have h1 : ¬ l.countP g=l.length:=fun e=>by
   rw [List.any_eq_true] at h
   obtain ⟨a,ha,hg⟩:=h
   have:=List.countP_eq_length.1 e a ha
   rw [this] at hg;cases hg
  have h2 : ¬ ((l.countP g:Nat):Int)=(l.length:Int):=by omega
  simp [h2]
theorem tI (g:NT->Bool) (l:List NT) (j:Nat) (h:j<l.length):(l.take (j+1)).countP g=(l.take j).countP g+(if g l[j]=true then 1 else 0):=by
 rw [List.take_succ_eq_append_getElem h,List.countP_append,List.countP_singleton]
theorem mL {fs:List ByteArray} {x:ByteArray} (h:aQ fs x<fs.length):fs[aQ fs x]=x:=
 of_decide_eq_true (List.findIdx_getElem (p:=fun f=>decide (f=x)) (w:=h))
theorem tP {fs:List ByteArray} {x:ByteArray} {j:Nat} (hj:j<fs.length) (e:fs[j]=x):aQ fs x<=j:=
 Nat.le_of_not_lt fun h=>by
  have:=List.not_of_lt_findIdx h
  simp [e] at this
theorem wD {fs:List ByteArray} (h:bR fs=0) {x:ByteArray} {j:Nat} (hj:j<fs.length) (e:fs[j]=x):aQ fs x=j:=by
 have h2:=(gT h).1
 have hle:=tP hj e
 rcases Nat.lt_or_ge (aQ fs x) j with hlt | hge
 ·exfalso
  have hl:aQ fs x<fs.length:=by omega
  have e0:=mL hl
  have h0:aQ fs x=0:=by omega
  have h1:j=1:=by omega
  subst h1
  have e1:fs[0]'(by omega)=x:=by rw [← e0];simp [h0]
  have hz:aI (flE fs) 0 fs.length=0:=by
   have:=h;unfold bR at this;rwa [if_neg (by omega)] at this
  have hl2:fs.length=2:=by omega
  rw [hl2] at hz
  have hf1:flE fs 1=0:=by
   rw [aI,aI,aI] at hz
   split at hz
   ·split at hz
    ·assumption
    ·rename_i h3;exact absurd hz h3
   ·rename_i h3;exact absurd hz h3
  unfold flE at hf1
  have g1:fs.getD 1 ⟨#[]⟩=x:=by rw [List.getD_eq_getElem?_getD,List.getElem?_eq_getElem hj,Option.getD_some,e]
  have g0:fs.getD 0 ⟨#[]⟩=x:=by rw [List.getD_eq_getElem?_getD,List.getElem?_eq_getElem (by omega),Option.getD_some,e1]
  have hs:leS x x=true:=by unfold leS;simp
  rw [g1,show (1:Nat)-1=0 from rfl,g0,hs] at hf1
  split at hf1
  ·cases hf1
  ·rw [if_pos ⟨by omega,rfl⟩] at hf1;cases hf1
 ·omega
theorem aAm {W:World} {n:Nat} (h:W.heap.size=n) (v:Value) (T:TypeId):aD n T v (W.alloc (.cells #[v] T)):=h ▸ aD.new W T v
theorem tK (args:Array Value) (w:World):(callFunc 92 args).run Tryz.prog w=.ok (.enter 92 args) w:=enters_of Tryz.func92 (by kernel_rfl) rfl args w
theorem yO (S:Nat->Prop) (ps:List PK) (ms:List MB) (tp lp:Option Addr) (tc lc ct cl:Nat) (but:Int) (an af:ByteArray) (aop av asl:Int) (aon:Bool) (w:World) (hS : ∀ b,S b->b<w.heap.size) (hp:aT S w ps (.slice tp ps.length tc)) (hct:cG ps=0) (hm:bS S w ms (.slice lp ms.length lc)) (hok:jX ps ms)
  (ht:aD ct 24 (.slice tp ps.length tc) w) (hl:aD cl 25 (.slice lp ms.length lc) w) :
  Calls Tryz.prog 92 #[.agg #[.string an,.int .i64 aop,.int .i64 av,.int .i64 asl,.string af,.bool aon],.int .i64 but,.pointer (some ⟨cl,0,none⟩),.pointer (some ⟨ct,0,none⟩)] w fun e w'=>e=.returned (.int .i64 ((gG ps ms but ⟨an,aop,av,asl,af,aon⟩ ms.length:Nat):Int))/\aA w w':=by
 have HP:=hid hp
 have HMS:=hid hm
 have HT:=hid ht
 have HL:=hid hl
 have HOK:=hid hok
 have HCT:=hid hct
 obtain ⟨-,-,-,hllen⟩:=hm.len
 clear hp hm ht hl hok hct
 go_enter Tryz.func92,Tryz.ntmps92
 go_upto_region 1 with fail
 refine bW (fun W'=>aA w W'/\aG w.heap.size #[.string an,.int .i64 aop,.int .i64 av,.int .i64 asl,.string af,.bool aon] W') ⟨aA.alloc _ _,aG.new _ _ _⟩ ?_
 rintro W0 ⟨k0,b0⟩
 have K0:=hid k0
 have B0:=hid b0
 obtain ⟨hcl,-,hll⟩:=(HL.out.keep k0 HL.out.facts.2.2).facts
 clear k0 b0
 go_wp2_with fail
 clear hcl hll
 go_loopg [12,7] ms.length (fun gk i c wr=> ∃ (j:Nat),j+gk=ms.length/\i=.int .i64 j/\c=.int .i64 ((gG ps ms but ⟨an,aop,av,asl,af,aon⟩ j:Nat):Int)/\aA w wr/\aG w.heap.size #[.string an,.int .i64 aop,.int .i64 av,.int .i64 asl,.string af,.bool aon] wr)
 case atStart=>exact ⟨0,by simp,rfl,rfl,K0.out,B0.out⟩
 case round=>
  obtain ⟨j,hj,rfl,rfl,hkp,hbx⟩:=hrel
  have HK:=hid hkp
  have HB:=hid hbx
  clear hkp hbx K0 B0
  by_cases hlt:j<ms.length
  ·have hSr : ∀ b,S b->b<wr.heap.size:=fun b hb=>Nat.lt_of_lt_of_le (hS b hb) HK.out.size
   obtain ⟨mb,moff,mcap,hmv,hmS,-,hrow⟩:=(HMS.out.keep hS HK.out).get hlt
   cases hmv
   obtain ⟨op,oc,hc0,hc1,hon,hbl⟩:=hrow j _ (List.getElem?_eq_getElem hlt)
   obtain ⟨h0,h1,h2⟩:=HOK.out j _ (List.getElem?_eq_getElem hlt)
   have HC:=hid (uV ps ms but ⟨an,aop,av,asl,af,aon⟩ j)
   have HST:Hid (gG ps ms but ⟨an,aop,av,asl,af,aon⟩ (j+1)=gG ps ms but ⟨an,aop,av,asl,af,aon⟩ j+(if (!decide ((j:Int)=but)&&isB (aV ps ms[j]) ms[j] ⟨an,aop,av,asl,af,aon⟩)=true then 1 else 0)):=by
    show _=_
    rw [gG,cJ ms j hlt]
   have HIS:Hid (∀ W,aA wr W->Calls Tryz.prog 60 #[.agg #[.slice tp ps.length tc],.agg #[.int .i64 ms[j].pl,.slice op ms[j].on.length oc],.agg #[.string an,.int .i64 aop,.int .i64 av,.int .i64 asl,.string af,.bool aon]] W fun e w'=>e=.returned (.bool (isB (aV ps ms[j]) ms[j] ⟨an,aop,av,asl,af,aon⟩))/\aA W w'):=fun W kW=>
    pG S ps ms[j] op oc _ an af aop av asl aon W (fun b hb=>Nat.lt_of_lt_of_le (hSr b hb) kW.size) (HP.out.keep hS (HK.out.trans kW)) HCT.out (hbl.keep hSr kW) h0 h1 h2 hon
   generalize isB (aV ps ms[j]) ms[j] ⟨an,aop,av,asl,af,aon⟩=β at HST HIS
   generalize ms[j].pl=pl at hc0 HIS
   generalize ms[j].on.length=ol at hc1 HIS hon
   generalize hcn:gG ps ms but ⟨an,aop,av,asl,af,aon⟩ j=c at HST HC ⊢
   have HCN:=hid hcn
   have hcj:=HC.out
   have hmlt:=hSr mb hmS
   clear hrow hbl h0 h1 h2 hcn
   by_cases hb:(j:Int)=but
   ·have HS0:Hid (gG ps ms but ⟨an,aop,av,asl,af,aon⟩ (j+1)=c):=by show _=_;rw [HST.out,decide_eq_true hb];rfl
    have hb1:((j:Int)==but)=true:=by simp [hb]
    have hb2:((j:Int) != but)=false:=by simp [hb]
    clear HST HIS hb
    go_upto_region 5 with fail
    refine bW (fun W'=>aA wr W') (aA.alloc _ _) ?_
    intro W1 k1
    have K1:=hid (HK.out.trans k1)
    have B1:=hid (HB.out.keep k1 HB.out.1)
    clear hc0 hc1 k1
    go_wp2_with fail
    go_roundg (ms.length-(j+1))
    case rel=>exact ⟨j+1,by omega,by go_num,by rw [HS0.out],K1.out,B1.out⟩
    case measure=>omega
   ·have HS0:Hid (gG ps ms but ⟨an,aop,av,asl,af,aon⟩ (j+1)=c+if β=true then 1 else 0):=by show _=_;rw [HST.out,decide_eq_false hb];rfl
    have hb1:((j:Int)==but)=false:=by simp [hb]
    have hb2:((j:Int) != but)=true:=by simp [hb]
    clear HST hb
    go_upto_region 5 with fail
    refine bW (fun W'=>aA wr W'/\aG wr.heap.size #[.int .i64 pl,.slice op ol oc] W') ⟨aA.alloc _ _,aG.new _ _ _⟩ ?_
    rintro W1 ⟨k1,b1⟩
    have K1':=hid k1
    have K1:=hid (HK.out.trans k1)
    have B1:=hid (HB.out.keep k1 HB.out.1)
    have hb1c:=b1.2
    have hb1l:=b1.1
    have hbac:=B1.out.2
    have hbal:=B1.out.1
    obtain ⟨htc,-,htl⟩:=(HT.out.keep K1.out HT.out.facts.2.2).facts
    clear hc0 hc1 k1 b1
    go_wp2_with fail
    refine (HIS.out W1 K1'.out).mono ?_
    rintro e w2 ⟨rfl,k2⟩
    have K2:=hid (K1.out.trans k2)
    have B2:=hid (B1.out.keep k2 B1.out.1)
    clear k2 hb1c hb1l hbac hbal htc htl HIS
    cases β
    ·go_wp2_with fail
     go_roundg (ms.length-(j+1))
     case rel=>exact ⟨j+1,by omega,by go_num,by rw [HS0.out];rfl,K2.out,B2.out⟩
     case measure=>omega
    ·go_wp2_with fail
     go_roundg (ms.length-(j+1))
     case rel=>exact ⟨j+1,by omega,by go_num,by rw [HS0.out];go_num,K2.out,B2.out⟩
     case measure=>omega
  ·obtain rfl:j=ms.length:=by omega
   go_wp2_with fail
   go_ret
   exact ⟨rfl,HK.out⟩
theorem hZ {S:Nat->Prop} {ps:List PK} {ms:List MB} {k:Nat} {tp lp:Option Addr} {tc lc:Nat} (hk:k<ms.length) (hok:jX ps ms) (hct:cG ps=0) :
  ∀ (m:Nat) (t:NT),t.size<=m->(∀ f∈t.flags,aQ (aV ps ms[k]).fl f<(aV ps ms[k]).fl.length)->∀ (cs:List Value) (w:World),(∀ b,S b->b<w.heap.size)->aT S w ps (.slice tp ps.length tc)->bS S w ms (.slice lp ms.length lc)->aC S w t cs->
  Calls Tryz.prog 36 #[.agg #[.slice tp ps.length tc],.slice lp ms.length lc,.int .i64 k,.agg cs.toArray] w fun e w'=>e=.returned (.bool (aK ps ms k t))/\aA w w':=by
 intro m
 induction m with
 | zero=>
  rintro ⟨kd,a,fl,nt,kids⟩ hm
  rw [NT.size] at hm;omega
 | succ m ih=>
  rintro ⟨kd,a,fl,nt,kids⟩ hm hfl cs w hS hp hms hn
  rw [NT.size] at hm
  rw [aC] at hn
  obtain ⟨kp,kc,rfl,hcap,hmax,hkids⟩:=hn
  have HK:=hid hkids
  have HP:=hid hp
  have HMS:=hid hms
  obtain ⟨-,-,-,hllen⟩:=hms.len
  have HIH:Hid (∀ (j:Nat) (h:j<kids.length) (cs:List Value) (W:World),aA w W->aC S W kids[j] cs->Calls Tryz.prog 36 #[.agg #[.slice tp ps.length tc],.slice lp ms.length lc,.int .i64 k,.agg cs.toArray] W fun e w'=>e=.returned (.bool (aK ps ms k kids[j]))/\aA W w'):=fun j h cs W kw hnd=>
   ih kids[j] (by have:=cR kids j h;omega) (fun f hf=>hfl f (oY kd a fl nt kids j h f hf)) cs W (fun b hb=>Nat.lt_of_lt_of_le (hS b hb) kw.size) (hp.keep hS kw) (hms.keep hS kw) hnd
  have HFL:Hid (kd=5->aQ (aV ps ms[k]).fl fl<(aV ps ms[k]).fl.length):=fun h5=>hfl fl (by rw [NT.flags,if_pos h5];simp)
  have hmf : ∀ (fn:Fn) (first cap:Array Value) (w:World),(Instr.makeFunc fn first cap).run Tryz.prog w=.ok (.func fn first cap) w:=fun _ _ _ _=>rfl
  have hent:=tK
  clear ih hkids hp hms hfl
  go_enter Tryz.func36,Tryz.ntmps36
  go_upto_region 1 with fail
  refine bW (fun W'=>aA w W'/\aD w.heap.size 24 (.slice tp ps.length tc) W'/\aD (w.heap.size+1) 25 (.slice lp ms.length lc) W'/\aG (w.heap.size+1+1) #[.int .i64 kd,.string a.n,.int .i64 a.op,.int .i64 a.v,.int .i64 a.sl,.string a.f,.bool a.on,.string fl,.bool nt,.slice kp kids.length kc] W')
   ⟨((aA.alloc _ _).alloc' _).alloc' _,(aD.new _ _ _).keep ((aA.alloc _ _).alloc' _) (by simp),(aAm (by simp) _ _).keep (aA.alloc _ _) (by simp),gR (by simp) _ _⟩ ?_
  rintro W0 ⟨k0,v0,l0,b0⟩
  generalize w.heap.size+1+1=cn at b0 ⊢
  generalize w.heap.size+1=cl at l0 ⊢
  generalize hctn:w.heap.size=ct at v0 ⊢
  rw [← hctn] at v0
  have K0:=hid k0
  have V0:=hid v0
  have L0:=hid l0
  have B0:=hid b0
  have hbc:=b0.2
  have hbl:=b0.1
  clear k0 v0 l0 b0
  subst hctn
  go_wp2_with fail
  clear hbc hbl
  go_loopg [19,10] kids.length (fun gk i g wr=> ∃ j:Nat,j+gk=kids.length/\i=.int .i64 j/\g=.int .i64 (((kids.take j).countP (aK ps ms k):Nat):Int)/\aA w wr/\aD w.heap.size 24 (.slice tp ps.length tc) wr/\aD cl 25 (.slice lp ms.length lc) wr/\aG cn #[.int .i64 kd,.string a.n,.int .i64 a.op,.int .i64 a.v,.int .i64 a.sl,.string a.f,.bool a.on,.string fl,.bool nt,.slice kp kids.length kc] wr)
  case atStart=>exact ⟨0,by simp,rfl,by simp,K0.out,V0.out,L0.out,B0.out⟩
  case round=>
   obtain ⟨j,hj,rfl,rfl,hkp,hvt,hvl,hbx⟩:=hrel
   have HKP:=hid hkp
   have HV:=hid hvt
   have HL:=hid hvl
   have HB:=hid hbx
   clear hkp hvt hvl hbx K0 V0 L0 B0
   by_cases hlt:j<kids.length
   ·obtain ⟨p,cs,hp,hSp,hcell,hneed⟩:=cI (aS.mono (bJ hS HKP.out) (fun _ h=>h) kids kp 0 HK.out) j hlt
    have hSr : ∀ b,S b->b<wr.heap.size:=fun b hb=>Nat.lt_of_lt_of_le (hS b hb) HKP.out.size
    have HCALL:Hid (∀ W,aA wr W->Calls Tryz.prog 36 #[.agg #[.slice tp ps.length tc],.slice lp ms.length lc,.int .i64 k,.agg cs.toArray] W fun e w'=>e=.returned (.bool (aK ps ms k kids[j]))/\aA W w'):=fun W kW=>HIH.out j hlt cs W (HKP.out.trans kW) (hneed.keep hSr kW)
    have HST:=hid (tI (aK ps ms k) kids j hlt)
    have hcl:(kids.take j).countP (aK ps ms k)<=j:=Nat.le_trans List.countP_le_length (by simp;omega)
    subst hp
    rw [Nat.zero_add] at hcell
    generalize aK ps ms k kids[j]=β at HCALL HST
    generalize hcn:(kids.take j).countP (aK ps ms k)=c at HST hcl ⊢
    cases hkid:kids[j] with
    | node k' a' fl' nt' kids'=>
    rw [hkid,aC] at hneed
    obtain ⟨kp',kc',rfl,-,-,-⟩:=hneed
    obtain ⟨c0,c1,c2,c3,c4,c5,c6,c7,c8,c9⟩:=eH hcell
    obtain ⟨htc,-,htl⟩:=HV.out.facts
    obtain ⟨hlc,-,hll⟩:=HL.out.facts
    clear hcell hkid hcn
    go_wp2_with fail
    refine bE (fun W'=>aA wr W') (aA.alloc _ _) ?_
    intro W1 k1
    refine (HCALL.out W1 k1).mono ?_
    rintro e w2 ⟨rfl,k2⟩
    have k12:=k1.trans k2
    have K2:=hid (HKP.out.trans k12)
    have V2:=hid (HV.out.keep k12 HV.out.facts.2.2)
    have L2:=hid (HL.out.keep k12 HL.out.facts.2.2)
    have B2:=hid (HB.out.keep k12 HB.out.1)
    clear k1 k2 k12 c0 c1 c2 c3 c4 c5 c6 c7 c8 c9 HCALL htc htl hlc hll
    cases β
    ·go_wp2_with fail
     go_roundg (kids.length-(j+1))
     case rel=>exact ⟨j+1,by omega,by go_num,by rw [HST.out];rfl,K2.out,V2.out,L2.out,B2.out⟩
     case measure=>omega
    ·go_wp2_with fail
     go_roundg (kids.length-(j+1))
     case rel=>exact ⟨j+1,by omega,by go_num,by rw [HST.out];go_num,K2.out,V2.out,L2.out,B2.out⟩
     case measure=>omega
   ·obtain rfl:j=kids.length:=by omega
    have hcl:(kids.take kids.length).countP (aK ps ms k)<=kids.length:=Nat.le_trans List.countP_le_length (by simp)
    rw [List.take_length] at hcl ⊢
    have HANY:=hid (vX (aK ps ms k) kids)
    have HALL:=hid (vW (aK ps ms k) kids)
    have hcells:=HB.out.2
    have hbl:=HB.out.1
    have hSr : ∀ b,S b->b<wr.heap.size:=fun b hb=>Nat.lt_of_lt_of_le (hS b hb) HKP.out.size
    have HMANY:Hid (∀ but:Int,Calls Tryz.prog 92 #[.agg #[.string a.n,.int .i64 a.op,.int .i64 a.v,.int .i64 a.sl,.string a.f,.bool a.on],.int .i64 but,.pointer (some ⟨cl,0,none⟩),.pointer (some ⟨w.heap.size,0,none⟩)] wr fun e w'=>e=.returned (.int .i64 ((gG ps ms but a ms.length:Nat):Int))/\aA wr w'):=fun but=>
     yO S ps ms tp lp tc lc w.heap.size cl but a.n a.f a.op a.v a.sl a.on wr hSr (HP.out.keep hS HKP.out) hct (HMS.out.keep hS HKP.out) hok HV.out HL.out
    generalize kids.countP (aK ps ms k)=G at HANY HALL hcl ⊢
    clear HIH
    by_cases h1:kd=1
    ·subst h1
     have HX:Hid (aK ps ms k (.node 1 a fl nt kids)=bY ps ms (-1) a):=by show _=_;rw [aK,if_pos rfl]
     go_wp2_with fail
     refine (HMANY.out (-1)).mono ?_
     rintro e w2 ⟨rfl,k2⟩
     have K2:=hid (HKP.out.trans k2)
     have HC:=hid (uW ps ms (-1) a)
     generalize ((gG ps ms (-1) a ms.length:Nat):Int)=c at HC ⊢
     clear k2 hcells hbl
     go_wp2_with fail
     go_ret
     exact ⟨aE (by rw [HX.out,← HC.out]),K2.out⟩
    by_cases h2:kd=2
    ·subst h2
     have HX:Hid (aK ps ms k (.node 2 a fl nt kids) = !bY ps ms k a):=by show _=_;rw [aK,if_neg (by decide),if_pos rfl]
     clear h1
     go_wp2_with fail
     refine (HMANY.out k).mono ?_
     rintro e w2 ⟨rfl,k2⟩
     have K2:=hid (HKP.out.trans k2)
     have HC:=hid (yB ps ms k a)
     generalize ((gG ps ms k a ms.length:Nat):Int)=c at HC ⊢
     clear k2 hcells hbl
     go_wp2_with fail
     go_ret
     exact ⟨aE (by rw [HX.out,← HC.out]),K2.out⟩
    by_cases h4:kd=4
    ·subst h4
     have HX:Hid (aK ps ms k (.node 4 a fl nt kids)=kids.any (aK ps ms k)):=by show _=_;rw [aK,if_neg (by decide),if_neg (by decide),if_pos rfl,mF]
     clear h1 h2
     go_wp2_with fail
     go_ret
     exact ⟨aE (by rw [HX.out,← HANY.out];exact decide_eq_decide.2 (by omega)),HKP.out⟩
    have b1:(kd==1)=false:=by simp [h1]
    have b2:(kd==2)=false:=by simp [h2]
    have b4:(kd==4)=false:=by simp [h4]
    by_cases h5:kd=5
    ·have HFA:=hid (HFL.out h5)
     subst h5
     clear h1 h2 h4 b1 b2 b4 HFL HMANY HANY
     have HX:Hid (aK ps ms k (.node 5 a fl nt kids)=if ((ms.getD k MB.zero).on.getD (aQ (aV ps (ms.getD k MB.zero)).fl fl) false==nt)=true then true else !kids.any (fun t=> !aK ps ms k t)):=by
      show _=_
      rw [aK,if_neg (by decide),if_neg (by decide),if_neg (by decide),iE]
      simp only [true_and]
     rw [cJ ms k hk,← HALL.out] at HX
     obtain ⟨mb,moff,mcap,hmv,hmS,-,hrow⟩:=(HMS.out.keep hS HKP.out).get hk
     cases hmv
     obtain ⟨op,oc,hm0,hm1,hon,hbls⟩:=hrow k _ (List.getElem?_eq_getElem hk)
     obtain ⟨hq0,hq1,hol⟩:=hok k _ (List.getElem?_eq_getElem hk)
     obtain ⟨q,hq⟩ : ∃ q:Nat,ms[k].pl=q:=⟨ms[k].pl.toNat,by omega⟩
     have hqp:q<ps.length:=by omega
     have hpk:aV ps ms[k]=ps[q]:=by unfold aV;rw [hq,Int.toNat_natCast,dF ps q hqp]
     rw [hpk] at HX HFA hol
     obtain ⟨tb,toff,tcap,htv,htb,-,htrow⟩:=(HP.out.keep hS HKP.out).get hqp
     cases htv
     obtain ⟨cs,hcs,hpj⟩:=htrow q hqp
     have HCF:Hid (bR ps[q].fl=0):=(fC ((dJ hct).2 _ (List.getElem_mem hqp))).2.2.1
     generalize ps[q]=pk at hpj hol HCF HX HFA
     obtain ⟨kk,a',fl',nt',kids',kp',fp,kc',fc,hnd,hflen,rfl,hf,-⟩:=hpj.spelt
     obtain ⟨-,-,-,c3,-⟩:=cM hcs
     have HF:=hid hf
     rw [hq] at hm0
     have HBS:=hid hbls
     have HOL:=hid hol
     clear hcs hpj htrow hnd hf hpk hq hq0 hq1 hrow hbls hol
     rcases pk with ⟨n',v',sl',fs,nd'⟩
     simp only at hflen c3 HF HCF HX HFA HOL
     have hmlt:=hSr mb hmS
     have htblt:=hSr tb htb
     obtain ⟨htc,-,htl⟩:=HV.out.facts
     obtain ⟨hlc,-,hll⟩:=HL.out.facts
     generalize ms[k].on=on at hm1 hon HBS HOL HX
     go_upto_region 17 with fail
     go_quiet (fail)
     have k3:aA wr (wr.drewN nq):=aA.drewN (aA.refl _) _
     generalize wr.drewN nq=W3 at k3 ⊢
     have K3':=hid k3
     have K3:=hid (HKP.out.trans k3)
     have L3:=hid (HL.out.keep k3 HL.out.facts.2.2)
     have B3:=hid (HB.out.keep k3 HB.out.1)
     have M1:Hid (W3.cell? ⟨mb,moff+k*2+1,none⟩=some (.slice op on.length oc)):=(k3.cell (p:=⟨mb,moff+k*2+1,none⟩) hmlt).trans hm1
     have hml3:mb<W3.heap.size:=Nat.lt_of_lt_of_le hmlt k3.size
     have HFS:=hid (HF.out.keep hSr k3)
     have HBS3:=hid (HBS.out.keep hSr k3)
     have hS3 : ∀ b,S b->b<W3.heap.size:=fun b hb=>Nat.lt_of_lt_of_le (hSr b hb) k3.size
     clear k3 hm0 hm1 c3 htc htl hlc hll hcells hbl HKP HV HL HB HF HBS hSr htblt hmlt
     go_wp2_with fail
     go_loopg [65] fs.length (fun gk i wr'=> ∃ j:Nat,j+gk=fs.length/\i=.int .i64 j/\(∀ i',i'<j->fs[i']? = some fl->(on.getD i' false==nt)=false)/\aA W3 wr')
     case atStart=>exact ⟨0,by simp,rfl,fun _ h=>absurd h (Nat.not_lt_zero _),aA.refl _⟩
     case round=>
      obtain ⟨j,hj,rfl,hno,hkp⟩:=hrel
      have HNO:=hid hno
      have HK4:=hid hkp
      have L4:=hid (L3.out.keep hkp L3.out.facts.2.2)
      have B4:=hid (B3.out.keep hkp B3.out.1)
      have hm1:=(hkp.cell (p:=⟨mb,moff+k*2+1,none⟩) hml3).trans M1.out
      have hml4:mb<wr.heap.size:=Nat.lt_of_lt_of_le hml3 hkp.size
      clear hno hkp
      by_cases hlt:j<fs.length
      ·obtain ⟨fb,foff,fcap,hfv,hfb,-,hfc⟩:=(HFS.out.keep hS3 HK4.out).get hlt
       cases hfv
       have hcm:=hfc j _ (List.getElem?_eq_getElem hlt)
       have hflt:fb<wr.heap.size:=Nat.lt_of_lt_of_le (hS3 fb hfb) HK4.out.size
       have HAT:Hid (fs[j]=fl->aQ fs fl=j):=fun e=>wD HCF.out hlt e
       have HGET:Hid (fs[j]? = some fs[j]):=List.getElem?_eq_getElem hlt
       generalize fs[j]=x at hcm HAT HGET
       have hcells:=B4.out.2
       have hbl:=B4.out.1
       obtain ⟨hlc,-,hll⟩:=L4.out.facts
       clear hfc
       by_cases hx:x=fl
       ·subst hx
        have hfa:=HAT.out rfl
        have hxx:(x.toList==x.toList)=true:=by simp
        have hqo:j<on.length:=by have:=HOL.out;omega
        obtain ⟨ob,ooff,hop,hSo,hcell⟩:=(HBS3.out.keep hS3 HK4.out).cell hqo
        subst hop
        have holt:ob<wr.heap.size:=Nat.lt_of_lt_of_le (hS3 ob hSo) HK4.out.size
        rw [hfa] at HX
        generalize hgam:on.getD j false=γ at hcell HX
        have HGAM:=hid hgam
        clear HAT hfa hgam
        cases hβ:(γ==nt)
        ·have HN2:Hid (∀ i',i'<j+1->fs[i']? = some x->(on.getD i' false==nt)=false):=fun i' hi' h'=>by
          rcases Nat.lt_or_ge i' j with h | h
          ·exact HNO.out i' h h'
          ·obtain rfl:i'=j:=by omega
           rw [HGAM.out];exact hβ
         go_upto_region 20 with fail
         clear hcm
         go_quiet (fail)
         have k5:aA wr (wr.drewN nq):=aA.drewN (aA.refl _) _
         generalize wr.drewN nq=W5 at k5 ⊢
         have K5:=hid (HK4.out.trans k5)
         clear k5 hcell hm1 hcells hbl hlc hll
         go_wp2_with fail
         go_roundg (fs.length-(j+1))
         case rel=>exact ⟨j+1,by omega,by go_num,HN2.out,K5.out⟩
         case measure=>omega
        ·rw [hβ] at HX
         go_upto_region 20 with fail
         clear hcm
         go_quiet (fail)
         go_wp2_with fail
         go_ret
         exact ⟨aE (by rw [HX.out];rfl),aA.drewN (K3.out.trans HK4.out) _⟩
       ·have HN2:Hid (∀ i',i'<j+1->fs[i']? = some fl->(on.getD i' false==nt)=false):=fun i' hi' h'=>by
         rcases Nat.lt_or_ge i' j with h | h
         ·exact HNO.out i' h h'
         ·obtain rfl:i'=j:=by omega
          rw [HGET.out] at h'
          exact absurd (Option.some.inj h') hx
        have hxx:(x.toList==fl.toList)=false:=by
         rw [beq_eq_false_iff_ne]
         intro e
         rw [Lib.toList_data,Lib.toList_data] at e
         exact hx (eC e)
        clear HAT hx
        go_upto_region 20 with fail
        clear hcm
        go_quiet (fail)
        have k5:aA wr (wr.drewN nq):=aA.drewN (aA.refl _) _
        generalize wr.drewN nq=W5 at k5 ⊢
        have K5:=hid (HK4.out.trans k5)
        clear k5 hm1 hcells hbl hlc hll
        go_wp2_with fail
        go_roundg (fs.length-(j+1))
        case rel=>exact ⟨j+1,by omega,by go_num,HN2.out,K5.out⟩
        case measure=>omega
      ·obtain rfl:j=fs.length:=by omega
       have HX2:Hid (aK ps ms k (.node 5 a fl nt kids)=((G:Int)==(kids.length:Int))):=by
        show _=_
        rw [HX.out,HNO.out (aQ fs fl) HFA.out (by rw [List.getElem?_eq_getElem HFA.out,mL HFA.out])];rfl
       have hcells:=B4.out.2
       have hbl:=B4.out.1
       go_wp2_with fail
       go_ret
       exact ⟨aE HX2.out.symm,K3.out.trans HK4.out⟩
    ·have HX:Hid (aK ps ms k (.node kd a fl nt kids) = !kids.any (fun t=> !aK ps ms k t)):=by
      show _=_
      rw [aK,if_neg h1,if_neg h2,if_neg h4,if_neg (fun h=>h5 h.1),iE]
     have b5:(kd==5)=false:=by simp [h5]
     clear h1 h2 h4 h5 HFL
     go_wp2_with fail
     go_ret
     exact ⟨aE (by rw [HX.out,← HALL.out]),HKP.out⟩
end Go.Proofs.YthaaaecmeafofaaGreatDoor
