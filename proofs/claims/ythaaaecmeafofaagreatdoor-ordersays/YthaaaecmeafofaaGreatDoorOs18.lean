/- Steps of the proof: RefSet, OrdSame, ValidValid, ValidSmall, ValidAllowed, OrdClosed, OrdLeansB, OrdRefAsk, OrdRefRow. -/
import Derived.Test.YthaaaecmeafofaaGreatDoorOs10
import Derived.Test.YthaaaecmeafofaaGreatDoorOs17
import Derived.Test.YthaaaecmeafofaaGreatDoorOs13
import Derived.Test.YthaaaecmeafofaaGreatDoorOs11
import Derived.BigRegion
import Derived.Test.YthaaaecmeafofaaGreatDoorOs14
set_option maxHeartbeats 16000000
set_option maxRecDepth 100000
namespace Go.Proofs.YthaaaecmeafofaaGreatDoor
open Go.RowKit Go.Sort
theorem lP (S:Nat->Prop) (ps:List PK) (ms:List MB) (tv lv:Value) (w:World) (hS : ∀ b,S b->b<w.heap.size) (hp:bA S w ps tv) (hm:cI S w ms lv) :
  Calls Tryz.prog 13 #[.agg #[tv],lv] w fun e w'=>e=.returned (.int .i64 (nG ps ms))/\aA w w':=by
 have HP:=hid hp
 have HMS:=hid hm
 obtain ⟨tp,tc,rfl,hlen⟩:=hp.len
 obtain ⟨lp,lc,rfl,hllen⟩:=hm.len
 have HX:Hid (nG ps ms=bI (mbE ps ms) 0 ms.length):=rfl
 clear hp hm
 go_enter Tryz.func13,Tryz.ntmps13
 go_wp2_with fail
 go_loopg [10,5] ms.length (fun gk i ls wr=> ∃ (j:Nat) (la:Int),j+gk=ms.length/\i=.int .i64 j/\ls=.int .i64 la/\(0<j->la=(ms.getD (j-1) MB.zero).pl)/\bI (mbE ps ms) 0 ms.length=bI (mbE ps ms) j (ms.length-j)/\aA w wr/\aB w.heap.size 24 (.slice tp ps.length tc) wr)
 case atStart=>exact ⟨0,-1,by simp,rfl,rfl,fun h=>absurd h (Nat.lt_irrefl 0),rfl,aA.alloc _ _,aB.new _ _ _⟩
 case round=>
  obtain ⟨j,la,hj,rfl,rfl,hla,he,hkp,hvt⟩:=hrel
  have HEQ:=hid he
  have HK:=hid hkp
  have HV:=hid hvt
  have HLA:=hid hla
  clear he hkp hvt hla
  by_cases hlt:j<ms.length
  ·obtain ⟨mb,moff,mcap,hmv,hmS,-,hrow⟩:=(HMS.out.keep hS HK.out).get hlt
   cases hmv
   obtain ⟨op,oc,hc0,hc1,hon,-⟩:=hrow j _ (List.getElem?_eq_getElem hlt)
   have HST:=hid (fK (f:=mbE ps ms) hlt)
   have HRET:Hid (∀ x:Int,x≠0->mbE ps ms j=x->nG ps ms=x):=fun x hx hy=>by rw [HX.out,HEQ.out,HST.out,hy,if_neg hx]
   have HXM:Hid (mbE ps ms j=if ms[j].pl<0∨(ps.length:Int)<=ms[j].pl then 5 else if 0<j/\ms[j].pl<=(ms.getD (j-1) MB.zero).pl then 6 else if ms[j].on.length≠(ps.getD ms[j].pl.toNat PK.zero).fl.length then 4 else 0):=by
    show _=_
    unfold mbE bU
    rw [dJ ms j hlt]
   have HNX:Hid ((ms.getD (j+1-1) MB.zero).pl=ms[j].pl):=by show _=_;rw [Nat.add_sub_cancel,dJ ms j hlt]
   generalize ms[j]=m at hc0 hc1 hon HXM HNX
   obtain ⟨pl,on⟩:=m
   simp only at hc0 hc1 hon HXM HNX
   have hmlt:mb<wr.heap.size:=Nat.lt_of_lt_of_le (hS mb hmS) HK.out.size
   clear hrow
   go_upto_region 5 with fail
   refine aZ (fun W'=>aA w W'/\aB w.heap.size 24 (.slice tp ps.length tc) W'/\aH wr.heap.size #[.int .i64 pl,.slice op on.length oc] W') ⟨HK.out.alloc' _,HV.out.keep (aA.alloc _ _) HV.out.facts.2.2,aH.new _ _ _⟩ ?_
   rintro W1 ⟨k1,v1,b1⟩
   have K1:=hid k1
   have V1:=hid v1
   have B1:=hid b1
   have hcb:=b1.2
   have hlb:=b1.1
   obtain ⟨ht0,-,htl⟩:=v1.facts
   clear k1 v1 b1 hc0 hc1
   by_cases h0:pl<0
   ·have HY:=hid (HRET.out 5 (by decide) (by rw [HXM.out,if_pos (Or.inl h0)]))
    go_wp2_with fail
    go_ret
    exact ⟨aC HY.out.symm,K1.out⟩
   by_cases h1:(ps.length:Int)<=pl
   ·have HY:=hid (HRET.out 5 (by decide) (by rw [HXM.out,if_pos (Or.inr h1)]))
    go_wp2_with fail
    go_ret
    exact ⟨aC HY.out.symm,K1.out⟩
   obtain ⟨q,rfl⟩ : ∃ q:Nat,pl=q:=⟨pl.toNat,by omega⟩
   have hqp:q<ps.length:=by omega
   obtain ⟨tb,toff,tcap,htv,htb,-,htrow⟩:=(HP.out.keep hS K1.out).get hqp
   cases htv
   obtain ⟨cs,hcs,hpk⟩:=htrow q hqp
   have HX2:Hid (mbE ps ms j=if 0<j/\(q:Int)<=(ms.getD (j-1) MB.zero).pl then 6 else if on.length≠ps[q].fl.length then 4 else 0):=by
    show _=_
    rw [HXM.out,if_neg (by omega),Int.toNat_natCast,dZ ps q hqp]
   generalize ps[q]=p at hpk HX2
   obtain ⟨kk,a,fl,nt,kids,kp,fp,kc,fc,hnd,hfl,rfl,hf,hn⟩:=hpk.spelt
   obtain ⟨-,-,-,c3,-⟩:=dI hcs
   have htl2:tb<W1.heap.size:=Nat.lt_of_lt_of_le (hS tb htb) K1.out.size
   clear hcs hpk htrow hf hn hnd HXM
   rcases p with ⟨pn,pv,psl,fs,nd⟩
   simp only at hfl c3 HX2
   have fin:Hid (mbE ps ms j=(if on.length≠fs.length then 4 else 0)->True):=fun _=>trivial
   clear fin
   by_cases hj0:0<j
   ·have hla:=HLA.out hj0
    rw [← hla] at HX2
    have h0':(0:Int)<(j:Int):=by omega
    have hd:decide ((0:Int)<(j:Int))=true:=decide_eq_true h0'
    clear hla HLA
    by_cases hle:(q:Int)<=la
    ·have HY:=hid (HRET.out 6 (by decide) (by rw [HX2.out,if_pos ⟨by omega,hle⟩]))
     go_wp2_with fail
     go_ret
     exact ⟨aC HY.out.symm,K1.out⟩
    ·have HX3:Hid (mbE ps ms j=if on.length≠fs.length then 4 else 0):=by show _=_;rw [HX2.out,if_neg (fun h=>hle h.2)]
     clear HX2
     by_cases hne:on.length=fs.length
     ·have HY:Hid (mbE ps ms j=0):=by show _=_;rw [HX3.out,if_neg (fun h=>h hne)]
      have hne1:((on.length:Int)==(fs.length:Int))=true:=by simp [hne]
      have hne2:((on.length:Int) != (fs.length:Int))=false:=by simp [hne]
      clear HX3 hne
      go_upto_region 10 with fail
      go_quiet (fail)
      have k4:aA W1 (W1.drewN nq):=aA.drewN (aA.refl _) _
      generalize W1.drewN nq=W4 at k4 ⊢
      have K4:=hid (K1.out.trans k4)
      have V4:=hid (V1.out.keep k4 V1.out.facts.2.2)
      clear k4
      go_wp2_with fail
      go_roundg (ms.length-(j+1))
      case rel=>exact ⟨j+1,_,by omega,by go_num,rfl,fun _=>HNX.out.symm,by rw [HEQ.out,HST.out,HY.out];rfl,K4.out,V4.out⟩
      case measure=>omega
     ·have HY:=hid (HRET.out 4 (by decide) (by rw [HX3.out,if_pos hne]))
      have hne0 : ¬ (on.length:Int)=(fs.length:Int):=by omega
      have hne1:((on.length:Int)==(fs.length:Int))=false:=by simp [hne0]
      have hne2:((on.length:Int) != (fs.length:Int))=true:=by simp [hne0]
      clear HX3 hne
      go_upto_region 10 with fail
      go_quiet (fail)
      go_wp2_with fail
      go_ret
      exact ⟨aC HY.out.symm,aA.drewN K1.out _⟩
   ·have HX3:Hid (mbE ps ms j=if on.length≠fs.length then 4 else 0):=by show _=_;rw [HX2.out,if_neg (fun h=>hj0 h.1)]
    have h0' : ¬ (0:Int)<(j:Int):=by omega
    clear HX2 HLA
    by_cases hne:on.length=fs.length
    ·have HY:Hid (mbE ps ms j=0):=by show _=_;rw [HX3.out,if_neg (fun h=>h hne)]
     have hne1:((on.length:Int)==(fs.length:Int))=true:=by simp [hne]
     have hne2:((on.length:Int) != (fs.length:Int))=false:=by simp [hne]
     clear HX3 hne
     go_upto_region 10 with fail
     go_quiet (fail)
     have k4:aA W1 (W1.drewN nq):=aA.drewN (aA.refl _) _
     generalize W1.drewN nq=W4 at k4 ⊢
     have K4:=hid (K1.out.trans k4)
     have V4:=hid (V1.out.keep k4 V1.out.facts.2.2)
     clear k4
     go_wp2_with fail
     go_roundg (ms.length-(j+1))
     case rel=>exact ⟨j+1,_,by omega,by go_num,rfl,fun _=>HNX.out.symm,by rw [HEQ.out,HST.out,HY.out];rfl,K4.out,V4.out⟩
     case measure=>omega
    ·have HY:=hid (HRET.out 4 (by decide) (by rw [HX3.out,if_pos hne]))
     have hne0 : ¬ (on.length:Int)=(fs.length:Int):=by omega
     have hne1:((on.length:Int)==(fs.length:Int))=false:=by simp [hne0]
     have hne2:((on.length:Int) != (fs.length:Int))=true:=by simp [hne0]
     clear HX3 hne
     go_upto_region 10 with fail
     go_quiet (fail)
     go_wp2_with fail
     go_ret
     exact ⟨aC HY.out.symm,aA.drewN K1.out _⟩
  ·go_wp2_with fail
   go_ret
   exact ⟨aC (by rw [HX.out,HEQ.out,show ms.length-j=0 by omega];rfl),HK.out⟩
theorem nE {W:World} {n:Nat} (h:W.heap.size=n) (cs:Array Value) (T:TypeId):aH n cs (W.alloc (.cells cs T)):=h ▸ aH.new W cs T
theorem aAw (S:Nat->Prop) (ps:List PK) (m:MB) (op:Option Addr) (oc:Nat) (tv:Value) (an af:ByteArray) (aop av asl:Int) (aon:Bool) (w:World) (hS : ∀ b,S b->b<w.heap.size) (hp:bA S w ps tv) (hct:dO ps=0) (hb:aN S w m.on (.slice op m.on.length oc)) (h0:0<=m.pl) (h1:m.pl<ps.length) (hon:m.on.length=(bU ps m).fl.length) (hom:m.on.length<=9223372036854775807) :
  Calls Tryz.prog 60 #[.agg #[tv],.agg #[.int .i64 m.pl,.slice op m.on.length oc],.agg #[.string an,.int .i64 aop,.int .i64 av,.int .i64 asl,.string af,.bool aon]] w fun e w'=>e=.returned (.bool (isB (bU ps m) m ⟨an,aop,av,asl,af,aon⟩))/\aA w w':=by
 have HB:=hid hb
 obtain ⟨tp,tc,rfl,hlen⟩:=hp.len
 obtain ⟨q,hq⟩ : ∃ q:Nat,m.pl=q:=⟨m.pl.toNat,by omega⟩
 have hqp:q<ps.length:=by omega
 have hpk:bU ps m=ps[q]:=by unfold bU;rw [hq,Int.toNat_natCast,dZ ps q hqp]
 rw [hpk] at hon ⊢
 obtain ⟨tb,toff,tcap,htv,htb,-,htrow⟩:=hp.get hqp
 cases htv
 obtain ⟨cs,hcs,hpj⟩:=htrow q hqp
 have HNF:Hid (∀ f∈ps[q].fl,aI f.data.toList=true):=(nF (jG ((jH hct).2 _ (List.getElem_mem hqp))).2.2.1).2
 generalize ps[q]=p at hpj hon HNF ⊢
 obtain ⟨kk,a',fl,nt,kids,kp,fp,kc,fc,hnd,hfl,rfl,hf,-⟩:=hpj.spelt
 obtain ⟨c0,c1,c2,c3,c4,c5,c6,c7,c8,c9,c10,c11,c12,c13⟩:=dI hcs
 have HF:=hid hf
 have htl:=hS tb htb
 clear hcs hpj htrow hnd hp hb hct hpk hf h0 h1
 rcases p with ⟨n,v,sl,fs,nd⟩
 rcases m with ⟨pl,on⟩
 simp only at hq hon hom hfl c0 c1 c2 c3 HF HB HNF ⊢
 subst hq
 have HM:Hid (isB ⟨n,v,sl,fs,nd⟩ ⟨q,on⟩ ⟨an,aop,av,asl,af,aon⟩=((n.toList==an.toList)&&eZ aop av asl v sl&&(af.toList.isEmpty||(decide (aY fs af<fs.length)&&(on.getD (aY fs af) false==aon))))):=rfl
 have HON:=hid hon
 clear hon
 go_enter Tryz.func60,Tryz.ntmps60
 go_upto_region 1 with fail
 refine aZ (fun W'=>aA w W'/\aB w.heap.size 24 (.slice (some ⟨tb,toff,none⟩) ps.length tc) W'/\aH (w.heap.size+1) #[.int .i64 (q:Int),.slice op on.length oc] W'/\aH (w.heap.size+1+1) #[.string an,.int .i64 aop,.int .i64 av,.int .i64 asl,.string af,.bool aon] W')
  ⟨((aA.alloc _ _).alloc' _).alloc' _,(aB.new _ _ _).keep ((aA.alloc _ _).alloc' _) (by simp),(nE (by simp) _ _).keep (aA.alloc _ _) (by simp),nE (by simp) _ _⟩ ?_
 rintro W0 ⟨k0,v0,x1,x2⟩
 have K0:=hid k0
 have X1:=hid x1
 have X2:=hid x2
 obtain ⟨g0,-,l0⟩:=v0.facts
 have g1:=x1.2
 have l1:=x1.1
 have gt : ∀ (o:Nat) (x:Value),w.cell? ⟨tb,o,none⟩=some x->W0.cell? ⟨tb,o,none⟩=some x:=fun o x h=>(k0.cell (p:=⟨tb,o,none⟩) htl).trans h
 have d0:=gt _ _ c0
 have d1:=gt _ _ c1
 have d2:=gt _ _ c2
 have d3:=gt _ _ c3
 have d4:=gt _ _ c4
 have d5:=gt _ _ c5
 have d6:=gt _ _ c6
 have d7:=gt _ _ c7
 have d8:=gt _ _ c8
 have d9:=gt _ _ c9
 have d10:=gt _ _ c10
 have d11:=gt _ _ c11
 have d12:=gt _ _ c12
 have d13:=gt _ _ c13
 have ht0:tb<W0.heap.size:=Nat.lt_of_lt_of_le htl k0.size
 clear c0 c1 c2 c3 c4 c5 c6 c7 c8 c9 c10 c11 c12 c13 gt k0 v0 x1 x2
 go_upto_region 2 with fail
 refine aZ (fun W'=>aA w W'/\aH (w.heap.size+1) #[.int .i64 (q:Int),.slice op on.length oc] W'/\aH (w.heap.size+1+1) #[.string an,.int .i64 aop,.int .i64 av,.int .i64 asl,.string af,.bool aon] W'/\aH W0.heap.size #[.string n,.int .i64 v,.int .i64 sl,.slice fp fs.length fc,.int .i64 kk,.string a'.n,.int .i64 a'.op,.int .i64 a'.v,.int .i64 a'.sl,.string a'.f,.bool a'.on,.string fl,.bool nt,.slice kp kids.length kc] W')
  ⟨K0.out.alloc' _,X1.out.keep (aA.alloc _ _) X1.out.1,X2.out.keep (aA.alloc _ _) X2.out.1,aH.new _ _ _⟩ ?_
 rintro W1 ⟨k1,b1,b2,b3⟩
 generalize W0.heap.size=bx at b3 ⊢
 clear d0 d1 d2 d3 d4 d5 d6 d7 d8 d9 d10 d11 d12 d13 g0 g1 l0 l1 ht0 K0 X1 X2
 have K1:=hid k1
 have B1:=hid b1
 have B2:=hid b2
 have B3:=hid b3
 have hc1:=b1.2
 have hl1:=b1.1
 have hc2:=b2.2
 have hl2:=b2.1
 have hc3:=b3.2
 have hl3:=b3.1
 clear k1 b1 b2 b3
 have hsym:(an.toList != n.toList) = !(n.toList==an.toList):=by
  cases h:(n.toList==an.toList)
  ·have : ¬ an.toList=n.toList:=fun e=>by rw [e] at h;simp at h
   simp [this]
  ·have:n.toList=an.toList:=by simpa using h
   simp [this]
 cases h1:(n.toList==an.toList)
 ·rw [h1] at HM hsym
  have hsy:(an.toList != n.toList)=true:=hsym
  have hsz:(an.toList==n.toList)=false:=by simpa [bne] using hsy
  clear hsym h1
  go_wp2_with fail
  go_ret
  exact ⟨aG (by rw [HM.out];rfl),K1.out⟩
 rw [h1] at HM hsym
 have hsy:(an.toList != n.toList)=false:=hsym
 have hsz:(an.toList==n.toList)=true:=by simpa [bne] using hsy
 clear hsym h1
 go_wp2_with fail
 refine (wZ an af aop av asl aon v sl W1).mono ?_
 rintro e w2 ⟨rfl,k2⟩
 have K2:=hid (K1.out.trans k2)
 have C1:=hid (B1.out.keep k2 B1.out.1)
 have C2:=hid (B2.out.keep k2 B2.out.1)
 have C3:=hid (B3.out.keep k2 B3.out.1)
 clear k2 B1 B2 B3 hc1 hl1 hc2 hl2 hc3 hl3
 generalize eZ aop av asl v sl=β at HM ⊢
 cases β
 ·go_wp2_with fail
  go_ret
  exact ⟨aG (by rw [HM.out];rfl),K2.out⟩
 have HM2:Hid (isB ⟨n,v,sl,fs,nd⟩ ⟨q,on⟩ ⟨an,aop,av,asl,af,aon⟩=(af.toList.isEmpty||(decide (aY fs af<fs.length)&&(on.getD (aY fs af) false==aon)))):=by show _=_;rw [HM.out];rfl
 have hc3:=C3.out.2
 have hl3:=C3.out.1
 clear HM
 go_wp2_with fail
 clear hc3 hl3
 go_loopg [33] fs.length (fun gk i wr=> ∃ j:Nat,j+gk=fs.length/\i=.int .i64 j/\j<=aY fs af/\aA w wr/\aH (w.heap.size+1) #[.int .i64 (q:Int),.slice op on.length oc] wr/\aH (w.heap.size+1+1) #[.string an,.int .i64 aop,.int .i64 av,.int .i64 asl,.string af,.bool aon] wr)
 case atStart=>exact ⟨0,by simp,rfl,Nat.zero_le _,K2.out,C1.out,C2.out⟩
 case round=>
  obtain ⟨j,hj,rfl,hjf,hkp,hb1,hb2⟩:=hrel
  have HK:=hid hkp
  have D1:=hid hb1
  have D2:=hid hb2
  have hc1:=hb1.2
  have hl1:=hb1.1
  have hc2:=hb2.2
  have hl2:=hb2.1
  clear hkp hb1 hb2 K2 C1 C2 C3
  by_cases hlt:j<fs.length
  ·obtain ⟨fb,foff,fcap,hfv,hfb,-,hfc⟩:=(HF.out.keep hS HK.out).get hlt
   cases hfv
   have hcm:=hfc j _ (List.getElem?_eq_getElem hlt)
   have hflt:fb<wr.heap.size:=Nat.lt_of_lt_of_le (hS fb hfb) HK.out.size
   have HEQ:Hid (fs[j]=af->aY fs af=j):=fun e=>by
    have h1:aY fs af<=j:=by
     unfold aY
     exact Nat.le_of_not_lt fun hlt'=>by
      have:=List.not_of_lt_findIdx hlt'
      simp [e] at this
    omega
   have HNE:Hid (¬ fs[j]=af->j+1<=aY fs af):=fun e=>by
    rcases Nat.lt_or_ge j (aY fs af) with h | h
    ·exact h
    ·exfalso
     have hje:aY fs af=j:=by omega
     have hl:aY fs af<fs.length:=by omega
     have e2:fs[aY fs af]=af:=of_decide_eq_true (List.findIdx_getElem (p:=fun f=>decide (f=af)) (w:=hl))
     exact e (by rw [← e2];simp [hje])
   have HNE0:Hid (fs[j]=af->af.toList.isEmpty=false):=fun e=>by
    have:=HNF.out _ (List.getElem_mem hlt)
    rw [e] at this
    cases hh:af.toList.isEmpty
    ·rfl
    ·rw [Lib.toList_data] at hh
     have h2:af.data.toList = []:=by simpa using hh
     rw [h2] at this;cases this
   generalize fs[j]=x at hcm HEQ HNE HNE0
   clear hfc
   by_cases hx:x=af
   ·subst hx
    have hfa:=HEQ.out rfl
    have hem:=HNE0.out rfl
    have hxx:(x.toList==x.toList)=true:=by simp
    have hqo:j<on.length:=by have:=HON.out;omega
    obtain ⟨ob,ooff,hop,hSo,hcell⟩:=(HB.out.keep hS HK.out).cell hqo
    subst hop
    have holt:ob<wr.heap.size:=Nat.lt_of_lt_of_le (hS ob hSo) HK.out.size
    have HM3:Hid (isB ⟨n,v,sl,fs,nd⟩ ⟨q,on⟩ ⟨an,aop,av,asl,x,aon⟩=(on.getD j false==aon)):=by show _=_;rw [HM2.out,hem,hfa,decide_eq_true hlt];rfl
    generalize on.getD j false=γ at hcell HM3
    clear HEQ HNE HNE0 HM2 hfa hem hjf
    go_upto_region 8 with fail
    clear hcm
    go_quiet (fail)
    go_wp2_with fail
    go_ret
    exact ⟨aG (by rw [HM3.out]),aA.drewN HK.out _⟩
   ·have hnx:=HNE.out hx
    have hxx:(x.toList==af.toList)=false:=by
     rw [beq_eq_false_iff_ne]
     intro e
     rw [Lib.toList_data,Lib.toList_data] at e
     exact hx (gJ e)
    clear HEQ HNE HNE0 hx
    go_wp2_with fail
    go_roundg (fs.length-(j+1))
    case rel=>exact ⟨j+1,by omega,by go_num,hnx,HK.out,D1.out,D2.out⟩
    case measure=>omega
  ·have hno : ¬ aY fs af<fs.length:=by omega
   rw [decide_eq_false hno] at HM2
   cases hem:af.toList.isEmpty
   ·rw [hem] at HM2
    have h3:(af.toList == [])=false:=by simpa using hem
    go_wp2_with fail
    go_ret
    exact ⟨aG (by rw [HM2.out];rfl),HK.out⟩
   ·rw [hem] at HM2
    have h3:(af.toList == [])=true:=by simpa using hem
    go_wp2_with fail
    go_ret
    exact ⟨aG (by rw [HM2.out];rfl),HK.out⟩
end Go.Proofs.YthaaaecmeafofaaGreatDoor
namespace Go.Proofs.YthaaaecmeafofaaGreatDoor
open Go.RowKit
theorem wT (args:Array Value) (w:World):(callFunc 64 args).run Tryz.prog w=.ok (.enter 64 args) w:=enters_of Tryz.func64 (by kernel_rfl) rfl args w
theorem vP (S:Nat->Prop) (x y:AC) (p1 p2:Option Addr) (c1 c2:Nat) (w:World) (hS : ∀ b,S b->b<w.heap.size) (h1:aN S w x.m.on (.slice p1 x.m.on.length c1)) (h2:aN S w y.m.on (.slice p2 y.m.on.length c2)) :
  Calls Tryz.prog 64 #[.agg #[.bool x.out,.int .i64 x.m.pl,.slice p1 x.m.on.length c1,.int .i64 x.cy],.agg #[.bool y.out,.int .i64 y.m.pl,.slice p2 y.m.on.length c2,.int .i64 y.cy]] w fun e w'=> ∃ β:Bool,e=.returned (.bool β)/\(β=true↔x=y)/\aA w w':=by
 have H1:=hid h1
 have H2:=hid h2
 clear h1 h2
 rcases x with ⟨xo,⟨xp,xs⟩,xc⟩
 rcases y with ⟨yo,⟨yp,ys⟩,yc⟩
 simp only at H1 H2 ⊢
 have HW:Hid (aA w ((w.alloc (.cells #[.bool xo,.int .i64 xp,.slice p1 xs.length c1,.int .i64 xc] 104)).alloc (.cells #[.bool yo,.int .i64 yp,.slice p2 ys.length c2,.int .i64 yc] 104))):=(aA.alloc _ _).alloc' _
 cases ho:(xo==yo)
 ·have HF:Hid (¬ (⟨xo,⟨xp,xs⟩,xc⟩:AC)=⟨yo,⟨yp,ys⟩,yc⟩):=fun e=>by cases e;simp at ho
  go_enter Tryz.func64,Tryz.ntmps64
  go_wp2_with fail
  go_ret
  exact ⟨false,rfl,⟨fun h=>Bool.noConfusion h,fun h=>absurd h HF.out⟩,HW.out⟩
 ·have hoe:xo=yo:=by simpa using ho
  cases hc:(xc==yc)
  ·have HF:Hid (¬ (⟨xo,⟨xp,xs⟩,xc⟩:AC)=⟨yo,⟨yp,ys⟩,yc⟩):=fun e=>by cases e;simp at hc
   clear hoe
   go_enter Tryz.func64,Tryz.ntmps64
   go_wp2_with fail
   go_ret
   exact ⟨false,rfl,⟨fun h=>Bool.noConfusion h,fun h=>absurd h HF.out⟩,HW.out⟩
  ·have hce:xc=yc:=by simpa using hc
   have HX:Hid ((⟨xp,xs⟩:MB)=⟨yp,ys⟩↔(⟨xo,⟨xp,xs⟩,xc⟩:AC)=⟨yo,⟨yp,ys⟩,yc⟩):=⟨fun h=>by rw [h,hoe,hce],fun h=>by cases h;rfl⟩
   clear hoe hce HW
   go_enter Tryz.func64,Tryz.ntmps64
   go_wp2_with fail
   refine cM (fun W'=>aA w W') ((aA.alloc _ _).alloc' _) ?_
   intro W2 k2
   refine (qK S ⟨xp,xs⟩ ⟨yp,ys⟩ _ _ W2 (fun b hb=>Nat.lt_of_lt_of_le (hS b hb) k2.size) (H1.out.keep hS k2) (H2.out.keep hS k2)).mono ?_
   rintro e w3 ⟨β,rfl,hβ,k3⟩
   have K3:=hid (k2.trans k3)
   have HB:=hid (hβ.trans HX.out)
   clear k2 k3 hβ
   go_wp2_with fail
   go_ret
   exact ⟨β,rfl,HB.out,K3.out⟩
theorem sY (S:Nat->Prop) (xs ys:List AC) (v1 v2:Value) (w:World) (hS : ∀ b,S b->b<w.heap.size) (h1:dR S w xs v1) (h2:dR S w ys v2) :
  Calls Tryz.prog 63 #[v1,v2,.func (.func 64) #[] #[]] w fun e w'=> ∃ β:Bool,e=.returned (.bool β)/\(β=true↔xs=ys)/\aA w w':=by
 have H1:=hid h1
 have H2:=hid h2
 obtain ⟨p1,c1,rfl,⟨-,hl1⟩,-⟩:=h1
 obtain ⟨p2,c2,rfl,⟨-,hl2⟩,-⟩:=h2
 have hent:=wT
 by_cases hl:xs.length=ys.length
 ·have HL:=hid hl
  have HW:Hid (aA w w):=aA.refl _
  rw [← hl]
  clear hl
  go_enter Tryz.func63,Tryz.ntmps63
  go_wp2_with fail
  go_loopg [17] xs.length (fun gk i wr=> ∃ j:Nat,j+gk=xs.length/\i=.int .i64 j/\(∀ i,i<j->xs[i]? = ys[i]?)/\aA w wr)
  case atStart=>exact ⟨0,by simp,rfl,fun i hi=>absurd hi (Nat.not_lt_zero _),HW.out⟩
  case round=>
   obtain ⟨j,hj,rfl,hal,hkp⟩:=hrel
   have HKP:=hid hkp
   have HAL:=hid hal
   clear hkp hal
   by_cases hlt:j<xs.length
   ·obtain ⟨q1,d1,hv1,-,hr1⟩:=H1.out.keep hS HKP.out
    obtain ⟨q2,d2,hv2,-,hr2⟩:=H2.out.keep hS HKP.out
    rw [← HL.out] at hv2 hr2
    cases hv1
    cases hv2
    obtain ⟨b1,o1,rfl,hb1,hc1⟩:=hr1 (by omega)
    obtain ⟨b2,o2,rfl,hb2,hc2⟩:=hr2 (by omega)
    have hlt2:j<ys.length:=by rw [← HL.out];exact hlt
    have e1:xs[j]? = some xs[j]:=List.getElem?_eq_getElem hlt
    have e2:ys[j]? = some ys[j]:=List.getElem?_eq_getElem hlt2
    obtain ⟨ov1,g1,g1',g1a,g1b,hbo1⟩:=hc1 j _ e1
    obtain ⟨ov2,g2,g2',g2a,g2b,hbo2⟩:=hc2 j _ e2
    have E1:=hid e1
    have E2:=hid e2
    have hb1':b1<wr.heap.size:=Nat.lt_of_lt_of_le (hS _ hb1) HKP.out.size
    have hb2':b2<wr.heap.size:=Nat.lt_of_lt_of_le (hS _ hb2) HKP.out.size
    generalize xs[j]=x at g1 g1' g1b E1 hbo1
    generalize ys[j]=y at g2 g2' g2b E2 hbo2
    have HO1:=hid hbo1
    have HO2:=hid hbo2
    obtain ⟨r1,s1,rfl,-,-⟩:=hbo1
    obtain ⟨r2,s2,rfl,-,-⟩:=hbo2
    clear hc1 hc2 hr1 hr2 e1 e2
    go_wp2_with fail
    refine cM (fun W'=>aA wr W') ((aA.alloc _ _).alloc' _) ?_
    intro W2 k2
    have hS2 : ∀ b,S b->b<wr.heap.size:=fun b hb=>Nat.lt_of_lt_of_le (hS b hb) HKP.out.size
    refine (vP S x y _ _ _ _ W2 (fun b hb=>Nat.lt_of_lt_of_le (hS2 b hb) k2.size) (HO1.out.keep hS2 k2) (HO2.out.keep hS2 k2)).mono ?_
    rintro e w3 ⟨β,rfl,hβ,k3⟩
    have K3:=hid (HKP.out.trans (k2.trans k3))
    clear k2 k3 hS2 g1 g1' g2 g2' g1a g1b g2a g2b
    cases β
    ·have HF:Hid (¬ xs=ys):=fun e=>Bool.noConfusion (hβ.2 (by have h1:=E1.out;rw [e,E2.out] at h1;exact (Option.some.inj h1).symm))
     clear hβ
     go_wp2_with fail
     go_ret
     exact ⟨false,rfl,⟨fun h=>Bool.noConfusion h,fun h=>absurd h HF.out⟩,K3.out⟩
    ·have HN:Hid (∀ i,i<j+1->xs[i]? = ys[i]?):=fun i hi=>by
      by_cases e:i=j
      ·subst e;rw [E1.out,E2.out,hβ.1 rfl]
      ·exact HAL.out i (by omega)
     clear hβ
     go_wp2_with fail
     go_roundg (xs.length-(j+1))
     case rel=>exact ⟨j+1,by omega,by go_num,HN.out,K3.out⟩
     case measure=>omega
   ·have HF:Hid (xs=ys):=lN HL.out fun i hi=>HAL.out i (by omega)
    go_wp2_with fail
    go_ret
    exact ⟨true,rfl,⟨fun _=>HF.out,fun _=>rfl⟩,HKP.out⟩
 ·have hz1:((xs.length:Int)==(ys.length:Int))=false:=beq_eq_false_iff_ne.2 fun e=>hl (by omega)
  have hz2:((xs.length:Int) != (ys.length:Int))=true:=bne_iff_ne.2 fun e=>hl (by omega)
  have HF:Hid (¬ xs=ys):=fun e=>hl (by rw [e])
  clear hl
  go_enter Tryz.func63,Tryz.ntmps63
  go_wp2_with fail
  go_ret
  exact ⟨false,rfl,⟨fun h=>Bool.noConfusion h,fun h=>absurd h HF.out⟩,aA.refl _⟩
theorem mR (S:Nat->Prop) (xs ys:List AC) (v1 v2:Value) (w:World) (hS : ∀ b,S b->b<w.heap.size) (h1:dR S w xs v1) (h2:dR S w ys v2) :
  Calls Tryz.prog 19 #[v1,v2] w fun e w'=> ∃ β:Bool,e=.returned (.bool β)/\(β=true↔xs=ys)/\aA w w':=by
 have H1:=hid h1
 have H2:=hid h2
 clear h1 h2
 go_enter Tryz.func19,Tryz.ntmps19
 go_wp2_with fail
 refine (sY S xs ys _ _ w hS H1.out H2.out).mono ?_
 rintro e w3 ⟨β,rfl,hβ,k3⟩
 have K3:=hid k3
 have HB:=hid hβ
 clear k3 hβ
 go_wp2_with fail
 go_ret
 exact ⟨β,rfl,HB.out,K3.out⟩
end Go.Proofs.YthaaaecmeafofaaGreatDoor
namespace Go.Proofs.YthaaaecmeafofaaGreatDoor
open Go.RowKit Go.Sort
end Go.Proofs.YthaaaecmeafofaaGreatDoor
namespace Go.Proofs.YthaaaecmeafofaaGreatDoor
def nB1:NT:= .node 3 At.zero ⟨#[]⟩ false [rC 98]
def xH:NT:= .node 2 ⟨⟨#[99]⟩,0,0,0,⟨#[]⟩,false⟩ ⟨#[]⟩ false []
def oK:NT:= .node 3 At.zero ⟨#[]⟩ false [xH]
def q0:PK:=⟨⟨#[97]⟩,1,1,[],nB1⟩
def q1:PK:=⟨⟨#[97]⟩,2,1,[⟨#[120]⟩],qA⟩
def q2:PK:=⟨⟨#[98]⟩,1,1,[],oK⟩
def q3:PK:=⟨⟨#[99]⟩,1,1,[],jX⟩
def aV:List PK:= [q0,q1,q2,q3]
def F3:List UInt8:= [97,32,49,32,49,32,32,40,32,98,32,41,10,97,32,50,32,49,32,120,32,40,32,120,63,32,40,32,98,32,41,32,41,10,98,32,49,32,49,32,32,40,32,33,99,32,41,10,99,32,49,32,49,32,32,40,32,41,10]
theorem aFc:xH.ok:=by
 unfold xH
 rw [NT.ok]
 have h:aI [99]=true:=by decide
 exact ⟨iU 2 _ (Or.inr rfl) (by show chk [99] 0 0 0 [] false=0;unfold chk;rw [if_neg (by simp [h]),if_neg (by decide),if_neg (by decide)]),trivial⟩
theorem aGs:nB1.ok:=by
 unfold nB1
 rw [NT.ok,okL,okL]
 exact ⟨eO 3 _ (Or.inl rfl),yQ (by decide),trivial⟩
theorem aFg:oK.ok:=by
 unfold oK
 rw [NT.ok,okL,okL]
 exact ⟨eO 3 _ (Or.inl rfl),aFc,trivial⟩
theorem mT:cX nB1=false/\cX oK=false:=by
 have i1:aK 1=2:=fM (by decide) (by decide)
 refine ⟨?_,?_⟩<;>simp [cX,nB1,oK,xH,rC,bM,bD,fN,i1]
theorem aFf:cJ nB1=0:=cQ.2 ⟨mT.1,aGs⟩
theorem aDg:cJ oK=0:=cQ.2 ⟨mT.2,aFg⟩
theorem yJ:lE aV=F3:=by
 simp [lE,jR,aV,q0,q1,q2,q3,nB1,oK,xH,qA,nIf,jX,NT.text,rC,NT.words,bF,eD,bR,aHv,aHw,F3,Lib.join]
theorem yA:nB1.sorted = []:=by
 have:nB1.flags = []:=by simp [nB1,rC,NT.flags,bX]
 unfold NT.sorted
 rw [this,List.map_nil,List.mergeSort_nil];exact hJ
theorem vU:oK.sorted = []:=by
 have:oK.flags = []:=by simp [oK,xH,NT.flags,bX]
 unfold NT.sorted
 rw [this,List.map_nil,List.mergeSort_nil];exact hJ
theorem aCm:bZ [(⟨#[120]⟩:ByteArray)]=0:=by
 have n1:aI [120]=true:=by decide
 simp [bZ,bI,flE,n1]
theorem aGn:eR [(⟨#[120]⟩:ByteArray)] [120]=true:=by unfold eR;rw [Lib.containsS_iff];simp
theorem aGv:aI [99]=true:=by decide
theorem aGe:dC q0=0:=by
 have hk:nB1.kind=3:=rfl
 simp [dC,q0,aDh,bZ,bI,dS,hk,aFf,yA]
theorem aGf:dC q1=0:=by
 have hk:qA.kind=3:=rfl
 simp [dC,q1,aDh,aCm,dS,hk,aDe,vT,aGn]
theorem aGg:dC q2=0:=by
 have hk:oK.kind=3:=rfl
 simp [dC,q2,aGu,bZ,bI,dS,hk,aDg,vU]
theorem aGh:dC q3=0:=by
 have hk:jX.kind=3:=rfl
 simp [dC,q3,aGv,bZ,bI,dS,hk,aAe,tQ]
theorem zD:cH q1 q0=true:=by simp [cH,q0,q1]
theorem zE:cH q2 q1=true:=by
 have h1:leS ⟨#[98]⟩ ⟨#[97]⟩=false:=by unfold leS;rw [Lib.toList_data,Lib.toList_data];decide
 simp [cH,q1,q2,h1]
theorem zF:cH q3 q2=true:=by
 have h1:leS ⟨#[99]⟩ ⟨#[98]⟩=false:=by unfold leS;rw [Lib.toList_data,Lib.toList_data];decide
 simp [cH,q3,q2,h1]
theorem lK:dO aV=0:=by
 have s1:bV aV 1=0:=rfl
 have s2:bV aV 2=1:=rfl
 have s3:bV aV 3=1:=rfl
 have s4:bV aV 4=1:=rfl
 have h8 : ¬ 8<aV.length:=by decide
 have hl:aV.length=4:=rfl
 unfold dO
 rw [if_neg h8]
 have e0:pkE aV 0=0:=by unfold pkE;rw [show aV.getD 0 PK.zero=q0 from rfl,aGe];simp [s1,hl]
 have e1:pkE aV 1=0:=by unfold pkE;rw [show aV.getD 1 PK.zero=q1 from rfl,show aV.getD (1-1) PK.zero=q0 from rfl,aGf,zD];simp [s2,hl]
 have e2:pkE aV 2=0:=by unfold pkE;rw [show aV.getD 2 PK.zero=q2 from rfl,show aV.getD (2-1) PK.zero=q1 from rfl,aGg,zE];simp [s3,hl]
 have e3:pkE aV 3=0:=by unfold pkE;rw [show aV.getD 3 PK.zero=q3 from rfl,show aV.getD (3-1) PK.zero=q2 from rfl,aGh,zF];simp [s4,hl]
 rw [hl]
 simp [bI,e0,e1,e2,e3]
theorem aEm:rdT F3=(0,0,aV):=by
 rw [← yJ]
 exact aDq lK (by rw [yJ];decide)
end Go.Proofs.YthaaaecmeafofaaGreatDoor
namespace Go.Proofs.YthaaaecmeafofaaGreatDoor
open Go.RowKit Go.Sort
theorem xZ (w:World) (hE:Env w) (hM:gX w) :
  Calls Tryz.prog 58 #[] w fun e w'=> ∃ v,e=.returned (.tuple #[.agg #[v],.bool true])/\bA (fun b=>w.heap.size<=b/\b<w'.heap.size) w' aV v/\aA w w'/\yI v:=by
 have HE:=hid hE
 have HM:=hid hM
 clear hE hM
 go_enter Tryz.func58,Tryz.ntmps58
 go_wp2_with fail
 refine cM (fun W'=>aA w W'/\aB w.heap.size 24 (.slice none 0 0) W') ⟨aA.alloc _ _,aB.new _ _ _⟩ ?_
 rintro W0 ⟨k0,v0⟩
 refine (qO _ W0 (HE.out.keep k0) (HM.out.keep k0)).mono ?_
 rintro e w1 ⟨v1,rfl,-,hp1,k1,hcap1⟩
 have hrd:rdT (ByteArray.mk #[97,32,49,32,49,32,32,40,32,98,32,41,10,97,32,50,32,49,32,120,32,40,32,120,63,32,40,32,98,32,41,32,41,10,98,32,49,32,49,32,32,40,32,33,99,32,41,10,99,32,49,32,49,32,32,40,32,41,10]).data.toList=(0,0,aV):=aEm
 rw [hrd] at hp1 ⊢
 simp only at hp1 ⊢
 obtain ⟨p1,c1,rfl,-⟩:=hp1.len
 have hlen:aV.length=4:=rfl
 rw [hlen] at hp1 hcap1 ⊢
 have HCAP:=hid hcap1
 clear hcap1
 have K0s:=k0.size
 have hW0:w.heap.size+1<=W0.heap.size:=v0.facts.2.2
 have HP1:Hid (bA (fun b=>w.heap.size+1<=b/\b<w1.heap.size) w1 aV (.slice p1 4 c1)):=bA.mono (fun _ _=>rfl) (fun b hb=>⟨Nat.le_trans hW0 hb.1,hb.2⟩) hp1
 have K1:=hid (k0.trans k1)
 have V1:=hid (v0.keep k1 v0.facts.2.2)
 have hsz1:w.heap.size+1<=w1.heap.size:=by have:=V1.out.facts.2.2;omega
 clear k0 v0 hp1 k1 hrd hlen
 go_upto_region 2 with fail
 refine aZ (fun W'=>aA w W'/\aA w1 W'/\aB w.heap.size 24 (.slice none 0 0) W'/\aB w1.heap.size 24 (.slice p1 4 c1) W') ⟨K1.out.alloc' _,aA.alloc _ _,V1.out.keep (aA.alloc _ _) V1.out.facts.2.2,aB.new _ _ _⟩ ?_
 rintro W2 ⟨k2,k12,v2,t2⟩
 have K2:=hid k2
 have K12:=hid k12
 have V2:=hid v2
 obtain ⟨g1,z1,l1⟩:=v2.facts
 obtain ⟨g2,z2,l2⟩:=t2.facts
 clear k2 k12 v2 t2
 go_region
 have v3:=V2.out.set (.slice p1 4 c1)
 have HQ:Hid (aB w.heap.size 24 (.slice p1 4 c1) (W2.setCell ⟨w.heap.size,0,none⟩ (.slice p1 4 c1)).drew/\aA w (W2.setCell ⟨w.heap.size,0,none⟩ (.slice p1 4 c1)).drew/\bA (fun b=>w.heap.size<=b/\b<(W2.setCell ⟨w.heap.size,0,none⟩ (.slice p1 4 c1)).drew.heap.size) (W2.setCell ⟨w.heap.size,0,none⟩ (.slice p1 4 c1)).drew aV (.slice p1 4 c1)):=by
  have ap:=dT w.heap.size W2 (.slice p1 4 c1)
  have hz:W2.heap.size<=(W2.setCell ⟨w.heap.size,0,none⟩ (.slice p1 4 c1)).heap.size:=ap.size
  refine ⟨v3.keep (uV _) v3.facts.2.2,aA.trans (show aA w (W2.setCell ⟨w.heap.size,0,none⟩ (.slice p1 4 c1)) from Below.trans K2.out (ap.below K2.out.size fun b hb e=>by have:b=w.heap.size:=e;omega)) (uV _),?_⟩
  refine bA.mono (fun p hp=> ?_) (fun b hb=>⟨by omega,Nat.lt_of_lt_of_le hb.2 (Nat.le_trans K12.out.size hz)⟩) HP1.out
  exact (ap.cell p (Nat.lt_of_lt_of_le hp.2 K12.out.size) (fun e=>by have e':p.block=w.heap.size:=e;have:=hp.1;omega)).trans (K12.out.cell (p:=p) hp.2)
 clear v3 g1 z1 g2 z2
 go_wp2_with fail
 refine fS (v:= .tuple #[.agg #[.slice p1 4 c1],.bool true]) (fun W'=>aB w.heap.size 24 (.slice p1 4 c1) W'/\aA w W'/\bA (fun b=>w.heap.size<=b/\b<W'.heap.size) W' aV (.slice p1 4 c1)) ?_ rfl ?_
 ·exact HQ.out
 rintro W ⟨hb,hk,hp⟩
 obtain ⟨hcW,-,-⟩:=hb.facts
 exact ⟨by simp [results,Tryz.results58,go_sem,hcW],_,rfl,hp,hk,HCAP.out⟩
theorem aBb (w:World) (hE:Env w) (hM:gX w) :
  Calls Tryz.prog 58 #[] w fun e w'=> ∃ v,e=.returned (.tuple #[.agg #[v],.bool true])/\bA (fun b=>w.heap.size<=b/\b<w'.heap.size) w' aV v/\aA w w':=
 (xZ w hE hM).mono fun _ _ ⟨v,h1,h2,h3,_⟩=>⟨v,h1,h2,h3⟩
theorem uA {W:World} {n:Nat} (h:W.heap.size=n) (cs:Array Value) (T:TypeId):aH n cs (W.alloc (.cells cs T)):=h ▸ aH.new W cs T
def inW (W:World) (b:Nat):Prop:=b<W.heap.size
end Go.Proofs.YthaaaecmeafofaaGreatDoor
namespace Go.Proofs.YthaaaecmeafofaaGreatDoor
open Go.RowKit
def thO:List MB:= [⟨3,[]⟩]
def msO:List MB:= [⟨0,[]⟩,⟨2,[]⟩]
def acO:List AC:= [⟨true,⟨3,[]⟩,0⟩,⟨false,⟨2,[]⟩,0⟩,⟨false,⟨0,[]⟩,0⟩]
theorem oS:hQ aV msO 0 0=false/\hQ aV msO 0 1=true/\hQ aV msO 1 0=false/\hQ aV msO 1 1=false:=by
 refine ⟨?_,?_,?_,?_⟩<;>simp [hQ,mW,cF,dE,aV,msO,q0,q1,q2,q3,nB1,oK,xH,rC,isB,bU,eZ]
theorem pX (k:Nat):dA aV msO k=if k=0 then [1] else []:=by
 match k with
 | 0=>unfold dA;rw [show msO.length=2 from rfl];simp [List.range_succ,oS.1,oS.2.1]
 | 1=>unfold dA;rw [show msO.length=2 from rfl];simp [List.range_succ,oS.2.2.1,oS.2.2.2]
 | n+2=>unfold dA;rw [if_neg (by simp [msO])];simp
theorem aFw:bB aV msO=fun k i=>decide (k=0)&&decide (i=1):=by
 funext k i
 rw [Bool.eq_iff_iff,hG]
 have hno : ∀ a b,a≠0->¬ Rch (dA aV msO) a b:=fun a b ha hr=>by
  cases hr with
  | one h=>rw [pX,if_neg ha] at h;simp at h
  | more h _=>rw [pX,if_neg ha] at h;simp at h
 simp only [Bool.and_eq_true,decide_eq_true_eq]
 constructor
 ·intro hr
  by_cases hk:k=0
  ·subst hk
   refine ⟨rfl,?_⟩
   cases hr with
   | one h=>rw [pX,if_pos rfl] at h;simpa using h
   | more h h2=>
    rw [pX,if_pos rfl] at h
    obtain rfl:=List.mem_singleton.1 h
    exact absurd h2 (hno 1 i (by decide))
  ·exact absurd hr (hno k i hk)
 ·rintro ⟨rfl,rfl⟩
  exact .one (by rw [pX,if_pos rfl];simp)
theorem aGy:kC aV thO msO=acO:=by
 have hg:goP aV thO msO = [1,0]:=by unfold goP;rw [aFw];decide
 have hc:lL aV thO msO = [0,0]:=by unfold lL;rw [hg,aFw];decide
 have ho:oM aV msO ⟨3,[]⟩=true:=by simp [oM,shB,bU,aV,msO,q0,q1,q2,q3]
 unfold kC
 rw [hg,hc,show thO = [⟨3,[]⟩] from rfl,List.filter_cons,if_pos ho]
 rfl
theorem aFm:fB aV thO msO=0:=by
 have h1:bP aV msO=0:=by
  unfold bP;rw [lK]
  show nG aV msO=0
  decide
 have h2:bP aV thO=0:=by
  unfold bP;rw [lK]
  show nG aV thO=0
  decide
 unfold fB
 rw [h1,h2];rfl
theorem aAb {c:Nat} {z:Int} {W:World} (hc:aH c #[.int .i64 z,.slice none 0 0] W):cI (inW W) W [⟨z,[]⟩] (.slice (some ⟨c,0,none⟩) 1 1):=by
 refine ⟨_,_,rfl,by simp,fun _=>⟨c,0,rfl,hc.1,fun j m hm=> ?_⟩⟩
 match j,hm with
 | 0,hm=>cases hm;exact ⟨_,hc.2 0,hc.2 1,none,0,rfl,by simp,fun h=>absurd h (by simp)⟩
theorem aAc {c:Nat} {z y:Int} {W:World} (hc:aH c #[.int .i64 z,.slice none 0 0,.int .i64 y,.slice none 0 0] W):cI (inW W) W [⟨z,[]⟩,⟨y,[]⟩] (.slice (some ⟨c,0,none⟩) 2 2):=by
 refine ⟨_,_,rfl,by simp,fun _=>⟨c,0,rfl,hc.1,fun j m hm=> ?_⟩⟩
 match j,hm with
 | 0,hm=>cases hm;exact ⟨_,hc.2 0,hc.2 1,none,0,rfl,by simp,fun h=>absurd h (by simp)⟩
 | 1,hm=>cases hm;exact ⟨_,hc.2 2,hc.2 3,none,0,rfl,by simp,fun h=>absurd h (by simp)⟩
theorem aGc {c:Nat} {W:World} (hc:aH c #[.bool true,.int .i64 3,.slice none 0 0,.int .i64 0,.bool false,.int .i64 2,.slice none 0 0,.int .i64 0,.bool false,.int .i64 0,.slice none 0 0,.int .i64 0] W):dR (inW W) W acO (.slice (some ⟨c,0,none⟩) 3 3):=by
 refine ⟨_,_,rfl,by simp [acO],fun _=>⟨c,0,rfl,hc.1,fun j m hm=> ?_⟩⟩
 match j,hm with
 | 0,hm=>cases hm;exact ⟨_,hc.2 0,hc.2 1,hc.2 2,hc.2 3,none,0,rfl,by simp,fun h=>absurd h (by simp)⟩
 | 1,hm=>cases hm;exact ⟨_,hc.2 4,hc.2 5,hc.2 6,hc.2 7,none,0,rfl,by simp,fun h=>absurd h (by simp)⟩
 | 2,hm=>cases hm;exact ⟨_,hc.2 8,hc.2 9,hc.2 10,hc.2 11,none,0,rfl,by simp,fun h=>absurd h (by simp)⟩
theorem kB (w:World) (hE:Env w) (hM:gX w) :
  Calls Tryz.prog 14 #[] w fun e w'=>e=.returned (.bool true)/\aA w w':=by
 go_enter Tryz.func14,Tryz.ntmps14
 go_wp2_with fail
 refine (aBb w hE hM).mono ?_
 rintro e w1 ⟨v1,rfl,hp1,k1⟩
 obtain ⟨p1,c1,rfl,-⟩:=hp1.len
 have HP1:=hid (bA.mono (S':=inW w1) (fun _ _=>rfl) (fun b hb=>hb.2) hp1)
 have K1:=hid k1
 clear hp1 k1 hE hM
 go_wp2_with fail
 refine cM (fun W'=>aA w1 W'/\aH (w1.heap.size+1) #[.int .i64 3,.slice none 0 0] W'/\aH (w1.heap.size+1+1) #[.int .i64 0,.slice none 0 0,.int .i64 2,.slice none 0 0] W')
  ⟨((aA.alloc _ _).alloc' _).alloc' _,(uA (by simp) _ _).keep (aA.alloc _ _) (by simp),uA (by simp) _ _⟩ ?_
 rintro W2 ⟨k2,b2,m2⟩
 refine (vJ (inW W2) aV thO msO _ _ _ W2 (fun _ h=>h) (bA.mono (bO (fun _ h=>h) k2) (fun b hb=>Nat.lt_of_lt_of_le hb k2.size) HP1.out) (aAb b2) (aAc m2)).mono ?_
 rintro e w3 ⟨k3,hd⟩
 rcases hd with ⟨hz,-⟩ | ⟨-,v3,rfl,ha3⟩
 ·exact absurd aFm hz
 rw [aGy] at ha3
 obtain ⟨p3,c3,hv3,-⟩:=ha3.len
 subst hv3
 have A3:=hid (ha3.mono (S':=inW w3) (fun _ _=>rfl) fun b hb=>hb.2)
 have K3:=hid (K1.out.trans (k2.trans k3))
 clear k2 b2 m2 k3 ha3
 go_wp2_with fail
 refine cM (fun W'=>aA w3 W'/\aH w3.heap.size #[.bool true,.int .i64 3,.slice none 0 0,.int .i64 0,.bool false,.int .i64 2,.slice none 0 0,.int .i64 0,.bool false,.int .i64 0,.slice none 0 0,.int .i64 0] W') ⟨aA.alloc _ _,aH.new _ _ _⟩ ?_
 rintro W4 ⟨k4,b4⟩
 refine (mR (inW W4) acO acO _ _ W4 (fun _ h=>h) (A3.out.mono (bO (fun _ h=>h) k4) (fun b hb=>Nat.lt_of_lt_of_le hb k4.size)) (aGc b4)).mono ?_
 rintro e w5 ⟨β,rfl,hβ,k5⟩
 obtain rfl:β=true:=hβ.2 rfl
 have K5:=hid (K3.out.trans (k4.trans k5))
 clear k4 k5 b4 hβ
 go_wp2_with fail
 go_ret
 exact ⟨rfl,K5.out⟩
end Go.Proofs.YthaaaecmeafofaaGreatDoor
namespace Go.Proofs.YthaaaecmeafofaaGreatDoor
open Go.RowKit Go.Sort Go.Lib
end Go.Proofs.YthaaaecmeafofaaGreatDoor
namespace Go.Proofs.YthaaaecmeafofaaGreatDoor
open Go.RowKit Go.Sort
def iF (ps:List PK) (m o:MB) (t:NT):Bool:=(cF (bU ps m) m t).any fun a=>isB (bU ps o) o a
theorem nD (ps:List PK) (m o:MB) : ∀ kids:List NT,((dE (bU ps m) m kids).any fun a=>isB (bU ps o) o a)=kids.any (iF ps m o)
 | []=>by rw [dE];rfl
 | t :: ts=>by rw [dE,List.any_append,nD ps m o ts,List.any_cons];rfl
structure oT (S:Nat->Prop) (ps:List PK) (m o:MB) (tp op mp:Option Addr) (tc oc mc ct co cm cp ca:Nat) (pcs:Array Value) (w:World):Prop where
 tree:aB ct 24 (.slice tp ps.length tc) w
 ob:aH co #[.int .i64 o.pl,.slice op o.on.length oc] w
 mb:aH cm #[.int .i64 m.pl,.slice mp m.on.length mc] w
 pack:aH cp pcs w
 self:aB ca 111 (.func (.func 59) #[] #[.pointer (some ⟨ct,0,none⟩),.pointer (some ⟨co,0,none⟩),.pointer (some ⟨cm,0,none⟩),.pointer (some ⟨cp,0,none⟩),.pointer (some ⟨ca,0,none⟩)]) w
 row:bA S w ps (.slice tp ps.length tc)
 obl:aN S w o.on (.slice op o.on.length oc)
 mbl:aN S w m.on (.slice mp m.on.length mc)
 old : ∀ b,S b->b<w.heap.size
theorem oT.keep {S:Nat->Prop} {ps:List PK} {m o:MB} {tp op mp:Option Addr} {tc oc mc ct co cm cp ca:Nat} {pcs:Array Value} {w w':World} (h:oT S ps m o tp op mp tc oc mc ct co cm cp ca pcs w) (k':aA w w'):oT S ps m o tp op mp tc oc mc ct co cm cp ca pcs w':=
 ⟨h.tree.keep k' h.tree.facts.2.2,h.ob.keep k' h.ob.1,h.mb.keep k' h.mb.1,h.pack.keep k' h.pack.1,h.self.keep k' h.self.facts.2.2,h.row.keep h.old k',h.obl.keep h.old k',h.mbl.keep h.old k',fun b hb=>Nat.lt_of_lt_of_le (h.old b hb) k'.size⟩
theorem lM (args:Array Value) (w:World):(callFunc 59 args).run Tryz.prog w=.ok (.enter 59 args) w:=enters_of Tryz.func59 (by kernel_rfl) rfl args w
theorem aBv {S:Nat->Prop} {ps:List PK} {m o:MB} {tp op mp:Option Addr} {tc oc mc ct co cm cp ca:Nat} {pcs:Array Value} {fp:Option Addr} {fc:Nat} (hct0:dO ps=0) (ho0:0<=o.pl) (ho1:o.pl<ps.length) (hoo:o.on.length=(bU ps o).fl.length) (hom:o.on.length<=9223372036854775807) (hmo:m.on.length=(bU ps m).fl.length) (_hmm:m.on.length<=9223372036854775807)
  (hpc:pcs[3]? = some (.slice fp (bU ps m).fl.length fc)) : ∀ (n:Nat) (t:NT),t.size<=n->t.ok->(∀ f∈t.flags,aY (bU ps m).fl f<(bU ps m).fl.length)->∀ (cs:List Value) (w:World),oT S ps m o tp op mp tc oc mc ct co cm cp ca pcs w->bT S w (bU ps m).fl (.slice fp (bU ps m).fl.length fc)->aE S w t cs->
  Calls Tryz.prog 59 #[.agg cs.toArray,.pointer (some ⟨ct,0,none⟩),.pointer (some ⟨co,0,none⟩),.pointer (some ⟨cm,0,none⟩),.pointer (some ⟨cp,0,none⟩),.pointer (some ⟨ca,0,none⟩)] w fun e w'=>e=.returned (.bool (iF ps m o t))/\aA w w':=by
 have HOO:=hid hoo
 have HMO:=hid hmo
 clear hoo hmo
 intro n
 induction n with
 | zero=>
  rintro ⟨kd,a,fl,nt,kids⟩ hm
  rw [NT.size] at hm;omega
 | succ n ih=>
  rintro ⟨kd,a,fl,nt,kids⟩ hm hok hfl cs w hw hst hn
  rw [NT.size] at hm
  rw [NT.ok] at hok
  obtain ⟨hnode,hokl⟩:=hok
  rw [aE] at hn
  obtain ⟨kp,kc,rfl,hcap,hmax,hkids⟩:=hn
  have HK:=hid hkids
  have HW:=hid hw
  have HST:=hid hst
  have HPC:=hid hpc
  have hold:=hw.old
  have HND:=hid (eI hnode)
  have HKEEP:Hid (∀ W,aA w W->aT S W kids kp 0):=fun W kw=>aT.mono (bO hold kw) (fun _ h=>h) kids kp 0 HK.out
  have HIH:Hid (∀ (j:Nat) (h:j<kids.length) (cs:List Value) (W:World),aA w W->aE S W kids[j] cs->Calls Tryz.prog 59 (#[.agg cs.toArray]++#[.pointer (some ⟨ct,0,none⟩),.pointer (some ⟨co,0,none⟩),.pointer (some ⟨cm,0,none⟩),.pointer (some ⟨cp,0,none⟩),.pointer (some ⟨ca,0,none⟩)]) W fun e w'=>e=.returned (.bool (iF ps m o kids[j]))/\aA W w'):=fun j h cs W kw hnd=>
   ih kids[j] (by have:=cK kids j h;omega) (tI hokl j h) (fun f hf=>hfl f (kO kd a fl nt kids j h f hf)) cs W (hw.keep kw) (hst.keep hold kw) hnd
  have HFL:Hid (kd=5->aY (bU ps m).fl fl<(bU ps m).fl.length):=fun h5=>hfl fl (by rw [NT.flags,if_pos h5];simp)
  have HALL:Hid (∀ W,aA w W->Calls Tryz.prog 62 #[.slice kp kids.length kc,.func (.func 59) #[] #[.pointer (some ⟨ct,0,none⟩),.pointer (some ⟨co,0,none⟩),.pointer (some ⟨cm,0,none⟩),.pointer (some ⟨cp,0,none⟩),.pointer (some ⟨ca,0,none⟩)]] W fun e w'=>e=.returned (.bool (kids.any (iF ps m o)))/\aA W w'):=fun W kW=>
   mD S kids (iF ps m o) kp kc W (HW.out.keep kW).old lM hmax (HKEEP.out W kW) (fun j h cs W' kW' hnd=>HIH.out j h cs W' (kW.trans kW') hnd)
  obtain ⟨hct,-,hlt⟩:=hw.tree.facts
  obtain ⟨hca,-,hla⟩:=hw.self.facts
  have hco:=hw.ob.2
  have hlo:=hw.ob.1
  have hcm:=hw.mb.2
  have hlm:=hw.mb.1
  have hcp:=hw.pack.2
  have hlp:=hw.pack.1
  have e2:=lM
  clear ih hkids hw hst hfl hpc HIH HKEEP HK hnode hokl
  by_cases h1:kd=1
  ·subst h1
   have HX:Hid (iF ps m o (.node 1 a fl nt kids)=isB (bU ps o) o a):=by
    show _=_
    have hk0:kids = []:=by
     rcases HND.out with ⟨-,h,-⟩ | ⟨h | h,-⟩ | ⟨h,-⟩
     ·exact h
     all_goals exact absurd h (by decide)
    unfold iF
    rw [cF,if_pos rfl,hk0,dE]
    simp
   clear hcm hcp
   go_enter Tryz.func59,Tryz.ntmps59
   go_wp2_with fail
   refine cM (fun W'=>aA w W') (aA.alloc _ _) ?_
   intro W0 k0
   refine (aAw S ps o op oc _ a.n a.f a.op a.v a.sl a.on W0 (HW.out.keep k0).old (HW.out.keep k0).row hct0 (HW.out.keep k0).obl ho0 ho1 HOO.out hom).mono ?_
   rintro e w1 ⟨rfl,k1⟩
   have K1:=hid (k0.trans k1)
   clear k0 k1
   go_wp2_with fail
   go_ret
   exact ⟨aG HX.out.symm,K1.out⟩
  have b1:(kd==1)=false:=by simp [h1]
  by_cases h5:kd=5
  ·have HFA:=hid (HFL.out h5)
   subst h5
   clear h1 b1 HFL
   have HX:Hid (iF ps m o (.node 5 a fl nt kids)=if (m.on.getD (aY (bU ps m).fl fl) false==nt)=true then false else kids.any (iF ps m o)):=by
    show _=_
    unfold iF
    rw [cF,if_neg (by decide)]
    simp only [true_and]
    split
    ·rfl
    ·rw [nD];rfl
   have hqo:aY (bU ps m).fl fl<m.on.length:=by rw [HMO.out];exact HFA.out
   obtain ⟨ob,ooff,hop,hSo,hcell⟩:=HW.out.mbl.cell hqo
   subst hop
   have holt:=hold ob hSo
   have hm1:w.cell? ⟨cm,1,none⟩=some (.slice (some ⟨ob,ooff,none⟩) m.on.length mc):=hcm 1
   have hc3:w.cell? ⟨cp,3,none⟩=some (.slice fp (bU ps m).fl.length fc):=(hcp 3).trans HPC.out
   generalize hqe:aY (bU ps m).fl fl=q at hqo hcell HX HFA
   have HQE:=hid hqe
   generalize (bU ps m).fl=fs at HST HPC HFA HQE hc3
   generalize m.on.getD q false=β at hcell HX
   generalize hol:m.on.length=ol at hm1 _hmm hqo
   clear hqe hcp hcm hco hol
   go_enter Tryz.func59,Tryz.ntmps59
   go_upto_region 3 with fail
   refine aZ (fun W'=>aA w W'/\aH w.heap.size #[.int .i64 5,.string a.n,.int .i64 a.op,.int .i64 a.v,.int .i64 a.sl,.string a.f,.bool a.on,.string fl,.bool nt,.slice kp kids.length kc] W') ⟨aA.alloc _ _,aH.new _ _ _⟩ ?_
   rintro W2 ⟨k2,bx2⟩
   have K2:=hid k2
   have B2:=hid bx2
   have H2:=hid (HW.out.keep k2)
   have g3:=(k2.cell (p:=⟨cm,1,none⟩) hlm).trans hm1
   have g4:=(k2.cell (p:=⟨ob,ooff+q,none⟩) holt).trans hcell
   have g5:=(k2.cell (p:=⟨cp,3,none⟩) hlp).trans hc3
   have g6:=bx2.2
   have g7:=bx2.1
   have hq:=hid (show ∀ n,Calls Tryz.prog 61 #[.slice fp fs.length fc,.string fl] (W2.drewN n) fun e w''=>e=.returned (.int .i64 (q:Int))/\∃ n',w''=W2.drewN n' from fun n=>by
    refine (nJ S fs _ fl (W2.drewN n) (HST.out.keep hold (k2.trans (aA.drewN (aA.refl _) _)))).mono ?_
    rintro e w' ⟨rfl,rfl⟩
    exact ⟨by rw [HQE.out,if_pos HFA.out],n,rfl⟩)
   clear hct hca hm1 hcell hc3 k2 bx2 HST HPC HQE
   go_quiet ((go_at_call 61;exact hq.out _))
   have k3:aA W2 (W2.drewN nq):=aA.drewN (aA.refl _) _
   generalize W2.drewN nq=W3 at k3
   have K3:=hid (K2.out.trans k3)
   have B3:=hid (B2.out.keep k3 B2.out.1)
   have H3:=hid (H2.out.keep k3)
   have hc3:=B3.out.2
   have hl3:=B3.out.1
   obtain ⟨hcf3,-,hlf3⟩:=H3.out.self.facts
   clear k3 g3 g4 g5 g6 g7 hq
   cases hβ:(β==nt)
   ·rw [hβ] at HX
    go_wp2_with fail
    refine (HALL.out W3 K3.out).mono ?_
    rintro e w4 ⟨rfl,k4⟩
    have K4:=hid (K3.out.trans k4)
    have HX2:Hid (iF ps m o (.node 5 a fl nt kids)=kids.any (iF ps m o)):=HX.out
    generalize kids.any (iF ps m o)=γ at HX2 ⊢
    clear k4 hc3 hcf3 HX
    go_wp2_with fail
    go_ret
    exact ⟨aG (by rw [HX2.out]),K4.out⟩
   ·rw [hβ] at HX
    go_wp2_with fail
    go_ret
    exact ⟨aG (by rw [HX.out];rfl),K3.out⟩
  ·have HX:Hid (iF ps m o (.node kd a fl nt kids)=kids.any (iF ps m o)):=by
    show _=_
    unfold iF
    rw [cF,if_neg h1,if_neg (fun h=>h5 h.1),nD];rfl
   have b5:(kd==5)=false:=by simp [h5]
   clear h1 h5 HFL hco hcm hcp hct hca
   go_enter Tryz.func59,Tryz.ntmps59
   go_upto_region 3 with fail
   refine aZ (fun W'=>aA w W'/\aH w.heap.size #[.int .i64 kd,.string a.n,.int .i64 a.op,.int .i64 a.v,.int .i64 a.sl,.string a.f,.bool a.on,.string fl,.bool nt,.slice kp kids.length kc] W') ⟨aA.alloc _ _,aH.new _ _ _⟩ ?_
   rintro W2 ⟨k2,bx2⟩
   have K2:=hid k2
   have B2:=hid bx2
   have H2:=hid (HW.out.keep k2)
   have g6:=bx2.2
   have g7:=bx2.1
   clear k2 bx2
   go_quiet (fail)
   have k3:aA W2 (W2.drewN nq):=aA.drewN (aA.refl _) _
   generalize W2.drewN nq=W3 at k3
   have K3:=hid (K2.out.trans k3)
   have B3:=hid (B2.out.keep k3 B2.out.1)
   have H3:=hid (H2.out.keep k3)
   have hc3:=B3.out.2
   have hl3:=B3.out.1
   obtain ⟨hcf3,-,hlf3⟩:=H3.out.self.facts
   clear k3 g6 g7
   go_wp2_with fail
   refine (HALL.out W3 K3.out).mono ?_
   rintro e w4 ⟨rfl,k4⟩
   have K4:=hid (K3.out.trans k4)
   generalize kids.any (iF ps m o)=γ at HX ⊢
   clear k4 hc3 hcf3
   go_wp2_with fail
   go_ret
   exact ⟨aG (by rw [HX.out]),K4.out⟩
def eT (B:Nat) (v:Value) (acc:List (List Int)) (w:World):Prop:=
 ∃ vs:List Value,vs.length=acc.length/\w.ownsRow B 37 1 v acc.length vs/\∀ (i:Nat) zs rv,acc[i]? = some zs->vs[i]? = some rv->bN (fun b=>B<=b/\b<w.heap.size/\v.ownBlock≠some b) w zs rv
theorem eT.nil (B:Nat) (w:World):eT B (.slice none 0 0) [] w:=⟨[],rfl,World.ownsRow_nil _ _ _ _,by simp⟩
theorem eT.other {B:Nat} {v:Value} {acc:List (List Int)} {w w':World} (h:eT B v acc w) (hs:w.heap.size<=w'.heap.size) (hb : ∀ b,B<=b->b<w.heap.size->w'.heap[b]? = w.heap[b]?):eT B v acc w':=by
 obtain ⟨vs,h1,⟨h3,h3'⟩,h4⟩:=h
 refine ⟨vs,h1,⟨h3,h3'.imp id ?_⟩,fun i t rv hi hc=>(h4 i t rv hi hc).mono (fun p hp=>World.cell?_of_block (w:=w) (hb _ hp.1 hp.2.1)) (fun b hb=>⟨hb.1,Nat.lt_of_lt_of_le hb.2.1 hs,hb.2.2⟩)⟩
 rintro ⟨g,cap,cur,e1,e2,e3,e4⟩
 exact ⟨g,cap,cur,e1,e2,by rw [hb g e2 (Array.getElem?_eq_some_iff.1 e3).1];exact e3,e4⟩
theorem eT.keep {B:Nat} {v:Value} {acc:List (List Int)} {w w':World} (h:eT B v acc w) (k:aA w w'):eT B v acc w':=h.other k.size fun b _ hb=>k.block b hb
theorem eT.push {B B':Nat} {v v' rv:Value} {acc:List (List Int)} {vs:List Value} {t:List Int} {w w':World} {o:Obj} (h1:vs.length=acc.length)
  (h4 : ∀ (i:Nat) zs rv,acc[i]? = some zs->vs[i]? = some rv->bN (fun b=>B<=b/\b<w.heap.size/\v.ownBlock≠some b) w zs rv)
  (hB:B<=B') (hv : ∀ g,v.ownBlock=some g->g<B') (hn:bN (fun b=>B'<=b/\b<w.heap.size) w t rv)
  (h5:w'.ownsRow B 37 1 v' (acc.length+1) (vs ++ [rv])) (h6:(w.alloc o).grownBy w' v.ownBlock) (h7:v'.ownBlock=v.ownBlock∨v'.ownBlock=some (w.alloc o).heap.size):eT B v' (acc ++ [t]) w':=by
 have e:=aD w o
 have hsz:w.heap.size<=w'.heap.size:=by have:=h6.size;omega
 have hcell : ∀ p:Addr,p.block<w.heap.size->v.ownBlock≠some p.block->w'.cell? p=w.cell? p:=fun p hp hne=>by
  rw [World.cell?_of_block (w:=w.alloc o) (a:=p) (h6.block p.block (by omega) (fun e=>hne e.symm))]
  exact (aA.alloc w o).cell hp
 have hne : ∀ b,b<w.heap.size->v.ownBlock≠some b->v'.ownBlock≠some b:=fun b hb hn=>by
  rcases h7 with h7 | h7
  ·rw [h7];exact hn
  ·rw [h7];intro e;have:=Option.some.inj e;omega
 refine ⟨vs ++ [rv],by simp [h1],by simpa using h5,fun i u x hu hx=> ?_⟩
 by_cases hi:i<acc.length
 ·rw [List.getElem?_append_left hi] at hu
  rw [List.getElem?_append_left (by omega)] at hx
  exact (h4 i u x hu hx).mono (fun p hp=>hcell p hp.2.1 hp.2.2) (fun b hb=>⟨hb.1,by omega,hne b hb.2.1 hb.2.2⟩)
 ·have hi2:i=acc.length:=by
   have:=(List.getElem?_eq_some_iff.1 hu).1
   simp at this;omega
  subst hi2
  rw [List.getElem?_append_right (Nat.le_refl _),Nat.sub_self] at hu
  rw [← h1,List.getElem?_append_right (Nat.le_refl _),Nat.sub_self] at hx
  cases hu;cases hx
  have hvn : ∀ b,B'<=b->v.ownBlock≠some b:=fun b hb e=>by have:=hv b e;omega
  exact hn.mono (fun p hp=>hcell p hp.2 (hvn _ hp.1)) (fun b hb=>⟨by omega,by omega,hne b hb.2 (hvn b hb.1)⟩)
theorem eT.final {B:Nat} {v:Value} {acc:List (List Int)} {w:World} (h:eT B v acc w):cG (fun b=>B<=b/\b<w.heap.size) w acc v:=by
 obtain ⟨vs,h1,⟨h3,⟨rfl,h0⟩ | ⟨g,cap,cur,rfl,e2,e3,e4,e5,e6,e7⟩⟩,h4⟩:=h
 ·obtain rfl:=List.length_eq_zero_iff.1 h0
  exact ⟨_,_,rfl,by decide,fun h=>absurd h (by decide)⟩
 ·have hg:=(Array.getElem?_eq_some_iff.1 e3).1
  refine ⟨_,_,rfl,by unfold maxLen at e5;omega,fun _=>⟨g,0,rfl,⟨e2,hg⟩,fun i m hm=> ?_⟩⟩
  have hi:i<acc.length:=(List.getElem?_eq_some_iff.1 hm).1
  have hcs:vs[i]? = some vs[i]:=List.getElem?_eq_getElem (by omega)
  generalize vs[i]'(by omega)=x at hcs
  refine ⟨x,?_,(h4 i m _ hm hcs).mono (fun _ _=>rfl) (fun b hb=>⟨hb.1,hb.2.1⟩)⟩
  have hf:=hcs
  rw [Nat.mul_one] at e7
  rw [← e7,List.getElem?_take,if_pos (by omega)] at hf
  rw [Nat.zero_add]
  simp only [World.cell?,e3]
  simpa using hf
theorem eT.own {B:Nat} {v:Value} {acc:List (List Int)} {w:World} (h:eT B v acc w) : ∀ g,v.ownBlock=some g->B<=g/\g<w.heap.size:=fun g hg=>by
 obtain ⟨vs,-,o1,-⟩:=h
 exact cW o1 hg
theorem eT.shape {B:Nat} {v:Value} {acc:List (List Int)} {w:World} (h:eT B v acc w) : ∃ p cap,v=.slice p acc.length cap:=by
 obtain ⟨p,cap,h,-⟩:=h.final
 exact ⟨p,cap,h⟩
end Go.Proofs.YthaaaecmeafofaaGreatDoor
