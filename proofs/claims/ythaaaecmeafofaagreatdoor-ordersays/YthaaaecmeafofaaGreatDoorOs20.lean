/- Steps of the proof: OrdRefPlan, EqualInts, EqualNums, OrdRefEq. -/
import Derived.Test.YthaaaecmeafofaaGreatDoorOs19
import Derived.Deep.CutRange
import Derived.Laws.AppendOwnNone
import Derived.Test.YthaaaecmeafofaaGreatDoorOs08
import Derived.Shelf.Spec.SlicesGrow
import Derived.Sort.OwnSortedInts
import Derived.Test.YthaaaecmeafofaaGreatDoorOs10
import Derived.Test.YthaaaecmeafofaaGreatDoorOs16
import Derived.Test.YthaaaecmeafofaaGreatDoorOs18
set_option maxHeartbeats 16000000
set_option maxRecDepth 100000
namespace Go.Proofs.YthaaaecmeafofaaGreatDoor
open Go.RowKit Go.Sort Go.Lib
theorem aFo {fm:Int->Option Int} {f:Nat->Int} (hfm : ∀ k:Nat,(fm k).getD 0=f k) (z:Nat) (c:Int) (k:Nat):((fun y:Int=>if y=(z:Int) then some c else fm y) (k:Int)).getD 0=if k=z then c else f k:=by
 show (if (k:Int)=z then some c else fm k).getD 0=_
 by_cases e:k=z
 ·rw [if_pos (by omega),if_pos e];rfl
 ·rw [if_neg (by omega),if_neg e];exact hfm k
theorem aCk {l:List Nat} {p:Nat->Bool} {a a' k:Nat} (h1:l[a]? = some k) (h2:p k=true) (h3 : ∀ b,b<a->∀ x,l[b]? = some x->p x=false) (ha':a'<l.length) (h4:p l[a']=true) (h5:(l.take a').any p=false):a'=a/\l[a']=k:=by
 obtain ⟨ha,hk⟩:=List.getElem?_eq_some_iff.1 h1
 have e:a'=a:=by
  rcases Nat.lt_trichotomy a' a with h | h | h
  ·rw [h3 a' h _ (List.getElem?_eq_getElem ha')] at h4;cases h4
  ·exact h
  ·have:=List.any_eq_false.1 h5 k (by
    rw [← hk]
    exact List.mem_take_iff_getElem.2 ⟨a,by omega,rfl⟩)
   exact absurd h2 this
 subst e
 exact ⟨rfl,hk⟩
theorem vK (S:Nat->Prop) (ps:List PK) (th ms:List MB) (tv hv lv:Value) (w:World) (hS : ∀ b,S b->b<w.heap.size) (hp:bA S w ps tv) (ht:cI S w th hv) (hm:cI S w ms lv) (hz:bP ps ms=0) (hzt:bP ps th=0) :
  Calls Tryz.prog 20 #[.agg #[tv],hv,lv] w fun e w'=> ∃ v,e=.returned v/\dR (fun b=>b<w'.heap.size) w' (kC ps th ms) v/\aA w w':=by
 have HP:=hid hp
 have HT:=hid ht
 have HM:=hid hm
 obtain ⟨tp,tc,rfl,hlen⟩:=hp.len
 obtain ⟨hp',hc',rfl,hhl⟩:=ht.len
 obtain ⟨lp,lc,rfl,hll⟩:=hm.len
 obtain ⟨i0,hi,hz0,hz1,hz2⟩:=info_parts tC
 obtain ⟨j0,hj,hy0,hy1,hy2⟩:=info_parts hN
 have hmm:= @run_makeMap Tryz.prog
 have hmf : ∀ (fn:Fn) (first cap:Array Value) (w:World),(Instr.makeFunc fn first cap).run Tryz.prog w=.ok (.func fn first cap) w:=fun _ _ _ _=>rfl
 obtain ⟨-,-,-,-,h8,hok⟩:=fG hz
 obtain ⟨-,-,-,-,h8t,hokt⟩:=fG hzt
 have HOK:=hid hok
 have HOKT:=hid hokt
 have HZ:=hid hz
 clear hp ht hm hok hokt hz hzt
 go_enter Tryz.func20,Tryz.ntmps20
 go_upto_region 1 with fail
 refine aZ (fun W'=>aA w W'/\aB w.heap.size 24 (.slice tp ps.length tc) W') ⟨aA.alloc _ _,aB.new _ _ _⟩ ?_
 rintro W0 ⟨k0,v0⟩
 have K0:=hid k0
 have V0:=hid v0
 clear k0 v0
 generalize hct:w.heap.size=ct at V0 ⊢
 have HCT:=hid hct
 clear hct
 go_wp2_with fail
 go_loopg [31,7] th.length (fun gk iv av wr=> ∃ j:Nat,j+gk=th.length/\iv=.int .i64 j/\aA w wr/\aB ct 24 (.slice tp ps.length tc) wr/\bW S w (w.heap.size+1) av (fP ps th ms j) wr)
 case atStart=>exact ⟨0,by omega,rfl,K0.out,V0.out,bW.nil _ _ _ _⟩
 case round=>
  obtain ⟨j,hjg,rfl,hk,hv,hr⟩:=hrel
  have HK:=hid hk
  have HV:=hid hv
  have HR:=hid hr
  clear hk hv hr
  by_cases hlt:j<th.length
  ·have hSr : ∀ b,S b->b<wr.heap.size:=fun b hb=>Nat.lt_of_lt_of_le (hS b hb) HK.out.size
   obtain ⟨mb,moff,mcap,hmv,hmS,-,hrow⟩:=(HT.out.keep hS HK.out).get hlt
   cases hmv
   obtain ⟨op,oc,hc0,hc1,hol,hbl⟩:=hrow j _ (List.getElem?_eq_getElem hlt)
   have HBW:=hid (show aN S w th[j].on (.slice op th[j].on.length oc) from by
    obtain ⟨_,_,_,e1,-,-,hrow0⟩:=HT.out.get hlt
    cases e1
    obtain ⟨op',oc',-,g1,-,g2⟩:=hrow0 j _ (List.getElem?_eq_getElem hlt)
    have:=(HK.out.cell (p:=⟨mb,moff+j*2+1,none⟩) (hS _ hmS)).trans g1
    rw [hc1] at this
    cases this
    exact g2)
   obtain ⟨h0,h1,h2⟩:=HOKT.out j _ (List.getElem?_eq_getElem hlt)
   have HSU:=hid (sD (ps:=ps) (ms:=ms) hlt)
   have HUL:=hid (qF ps th ms j)
   generalize hthj:th[j]=m at hc0 hc1 hol HBW h0 h1 h2 HSU hbl
   obtain ⟨q,hq⟩ : ∃ q:Nat,m.pl=q:=⟨m.pl.toNat,by omega⟩
   have hqp:q<ps.length:=by omega
   have hpk:bU ps m=ps[q]:=by unfold bU;rw [hq,Int.toNat_natCast,dZ ps q hqp]
   have HOB:Hid (oM ps ms m = !(ms.any (shB ps ps[q]))):=by show _=_;unfold oM;rw [hpk]
   obtain ⟨tb,toff,tcap,htv,htb,-,htrow⟩:=(HP.out.keep hS HK.out).get hqp
   cases htv
   obtain ⟨cs,hcs,hpj⟩:=htrow q hqp
   generalize ps[q]=p at hpj HOB
   obtain ⟨kk,a,fl,nt,kids,kp,fp,kc,fc,hnd,hfl,rfl,-,-⟩:=hpj.spelt
   obtain ⟨c0,c1,c2,c3,c4,c5,c6,c7,c8,c9,c10,c11,c12,c13⟩:=dI hcs
   clear hcs hpj htrow hrow hnd hbl hthj h0 h1 h2 hpk
   rcases p with ⟨n,v,sl,fs,nd⟩
   rcases m with ⟨pl,on⟩
   simp only at hq hc0 hc1 hol HBW HSU HOB c0 c1 c2 c3 hfl
   subst hq
   go_upto_region 5 with fail
   refine aZ (fun W'=>aA wr W'/\aH wr.heap.size #[.int .i64 q,.slice op on.length oc] W') ⟨aA.alloc _ _,aH.new _ _ _⟩ ?_
   rintro W2 ⟨k2,b2⟩
   have K2:=hid k2
   have V2:=hid (HV.out.keep k2 HV.out.facts.2.2)
   have B2:=hid b2
   have hS2 : ∀ b,S b->b<W2.heap.size:=fun b hb=>Nat.lt_of_lt_of_le (hSr b hb) k2.size
   obtain ⟨g0,-,l0⟩:=V2.out.facts
   have gm:=b2.2
   have gl:=b2.1
   have gt : ∀ (o:Nat) (x:Value),wr.cell? ⟨tb,o,none⟩=some x->W2.cell? ⟨tb,o,none⟩=some x:=fun o x h=>(k2.cell (p:=⟨tb,o,none⟩) (hSr tb htb)).trans h
   have d0:=gt _ _ c0
   have d1:=gt _ _ c1
   have d2:=gt _ _ c2
   have d3:=gt _ _ c3
   have d4:=gt _ _ c4
   have d5:=gt _ _ c5
   have d6:=gt _ _ c6
   have d7:=gt _ _ c7
   have d8:=gt _ _ c8
   have d9:=gt _ _ c9
   have d10:=gt _ _ c10
   have d11:=gt _ _ c11
   have d12:=gt _ _ c12
   have d13:=gt _ _ c13
   have htl:=hS2 tb htb
   clear c0 c1 c2 c3 c4 c5 c6 c7 c8 c9 c10 c11 c12 c13 gt k2 b2 hc0 hc1
   generalize wr.heap.size=cm at B2 gm gl ⊢
   go_upto_region 6 with fail
   refine aZ (fun W'=>aA W2 W'/\aH W2.heap.size #[.string n,.int .i64 v,.int .i64 sl,.slice fp fs.length fc,.int .i64 kk,.string a.n,.int .i64 a.op,.int .i64 a.v,.int .i64 a.sl,.string a.f,.bool a.on,.string fl,.bool nt,.slice kp kids.length kc] W') ⟨aA.alloc _ _,aH.new _ _ _⟩ ?_
   rintro W3 ⟨k3,b3⟩
   have K3:=hid (K2.out.trans k3)
   have V3:=hid (V2.out.keep k3 V2.out.facts.2.2)
   have BM3:=hid (B2.out.keep k3 B2.out.1)
   have B3:=hid b3
   clear k3 b3 g0 gm gl d0 d1 d2 d3 d4 d5 d6 d7 d8 d9 d10 d11 d12 d13
   generalize W2.heap.size=cp at B3 ⊢
   have KW3:=hid (HK.out.trans K3.out)
   obtain ⟨WK,rfl⟩ : ∃ WK:World,WK=wr:=⟨_,rfl⟩
   go_wp2_with fail
   go_loopg [43,11] ms.length (fun gk iv sv wr=> ∃ i:Nat,i+gk=ms.length/\iv=.int .i64 i/\sv=.bool ((ms.take i).any (shB ps ⟨n,v,sl,fs,nd⟩))/\aA W3 wr)
   case atStart=>exact ⟨0,by omega,rfl,rfl,aA.refl _⟩
   case round=>
    obtain ⟨i,hig,rfl,rfl,hki⟩:=hrel
    have HKI:=hid hki
    clear hki
    by_cases hli:i<ms.length
    ·have KI:=hid (KW3.out.trans HKI.out)
     have hSi : ∀ b,S b->b<wr.heap.size:=fun b hb=>Nat.lt_of_lt_of_le (hS b hb) KI.out.size
     obtain ⟨mb',moff',mcap',hmv',hmS',-,hrow'⟩:=(HM.out.keep hS KI.out).get hli
     cases hmv'
     obtain ⟨op',oc',hc0',hc1',hol',-⟩:=hrow' i _ (List.getElem?_eq_getElem hli)
     obtain ⟨x0,x1,-⟩:=HOK.out i _ (List.getElem?_eq_getElem hli)
     have HTK:Hid ((ms.take (i+1)).any (shB ps ⟨n,v,sl,fs,nd⟩)=((ms.take i).any (shB ps ⟨n,v,sl,fs,nd⟩)||shB ps ⟨n,v,sl,fs,nd⟩ ms[i])):=by
      show _=_
      rw [List.take_succ_eq_append_getElem hli,List.any_append];simp
     obtain ⟨q',hq'⟩ : ∃ q':Nat,ms[i].pl=q':=⟨ms[i].pl.toNat,by omega⟩
     have hqp':q'<ps.length:=by omega
     have HX:Hid (shB ps ⟨n,v,sl,fs,nd⟩ ms[i]=((ps[q'].n.toList==n.toList)&&(ps[q'].sl==sl))):=by show _=_;unfold shB bU;rw [hq',Int.toNat_natCast,dZ ps q' hqp']
     generalize shB ps ⟨n,v,sl,fs,nd⟩ ms[i]=σ at HTK HX
     obtain ⟨tb',toff',tcap',htv',htb',-,htrow'⟩:=(HP.out.keep hS KI.out).get hqp'
     cases htv'
     obtain ⟨cs',hcs',hpj'⟩:=htrow' q' hqp'
     generalize ps[q']=p' at hpj' HX
     obtain ⟨kk',a',fl',nt',kids',kp',fp',kc',fc',hnd',hfl',rfl,-,-⟩:=hpj'.spelt
     obtain ⟨c0,c1,c2,c3,c4,c5,c6,c7,c8,c9,c10,c11,c12,c13⟩:=dI hcs'
     have hml':=hSi mb' hmS'
     generalize ms[i]=mi at hc0' hc1' hol' x0 x1 hq'
     rcases p' with ⟨n',v',sl',fs',nd'⟩
     rcases mi with ⟨pl',on'⟩
     simp only at hq' hc0' hc1' hol' x0 x1 HX c0 c1 c2 c3 hfl'
     subst hq'
     clear hcs' hpj' htrow' hrow' hnd'
     have VI:=hid (V3.out.keep HKI.out V3.out.facts.2.2)
     go_upto_region 10 with fail
     refine aZ (fun W'=>aA wr W'/\aH wr.heap.size #[.int .i64 q',.slice op' on'.length oc'] W') ⟨aA.alloc _ _,aH.new _ _ _⟩ ?_
     rintro W4 ⟨k4,b4⟩
     have K4:=hid k4
     have B4:=hid b4
     obtain ⟨g0,-,l0⟩:=(VI.out.keep k4 VI.out.facts.2.2).facts
     have gm:=b4.2
     have gl:=b4.1
     have gt : ∀ (o:Nat) (x:Value),wr.cell? ⟨tb,o,none⟩=some x->W4.cell? ⟨tb,o,none⟩=some x:=fun o x h=>(k4.cell (p:=⟨tb,o,none⟩) (hSi tb htb)).trans h
     have d0:=gt _ _ c0
     have d1:=gt _ _ c1
     have d2:=gt _ _ c2
     have d3:=gt _ _ c3
     have d4:=gt _ _ c4
     have d5:=gt _ _ c5
     have d6:=gt _ _ c6
     have d7:=gt _ _ c7
     have d8:=gt _ _ c8
     have d9:=gt _ _ c9
     have d10:=gt _ _ c10
     have d11:=gt _ _ c11
     have d12:=gt _ _ c12
     have d13:=gt _ _ c13
     have htl4:tb<W4.heap.size:=Nat.lt_of_lt_of_le (hSi tb htb) k4.size
     clear c0 c1 c2 c3 c4 c5 c6 c7 c8 c9 c10 c11 c12 c13 gt k4 b4 hc0' hc1'
     generalize wr.heap.size=co at B4 gm gl ⊢
     go_upto_region 11 with fail
     refine aZ (fun W'=>aA W4 W'/\aH W4.heap.size #[.string n',.int .i64 v',.int .i64 sl',.slice fp' fs'.length fc',.int .i64 kk',.string a'.n,.int .i64 a'.op,.int .i64 a'.v,.int .i64 a'.sl,.string a'.f,.bool a'.on,.string fl',.bool nt',.slice kp' kids'.length kc'] W') ⟨aA.alloc _ _,aH.new _ _ _⟩ ?_
     rintro W5 ⟨k5,b5⟩
     have K5:=hid (HKI.out.trans (K4.out.trans k5))
     have hqn:W5.cell? ⟨W4.heap.size,0,none⟩=some (.string n'):=b5.2 0
     have hqs:W5.cell? ⟨W4.heap.size,2,none⟩=some (.int .i64 sl'):=b5.2 2
     have hql:=b5.1
     have hp5:=B3.out.keep K5.out B3.out.1
     have hpn:W5.cell? ⟨cp,0,none⟩=some (.string n):=hp5.2 0
     have hps:W5.cell? ⟨cp,2,none⟩=some (.int .i64 sl):=hp5.2 2
     have hpl:=hp5.1
     clear k5 b5 hp5 g0 gm gl d0 d1 d2 d3 d4 d5 d6 d7 d8 d9 d10 d11 d12 d13
     generalize W4.heap.size=cq at hqn hqs hql ⊢
     generalize (ms.take i).any (shB ps ⟨n,v,sl,fs,nd⟩)=β at HTK ⊢
     cases β
     ·cases hne:(n'.toList==n.toList)
      ·rw [hne] at HX
       go_wp2_with fail
       go_roundg (ms.length-(i+1))
       case rel=>exact ⟨i+1,by omega,by go_num,by rw [HTK.out,HX.out];rfl,K5.out⟩
       case measure=>omega
      ·rw [hne] at HX
       go_wp2_with fail
       go_roundg (ms.length-(i+1))
       case rel=>exact ⟨i+1,by omega,by go_num,by rw [HTK.out,HX.out];simp,K5.out⟩
       case measure=>omega
     ·go_wp2_with fail
      go_roundg (ms.length-(i+1))
      case rel=>exact ⟨i+1,by omega,by go_num,by rw [HTK.out];rfl,K5.out⟩
      case measure=>omega
    ·obtain rfl:i=ms.length:=by omega
     rw [List.take_length]
     rw [HOB.out] at HSU
     have KI:=hid (K3.out.trans HKI.out)
     have KWI:=hid (KW3.out.trans HKI.out)
     have VI:=hid (V3.out.keep HKI.out V3.out.facts.2.2)
     have RI:=hid (HR.out.keep KI.out)
     have BI:=hid (BM3.out.keep HKI.out BM3.out.1)
     generalize (ms.any (shB ps ⟨n,v,sl,fs,nd⟩))=β at HSU ⊢
     cases β
     ·have HSU2:Hid (fP ps th ms (j+1)=fP ps th ms j ++ [⟨true,⟨q,on⟩,0⟩]):=HSU.out
      clear HSU HOB
      have gm:=BI.out.2
      have gl:=BI.out.1
      have O5:=hid (show fU S w ⟨true,⟨q,on⟩,0⟩ [.bool true,.int .i64 q,.slice op on.length oc,.int .i64 0] from ⟨_,rfl,HBW.out⟩)
      have HOW:=hid RI.out.own
      have hwk4:w.heap.size+1<=wr.heap.size:=by have:=VI.out.facts.2.2;have:=HCT.out;omega
      obtain ⟨xp,xc,hxv⟩:=RI.out.shape
      subst hxv
      obtain ⟨csl,e1,e2,e3,e4⟩:=RI.out
      have HC3:=hid e3
      have HC4:=hid e4
      have hul:=HUL.out
      clear e3 e4
      generalize fP ps th ms j=acc at HC3 HC4 e1 hul HSU2 HOW ⊢
      go_wp2_with (at_builtin;go_loud (refine wpList_append_own_at _ rfl _ _ 30 rfl (w.heap.size+1) 104 i0 (.agg #[.bool false,.int .i64 0,.slice none 0 0,.int .i64 0]) 4 48 Tryz.underlying30 hi hz0 hz1 hz2 rfl (by decide) (.slice xp acc.length xc) acc.length csl.flatten rfl (HC3.out.alloc _) ⟨wr.heap.size,0,none⟩ 1 1 [.bool true,.int .i64 q,.slice op on.length oc,.int .i64 0] rfl rfl eA (by intro u hu;simp at hu;rcases hu with rfl | rfl | rfl | rfl<;>rfl) (by unfold maxLen;omega) (by omega) (by rw [aD];omega) ?_;intro v6 w6 h1 h2 _ h4;obtain ⟨g6,cap6,rfl⟩:=Cn.cN h1 (Nat.succ_pos _);have R6:=hid (bW.push e1 e2 HC4.out O5.out rfl (by simpa using h1));have L6:=hid (show Below w.heap.size wr w6 from ((Below.refl _ wr).alloc KWI.out.size _).grown h2 (by rw [aD];have:=KWI.out.size;omega) (fun g hg=>Nat.le_of_succ_le (HOW.out g hg).1));have V6:=hid (show aB ct 24 (.slice (some ⟨tb,toff,none⟩) ps.length tc) w6 from by (have h5:=VI.out;have h6:=h5.facts.2.2;unfold aB at *;rw [(Cn.jM h2).block _ h6 (fun e=>by (have:=(HOW.out _ e.symm).1;have:=HCT.out;omega))];exact h5));clear h1 h2 h4))
      go_roundg (th.length-(j+1))
      case rel=>exact ⟨j+1,by omega,by go_num,Below.trans KWI.out L6.out,V6.out,by rw [HSU2.out];exact R6.out⟩
      case measure=>omega
     ·have HSU2:Hid (fP ps th ms (j+1)=fP ps th ms j):=HSU.out
      clear HSU HOB
      go_wp2_with fail
      go_roundg (th.length-(j+1))
      case rel=>exact ⟨j+1,by omega,by go_num,KWI.out,VI.out,by rw [HSU2.out];exact RI.out⟩
      case measure=>omega
  ·obtain rfl:j=th.length:=by omega
   obtain ⟨WA,rfl⟩ : ∃ WA:World,WA=wr:=⟨_,rfl⟩
   have HOA:=hid HR.out.own
   have HWA:Hid (ct<WA.heap.size):=HV.out.facts.2.2
   obtain ⟨t0,-,t1⟩:=HV.out.facts
   go_wp2_with fail
   refine (jP S ps ms _ _ WA (fun b hb=>Nat.lt_of_lt_of_le (hS b hb) HK.out.size) (HP.out.keep hS HK.out) (HM.out.keep hS HK.out) HZ.out).mono ?_
   rintro e W1 ⟨v1,rfl,r1,k1⟩
   obtain ⟨rp,rc,hrv,-⟩:=r1.len
   subst hrv
   have K1:=hid (HK.out.trans k1)
   have R1:=hid r1
   have A1:=hid (HR.out.keep k1)
   have HW1:Hid (WA.heap.size<=W1.heap.size):=k1.size
   clear k1 r1 t0 t1
   generalize hnl:(cU ps ms).length=nl at R1 ⊢
   have HNL:=hid hnl
   clear hnl
   go_upto_region 18 with fail
   refine aZ (fun W'=>aA W1 W'/\aB W1.heap.size 26 (.slice rp nl rc) W'/\aB (W1.heap.size+1) 37 (.slice none 0 0) W') ⟨(aA.alloc _ _).alloc' _,(aB.new _ _ _).keep (aA.alloc _ _) (by simp),?_⟩ ?_
   ·have:=aB.new (W1.alloc (.cells #[.slice rp nl rc] 26)) 37 (.slice none 0 0)
    rw [aD] at this;exact this
   rintro W2 ⟨k2,vo,vf⟩
   have K12:=hid k2
   have K2:=hid (K1.out.trans k2)
   have VO:=hid vo
   have VF:=hid vf
   have HSZ2:Hid (W1.heap.size+1<W2.heap.size):=vf.facts.2.2
   have HSZ1:Hid (w.heap.size<W1.heap.size):=by have:=HWA.out;have:=HW1.out;have:=HCT.out;show _<_;omega
   clear k2 vo vf
   generalize hcon:W1.heap.size=con at VO VF HSZ2 HSZ1 ⊢
   have HCON:=hid hcon
   clear hcon
   go_wp2_with fail
   go_loopg [82] ms.length (fun gk iv wr=> ∃ (k:Nat) (fv:Value),k+gk=ms.length/\iv=.int .i64 k/\aB (con+1) 37 fv wr/\cT (con+2) fv (aL (frU th ms k)) wr/\Below (con+1) W2 wr)
   case atStart=>exact ⟨0,_,by omega,rfl,VF.out,World.ownsRow_nil _ _ _ _,Below.refl _ _⟩
   case round=>
    obtain ⟨k,fv,hkg,rfl,hvf,hin,hbw⟩:=hrel
    have HVF:=hid hvf
    have HIN:=hid hin
    have HBW:=hid hbw
    have KR:=hid (show aA w wr from Below.trans K2.out (hbw.mono (by have:=HSZ1.out;omega)))
    clear hvf hin hbw
    by_cases hlt:k<ms.length
    ·have hSr : ∀ b,S b->b<wr.heap.size:=fun b hb=>Nat.lt_of_lt_of_le (hS b hb) KR.out.size
     obtain ⟨mb,moff,mcap,hmv,hmS,-,hrow⟩:=(HM.out.keep hS KR.out).get hlt
     cases hmv
     obtain ⟨op,oc,hc0,hc1,hol,hbl⟩:=hrow k _ (List.getElem?_eq_getElem hlt)
     have HBL:=hid hbl
     have HNB:Hid (kX th ms k = !(th.any fun o=>eqM o ms[k])):=by show _=_;unfold kX;rw [dJ ms k hlt]
     have HSU:=hid (aCn th ms k)
     have HUL:=hid (aEx th ms k)
     generalize ms[k]=m at hc0 hc1 hol HBL HNB
     rcases m with ⟨pl,on⟩
     simp only at hc0 hc1 hol HBL HNB
     clear hrow hbl
     go_upto_region 21 with fail
     refine aZ (fun W'=>aA wr W'/\aH wr.heap.size #[.int .i64 pl,.slice op on.length oc] W') ⟨aA.alloc _ _,aH.new _ _ _⟩ ?_
     rintro W3 ⟨k3,b3⟩
     have K3:=hid k3
     have B3:=hid b3
     clear k3 b3 hc0 hc1
     generalize wr.heap.size=cm at B3 ⊢
     have KW3:=hid (KR.out.trans K3.out)
     have hcont:=eV S th (fun o=>eqM o ⟨pl,on⟩) hp' th.length hc' W3 (fun b hb=>Nat.lt_of_lt_of_le (hS b hb) KW3.out.size) zN (HT.out.keep hS KW3.out) (cap:=#[.pointer (some ⟨cm,0,none⟩)]) (fun i hi op' oc' W kW hbW=>aFk S th[i] ⟨pl,on⟩ op' op oc' oc cm W (fun b hb=>Nat.lt_of_lt_of_le (hS b hb) (Nat.le_trans KW3.out.size kW.size)) hbW (HBL.out.keep hSr (K3.out.trans kW)) (B3.out.keep kW B3.out.1))
     have HCO:=hid hcont
     clear hcont
     generalize (th.any fun o=>eqM o ⟨pl,on⟩)=β at HCO HNB
     go_wp2_with fail
     refine HCO.out.mono ?_
     rintro e W4 ⟨rfl,k4⟩
     have K4:=hid (K3.out.trans k4)
     have VF4:=hid (HVF.out.keep K4.out HVF.out.facts.2.2)
     have O4:=hid (cS HIN.out K4.out)
     have HB4:=hid (show Below (con+1) W2 W4 from Below.trans HBW.out (K4.out.mono (by have:=HSZ2.out;have:=HBW.out.size;omega)))
     clear k4 HCO
     rw [HNB.out] at HSU
     cases β
     ·have HSU2:Hid (aL (frU th ms (k+1))=aL (frU th ms k) ++ [(k:Int)]):=by show _=_;rw [HSU.out];exact lH _ _
      clear HSU HNB
      obtain ⟨f1,f2,f3⟩:=VF4.out.facts
      have hul:=HUL.out
      have hcl:(aL (frU th ms k)).length<=k:=by rw [aJ];exact hul
      generalize aL (frU th ms k)=acc at O4 HSU2 hcl HIN
      obtain ⟨xp,xc,hxv,-⟩:=cV O4.out
      subst hxv
      have hB4:con+2<=W4.heap.size:=by have:=HSZ2.out;have:=HB4.out.size;omega
      go_wp2_with (at_builtin;go_loud (refine wpList_append_own_at _ rfl _ _ 37 rfl (con+2) 3 j0 (.int .i64 0) 1 8 Tryz.underlying37 hj hy0 hy1 hy2 rfl (by decide) (.slice xp acc.length xc) acc.length (acc.map (Value.int .i64)) rfl (World.ownsRow.alloc O4.out _) ⟨W4.heap.size,0,none⟩ 1 1 [.int .i64 k] rfl rfl fO gF (by unfold maxLen;omega) (by omega) (by rw [aD];omega) ?_;intro v7 w7 h1 h2 _ h4;obtain ⟨g7,cap7,rfl⟩:=Cn.cN h1 (Nat.succ_pos _);have P7:=hid (aEj VF4.out O4.out (Nat.lt_succ_self _) hB4 h1 h2);obtain ⟨x1,x2,x3⟩:=(VF4.out.keep (fC hB4 O4.out h1 h2).2 (Nat.lt_succ_self _)).facts;clear h1 h2 h4 f1 f2 f3))
      go_roundg (ms.length-(k+1))
      case rel=>exact ⟨k+1,_,by omega,by go_num,P7.out.1,by rw [HSU2.out];exact P7.out.2.1,Below.trans HB4.out P7.out.2.2⟩
      case measure=>omega
     ·have HSU2:Hid (frU th ms (k+1)=frU th ms k):=HSU.out
      clear HSU HNB
      go_wp2_with fail
      go_roundg (ms.length-(k+1))
      case rel=>exact ⟨k+1,fv,by omega,by go_num,VF4.out,by rw [HSU2.out];exact O4.out,HB4.out⟩
      case measure=>omega
    ·obtain rfl:k=ms.length:=by omega
     rw [aEw] at HIN
     obtain ⟨WL,rfl⟩ : ∃ WL:World,WL=wr:=⟨_,rfl⟩
     obtain ⟨f1,f2,f3⟩:=HVF.out.facts
     have hcap : ∃ p c,fv=.slice p (frL (eC th ms)).length c/\(frL (eC th ms)).length<=c/\(p=none->c=0):=by
      obtain ⟨hln,⟨rfl,h0⟩ | ⟨g,cap,cur,rfl,-,-,h5,-⟩⟩:=HIN.out
      ·rw [aJ] at h0;exact ⟨none,0,by rw [h0],by omega,fun _=>rfl⟩
      ·rw [aJ] at h5 ⊢;exact ⟨_,_,rfl,h5,fun h=>by cases h⟩
     have HNI:=hid (cV HIN.out)
     have hfrl:(frL (eC th ms)).length<=ms.length:=by have:=aEv (eC th ms);rw [iK] at this;exact this
     have HAL:=hid hcap
     obtain ⟨fp,fc,hfv,hfc,hfn⟩:=hcap
     subst hfv
     clear hlt
     go_upto_region 24 with fail
     go_cut [19] from 96 to 98 (fun s19 wc=> ∃ p c,s19=.slice p (frL (eC th ms)).length c/\bN (fun b=>WL.heap.size<=b/\b<wc.heap.size) wc (aL (frL (eC th ms))) s19/\aA WL wc)
     case first=>
      have hmade:=World.ownsRow_made (base:=WL.heap.size) (e:=3) (size:=1) WL #[] 0 (Nat.le_refl _) (Nat.zero_le _) rfl
      cases fp with
      | none=>
       obtain rfl:=hfn rfl
       have hz0:(frL (eC th ms)).length=0:=by omega
       have hfe:frL (eC th ms) = []:=List.length_eq_zero_iff.1 hz0
       rw [hz0] at f1
       have HZ0:=hid hz0
       have HFE:=hid hfe
       clear hz0 hfe
       go_wp2_with (at_builtin;go_loud (refine wpList_append_own_none rfl _ _ 37 rfl WL.heap.size 3 j0 1 Tryz.underlying37 hj (.slice (some ⟨WL.heap.size,0,none⟩) 0 0) 0 [] rfl hmade rfl ?_))
       go_meet
       case rel=>exact ⟨_,_,by rw [HZ0.out],by rw [HFE.out];exact ⟨_,_,rfl,by simp [aL],fun h=>by simp [aL] at h⟩,aA.alloc _ _⟩
      | some ad=>
       obtain ⟨p',c',e',-,h3⟩:=id HNI.out
       rw [aJ] at e'
       cases e'
       have hnews : ∀ (j:Nat) (u:Value),((aL (frL (eC th ms))).map (Value.int .i64))[j]? = some u->(WL.alloc (.cells #[] 3)).cell? (ad.add j)=some u:=fun j u hu=>by
        have hjl:j<(aL (frL (eC th ms))).length:=by
         have:=(List.getElem?_eq_some_iff.1 hu).1
         simpa using this
        obtain ⟨b,off,e2,hb,hcell⟩:=h3 (by omega)
        cases e2
        exact qD (w:=WL.alloc (.cells #[] 3)) (b:=b) (off:=off) (fun j x hx=>((aA.alloc WL _).cell (p:=⟨b,off+j,none⟩) hb.2).trans (hcell j x hx)) j u hu
       have hNL:((aL (frL (eC th ms))).map (Value.int .i64)).length=(frL (eC th ms)).length*1:=by rw [List.length_map,aJ,Nat.mul_one]
       go_wp2_with (at_builtin;go_loud (refine wpList_append_own_at _ rfl _ _ 37 rfl WL.heap.size 3 j0 (.int .i64 0) 1 8 Tryz.underlying37 hj hy0 hy1 hy2 rfl (by decide) (.slice (some ⟨WL.heap.size,0,none⟩) 0 0) 0 [] rfl hmade ad (frL (eC th ms)).length fc ((aL (frL (eC th ms))).map (Value.int .i64)) rfl hNL hnews (by intro u hu;obtain ⟨x,-,rfl⟩:=List.mem_map.1 hu;rfl) (by unfold maxLen;omega) (by omega) (by rw [aD];omega) ?_;intro v7 w7 h1 h2 _ h4;have N7:=hid (show bN (fun b=>WL.heap.size<=b/\b<w7.heap.size) w7 (aL (frL (eC th ms))) v7 from cV (by unfold cT;rw [aJ];simpa using h1));have K7:=hid (show aA WL w7 from ((Below.refl _ WL).alloc (Nat.le_refl _) _).grown h2 (by rw [aD];omega) (fun g hg=>by cases hg;exact Nat.le_refl _));obtain ⟨yp,yc,hyv,-⟩:=id N7.out;rw [aJ] at hyv;subst hyv;clear h1 h2 h4))
       go_meet
       case rel=>exact ⟨_,_,rfl,N7.out,K7.out⟩
     case rest=>
      obtain ⟨ap,ac,rfl,hna,hka⟩:=hcut
      have NA:=hid hna
      have KA:=hid hka
      clear hna hka f1 f2 f3
      go_upto_region 26 with fail
      refine aZ (fun W'=>aA wc W'/\jD wc.heap.size 0 (fun _=>none) W') ⟨aA.alloc _ _,zW wc⟩ ?_
      rintro W5 ⟨k5,m5⟩
      have K5:=hid k5
      have M5:=hid m5
      have HGM:Hid (WL.heap.size<=wc.heap.size):=KA.out.size
      clear k5 m5
      generalize hgm:wc.heap.size=gm at M5 HGM ⊢
      have HGE:=hid hgm
      clear hgm
      have HPL:=hid (show PlM S w (cU ps ms) (frL (eC th ms)) (frL (eC th ms)) (lG ps th ms []) (.slice rp nl rc) (.slice fp (frL (eC th ms)).length fc) (.slice ap (frL (eC th ms)).length ac) u7 con (con+1) gm 0 (fun _=>none) W5 from by
       have hsz1:=HSZ1.out
       have hsz2:=HSZ2.out
       have hcon:=HCON.out
       have hgm:=HGM.out
       have hge:=HGE.out
       have hw1:=HW1.out
       have k3:aA WL W5:=KA.out.trans K5.out
       have hbl:Below (con+1) W2 W5:=Below.trans HBW.out (k3.mono (by have:=HBW.out.size;omega))
       have hlow : ∀ c,c<con->W5.heap[c]? = W1.heap[c]? :=fun c hc=>(hbl.block c (by omega)).trans (K12.out.block c (by omega))
       have how : ∀ c,u7.ownBlock=some c->c<WA.heap.size/\w.heap.size+1<=c:=fun c hc=>⟨(HOA.out c hc).2,(HOA.out c hc).1⟩
       have hwl:con+2<=WL.heap.size:=by have:=HBW.out.size;omega
       have hw5:gm<W5.heap.size:=M5.out.lt
       refine ⟨KR.out.trans k3,VO.out.keep hbl (by omega),HVF.out.keep k3 HVF.out.facts.2.2,M5.out,?_,?_,?_,HAL.out,?_,by omega,?_⟩
       ·have ha:lG ps th ms []=fP ps th ms th.length:=by unfold lG fP;rw [List.take_length];simp
        rw [ha]
        obtain ⟨csl,e1,e2,⟨e3,e3'⟩,e4⟩:=A1.out
        refine ⟨csl,e1,e2,⟨e3,e3'.imp id ?_⟩,e4⟩
        rintro ⟨g,cap,cur,q1,q2,q3,q4⟩
        exact ⟨g,cap,cur,q1,q2,by rw [hlow g (by have:=(Array.getElem?_eq_some_iff.1 q3).1;omega)];exact q3,q4⟩
       ·have:=R1.out
        rw [← HNL.out] at this ⊢
        refine this.mono (fun p hp=>World.cell?_of_block (hlow p.block (by have:=hp.2;omega))) (fun c hc=>⟨by have:=hc.2;omega,by have:=hc.2;omega,by have:=hc.2;omega,fun e=>by have:=(how c e).1;have:=hc.1;omega⟩)
       ·exact HNI.out.mono (fun p hp=>k3.cell (p:=p) hp.2) (fun c hc=>⟨by have:=hc.2;omega,by have:=hc.1;omega,by have:=hc.2;omega,fun e=>by have:=(how c e).1;have:=hc.1;omega⟩)
       ·exact NA.out.mono (fun p hp=>K5.out.cell (p:=p) hp.2) (fun c hc=>⟨by have:=hc.2;omega,by have:=hc.1;omega,by have:=hc.2;omega,fun e=>by have:=(how c e).1;have:=hc.1;omega⟩)
       ·exact ⟨fun e=>by have:=(how _ e).1;omega,fun e=>by have:=(how _ e).1;omega,fun e=>by have:=(how _ e).1;omega⟩)
      clear M5 HNI NA VO VF HVF HIN HBW K12 A1 R1 K5 KA HAL
      generalize con+1=cf at HPL ⊢
      generalize hal:frL (eC th ms)=al at HPL hfrl ⊢
      have HALE:=hid hal
      clear hal
      go_wp2_with fail
      go_loopg [7,21] al.length (fun gk av cv wr=> ∃ (D:List Nat) (left:List Bool) (f:Nat->Int) (la:Int) (fm:Int->Option Int) (m:Nat) (fv:Value),gk=(frL left).length/\cv=.int .i64 la/\PlS ps th ms D left f la/\PlM S w (cU ps ms) (frL left) al (lG ps th ms D) (.slice rp nl rc) fv (.slice ap al.length ac) av con cf gm m fm wr/\m<=9*D.length/\∀ k:Nat,(fm k).getD 0=f k)
      case atStart=>exact ⟨[],eC th ms,fun _=>0,0,fun _=>none,0,_,by rw [HALE.out],rfl,PlS.start ps th ms,by rw [HALE.out];exact HPL.out,by omega,fun _=>rfl⟩
      case round=>
       obtain ⟨D,left,f,la,fm,m,fv,hgk,rfl,hps,hpm,hmn,hfm⟩:=hrel
       have HPS:=hid hps
       have HPM:=hid hpm
       have HFM:=hid hfm
       obtain ⟨gp,gc,hgv,hgc,-⟩:=hpm.cap
       subst hgv
       have hfew:=hps.few
       have hlow:=hps.low
       have hpos:=hps.ok.pos
       clear hps hpm hfm HPL
       by_cases h0:frL left = []
       ·obtain ⟨v1,-,v3⟩:=HPM.out.vfr.facts
        have hlz:(frL left).length=0:=by rw [h0];rfl
        rw [hlz] at v1
        have HD:Hid (D=goP ps th ms):=HPS.out.done h0
        have HF:=hid (HPM.out.act.final fun p hp=>HPM.out.kp.cell (p:=p) (hS _ hp))
        obtain ⟨xp,xc,hxv⟩:=HPM.out.act.shape
        subst hxv
        generalize hxl:(lG ps th ms D).length=xl at HF ⊢
        rw [HD.out,aBt] at HF
        clear hgk hxl
        go_wp2_with fail
        go_ret
        exact ⟨_,rfl,HF.out.mono (fun _ _=>rfl) (fun b hb=>hb.elim (fun h=>Nat.lt_of_lt_of_le (hS b h) HPM.out.kp.size) fun h=>h.2),HPM.out.kp⟩
       ·obtain ⟨k,hk⟩:=PlS.more (ps:=ps) (ms:=ms) h0
        have HK4:=hid hk
        have hpos4:0<(frL left).length:=List.length_pos_iff.2 h0
        obtain ⟨a,ha1,ha2,ha3⟩:=aGw hk
        have hal4:a<(frL left).length:=(List.getElem?_eq_some_iff.1 ha1).1
        have hkn:k<ms.length:=by
         have:=iT (eW.1 (List.mem_of_getElem? ha1))
         rw [HPS.out.len] at this;exact this
        have hfn : ∀ x∈frL left,x<ms.length:=fun x hx=>by
         have:=iT (eW.1 hx)
         rw [HPS.out.len] at this;exact this
        have HRF:=hid (HPM.out.asks (adj:=dA ps ms) (C:=bB ps ms) (n:=ms.length) (by omega) (cR ps ms) (fun i hi=>gC hi) (fun i j hj=>(kQ.1 hj).2.1) (fun _ _=>hG))
        have HIX:=hid (jO (Oth cf gm u7 wr) (aL (frL left)) (fun x=> !lX (bB ps ms) (frL left) x.toNat) _ wr (fun b hb=>hb.1) zO HPM.out.frs (cap:=#[.pointer (some ⟨cf,0,none⟩),.pointer (some ⟨con,0,none⟩)]) (fun j hj W kW=>by
         have:=aFl (HRF.out.keep kW) (HPM.out.frs.keep (fun b hb=>hb.1) kW) hfn (cf:=cf) (con:=con) (i:=(frL left)[j]'(by rw [aJ] at hj;exact hj)) (hfn _ (List.getElem_mem _)) (HPM.out.vfr.keep kW HPM.out.vfr.facts.2.2) (HPM.out.von.keep kW HPM.out.von.facts.2.2)
         rw [oX hj,Int.toNat_natCast]
         exact this))
        have HFA:=hid (show ∀ n':Int,((∃ (a':Nat) (h:a'<(aL (frL left)).length),n'=a'/\(!lX (bB ps ms) (frL left) (aL (frL left))[a'].toNat)=true/\((aL (frL left)).take a').any (fun x=> !lX (bB ps ms) (frL left) x.toNat)=false)∨(n' = -1/\(aL (frL left)).any (fun x=> !lX (bB ps ms) (frL left) x.toNat)=false))->n'=a from by
         rintro n' (⟨a',ha',rfl,q1,q2⟩ | ⟨-,q1⟩)
         ·have ha'':a'<(frL left).length:=by rw [aJ] at ha';exact ha'
          rw [oX ha',Int.toNat_natCast] at q1
          have q3:((frL left).take a').any (fun x=> !lX (bB ps ms) (frL left) x)=false:=by
           rw [← oV]
           unfold aL at q2 ⊢
           rw [List.map_take];exact q2
          have:=(aCk (p:=fun x=> !lX (bB ps ms) (frL left) x) ha1 (by rw [ha2];rfl) (fun b hb x hx=>by rw [ha3 b hb x hx];rfl) ha'' q1 q3).1
          omega
         ·have:=oV (frL left) (fun x=> !lX (bB ps ms) (frL left) x)
          rw [q1] at this
          have h2:=List.any_eq_false.1 this.symm k (List.mem_of_getElem? ha1)
          rw [ha2] at h2
          exact absurd rfl h2)
        have HA1:=hid ha1
        obtain ⟨v1,-,v3⟩:=HPM.out.vfr.facts
        clear ha1 ha2 ha3 hfn hk h0
        have hgt:(0:Int)<((frL left).length:Nat):=by omega
        go_wp2_with fail
        refine HIX.out.mono ?_
        rintro e W1 ⟨n',rfl,hn',k1⟩
        obtain rfl:=HFA.out n' hn'
        have M1:=hid (HPM.out.keep k1)
        clear hn' k1 HIX HFA HRF v1 v3 HPM
        obtain ⟨v1,v2,v3⟩:=M1.out.vfr.facts
        obtain ⟨p',c',e',-,h3⟩:=id M1.out.frs
        rw [aJ] at e' h3
        cases e'
        obtain ⟨nb,noff,rfl,hnb,hcell⟩:=h3 (by omega)
        have hca:W1.cell? ⟨nb,noff+a,none⟩=some (.int .i64 k):=hcell a _ (by unfold aL;rw [List.getElem?_map,HA1.out];rfl)
        have hnl1:=hnb.1
        have HCEL:=hid hcell
        clear h3 hcell
        go_upto_region 30 with fail
        obtain ⟨v',w',hrun,kcut,hnums,p',c',hv',hcap',hpn'⟩:=aCf (w:=W1.drew) (zs:=aL (frL left)) (b:=nb) (off:=noff) (a:=a) (gc:=gc) (by rw [aJ];exact hal4) (by rw [aJ];omega) (by rw [aJ];exact hgc) HCEL.out
        have hsl1:=fun W=>xX (nb:=nb) (noff:=noff) (fl:=(frL left).length) (gc:=gc) (a:=a) (by omega) W
        have hsl2:=fun W=>xY (nb:=nb) (noff:=noff) (fl:=(frL left).length) (gc:=gc) (a:=a) (by omega) W
        have hwr:IntKind.i64.wrap ((a:Int)+1)=(a:Int)+1:=by rw [IntKind.wrap_i64];omega
        rw [aJ] at hrun hv' hcap'
        subst hv'
        have HFS:Hid ((frL left).take a++(frL left).drop (a+1)=frL (left.set k false)):=aGm HA1.out
        have HLS:Hid ((frL (left.set k false)).length=(frL left).length-1):=by
         show _=_
         rw [← HFS.out,List.length_append,List.length_take,List.length_drop];omega
        have KC:=hid (show aA W1 w' from dW kcut)
        have MC:=hid (M1.out.keep KC.out)
        have NC:=hid (show bN (Oth cf gm u7 w') w' (aL (frL (left.set k false))) (.slice p' ((frL left).length-1) c') from by
         have e1:(aL (frL left)).take a++(aL (frL left)).drop (a+1)=aL (frL (left.set k false)):=by
          rw [← HFS.out];unfold aL;rw [List.map_append,List.map_take,List.map_drop]
         rw [e1] at hnums
         refine hnums.mono (fun _ _=>rfl) fun c hc=> ?_
         rcases hc with rfl | hc
         ·exact ⟨Nat.lt_of_lt_of_le hnb.1 KC.out.size,hnb.2⟩
         ·have hc1:W1.heap.size<=c:=hc.1
          refine ⟨hc.2,by omega,by have:=M1.out.map.lt;omega,fun e=> ?_⟩
          have:=(M1.out.act.own c e).2
          omega)
        have HS:=hid (show W1.cell? ⟨cf,0,none⟩=some (.slice (some ⟨nb,noff,none⟩) (frL left).length gc) from v1)
        have HSd:=hid (show W1.drew.cell? ⟨cf,0,none⟩=some (.slice (some ⟨nb,noff,none⟩) (frL left).length gc) from v1)
        obtain ⟨x1,x2,x3⟩:=MC.out.vfr.facts
        have HS7:=hid x1
        have HMQ:=hid (MC.out.cut (fr':=frL (left.set k false)) NC.out ⟨_,_,by rw [HLS.out],by rw [HLS.out];exact hcap',hpn'⟩)
        clear kcut hnums hcap' hpn'
        go_cut [] from 100 to 177 (fun wc=>PlM S w (cU ps ms) (frL (left.set k false)) al (lG ps th ms D) (.slice rp nl rc) (.slice p' ((frL left).length-1) c') (.slice ap al.length ac) u7 con cf gm m fm wc)
        case first=>
         go_region_law
          (refine oO rfl _ _ 37 rfl (.slice (some ⟨nb,noff,none⟩) a a) (.slice (some (aCe nb noff gc a)) ((frL left).length-(a+1)) (gc-(a+1))) _ _ rfl rfl hrun ?_)
         all_goals (go_wp2_with fail;go_meet;exact HMQ.out)
        case rest=>
        obtain ⟨W2,rfl⟩ : ∃ W2:World,W2=wc:=⟨_,rfl⟩
        have m2:=hcut
        clear hcut
        have M2:=hid m2
        clear m2 HMQ HS HSd HS7 x1 x2 x3 hrun NC MC KC M1 HCEL hca v1 v2 v3
        generalize (.slice p' ((frL left).length-1) c':Value)=fv' at M2
        have HST:=hid (HPS.out.step HK4.out)
        have HNS:Hid (∀ s,dU (bB ps ms) (goP ps th ms) s k=dU (bB ps ms) al s k):=fun s=>by
         rw [aAo (C:=bB ps ms) (a:=goP ps th ms) (b:=al) fun x=>by rw [← HALE.out,eW,mN];exact kP]
        have HF0:Hid (0<=f k):=(HPS.out.ok.rng k).1
        generalize hnf:dU (bB ps ms) (goP ps th ms) (f,la) k=nf at HST
        have HNF:Hid (nf=if f k=0 then (if cE (bB ps ms) al k = [] then (f,la) else (fun j=>if j∈cE (bB ps ms) al k ++ [k] then la+1 else f j,la+1)) else (f,la)):=by
         show _=_
         rw [← hnf,HNS.out];exact aAn HF0.out
        have hlk:=M2.out.map.look Tryz.underlying120 (x:=(k:Int)) (by omega)
        rw [HFM.out k] at hlk
        have hla:la.natAbs<=1000:=by omega
        have HALN:Hid (∀ x∈al,x<ms.length):=fun x hx=>by
         rw [← HALE.out] at hx
         exact (mN.1 (eW.1 hx)).1
        clear hnf
        go_upto_if 122 with fail
        go_cut [21] from 100 to 177 (fun cv wc=> ∃ (m':Nat) (fm':Int->Option Int),cv=.int .i64 nf.2/\PlM S w (cU ps ms) (frL (left.set k false)) al (lG ps th ms D) (.slice rp nl rc) fv' (.slice ap al.length ac) u7 con cf gm m' fm' wc/\m'<=m+9/\∀ j:Nat,(fm' j).getD 0=nf.1 j)
        case first=>
         by_cases hf0:f k=0
         ·rw [show (f k==0)=true by simp [hf0]]
          have HNF2:Hid (nf=if cE (bB ps ms) al k = [] then (f,la) else (fun j=>if j∈cE (bB ps ms) al k ++ [k] then la+1 else f j,la+1)):=by show _=_;rw [HNF.out,if_pos hf0]
          have HF00:=hid hf0
          clear hf0 HNF
          go_wp2_with fail
          obtain ⟨WR,rfl⟩ : ∃ WR:World,WR=wr:=⟨_,rfl⟩
          go_loopg [125,24] al.length (fun gk iv rv wr=> ∃ j:Nat,j+gk=al.length/\iv=.int .i64 j/\cT W2.heap.size rv (aL (cE (bB ps ms) (al.take j) k)) wr/\aA W2 wr)
          case atStart=>exact ⟨0,by omega,rfl,by rw [List.take_zero];exact World.ownsRow_nil _ _ _ _,aA.refl _⟩
          case round=>
           obtain ⟨j,hjg,rfl,hin,hkj⟩:=hrel
           have HIN:=hid hin
           have MJ:=hid (M2.out.keep hkj)
           have KJ:=hid hkj
           clear hin hkj
           by_cases hlt:j<al.length
           ·obtain ⟨p1,c1,e1,-,h3⟩:=id MJ.out.all
            rw [aJ] at e1 h3
            cases e1
            obtain ⟨nb1,noff1,rfl,hnb1,hcell1⟩:=h3 (by omega)
            have hcj:=hcell1 j _ (eL hlt)
            have hnl2:=hnb1.1
            have hon:=HALN.out _ (List.getElem_mem hlt)
            have HRS:Hid (cE (bB ps ms) (al.take (j+1)) k=cE (bB ps ms) (al.take j) k++if (decide (al[j]≠k)&&bB ps ms k al[j]&&bB ps ms al[j] k)=true then [al[j]] else []):=by
             show _=_
             unfold cE
             rw [List.take_succ_eq_append_getElem hlt,List.filter_append,List.filter_cons,List.filter_nil]
            have HRL:Hid ((cE (bB ps ms) (al.take j) k).length<=j):=by
             show _<=_
             exact Nat.le_trans (List.length_filter_le _ _) (List.length_take_le _ _)
            generalize al[j]=o at hcj hon HRS
            clear h3 hcell1
            have HRF:=hid (MJ.out.asks (adj:=dA ps ms) (C:=bB ps ms) (n:=ms.length) (by omega) (cR ps ms) (fun i hi=>gC hi) (fun i j hj=>(kQ.1 hj).2.1) (fun _ _=>hG))
            obtain ⟨y1,-,y3⟩:=MJ.out.von.facts
            by_cases hok:o=k
            ·have hb1:((o:Int) != (k:Int))=false:=by simp [hok]
             have HRS2:Hid (cE (bB ps ms) (al.take (j+1)) k=cE (bB ps ms) (al.take j) k):=by show _=_;rw [HRS.out,if_neg (by simp [hok]),List.append_nil]
             clear hok HRS
             go_wp2_with fail
             go_roundg (al.length-(j+1))
             case rel=>exact ⟨j+1,by omega,by go_num,by rw [HRS2.out];exact HIN.out,KJ.out⟩
             case measure=>omega
            ·have hb1:((o:Int) != (k:Int))=true:=by simp;omega
             have HC1:=hid (HRF.out.asks hkn hon)
             cases hc1:bB ps ms k o
             ·rw [hc1] at HC1
              have HRS2:Hid (cE (bB ps ms) (al.take (j+1)) k=cE (bB ps ms) (al.take j) k):=by show _=_;rw [HRS.out,if_neg (by simp [hc1]),List.append_nil]
              clear hok HRS hc1
              go_wp2_with fail
              refine HC1.out.mono ?_
              rintro e W3 ⟨rfl,k3⟩
              have K3:=hid (KJ.out.trans k3)
              have O3:=hid (cS HIN.out k3)
              clear k3 y1 y3 HC1 hcj
              go_wp2_with fail
              go_roundg (al.length-(j+1))
              case rel=>exact ⟨j+1,by omega,by go_num,by rw [HRS2.out];exact O3.out,K3.out⟩
              case measure=>omega
             ·rw [hc1] at HC1
              have HOK1:=hid hok
              have HCC1:=hid hc1
              clear hok hc1
              go_wp2_with fail
              refine HC1.out.mono ?_
              rintro e W3 ⟨rfl,k3⟩
              have K3:=hid (KJ.out.trans k3)
              have O3:=hid (cS HIN.out k3)
              have HC2:=hid ((HRF.out.keep k3).asks hon hkn)
              obtain ⟨z1,-,z3⟩:=(MJ.out.keep k3).von.facts
              clear k3 y1 y3 HC1 hcj
              cases hc2:bB ps ms o k
              ·rw [hc2] at HC2
               have HRS2:Hid (cE (bB ps ms) (al.take (j+1)) k=cE (bB ps ms) (al.take j) k):=by show _=_;rw [HRS.out,if_neg (by simp [hc2]),List.append_nil]
               clear HRS hc2
               go_wp2_with fail
               refine HC2.out.mono ?_
               rintro e W4 ⟨rfl,k4⟩
               have K4:=hid (K3.out.trans k4)
               have O4:=hid (cS O3.out k4)
               clear k4 z1 z3 HC2
               go_wp2_with fail
               go_roundg (al.length-(j+1))
               case rel=>exact ⟨j+1,by omega,by go_num,by rw [HRS2.out];exact O4.out,K4.out⟩
               case measure=>omega
              ·rw [hc2] at HC2
               have HRS2:Hid (aL (cE (bB ps ms) (al.take (j+1)) k)=aL (cE (bB ps ms) (al.take j) k) ++ [(o:Int)]):=by
                show _=_
                rw [HRS.out,if_pos (by simp [hc2,HCC1.out,HOK1.out])];exact lH _ _
               clear HRS hc2
               go_wp2_with fail
               refine HC2.out.mono ?_
               rintro e W4 ⟨rfl,k4⟩
               have K4:=hid (K3.out.trans k4)
               have O4:=hid (cS O3.out k4)
               clear k4 z1 z3 HC2
               have hrl:(aL (cE (bB ps ms) (al.take j) k)).length<=j:=by rw [aJ];exact HRL.out
               generalize aL (cE (bB ps ms) (al.take j) k)=acc at O4 HRS2 hrl HIN O3
               obtain ⟨xp,xc,hxv,-⟩:=cV O4.out
               subst hxv
               have hB4:W2.heap.size<=W4.heap.size:=K4.out.size
               go_wp2_with (at_builtin;go_loud (refine wpList_append_own_at _ rfl _ _ 37 rfl W2.heap.size 3 j0 (.int .i64 0) 1 8 Tryz.underlying37 hj hy0 hy1 hy2 rfl (by decide) (.slice xp acc.length xc) acc.length (acc.map (Value.int .i64)) rfl (World.ownsRow.alloc O4.out _) ⟨W4.heap.size,0,none⟩ 1 1 [.int .i64 o] rfl rfl fO gF (by unfold maxLen;omega) (by omega) (by rw [aD];omega) ?_;intro v7 w7 h1 h2 _ h4;have P7:=hid (fC hB4 O4.out h1 h2);clear h1 h2 h4))
               go_roundg (al.length-(j+1))
               case rel=>exact ⟨j+1,by omega,by go_num,by rw [HRS2.out];exact P7.out.1,Below.trans K4.out P7.out.2⟩
               case measure=>omega
           ·obtain rfl:j=al.length:=by omega
            rw [List.take_length] at HIN
            obtain ⟨xp,xc,hxv,-⟩:=cV HIN.out
            rw [aJ] at hxv
            subst hxv
            have hrl:(cE (bB ps ms) al k).length<=al.length:=List.length_filter_le _ _
            by_cases hr0:cE (bB ps ms) al k = []
            ·have hrz:(cE (bB ps ms) al k).length=0:=by rw [hr0];rfl
             rw [hrz]
             have HNF3:Hid (nf=(f,la)):=by show _=_;rw [HNF2.out,if_pos hr0]
             clear hr0
             go_wp2_with fail
             go_meet
             case rel=>exact ⟨m,fm,by rw [HNF3.out],MJ.out,by omega,by rw [HNF3.out];exact HFM.out⟩
            ·have hrp:(0:Int)<((cE (bB ps ms) al k).length:Nat):=by have:=List.length_pos_iff.2 hr0;omega
             have HNF3:Hid (nf=(fun j=>if j∈cE (bB ps ms) al k ++ [k] then la+1 else f j,la+1)):=by show _=_;rw [HNF2.out,if_neg hr0]
             clear hr0 HNF2
             have HRN:Hid (∀ x∈cE (bB ps ms) al k ++ [k],x<100000):=fun x hx=>by
              rcases List.mem_append.1 hx with hx | hx
              ·have:=HALN.out x (jV.1 hx).1;omega
              ·rw [List.mem_singleton.1 hx];omega
             generalize cE (bB ps ms) al k=R at HIN hrl hrp HNF3 HRN ⊢
             obtain ⟨WJ,rfl⟩ : ∃ WJ:World,WJ=wr:=⟨_,rfl⟩
             have hBJ:W2.heap.size<=WJ.heap.size:=KJ.out.size
             have hcl:(aL R).length=R.length:=aJ R
             have HOJ:=hid (show WJ.ownsRow W2.heap.size 3 1 (.slice xp R.length xc) R.length ((aL R).map (Value.int .i64)) from by have:=HIN.out;unfold cT at this;rw [hcl] at this;exact this)
             go_upto_region 42 with (at_builtin;go_loud (refine wpList_append_own_at _ rfl _ _ 37 rfl W2.heap.size 3 j0 (.int .i64 0) 1 8 Tryz.underlying37 hj hy0 hy1 hy2 rfl (by decide) (.slice xp R.length xc) R.length ((aL R).map (Value.int .i64)) rfl (World.ownsRow.alloc HOJ.out _) ⟨WJ.heap.size,0,none⟩ 1 1 [.int .i64 k] rfl rfl fO gF (by unfold maxLen;omega) (by omega) (by rw [aD];omega) ?_;intro v7 w7 h1 h2 _ h4;obtain ⟨g7,cap7,rfl⟩:=Cn.cN h1 (Nat.succ_pos _);have P7:=hid (fC (v:= .slice xp R.length xc) (zs:=aL R) (x:=(k:Int)) hBJ HIN.out (by rw [hcl];exact h1) h2);clear h1 h2 h4))
             have K7:=hid (show aA W2 w7 from Below.trans KJ.out P7.out.2)
             have M7:=hid (M2.out.keep K7.out)
             have N7:=hid (cV P7.out.1)
             have HGM7:Hid (gm<W2.heap.size):=M2.out.map.lt
             have HRK:Hid (aL R ++ [(k:Int)]=aL (R ++ [k])):=(lH R k).symm
             rw [HRK.out] at N7
             go_wp2_with fail
             go_loopg [159] (R.length+1) (fun gk iv wr=> ∃ (j m':Nat) (fm':Int->Option Int),j+gk=R.length+1/\iv=.int .i64 j/\PlM S w (cU ps ms) (frL (left.set k false)) al (lG ps th ms D) (.slice rp nl rc) fv' (.slice ap al.length ac) u7 con cf gm m' fm' wr/\m'=m+j/\(∀ x:Nat,(fm' x).getD 0=if x∈(R ++ [k]).take j then la+1 else f x)/\aR (One gm) w7 wr)
             case atStart=>exact ⟨0,m,fm,by omega,rfl,M7.out,by omega,fun x=>by rw [List.take_zero,if_neg (by simp)];exact HFM.out x,bQ (aA.refl _)⟩
             case round=>
              obtain ⟨j,m',fm',hjg2,rfl,hpm',hmm',hfm',hap'⟩:=hrel
              have MP:=hid hpm'
              have HFP:=hid hfm'
              have HAP:=hid hap'
              clear hpm' hfm' hap'
              by_cases hlt2:j<R.length+1
              ·obtain ⟨p1,c1,e1,-,h3⟩:=N7.out.mono (S':=fun c=>W2.heap.size<=c/\c<w7.heap.size) (fun p hp=>HAP.out.cell p hp.2 (fun e=>by have e:p.block=gm:=e;have:=HGM7.out;have:=hp.1;omega)) fun _ h=>h
               have hrl2:(aL (R ++ [k])).length=R.length+1:=by rw [aJ];simp
               rw [hrl2] at e1 h3
               cases e1
               obtain ⟨nb1,noff1,e3,hnb1,hcell1⟩:=h3 (by omega)
               cases e3
               have hjl:j<(R ++ [k]).length:=by simp;omega
               have hcj:=hcell1 j _ (eL hjl)
               rw [Nat.zero_add] at hcj
               have hnl2:g7<wr.heap.size:=Nat.lt_of_lt_of_le hnb1.2 HAP.out.size
               have hxs:=HRN.out _ (List.getElem_mem hjl)
               have HTK:Hid ((R ++ [k]).take (j+1)=(R ++ [k]).take j ++ [(R ++ [k])[j]]):=List.take_succ_eq_append_getElem hjl
               generalize (R ++ [k])[j]=z at hcj hxs HTK
               obtain ⟨w8,hrun8,m8,gr8⟩:=MP.out.map.put Tryz.underlying120 (x:=(z:Int)) (c:=la+1) (by omega) (by omega) (by omega)
               have M8:=hid (MP.out.put m8 gr8)
               have A8:=hid (HAP.out.trans (gZ gr8))
               have F8:=hid (show ∀ x:Nat,((fun y:Int=>if y=(z:Int) then some (la+1) else fm' y) (x:Int)).getD 0=if x∈(R ++ [k]).take (j+1) then la+1 else f x from fun x=>by
                rw [aFo (f:=fun x=>if x∈(R ++ [k]).take j then la+1 else f x) HFP.out z (la+1) x,HTK.out]
                by_cases e:x=z
                ·rw [if_pos e,if_pos (by simp [e])]
                ·rw [if_neg e]
                 by_cases e2:x∈(R ++ [k]).take j
                 ·rw [if_pos e2,if_pos (List.mem_append.2 (.inl e2))]
                 ·rw [if_neg e2,if_neg (by rw [List.mem_append,List.mem_singleton];rintro (h | h);exact e2 h;exact e h)])
               clear m8 gr8 h3 hcell1
               go_wp2_with fail
               go_roundg (R.length+1-(j+1))
               case rel=>exact ⟨j+1,m'+1,_,by omega,by go_num,M8.out,by omega,F8.out,A8.out⟩
               case measure=>omega
              ·obtain rfl:j=R.length+1:=by omega
               go_wp2_with fail
               go_meet
               case rel=>exact ⟨m',fm',by rw [HNF3.out],MP.out,by omega,fun x=>by rw [HNF3.out,HFP.out x,List.take_of_length_le (by simp)]⟩
         ·have HNF2:Hid (nf=(f,la)):=by show _=_;rw [HNF.out,if_neg hf0]
          have hfz:(f k==0)=false:=by simp [hf0]
          go_wp2_with fail
          go_meet
          case rel=>exact ⟨m,fm,by rw [HNF2.out],M2.out,by omega,by rw [HNF2.out];exact HFM.out⟩
        case rest=>
         obtain ⟨m',fm',rfl,hpm',hm',hfm'⟩:=hcut
         have M3:=hid hpm'
         have F3:=hid hfm'
         clear hpm' hfm' hlk
         have hlk:=(M3.out.keep (aA.drew (aA.refl wc))).map.look Tryz.underlying120 (x:=(k:Int)) (by omega)
         rw [F3.out k,← HST.out.2.1] at hlk
         have hSr : ∀ b,S b->b<wc.heap.size:=fun b hb=>Nat.lt_of_lt_of_le (hS b hb) M3.out.kp.size
         obtain ⟨mb,moff,mcap,hmv,hmS,-,hrow⟩:=(HM.out.keep hS M3.out.kp).get hkn
         cases hmv
         obtain ⟨op,oc,hc0,hc1,hol,hbl⟩:=hrow k _ (List.getElem?_eq_getElem hkn)
         have HBWK:=hid (show aN S w ms[k].on (.slice op ms[k].on.length oc) from by
          obtain ⟨_,_,_,e1,-,-,hrow0⟩:=HM.out.get hkn
          cases e1
          obtain ⟨op',oc',-,g1,-,g2⟩:=hrow0 k _ (List.getElem?_eq_getElem hkn)
          have:=(M3.out.kp.cell (p:=⟨mb,moff+k*2+1,none⟩) (hS _ hmS)).trans g1
          rw [hc1] at this
          cases this
          exact g2)
         have HPU:=hid (zA ps th ms D k)
         rw [dJ ms k hkn] at HPU
         generalize ms[k]=mk at hc0 hc1 hol HBWK HPU
         rcases mk with ⟨pl,on⟩
         simp only at hc0 hc1 hol HBWK HPU
         have hml:=hSr mb hmS
         generalize (lL ps th ms).getD k 0=ck at hlk HPU
         have O5:=hid (show fU S w ⟨false,⟨pl,on⟩,ck⟩ [.bool false,.int .i64 pl,.slice op on.length oc,.int .i64 ck] from ⟨_,rfl,HBWK.out⟩)
         have M3d:=hid (M3.out.keep (aA.drew (aA.refl wc)))
         obtain ⟨xp,xc,hxv⟩:=M3.out.act.shape
         subst hxv
         obtain ⟨csl,e1,e2,e3,e4⟩:=M3d.out.act
         have HC3:=hid e3
         have HC4:=hid e4
         have hacl:(lG ps th ms D).length<=1000:=by
          unfold lG
          rw [List.length_append,List.length_map,List.length_map]
          have:=List.length_filter_le (oM ps ms) th
          omega
         have hwc:w.heap.size+1<=wc.heap.size:=by have:=M3.out.von.facts.2.2;have:=M3.out.ne;omega
         generalize lG ps th ms D=acc at M3 M3d HC3 HC4 e1 hacl HPU ⊢
         have HPP:=hid (show ∀ (av':Value) (w6:World) (o:Obj),w6.ownsRow (w.heap.size+1) 104 4 av' (acc.length+1) (csl.flatten ++ [.bool false,.int .i64 pl,.slice op on.length oc,.int .i64 ck])->(wc.drew.alloc o).grownBy w6 (Value.slice xp acc.length xc).ownBlock->(av'.ownBlock=(Value.slice xp acc.length xc).ownBlock∨av'.ownBlock=some (wc.drew.alloc o).heap.size)->PlM S w (cU ps ms) (frL (left.set k false)) al (acc ++ [⟨false,⟨pl,on⟩,ck⟩]) (.slice rp nl rc) fv' (.slice ap al.length ac) av' con cf gm m' fm' w6/\(w6.cell? ⟨mb,moff+k*2,none⟩=some (.int .i64 pl)/\w6.cell? ⟨mb,moff+k*2+1,none⟩=some (.slice op on.length oc)) from fun av' w6 o h1 h2 h4=>by
          have hpl:=M3d.out.push (bW.push e1 e2 HC4.out O5.out rfl h1) h2 h4
          have hk6:aA w w6:=hpl.kp
          have hcm : ∀ o,w6.cell? ⟨mb,o,none⟩=wc.cell? ⟨mb,o,none⟩:=fun o=>(hk6.cell (p:=⟨mb,o,none⟩) (hS _ hmS)).trans (M3.out.kp.cell (p:=⟨mb,o,none⟩) (hS _ hmS)).symm
          exact ⟨hpl,(hcm _).trans hc0,(hcm _).trans hc1⟩)
         have HS:=hid (show wc.cell? ⟨mb,moff+k*2,none⟩=some (.int .i64 pl)/\wc.cell? ⟨mb,moff+k*2+1,none⟩=some (.slice op on.length oc) from ⟨hc0,hc1⟩)
         have HSd:=hid (show wc.drew.cell? ⟨mb,moff+k*2,none⟩=some (.int .i64 pl)/\wc.drew.cell? ⟨mb,moff+k*2+1,none⟩=some (.slice op on.length oc) from ⟨hc0,hc1⟩)
         clear hrow hbl e3 e4
         go_upto_region 46 with fail
         go_region_held3 (fun W'=>W'.cell? ⟨mb,moff+k*2,none⟩=some (.int .i64 pl)/\W'.cell? ⟨mb,moff+k*2+1,none⟩=some (.slice op on.length oc))
          (first | with_reducible exact HS.out | with_reducible exact HSd.out | with_reducible exact HS6.out | go_keep)
          ((refine Cn.eG rfl _ _ 30 rfl (w.heap.size+1) 104 i0 (.agg #[.bool false,.int .i64 0,.slice none 0 0,.int .i64 0]) 4 48 Tryz.underlying30 hi hz0 hz1 hz2 rfl (by decide) (.slice xp acc.length xc) acc.length csl.flatten rfl (World.ownsRow.alloc HC3.out _) ⟨wc.heap.size,0,none⟩ 1 1 [.bool false,.int .i64 pl,.slice op on.length oc,.int .i64 ck] rfl rfl eA (by intro u hu;simp at hu;rcases hu with rfl | rfl | rfl | rfl<;>rfl) (by unfold maxLen;omega) (by omega) (show w.heap.size+1<=(wc.alloc (.cells #[.bool false,.int .i64 pl,.slice op on.length oc,.int .i64 ck] 104)).heap.size from by rw [aD];omega) ?_;intro v5 w6 h1 h2 h4;have PP:=hid (HPP.out v5 w6 (.cells #[.bool false,.int .i64 pl,.slice op on.length oc,.int .i64 ck] 104) h1 h2 h4);have P6:=hid PP.out.1;have HS6:=hid PP.out.2;clear h1 h2 h4 PP))
         obtain ⟨g6,cap6,hv6⟩:=P6.out.act.shape
         subst hv6
         have HD1:Hid (D.length+1=(D ++ [k]).length):=by show _=_;simp
         go_wp2_with fail
         go_roundg ((frL left).length-1)
         case rel=>exact ⟨D ++ [k],left.set k false,nf.1,nf.2,fm',m',fv',HLS.out.symm,rfl,HST.out.1,by rw [HPU.out];exact P6.out,by rw [← HD1.out];omega,F3.out⟩
         case measure=>omega
end Go.Proofs.YthaaaecmeafofaaGreatDoor
namespace Go.Proofs.YthaaaecmeafofaaGreatDoor
open Go.RowKit Go.Lib
theorem xI (w:World) (q:Nat):aA w (w.drewN q):=⟨rfl,rfl,rfl,Nat.le_refl _,fun _ _=>rfl⟩
theorem wX (S:Nat->Prop) (xs ys:List Int) (v u:Value) (w:World) (h:bN S w xs v) (h':bN S w ys u) (hl:xs.length<=2000) (hl':ys.length<=2000) :
  Calls Tryz.prog 18 #[v,u] w fun e w'=>e=.returned (.bool (xs==ys))/\aA w w':=by
 obtain ⟨p,c,rfl,-,h1⟩:=h
 obtain ⟨q,d,rfl,-,h2⟩:=h'
 by_cases hne:xs.length=ys.length
 ·by_cases h0:xs = []
  ·subst h0
   have hy:ys = []:=List.length_eq_zero_iff.1 hne.symm
   subst hy
   refine (Tryz.slices_Equal_int_empty p q c 0 d w (by omega)).mono ?_
   rintro e w' ⟨rfl,rfl⟩
   exact ⟨rfl,aA.refl _⟩
  ·have hp:=List.length_pos_iff.2 h0
   obtain ⟨g,off,rfl,-,hc⟩:=h1 hp
   obtain ⟨g',off',rfl,-,hc'⟩:=h2 (by omega)
   refine (Tryz.slices_Equal_int g off xs.length c g' off' ys.length d xs ys w (Nat.le_refl _) (Nat.le_refl _) (by omega) (by omega) (fun j hj=> ?_) (fun j hj=> ?_)).mono ?_
   ·rw [List.getD_eq_getElem?_getD,List.getElem?_eq_getElem hj,Option.getD_some]
    exact hc j _ (List.getElem?_eq_getElem hj)
   ·rw [List.getD_eq_getElem?_getD,List.getElem?_eq_getElem hj,Option.getD_some]
    exact hc' j _ (List.getElem?_eq_getElem hj)
   ·rintro e w' ⟨rfl,q,rfl⟩
    exact ⟨aG (by rw [List.take_length,List.take_length]),xI w q⟩
 ·refine (Tryz.slices_Equal_int_lens p q xs.length c ys.length d w hne).mono ?_
  rintro e w' ⟨rfl,rfl⟩
  refine ⟨aG ?_,aA.refl _⟩
  symm
  exact beq_eq_false_iff_ne.2 fun e=>hne (by rw [e])
theorem zM (args:Array Value) (w:World):(callFunc 17 args).run Tryz.prog w=.ok (.enter 17 args) w:=enters_of Tryz.func17 (by kernel_rfl) rfl args w
theorem aFj (S:Nat->Prop) (xs ys:List Int) (v u:Value) (w:World) (h:bN S w xs v) (h':bN S w ys u) (hl:xs.length<=2000) (hl':ys.length<=2000) :
  Calls Tryz.prog 17 #[v,u] w fun e w'=>e=.returned (.bool (xs==ys))/\aA w w':=by
 have H1:=hid h
 have H2:=hid h'
 clear h h'
 go_enter Tryz.func17,Tryz.ntmps17
 go_wp2_with fail
 refine (wX S xs ys _ _ w H1.out H2.out hl hl').mono ?_
 rintro e w3 ⟨rfl,k3⟩
 have K3:=hid k3
 clear k3
 go_wp2_with fail
 go_ret
 exact ⟨rfl,K3.out⟩
theorem lA (S:Nat->Prop) (xs ys:List (List Int)) (v1 v2:Value) (w:World) (hS : ∀ b,S b->b<w.heap.size) (h1:cG S w xs v1) (h2:cG S w ys v2) (hs1 : ∀ x∈xs,x.length<=2000) (hs2 : ∀ x∈ys,x.length<=2000) :
  Calls Tryz.prog 15 #[v1,v2,.func (.func 17) #[] #[]] w fun e w'=> ∃ β:Bool,e=.returned (.bool β)/\(β=true↔xs=ys)/\aA w w':=by
 have H1:=hid h1
 have H2:=hid h2
 have HS1:=hid hs1
 have HS2:=hid hs2
 clear hs1 hs2
 obtain ⟨p1,c1,rfl,hl1,-⟩:=h1
 obtain ⟨p2,c2,rfl,hl2,-⟩:=h2
 have hent:=zM
 by_cases hl:xs.length=ys.length
 ·have HL:=hid hl
  have HW:Hid (aA w w):=aA.refl _
  rw [← hl]
  clear hl
  go_enter Tryz.func15,Tryz.ntmps15
  go_wp2_with fail
  go_loopg [17] xs.length (fun gk i wr=> ∃ j:Nat,j+gk=xs.length/\i=.int .i64 j/\(∀ i,i<j->xs[i]? = ys[i]?)/\aA w wr)
  case atStart=>exact ⟨0,by simp,rfl,fun i hi=>absurd hi (Nat.not_lt_zero _),HW.out⟩
  case round=>
   obtain ⟨j,hj,rfl,hal,hkp⟩:=hrel
   have HKP:=hid hkp
   have HAL:=hid hal
   clear hkp hal
   by_cases hlt:j<xs.length
   ·obtain ⟨q1,d1,hv1,-,hr1⟩:=H1.out.keep hS HKP.out
    obtain ⟨q2,d2,hv2,-,hr2⟩:=H2.out.keep hS HKP.out
    rw [← HL.out] at hv2 hr2
    cases hv1
    cases hv2
    obtain ⟨b1,o1,rfl,hb1,hc1⟩:=hr1 (by omega)
    obtain ⟨b2,o2,rfl,hb2,hc2⟩:=hr2 (by omega)
    have hlt2:j<ys.length:=by rw [← HL.out];exact hlt
    have e1:xs[j]? = some xs[j]:=List.getElem?_eq_getElem hlt
    have e2:ys[j]? = some ys[j]:=List.getElem?_eq_getElem hlt2
    obtain ⟨rv1,g1,hn1⟩:=hc1 j _ e1
    obtain ⟨rv2,g2,hn2⟩:=hc2 j _ e2
    have z1:=HS1.out _ (List.getElem_mem hlt)
    have z2:=HS2.out _ (List.getElem_mem hlt2)
    have E1:=hid e1
    have E2:=hid e2
    have hb1':b1<wr.heap.size:=Nat.lt_of_lt_of_le (hS _ hb1) HKP.out.size
    have hb2':b2<wr.heap.size:=Nat.lt_of_lt_of_le (hS _ hb2) HKP.out.size
    have HCALL:=hid (aFj S _ _ _ _ wr hn1 hn2 z1 z2)
    generalize xs[j]=x at HCALL E1 hn1
    generalize ys[j]=y at HCALL E2 hn2
    obtain ⟨r1,s1,rfl,-,-⟩:=hn1
    obtain ⟨r2,s2,rfl,-,-⟩:=hn2
    have HX:Hid ((x==y)=true↔x=y):=by show _↔_;simp
    generalize (x==y)=β at HCALL HX
    clear hc1 hc2 hr1 hr2 e1 e2 z1 z2
    go_wp2_with fail
    refine HCALL.out.mono ?_
    rintro e w3 ⟨rfl,k3⟩
    have K3:=hid (HKP.out.trans k3)
    clear k3 g1 g2 HCALL
    cases β
    ·have HF:Hid (¬ xs=ys):=fun e=>Bool.noConfusion (HX.out.2 (by have h1:=E1.out;rw [e,E2.out] at h1;exact (Option.some.inj h1).symm))
     go_wp2_with fail
     go_ret
     exact ⟨false,rfl,⟨fun h=>Bool.noConfusion h,fun h=>absurd h HF.out⟩,K3.out⟩
    ·have HN:Hid (∀ i,i<j+1->xs[i]? = ys[i]?):=fun i hi=>by
      by_cases e:i=j
      ·subst e;rw [E1.out,E2.out,HX.out.1 rfl]
      ·exact HAL.out i (by omega)
     go_wp2_with fail
     go_roundg (xs.length-(j+1))
     case rel=>exact ⟨j+1,by omega,by go_num,HN.out,K3.out⟩
     case measure=>omega
   ·have HF:Hid (xs=ys):=lN HL.out fun i hi=>HAL.out i (by omega)
    go_wp2_with fail
    go_ret
    exact ⟨true,rfl,⟨fun _=>HF.out,fun _=>rfl⟩,HKP.out⟩
 ·have hz1:((xs.length:Int)==(ys.length:Int))=false:=beq_eq_false_iff_ne.2 fun e=>hl (by omega)
  have hz2:((xs.length:Int) != (ys.length:Int))=true:=bne_iff_ne.2 fun e=>hl (by omega)
  have HF:Hid (¬ xs=ys):=fun e=>hl (by rw [e])
  clear hl
  go_enter Tryz.func15,Tryz.ntmps15
  go_wp2_with fail
  go_ret
  exact ⟨false,rfl,⟨fun h=>Bool.noConfusion h,fun h=>absurd h HF.out⟩,aA.refl _⟩
end Go.Proofs.YthaaaecmeafofaaGreatDoor
