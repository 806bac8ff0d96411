/- Steps of the proof: OrdRefLeans, OrdRefCome, OrdRefPlanP, OrdRefPl1, OrdRefPlM, OrdRefCut. -/
import Derived.Test.YthaaaecmeafofaaGreatDoorOs18
import Derived.Test.YthaaaecmeafofaaGreatDoorOs17
import Derived.Test.YthaaaecmeafofaaGreatDoorOs10
import Derived.Test.YthaaaecmeafofaaGreatDoorOs13
set_option maxHeartbeats 16000000
set_option maxRecDepth 100000
namespace Go.Proofs.YthaaaecmeafofaaGreatDoor
open Go.RowKit Go.Sort Go.Lib
theorem xJ {ps:List PK} {ms:List MB} {k:Nat} (h:k<ms.length):(cU ps ms).take (k+1)=(cU ps ms).take k ++ [aL (dA ps ms k)]:=by
 have h1:k<(cU ps ms).length:=by rw [cR];exact h
 have h2:=gC (ps:=ps) h
 rw [List.getElem?_eq_getElem h1] at h2
 rw [List.take_succ_eq_append_getElem h1,Option.some.inj h2]
theorem jP (S:Nat->Prop) (ps:List PK) (ms:List MB) (tv lv:Value) (w:World) (hS : ∀ b,S b->b<w.heap.size) (hp:bA S w ps tv) (hm:cI S w ms lv) (hz:bP ps ms=0) :
  Calls Tryz.prog 16 #[.agg #[tv],lv] w fun e w'=> ∃ v,e=.returned v/\cG (fun b=>w.heap.size<=b/\b<w'.heap.size) w' (cU ps ms) v/\aA w w':=by
 have HP:=hid hp
 have HMS:=hid hm
 obtain ⟨tp,tc,rfl,hlen⟩:=hp.len
 obtain ⟨lp,lc,rfl,hllen⟩:=hm.len
 clear hp hm
 obtain ⟨i0,hi,hz0,hz1,hz2⟩:=info_parts uP
 obtain ⟨j0,hj,hy0,hy1,hy2⟩:=info_parts hN
 have hmf : ∀ (fn:Fn) (first cap:Array Value) (w:World),(Instr.makeFunc fn first cap).run Tryz.prog w=.ok (.func fn first cap) w:=fun _ _ _ _=>rfl
 obtain ⟨-,-,-,-,h8,hok⟩:=fG hz
 have HOK:=hid hok
 have HCT:=hid (yY hz)
 clear hz hok
 go_enter Tryz.func16,Tryz.ntmps16
 go_upto_region 1 with fail
 refine aZ (fun W'=>aA w W'/\aB w.heap.size 24 (.slice tp ps.length tc) W') ⟨aA.alloc _ _,aB.new _ _ _⟩ ?_
 rintro W0 ⟨k0,v0⟩
 have K0:=hid k0
 have V0:=hid v0
 have HG0:Hid (w.heap.size<W0.heap.size):=v0.facts.2.2
 clear k0 v0
 generalize w.heap.size=ct at V0 HG0 ⊢
 go_wp2_with fail
 go_loopg [15,5] ms.length (fun gk iv ov wr=> ∃ k:Nat,k+gk=ms.length/\iv=.int .i64 k/\eT W0.heap.size ov ((cU ps ms).take k) wr/\Below W0.heap.size W0 wr)
 case atStart=>exact ⟨0,by omega,rfl,by rw [List.take_zero];exact eT.nil _ _,aA.refl _⟩
 case round=>
  obtain ⟨k,hkg,rfl,hrw,hbw⟩:=hrel
  have HR:=hid hrw
  have HB:=hid hbw
  have HK:=hid (show aA w wr from Below.trans K0.out (hbw.mono K0.out.size))
  clear hrw hbw
  by_cases hlt:k<ms.length
  ·have hSr : ∀ b,S b->b<wr.heap.size:=fun b hb=>Nat.lt_of_lt_of_le (hS b hb) HK.out.size
   have HV:=hid (V0.out.keep HB.out HG0.out)
   obtain ⟨mb,moff,mcap,hmv,hmS,-,hrow⟩:=(HMS.out.keep hS HK.out).get hlt
   cases hmv
   obtain ⟨op,oc,hc0,hc1,hol,hbl⟩:=hrow k _ (List.getElem?_eq_getElem hlt)
   obtain ⟨h0,h1,h2⟩:=HOK.out k _ (List.getElem?_eq_getElem hlt)
   have HBL:=hid hbl
   obtain ⟨q,hq⟩ : ∃ q:Nat,ms[k].pl=q:=⟨ms[k].pl.toNat,by omega⟩
   have hqp:q<ps.length:=by omega
   have hpk:bU ps ms[k]=ps[q]:=by unfold bU;rw [hq,Int.toNat_natCast,dZ ps q hqp]
   have hcp:=(jH HCT.out).2 ps[q] (List.getElem_mem hqp)
   have HFL:=hid (vH hcp)
   have HNO:=hid (cQ.1 (jG hcp).2.2.2.2).2
   have HLB:Hid (∀ i,hQ ps ms k i=iF ps ms[k] (ms.getD i MB.zero) (bU ps ms[k]).nd):=fun i=>by unfold hQ iF mW;rw [dJ ms k hlt]
   have HPK:=hid hpk
   have HON:=hid h2
   obtain ⟨tb,toff,tcap,htv,htb,-,htrow⟩:=(HP.out.keep hS HK.out).get hqp
   cases htv
   obtain ⟨cs,hcs,hpj⟩:=htrow q hqp
   have HTK:=hid (xJ (ps:=ps) hlt)
   generalize hmk:ms[k]=m at hc0 hc1 hol HBL h0 h1 HON HLB hq HPK
   generalize hpq:ps[q]=p at hpj HFL HNO HPK
   obtain ⟨kk,a,fl,nt,kids,kp,fp,kc,fc,hnd,hfl,rfl,-,-⟩:=hpj.spelt
   have HPJ:=hid hpj
   obtain ⟨c0,c1,c2,c3,c4,c5,c6,c7,c8,c9,c10,c11,c12,c13⟩:=dI hcs
   clear hcs hpj htrow hrow hnd hbl hmk h2 hpk hcp hpq
   rcases p with ⟨n,v,sl,fs,nd⟩
   rcases m with ⟨pl,on⟩
   simp only at hq hc0 hc1 hol HBL HON HLB HFL HNO HPK c0 c1 c2 c3 hfl HPJ h0 h1
   subst hq
   obtain ⟨g0,-,l0⟩:=HV.out.facts
   have hml:=hSr mb hmS
   have htl:=hSr tb htb
   go_upto_region 5 with fail
   refine aZ (fun W'=>aA wr W'/\aH wr.heap.size #[.int .i64 q,.slice op on.length oc] W') ⟨aA.alloc _ _,aH.new _ _ _⟩ ?_
   rintro W1 ⟨k1,b1⟩
   have K1:=hid k1
   have B1:=hid b1
   have t0:=(k1.cell (p:=⟨ct,0,none⟩) l0).trans g0
   have ctT : ∀ (o:Nat) (x:Value),wr.cell? ⟨tb,o,none⟩=some x->W1.cell? ⟨tb,o,none⟩=some x:=fun o x h=>(k1.cell (p:=⟨tb,o,none⟩) htl).trans h
   have d0:=ctT _ _ c0
   have d1:=ctT _ _ c1
   have d2:=ctT _ _ c2
   have d3:=ctT _ _ c3
   have d4:=ctT _ _ c4
   have d5:=ctT _ _ c5
   have d6:=ctT _ _ c6
   have d7:=ctT _ _ c7
   have d8:=ctT _ _ c8
   have d9:=ctT _ _ c9
   have d10:=ctT _ _ c10
   have d11:=ctT _ _ c11
   have d12:=ctT _ _ c12
   have d13:=ctT _ _ c13
   have hb0:=b1.2
   have hbl0:=b1.1
   have tl1:tb<W1.heap.size:=Nat.lt_of_lt_of_le htl k1.size
   have cl1:ct<W1.heap.size:=Nat.lt_of_lt_of_le l0 k1.size
   have HGR:Hid (wr.heap.size<W1.heap.size/\W0.heap.size<=wr.heap.size):=⟨b1.1,HB.out.size⟩
   clear c0 c1 c2 c3 c4 c5 c6 c7 c8 c9 c10 c11 c12 c13 ctT g0 hc0 hc1 k1 b1 l0 htl hml
   generalize wr.heap.size=cm at B1 HGR hb0 hbl0 ⊢
   go_upto_region 6 with fail
   refine aZ (fun W'=>aA W1 W'/\aH W1.heap.size #[.string n,.int .i64 v,.int .i64 sl,.slice fp fs.length fc,.int .i64 kk,.string a.n,.int .i64 a.op,.int .i64 a.v,.int .i64 a.sl,.string a.f,.bool a.on,.string fl,.bool nt,.slice kp kids.length kc] W') ⟨aA.alloc _ _,aH.new _ _ _⟩ ?_
   rintro W2 ⟨k2,b2⟩
   have K2:=hid (K1.out.trans k2)
   have B2:=hid b2
   have B12:=hid (B1.out.keep k2 B1.out.1)
   have HG2:Hid (cm<W2.heap.size/\W1.heap.size<W2.heap.size/\W0.heap.size<=cm):=⟨Nat.lt_of_lt_of_le HGR.out.1 k2.size,b2.1,HGR.out.2⟩
   clear d0 d1 d2 d3 d4 d5 d6 d7 d8 d9 d10 d11 d12 d13 t0 hb0 hbl0 tl1 cl1 k2 b2 B1 HGR
   generalize W1.heap.size=cp at B2 HG2 ⊢
   have R2:=hid (HR.out.keep K2.out)
   have V2:=hid (HV.out.keep K2.out HV.out.facts.2.2)
   have KW2:=hid (HK.out.trans K2.out)
   obtain ⟨WK,rfl⟩ : ∃ WK:World,WK=wr:=⟨_,rfl⟩
   go_wp2_with fail
   go_loopg [27,9] ms.length (fun gk iv rv wr=> ∃ i:Nat,i+gk=ms.length/\iv=.int .i64 i/\cT W2.heap.size rv (eM ps ms k i) wr/\Below W2.heap.size W2 wr)
   case atStart=>exact ⟨0,by omega,rfl,World.ownsRow_nil _ _ _ _,aA.refl _⟩
   case round=>
    obtain ⟨i,hig,rfl,hin,hbi⟩:=hrel
    have HIN:=hid hin
    have HBI:=hid hbi
    have HKI:=hid (show aA w wr from Below.trans KW2.out (hbi.mono KW2.out.size))
    have VI:=hid (V2.out.keep hbi V2.out.facts.2.2)
    have MI:=hid (B12.out.keep hbi B12.out.1)
    have PI:=hid (B2.out.keep hbi B2.out.1)
    clear hin hbi
    by_cases hli:i<ms.length
    ·have hSi : ∀ b,S b->b<wr.heap.size:=fun b hb=>Nat.lt_of_lt_of_le (hS b hb) HKI.out.size
     obtain ⟨mb',moff',mcap',hmv',hmS',-,hrow'⟩:=(HMS.out.keep hS HKI.out).get hli
     cases hmv'
     obtain ⟨op',oc',hc0',hc1',hol',hbl'⟩:=hrow' i _ (List.getElem?_eq_getElem hli)
     obtain ⟨x0,x1,x2⟩:=HOK.out i _ (List.getElem?_eq_getElem hli)
     have HLI:=hid (HLB.out i)
     rw [dJ ms i hli] at HLI
     have HSU:=hid (pW ps ms k i)
     rw [HLI.out] at HSU
     have HUL:=hid (rW ps ms k i)
     have HBO:=hid hbl'
     have hml':=hSi mb hmS
     generalize ms[i]=mi at hc0' hc1' hol' HBO x0 x1 x2 HSU
     have X2:=hid x2
     clear hbl' hrow' HLI x2
     go_upto_region 10 with fail
     refine aZ (fun W'=>aA wr W'/\aH wr.heap.size #[.int .i64 mi.pl,.slice op' mi.on.length oc'] W') ⟨aA.alloc _ _,aH.new _ _ _⟩ ?_
     rintro W3 ⟨k3,b3⟩
     have K3:=hid k3
     have B3:=hid b3
     clear k3 b3 hc0' hc1'
     generalize wr.heap.size=co at B3 ⊢
     go_upto_region 11 with fail
     refine aZ (fun W'=>aA W3 W'/\aB W3.heap.size 111 .nilFunc W') ⟨aA.alloc _ _,aB.new _ _ _⟩ ?_
     rintro W4 ⟨k4,v4⟩
     have K4:=hid k4
     have V4:=hid v4
     obtain ⟨y0,y1,y2⟩:=v4.facts
     have HG4:Hid (W3.heap.size<W4.heap.size):=y2
     clear k4 v4
     have HKA:Hid (∀ x,aA W3 (W4.setCell ⟨W3.heap.size,0,none⟩ x)):=fun x=>Below.trans K4.out (aM W4 W3.heap.size 0 x)
     generalize W3.heap.size=ca at V4 y0 y1 y2 HG4 HKA ⊢
     go_upto_region 12 with fail
     refine aZ (fun W'=>aA W3 W'/\aB ca 111 (.func (.func 59) #[] #[.pointer (some ⟨ct,0,none⟩),.pointer (some ⟨co,0,none⟩),.pointer (some ⟨cm,0,none⟩),.pointer (some ⟨cp,0,none⟩),.pointer (some ⟨ca,0,none⟩)]) W') ⟨HKA.out _,V4.out.set _⟩ ?_
     rintro W5 ⟨k5,v5⟩
     have K5:=hid (K3.out.trans k5)
     have HAT:=hid (show oT S ps ⟨q,on⟩ mi (some ⟨tb,toff,none⟩) op' op tc oc' oc ct co cm cp ca #[.string n,.int .i64 v,.int .i64 sl,.slice fp fs.length fc,.int .i64 kk,.string a.n,.int .i64 a.op,.int .i64 a.v,.int .i64 a.sl,.string a.f,.bool a.on,.string fl,.bool nt,.slice kp kids.length kc] W5 from ⟨VI.out.keep K5.out VI.out.facts.2.2,B3.out.keep k5 B3.out.1,MI.out.keep K5.out MI.out.1,PI.out.keep K5.out PI.out.1,v5,HP.out.keep hS (HKI.out.trans K5.out),HBO.out.keep hSi K5.out,HBL.out.keep hSr ((K2.out.trans HBI.out).trans K5.out),fun b hb=>Nat.lt_of_lt_of_le (hSi b hb) K5.out.size⟩)
     have HSN:Hid (bT S W5 fs (.slice fp fs.length fc)/\aE S W5 nd [.int .i64 kk,.string a.n,.int .i64 a.op,.int .i64 a.v,.int .i64 a.sl,.string a.f,.bool a.on,.string fl,.bool nt,.slice kp kids.length kc]):=by
      obtain ⟨fv,nv,e,h1,h2⟩:=HPJ.out.keep hSr ((K2.out.trans HBI.out).trans K5.out)
      cases e;exact ⟨h1,h2⟩
     have HAS:=hid (aBv (m:=⟨q,on⟩) (o:=mi) HCT.out x0 x1 X2.out hol' HON.out hol (by rw [HPK.out];rfl) _ nd (Nat.le_refl _) HNO.out (by rw [HPK.out];exact HFL.out) _ W5 HAT.out (by rw [HPK.out];exact HSN.out.1) HSN.out.2)
     rw [HPK.out] at HSU
     simp only at HSU
     obtain ⟨z0,-,z2⟩:=v5.facts
     have pc:=HAT.out.pack.2
     have pl:=HAT.out.pack.1
     have hent:=lM
     clear k5 v5 y0 y1 y2
     clear x0 x1 hml'
     generalize iF ps ⟨q,on⟩ mi nd=β at HAS HSU
     go_wp2_with fail
     refine HAS.out.mono ?_
     rintro e W6 ⟨rfl,k6⟩
     have K6:=hid (K5.out.trans k6)
     have O6:=hid (cS HIN.out K6.out)
     have HB6:=hid (show Below W2.heap.size W2 W6 from Below.trans HBI.out (K6.out.mono HBI.out.size))
     clear k6 HAS z0 z2 pc pl
     cases β
     ·have HSU2:Hid (eM ps ms k (i+1)=eM ps ms k i):=HSU.out
      clear HSU
      go_wp2_with fail
      go_roundg (ms.length-(i+1))
      case rel=>exact ⟨i+1,by omega,by go_num,by rw [HSU2.out];exact O6.out,HB6.out⟩
      case measure=>omega
     ·have HSU2:Hid (eM ps ms k (i+1)=eM ps ms k i ++ [(i:Int)]):=HSU.out
      clear HSU
      have hul:=HUL.out
      generalize eM ps ms k i=acc at O6 HSU2 hul HIN
      obtain ⟨xp,xc,hxv,-⟩:=cV O6.out
      subst hxv
      have hB6:W2.heap.size<=W6.heap.size:=HB6.out.size
      go_upto_region 14 with (at_builtin;go_loud (refine wpList_append_own_at _ rfl _ _ 37 rfl W2.heap.size 3 j0 (.int .i64 0) 1 8 Tryz.underlying37 hj hy0 hy1 hy2 rfl (by decide) (.slice xp acc.length xc) acc.length (acc.map (Value.int .i64)) rfl (World.ownsRow.alloc O6.out _) ⟨W6.heap.size,0,none⟩ 1 1 [.int .i64 i] rfl rfl fO gF (by unfold maxLen;omega) (by omega) (by rw [aD];omega) ?_;intro v7 w7 h1 h2 _ h4;have P7:=hid (fC hB6 O6.out h1 h2);clear h1 h2 h4))
      have HB7:=hid (show Below W2.heap.size W2 w7 from Below.trans HB6.out P7.out.2)
      go_wp2_with fail
      go_roundg (ms.length-(i+1))
      case rel=>exact ⟨i+1,by omega,by go_num,by rw [HSU2.out];exact P7.out.1,HB7.out⟩
      case measure=>omega
    ·obtain rfl:i=ms.length:=by omega
     have hoi:=HIN.out
     rw [rV hlt] at hoi
     have OI:=hid hoi
     clear hoi HIN
     have KR:=hid (K2.out.trans HBI.out)
     have RR:=hid (HR.out.keep KR.out)
     have hown:=RR.out.own
     have hownK:=HR.out.own
     have HNI:=hid (cV OI.out)
     have hll:((cU ps ms).take k).length=k:=by rw [List.length_take,cR];omega
     obtain ⟨xp,xc,hxv,-⟩:=cV OI.out
     subst hxv
     obtain ⟨vp,vc,hvv⟩:=RR.out.shape
     subst hvv
     obtain ⟨vs,e1,e2,e4⟩:=RR.out
     have E2:=hid e2
     have HPU:=hid (fun (v':Value) (w':World) (o:Obj) h5 h6 h7=>eT.push (B:=W0.heap.size) (B':=W2.heap.size) (v':=v') (w':=w') (o:=o) (t:=aL (dA ps ms k)) e1 e4 (by have:=HG2.out;omega) (fun g hg=>by have:=(hownK g hg).2;have:=K2.out.size;omega) HNI.out h5 h6 h7)
     have hsz:W0.heap.size<=wr.heap.size:=by have:=HG2.out;have:=HBI.out.size;omega
     clear e2 e4
     rw [hll] at E2 HPU hown ⊢
     generalize (aL (dA ps ms k)).length=xl at HPU ⊢
     go_upto_region 16 with (at_builtin;go_loud (refine wpList_append_own_at _ rfl _ _ 26 rfl W0.heap.size 37 i0 (.slice none 0 0) 1 24 Tryz.underlying26 hi hz0 hz1 hz2 rfl (by decide) (.slice vp k vc) k vs rfl (World.ownsRow.alloc E2.out _) ⟨wr.heap.size,0,none⟩ 1 1 [.slice xp xl xc] rfl rfl fO (fun u h=>by rw [List.mem_singleton.1 h];rfl) (by unfold maxLen;omega) (by omega) (by rw [aD];omega) ?_;intro v7 w7 h1 h2 h3 h4;have P7:=hid (HPU.out v7 w7 _ h1 h2 h4);have G7:=hid h2;clear h1 h2 h3 h4))
     have L7:Below W0.heap.size wr w7:=((Below.refl _ wr).alloc hsz _).grown G7.out (by rw [aD];omega) (fun g' hg'=>(hown g' hg').1)
     have HB7:=hid (show Below W0.heap.size W0 w7 from Below.trans HB.out (Below.trans (KR.out.mono HB.out.size) L7))
     clear L7 G7 HPU E2 HNI OI
     go_wp2_with fail
     go_roundg (ms.length-(k+1))
     case rel=>exact ⟨k+1,by omega,by go_num,by rw [HTK.out];exact P7.out,HB7.out⟩
     case measure=>omega
  ·obtain rfl:k=ms.length:=by omega
   have hfin:=HR.out.final
   rw [List.take_of_length_le (by rw [cR];exact Nat.le_refl _)] at hfin
   have HF:=hid hfin
   obtain ⟨fp,fcap,rfl⟩:=HR.out.shape
   clear hfin
   go_wp2_with fail
   go_ret
   exact ⟨_,rfl,HF.out.mono (fun _ _=>rfl) (fun b hb=>⟨by have:=K0.out.size;omega,hb.2⟩),HK.out⟩
def mS (row:List Bool) (x:Int):Bool:=if 0<=x then row.getD x.toNat false else false
theorem aAx (row:List Bool) (k:Nat):mS row (k:Int)=row.getD k false:=by
 unfold mS;rw [if_pos (by omega),Int.toNat_natCast]
theorem aAy {row:List Bool} {k:Nat} (h:k<row.length):(fun y=>if y=(k:Int) then true else mS row y)=mS (row.set k true):=by
 funext y
 unfold mS
 by_cases h0:0<=y
 ·rw [if_pos h0,if_pos h0,iH h]
  by_cases e:y=k
  ·rw [if_pos e,if_pos (by omega)]
  ·rw [if_neg e,if_neg (by omega)]
 ·rw [if_neg h0,if_neg h0,if_neg (by omega)]
theorem xW (n:Nat):mS (List.replicate n false)=fun _=>false:=by
 funext y
 unfold mS
 split
 ·rw [List.getD_eq_getElem?_getD,List.getElem?_replicate];split<;>rfl
 ·rfl
structure RcM (S:Nat->Prop) (L:List (List Int)) (lv:Value) (n tn co ct cs cw g:Nat) (row:List Bool) (w:World):Prop where
 on:aB co 26 lv w
 rows:cG S w L lv
 goal:aB ct 3 (.int .i64 tn) w
 seen:aB cs 151 (.map (some g)) w
 self:aB cw 124 (.func (.func 127) #[] #[.pointer (some ⟨co,0,none⟩),.pointer (some ⟨ct,0,none⟩),.pointer (some ⟨cs,0,none⟩),.pointer (some ⟨cw,0,none⟩)]) w
 map : ∃ m,m+kY row<=n/\mY g m (mS row) w
 old : ∀ b,S b->b<w.heap.size
theorem gZ {g:Nat} {w w':World} (h:w.grownBy w' (some g)):aR (One g) w w':=⟨h.os,h.tape,h.output,h.size,fun b hb hne=>h.block b hb (fun e=>hne (Option.some.inj e)),fun _ _ h=>h⟩
theorem RcM.mark {S:Nat->Prop} {L:List (List Int)} {lv:Value} {n tn co ct cs cw g:Nat} {row:List Bool} {w w':World} {m k:Nat} (h:RcM S L lv n tn co ct cs cw g row w) (hr:g≠co/\g≠ct/\g≠cs/\g≠cw) (hS : ¬ S g) (hk:k<row.length) (hf:row.getD k false=false) (hm:m+kY row<=n) (hb:mY g (m+1) (fun y=>if y=(k:Int) then true else mS row y) w') (hg:w.grownBy w' (some g)):RcM S L lv n tn co ct cs cw g (row.set k true) w':=by
 have ha:=gZ hg
 have hc : ∀ p:Addr,p.block<w.heap.size->p.block≠g->w'.cell? p=w.cell? p:=fun p h1 h2=>ha.cell p h1 h2
 refine ⟨h.on.apart ha (by omega),h.rows.mono (fun p hp=>hc p (h.old _ hp) (fun e=>hS (e ▸ hp))) fun _ h=>h,h.goal.apart ha (by omega),h.seen.apart ha (by omega),h.self.apart ha (by omega),⟨m+1,?_,?_⟩,fun b hb=>Nat.lt_of_lt_of_le (h.old b hb) ha.size⟩
 ·have:=mO hk hf;omega
 ·rw [← aAy hk];exact hb
theorem nV (args:Array Value) (w:World):(callFunc 127 args).run Tryz.prog w=.ok (.enter 127 args) w:=enters_of Tryz.func127 (by kernel_rfl) rfl args w
theorem xT (S:Nat->Prop) (adj:Nat->List Nat) (L:List (List Int)) (lv:Value) (n tn co ct cs cw g:Nat) (hn:n<=1000) (hLn:L.length=n) (hL : ∀ i,i<n->L[i]? = some (aL (adj i))) (hadj : ∀ i,∀ j∈adj i,j<n) (hto:tn<n) (hr:g≠co/\g≠ct/\g≠cs/\g≠cw) (hSg : ¬ S g) :
  ∀ (s fr:Nat) (row:List Bool) (w:World),kY row<s->fr<n->row.length=n->row.getD tn false=false->RcM S L lv n tn co ct cs cw g row w->
  Calls Tryz.prog 127 #[.int .i64 fr,.pointer (some ⟨co,0,none⟩),.pointer (some ⟨ct,0,none⟩),.pointer (some ⟨cs,0,none⟩),.pointer (some ⟨cw,0,none⟩)] w fun e w'=> ∃ b:Bool,e=.returned (.bool b)/\aR (One g) w w'/\∃ row',RcM S L lv n tn co ct cs cw g row' w'/\(b=true->Rch adj fr tn)/\(b=false->fJ adj fr (adj fr) row row'/\row'.getD tn false=false):=by
 intro s
 induction s with
 | zero=>intro fr row w h;omega
 | succ s ih=>
  intro fr row w hs hfr hrl hrt hm
  have HM:=hid hm
  have HIH:=hid ih
  have HADJ:=hid hadj
  have hent:=nV
  obtain ⟨lb,loff,lcap,rp,rc,rfl,hlb,hlm,hlc,hnr⟩:=hm.rows.get (hL fr hfr)
  have HNR:=hid hnr
  rw [aJ] at hlc HNR
  have hal:(adj fr).length<=9223372036854775807:=by
   obtain ⟨_,_,e,h,-⟩:=HNR.out;rw [aJ] at h;exact h
  obtain ⟨hlv,-,hll⟩:=hm.on.facts
  have hlbl:=hm.old lb hlb
  rw [hLn] at hlv
  clear hm ih hadj hnr
  go_enter Tryz.func127,Tryz.ntmps127
  go_wp2_with fail
  clear hlv hlc
  go_loopg [14] (adj fr).length (fun gk iv wr=> ∃ (j:Nat) (rw':List Bool),j+gk=(adj fr).length/\iv=.int .i64 j/\RcM S L (.slice (some ⟨lb,loff,none⟩) L.length lcap) n tn co ct cs cw g rw' wr/\aR (One g) w wr/\fJ adj fr ((adj fr).take j) row rw'/\rw'.getD tn false=false)
  case atStart=>exact ⟨0,row,by omega,rfl,HM.out,bQ (aA.refl _),by rw [List.take_zero];exact fJ.refl _ _ _,hrt⟩
  case round=>
   obtain ⟨j,row1,hj,rfl,hm1,ha1,hg1,ht1⟩:=hrel
   have HM1:=hid hm1
   have HA1:=hid ha1
   have HG1:=hid hg1
   have HT1:=hid ht1
   clear hm1 ha1 hg1 ht1 hrt
   by_cases hlt:j<(adj fr).length
   ·have HMEM:Hid ((adj fr)[j]∈adj fr):=List.getElem_mem hlt
    have HTK:Hid ((adj fr).take (j+1)=(adj fr).take j ++ [(adj fr)[j]]):=List.take_succ_eq_append_getElem hlt
    have hin:=HADJ.out fr _ HMEM.out
    have hl1:row1.length=n:=by rw [HG1.out.len,hrl]
    have hNum:bN S wr (aL (adj fr)) (.slice rp (adj fr).length rc):=HNR.out.mono (fun p hp=>HA1.out.cell p (HM.out.old _ hp) (fun e=>hSg (e ▸ hp))) fun _ h=>h
    obtain ⟨p',c',e',-,h3⟩:=hNum
    rw [aJ] at e' h3
    cases e'
    obtain ⟨nb,noff,rfl,hnb,hcell⟩:=h3 (by omega)
    have hcj:=hcell j _ (eL hlt)
    have hnbl:=HM1.out.old nb hnb
    generalize (adj fr)[j]=i at HMEM HTK hin hcj
    obtain ⟨c1,-,c2⟩:=HM1.out.goal.facts
    obtain ⟨c3,-,c4⟩:=HM1.out.seen.facts
    clear hcell h3
    by_cases hit:i=tn
    ·subst hit
     go_wp2_with fail
     go_ret
     exact ⟨true,rfl,HA1.out,row1,HM1.out,fun _=> .one HMEM.out,fun h=>by cases h⟩
    ·have hit2 : ¬ (i:Int)=tn:=by omega
     obtain ⟨m,hm1,hm2⟩:=HM1.out.map
     have hlook:=hm2.look Tryz.underlying151 (x:=(i:Int)) (by omega)
     rw [aAx] at hlook
     cases hb:row1.getD i false with
     | true=>
      rw [hb] at hlook
      clear hm2
      go_wp2_with fail
      clear hlook c1 c3 hcj
      go_roundg ((adj fr).length-(j+1))
      case rel=>exact ⟨j+1,row1,by omega,by go_num,HM1.out,HA1.out,by rw [HTK.out];exact HG1.out.skip hb,HT1.out⟩
      case measure=>omega
     | false=>
      rw [hb] at hlook
      have HOF:Hid (kY (row1.set i true)<s):=by
       have h1:=mO (r:=row1) (i:=i) (by omega) hb
       have h2:=nN (r:=row) (r':=row1) HG1.out.len HG1.out.old
       show _<_
       omega
      obtain ⟨w2,hrun2,hb2,hg2⟩:=hm2.put Tryz.underlying151 (x:=(i:Int)) (by omega) (by omega)
      have M2:=hid (HM1.out.mark hr hSg (by omega) hb hm1 hb2 hg2)
      have A2:=hid (HA1.out.trans (gZ hg2))
      have HT2:Hid ((row1.set i true).getD tn false=false):=by
       show _=_
       rw [iH (by omega),if_neg (fun e=>hit e.symm)];exact HT1.out
      clear hm2 hb2 hg2
      obtain ⟨hsc,-,hsl⟩:=M2.out.self.facts
      have hcall:=HIH.out i (row1.set i true) w2 HOF.out hin (by rw [List.length_set];exact hl1) HT2.out M2.out
      have HC:=hid hcall
      clear hcall
      go_wp2_with fail
      refine HC.out.mono ?_
      rintro e W3 ⟨b,rfl,a3,row3,m3,y3,g3⟩
      have M3:=hid m3
      have A3:=hid (A2.out.trans a3)
      have G3:=hid g3
      have Y3:=hid y3
      clear m3 a3 g3 y3 hsc hsl HC hlook hrun2 c1 c3 hcj
      cases b
      ·go_wp2_with fail
       go_roundg ((adj fr).length-(j+1))
       case rel=>exact ⟨j+1,row3,by omega,by go_num,M3.out,A3.out,by rw [HTK.out];exact HG1.out.step (by omega) HMEM.out (G3.out trivial).1,(G3.out trivial).2⟩
       case measure=>omega
      ·go_wp2_with fail
       go_ret
       exact ⟨true,rfl,A3.out,row3,M3.out,fun _=> .more HMEM.out (Y3.out trivial),fun h=>by cases h⟩
   ·go_wp2_with fail
    go_ret
    refine ⟨false,rfl,HA1.out,row1,HM1.out,(fun h=>by cases h),fun _=>⟨?_,HT1.out⟩⟩
    have:=HG1.out
    rw [List.take_of_length_le (by omega)] at this
    exact this
theorem aDo (w:World) (lv:Value) (tn:Int):aA w (((((w.alloc (.cells #[lv] 26)).alloc (.cells #[.int .i64 tn] 3)).alloc (.map #[] 0)).alloc (.cells #[.map (some (w.heap.size+2))] 151)).alloc (.cells #[.nilFunc] 124))/\
  aB w.heap.size 26 lv (((((w.alloc (.cells #[lv] 26)).alloc (.cells #[.int .i64 tn] 3)).alloc (.map #[] 0)).alloc (.cells #[.map (some (w.heap.size+2))] 151)).alloc (.cells #[.nilFunc] 124))/\
  aB (w.heap.size+1) 3 (.int .i64 tn) (((((w.alloc (.cells #[lv] 26)).alloc (.cells #[.int .i64 tn] 3)).alloc (.map #[] 0)).alloc (.cells #[.map (some (w.heap.size+2))] 151)).alloc (.cells #[.nilFunc] 124))/\
  mY (w.heap.size+2) 0 (fun _=>false) (((((w.alloc (.cells #[lv] 26)).alloc (.cells #[.int .i64 tn] 3)).alloc (.map #[] 0)).alloc (.cells #[.map (some (w.heap.size+2))] 151)).alloc (.cells #[.nilFunc] 124))/\
  aB (w.heap.size+3) 151 (.map (some (w.heap.size+2))) (((((w.alloc (.cells #[lv] 26)).alloc (.cells #[.int .i64 tn] 3)).alloc (.map #[] 0)).alloc (.cells #[.map (some (w.heap.size+2))] 151)).alloc (.cells #[.nilFunc] 124))/\
  aB (w.heap.size+4) 124 .nilFunc (((((w.alloc (.cells #[lv] 26)).alloc (.cells #[.int .i64 tn] 3)).alloc (.map #[] 0)).alloc (.cells #[.map (some (w.heap.size+2))] 151)).alloc (.cells #[.nilFunc] 124)):=by
 have b0:=aB.new w 26 lv
 have z0:=aD w (.cells #[lv] 26)
 have k0:=aA.alloc w (.cells #[lv] 26)
 generalize w.alloc (.cells #[lv] 26)=a0 at b0 z0 k0 ⊢
 have b1:=aB.new a0 3 (.int .i64 tn)
 have z1:=aD a0 (.cells #[.int .i64 tn] 3)
 have k1:=aA.alloc a0 (.cells #[.int .i64 tn] 3)
 generalize a0.alloc (.cells #[.int .i64 tn] 3)=a1 at b1 z1 k1 ⊢
 have b2:=zG a1
 have z2:=aD a1 (.map #[] 0)
 have k2:=aA.alloc a1 (.map #[] 0)
 generalize a1.alloc (.map #[] 0)=a2 at b2 z2 k2 ⊢
 have b3:=aB.new a2 151 (.map (some (w.heap.size+2)))
 have z3:=aD a2 (.cells #[.map (some (w.heap.size+2))] 151)
 have k3:=aA.alloc a2 (.cells #[.map (some (w.heap.size+2))] 151)
 generalize a2.alloc (.cells #[.map (some (w.heap.size+2))] 151)=a3 at b3 z3 k3 ⊢
 have b4:=aB.new a3 124 .nilFunc
 have k4:=aA.alloc a3 (.cells #[.nilFunc] 124)
 generalize a3.alloc (.cells #[.nilFunc] 124)=a4 at b4 k4 ⊢
 rw [z0] at b1
 rw [z1,z0] at b2
 rw [z2,z1,z0] at b3
 rw [z3,z2,z1,z0] at b4
 exact ⟨k0.trans (k1.trans (k2.trans (k3.trans k4))),b0.keep (k1.trans (k2.trans (k3.trans k4))) b0.facts.2.2,b1.keep (k2.trans (k3.trans k4)) b1.facts.2.2,(b2.keep k3).keep k4,b3.keep k4 b3.facts.2.2,b4⟩
theorem tO (S:Nat->Prop) (adj:Nat->List Nat) (C:Nat->Nat->Bool) (L:List (List Int)) (lv:Value) (n fr tn:Nat) (w:World) (hS : ∀ b,S b->b<w.heap.size) (hn:n<=1000) (hLn:L.length=n) (hL : ∀ i,i<n->L[i]? = some (aL (adj i))) (hadj : ∀ i,∀ j∈adj i,j<n) (hC : ∀ k i,C k i=true↔Rch adj k i) (hfr:fr<n) (hto:tn<n) (hr:cG S w L lv) :
  Calls Tryz.prog 72 #[lv,.int .i64 fr,.int .i64 tn] w fun e w'=>e=.returned (.bool (C fr tn))/\aA w w':=by
 have HR:=hid hr
 have HL:=hid hL
 have HADJ:=hid hadj
 have HC:=hid hC
 have HLN:=hid hLn
 have HST:=hid (aDo w lv tn)
 have hent:=nV
 have hmm:= @run_makeMap Tryz.prog
 have hmf : ∀ (fn:Fn) (first cap:Array Value) (w:World),(Instr.makeFunc fn first cap).run Tryz.prog w=.ok (.func fn first cap) w:=fun _ _ _ _=>rfl
 obtain ⟨lp,lc,rfl,-⟩:=hr.len
 clear hr hL hadj hC hLn
 go_enter Tryz.func72,Tryz.ntmps72
 go_upto_region 3 with fail
 refine aZ (fun W'=>aA w W'/\aB w.heap.size 26 (.slice lp L.length lc) W'/\aB (w.heap.size+1) 3 (.int .i64 tn) W'/\mY (w.heap.size+2) 0 (fun _=>false) W'/\aB (w.heap.size+3) 151 (.map (some (w.heap.size+2))) W'/\aB (w.heap.size+4) 124 .nilFunc W') ?_ ?_
 ·exact HST.out
 rintro W0 ⟨k0,a0,a1,a2,a3,a4⟩
 have K0:=hid k0
 have V0:=hid a0
 have V1:=hid a1
 have V2:=hid a2
 have V3:=hid a3
 have V4:=hid a4
 clear k0 a0 a1 a2 a3 a4 HST
 generalize hb:w.heap.size=b at V0 V1 V2 V3 V4 ⊢
 have HB:=hid hb
 clear hb
 obtain ⟨f1,f2,f3⟩:=V4.out.facts
 have HQ:=hid (show aA w (W0.setCell ⟨b+4,0,none⟩ (.func (.func 127) #[] #[.pointer (some ⟨b,0,none⟩),.pointer (some ⟨b+1,0,none⟩),.pointer (some ⟨b+3,0,none⟩),.pointer (some ⟨b+4,0,none⟩)]))/\RcM S L (.slice lp L.length lc) n tn b (b+1) (b+3) (b+4) (b+2) (List.replicate n false) (W0.setCell ⟨b+4,0,none⟩ (.func (.func 127) #[] #[.pointer (some ⟨b,0,none⟩),.pointer (some ⟨b+1,0,none⟩),.pointer (some ⟨b+3,0,none⟩),.pointer (some ⟨b+4,0,none⟩)])) from by
  have hap:=dT (b+4) W0 (.func (.func 127) #[] #[.pointer (some ⟨b,0,none⟩),.pointer (some ⟨b+1,0,none⟩),.pointer (some ⟨b+3,0,none⟩),.pointer (some ⟨b+4,0,none⟩)])
  have hbl:=aM W0 (b+4) 0 (.func (.func 127) #[] #[.pointer (some ⟨b,0,none⟩),.pointer (some ⟨b+1,0,none⟩),.pointer (some ⟨b+3,0,none⟩),.pointer (some ⟨b+4,0,none⟩)])
  have hb:=HB.out
  have hkw:=Below.trans K0.out (hbl.mono (by omega:w.heap.size<=b+4))
  refine ⟨hkw,V0.out.apart hap (by omega),HR.out.keep hS hkw,V1.out.apart hap (by omega),V3.out.apart hap (by omega),V4.out.set _,⟨0,?_,?_⟩,fun c hc=>Nat.lt_of_lt_of_le (hS c hc) hkw.size⟩
  ·rw [Nat.zero_add];unfold kY
   exact Nat.le_trans List.countP_le_length (by simp)
  ·rw [xW]
   obtain ⟨D,h1,h2⟩:=V2.out
   exact ⟨D,h1.kept (row:=some (b+4)) ⟨hap.os,hap.tape,hap.output,hap.size,fun c hc hne=>hap.block c hc (fun e=>hne (by rw [show c=b+4 from e]))⟩ (by simp),h2⟩)
 go_upto_region 4 with fail
 refine aZ (fun W'=>aA w W'/\RcM S L (.slice lp L.length lc) n tn b (b+1) (b+3) (b+4) (b+2) (List.replicate n false) W') ?_ ?_
 ·exact HQ.out
 rintro W1 ⟨k1,m1⟩
 have K1:=hid k1
 have M1:=hid m1
 clear k1 m1 HQ f1 f2 f3 V0 V1 V2 V3 V4
 obtain ⟨s1,-,s2⟩:=M1.out.self.facts
 have hrep : ∀ i,(List.replicate n false).getD i false=false:=fun i=>by
  rw [List.getD_eq_getElem?_getD,List.getElem?_replicate];split<;>rfl
 have HCALL:=hid (xT S adj L (.slice lp L.length lc) n tn b (b+1) (b+3) (b+4) (b+2) hn HLN.out HL.out HADJ.out hto (by omega) (fun h=>by have:=hS _ h;have:=HB.out;omega) (kY (List.replicate n false)+1) fr (List.replicate n false) W1 (Nat.lt_succ_self _) hfr (by simp) (hrep tn) M1.out)
 clear hrep
 go_wp2_with fail
 refine HCALL.out.mono ?_
 rintro e W2 ⟨β,rfl,a2,row',m2,y2,g2⟩
 have K2:=hid (show aA w W2 from Below.trans K1.out (a2.below K1.out.size fun c hc e=>by have e:c=b+2:=e;have:=HB.out;omega))
 have HX:Hid (β=C fr tn):=by
  show _=_
  cases β
  ·cases hc:C fr tn
   ·rfl
   ·obtain ⟨g3,g4⟩:=g2 rfl
    have:=(g3.done tn).2 ((HC.out fr tn).1 hc)
    rw [g4] at this;cases this
  ·exact ((HC.out fr tn).2 (y2 rfl)).symm
 clear a2 m2 y2 g2 HCALL s1 s2
 go_wp2_with fail
 go_ret
 exact ⟨aG HX.out,K2.out⟩
end Go.Proofs.YthaaaecmeafofaaGreatDoor
namespace Go.Proofs.YthaaaecmeafofaaGreatDoor
def frL (left:List Bool):List Nat:=(List.range left.length).filter fun i=>left.getD i false
theorem eW {left:List Bool} {i:Nat}:i∈frL left↔left.getD i false=true:=by
 unfold frL
 rw [List.mem_filter,List.mem_range]
 exact ⟨fun h=>h.2,fun h=>⟨iT h,h⟩⟩
theorem aGl (left:List Bool):(frL left).Pairwise (fun (a b:Nat)=>a<b):=List.Pairwise.sublist List.filter_sublist List.pairwise_lt_range
theorem rO (left:List Bool):(frL left).Nodup:=List.nodup_range.sublist List.filter_sublist
theorem aEv (left:List Bool):(frL left).length<=left.length:=by
 have:=(List.filter_sublist (p:=fun i=>left.getD i false) (l:=List.range left.length)).length_le
 rw [List.length_range] at this;exact this
def lX (C:Nat->Nat->Bool) (fr:List Nat) (i:Nat):Bool:=fr.any fun k=>C i k && !C k i
theorem aDs {C:Nat->Nat->Bool} {left:List Bool} {k:Nat} (h:left.getD k false=true):rdy C left k = !lX C (frL left) k:=by
 cases hr:rdy C left k
 ·cases hb:lX C (frL left) k
  ·have:rdy C left k=true:=tK.2 ⟨h,fun i hi hc=>by
    have:=List.any_eq_false.1 hb i (eW.2 hi)
    rw [hc] at this
    simpa using this⟩
   rw [this] at hr;cases hr
  ·rfl
 ·have h2:=(tK.1 hr).2
  cases hb:lX C (frL left) k
  ·rfl
  ·obtain ⟨i,hi,hc⟩:=List.any_eq_true.1 hb
   rw [Bool.and_eq_true] at hc
   rw [h2 i (eW.1 hi) hc.1] at hc
   simp at hc
theorem aGw {C:Nat->Nat->Bool} {left:List Bool} {k:Nat} (h:nxt C left=some k) : ∃ a:Nat,(frL left)[a]? = some k/\lX C (frL left) k=false/\∀ b,b<a->∀ x,(frL left)[b]? = some x->lX C (frL left) x=true:=by
 obtain ⟨h1,-,-,h4⟩:=nM h
 have hl:=gT h1
 obtain ⟨a,ha,e⟩:=List.getElem_of_mem (eW.2 hl)
 refine ⟨a,by rw [List.getElem?_eq_getElem ha,e],?_,fun b hb x hx=> ?_⟩
 ·have:=aDs (C:=C) hl
  rw [h1] at this
  simpa using this.symm
 ·obtain ⟨hbl,ex⟩:=List.getElem?_eq_some_iff.1 hx
  have hlt:x<k:=by
   have:=List.pairwise_iff_getElem.1 (aGl left) b a hbl ha hb
   rw [ex,e] at this;exact this
  have hxl:left.getD x false=true:=eW.1 (by rw [← ex];exact List.getElem_mem hbl)
  have:=aDs (C:=C) hxl
  rw [h4 x (Nat.zero_le _) hlt] at this
  simpa using this.symm
theorem aGm {left:List Bool} {k a:Nat} (h:(frL left)[a]? = some k):(frL left).take a++(frL left).drop (a+1)=frL (left.set k false):=by
 obtain ⟨ha,e⟩:=List.getElem?_eq_some_iff.1 h
 have hsp:frL left=(frL left).take a++k :: (frL left).drop (a+1):=by
  rw [← e,← List.drop_eq_getElem_cons ha,List.take_append_drop]
 have hnd:=rO left
 have hf:frL (left.set k false)=(frL left).filter fun x=>decide (x≠k):=by
  unfold frL
  rw [List.length_set,List.filter_filter]
  refine List.filter_congr fun x _=> ?_
  by_cases hx:x=k
  ·subst hx;rw [lB];simp
  ·rw [nX hx];simp [hx]
 rw [hf]
 generalize (frL left).take a=A at hsp
 generalize (frL left).drop (a+1)=B at hsp
 rw [hsp] at hnd ⊢
 rw [List.nodup_append] at hnd
 obtain ⟨-,h2,h3⟩:=hnd
 rw [List.nodup_cons] at h2
 rw [List.filter_append,List.filter_cons,if_neg (by simp),List.filter_eq_self.2 (fun x hx=>by simpa using h3 x hx k (List.mem_cons_self ..)),List.filter_eq_self.2 (fun x hx=>by simpa using fun e=>h2.1 (by rw [← e];exact hx))]
def cE (C:Nat->Nat->Bool) (all:List Nat) (i:Nat):List Nat:=all.filter fun k=>decide (k≠i)&&C i k&&C k i
theorem jV {C:Nat->Nat->Bool} {all:List Nat} {i k:Nat}:k∈cE C all i↔k∈all/\k≠i/\cY C i k=true:=by
 unfold cE cY
 rw [List.mem_filter,Bool.and_eq_true,Bool.and_eq_true,Bool.and_eq_true,decide_eq_true_iff,and_assoc]
theorem aAn {C:Nat->Nat->Bool} {all:List Nat} {f:Nat->Int} {la:Int} {i:Nat} (h0:0<=f i):dU C all (f,la) i=if f i=0 then (if cE C all i = [] then (f,la) else (fun j=>if j∈cE C all i ++ [i] then la+1 else f j,la+1)) else (f,la):=by
 unfold dU
 by_cases hf:f i=0
 ·rw [if_neg (by show ¬ 0<f i;omega),if_pos hf]
  by_cases hr:cE C all i = []
  ·rw [if_pos hr,if_neg]
   rintro ⟨o,h1,h2,h3⟩
   have:o∈cE C all i:=jV.2 ⟨h1,h2,h3⟩
   rw [hr] at this;simp at this
  ·rw [if_neg hr,if_pos]
   ·refine Prod.ext (funext fun j=> ?_) rfl
    show (if j=i∨(j∈all/\cY C i j=true) then la+1 else f j)=if j∈cE C all i ++ [i] then la+1 else f j
    by_cases e:j=i
    ·rw [if_pos (.inl e),if_pos (by simp [e])]
    ·by_cases e2:j∈all/\cY C i j=true
     ·rw [if_pos (.inr e2),if_pos (List.mem_append.2 (.inl (jV.2 ⟨e2.1,e,e2.2⟩)))]
     ·rw [if_neg (by rintro (h | h);exact e h;exact e2 h),if_neg]
      intro h
      rcases List.mem_append.1 h with h | h
      ·have:=jV.1 h;exact e2 ⟨this.1,this.2.2⟩
      ·exact e (List.mem_singleton.1 h)
   ·obtain ⟨o,ho⟩:=List.exists_mem_of_ne_nil _ hr
    have:=jV.1 ho
    exact ⟨o,this.1,this.2.1,this.2.2⟩
 ·rw [if_pos (by show 0<f i;omega),if_neg hf]
theorem aAo {C:Nat->Nat->Bool} {a b:List Nat} (h : ∀ x,x∈a↔x∈b):dU C a=dU C b:=by
 funext s k
 unfold dU
 simp only [h]
theorem aAm {C:Nat->Nat->Bool} {all D:List Nat} {f:Nat->Int} {la:Int} (h:kZ C all D f la) {k j:Nat} (hk:k∈all) (hj:j∈D):(dU C all (f,la) k).1 j=f j:=by
 unfold dU
 by_cases h0:0<f k
 ·rw [if_pos h0]
 ·rw [if_neg h0]
  by_cases hx : ∃ o∈all,o≠k/\cY C k o=true
  ·rw [if_pos hx]
   show (if j=k∨(j∈all/\cY C k j=true) then la+1 else f j)=f j
   rw [if_neg]
   rintro (rfl | ⟨-,hm⟩)
   ·obtain ⟨o,ho,hne,hm⟩:=hx
    exact h0 (h.done j hj o ho hne hm)
   ·by_cases e:k=j
    ·subst e
     obtain ⟨o,ho,hne,hm⟩:=hx
     exact h0 (h.done k hj o ho hne hm)
    ·have h1:=h.done j hj k hk e (jW hm)
     exact h0 (by rw [h.ring j k h1 hk (jW hm)];exact h1)
  ·rw [if_neg hx]
theorem vB {C:Nat->Nat->Bool} (hC : ∀ i j k,C i j=true->C j k=true->C i k=true) {all:List Nat} : ∀ (r D:List Nat) (f:Nat->Int) (la:Int),kZ C all D f la->(∀ x∈r,x∈all)->∀ j∈D,(r.foldl (dU C all) (f,la)).1 j=f j
 | [],D,f,la,_,_,j,_=>rfl
 | k :: r,D,f,la,h,hr,j,hj=>by
  have hk:=hr k (List.mem_cons_self ..)
  have:=vB hC r (k :: D) (dU C all (f,la) k).1 (dU C all (f,la) k).2 (h.step hC hk) (fun x hx=>hr x (List.mem_cons_of_mem _ hx)) j (List.mem_cons_of_mem _ hj)
  rw [List.foldl_cons]
  exact this.trans (aAm h hk hj)
theorem aFi {C:Nat->Nat->Bool} {all:List Nat} (f:Nat->Int) (la:Int) (k:Nat):(dU C all (f,la) k).2<=la+1:=by
 unfold dU
 split
 ·show la<=la+1;omega
 ·split
  ·exact Int.le_refl _
  ·show la<=la+1;omega
theorem rY {a:List Nat} : ∀ {b:List Nat},a.Nodup->(∀ x∈a,x∈b)->a.length<=b.length:=by
 induction a with
 | nil=>intro b _ _;exact Nat.zero_le _
 | cons x a ih=>
  intro b hn hs
  have hx:x∈b:=hs x (List.mem_cons_self ..)
  rw [List.nodup_cons] at hn
  have h1:=ih (b:=b.erase x) hn.2 (fun z hz=>(List.mem_erase_of_ne (fun e=>hn.1 (by rw [← e];exact hz))).2 (hs z (List.mem_cons_of_mem _ hz)))
  rw [List.length_erase_of_mem hx] at h1
  have:=List.length_pos_of_mem hx
  simp only [List.length_cons]
  omega
structure PlS (ps:List PK) (th ms:List MB) (D:List Nat) (left:List Bool) (f:Nat->Int) (la:Int):Prop where
 split:goP ps th ms=D++eN (bB ps ms) (cnt left) left
 len:left.length=ms.length
 num:D.foldl (dU (bB ps ms) (goP ps th ms)) (fun _=>0,0)=(f,la)
 ok:kZ (bB ps ms) (goP ps th ms) D.reverse f la
 low:la<=D.length
theorem PlS.start (ps:List PK) (th ms:List MB):PlS ps th ms [] (eC th ms) (fun _=>0) 0:=
 ⟨rfl,iK th ms,rfl,⟨Int.le_refl _,fun _=>⟨Int.le_refl _,Int.le_refl _⟩,fun j h=>absurd h (by simp),fun j o h=>absurd h (by simp),fun j h=>by simp at h,fun j h=>absurd h (by simp)⟩,Int.le_refl _⟩
theorem PlS.step {ps:List PK} {th ms:List MB} {D:List Nat} {left:List Bool} {f:Nat->Int} {la:Int} (h:PlS ps th ms D left f la) {k:Nat} (hk:nxt (bB ps ms) left=some k) :
  PlS ps th ms (D ++ [k]) (left.set k false) (dU (bB ps ms) (goP ps th ms) (f,la) k).1 (dU (bB ps ms) (goP ps th ms) (f,la) k).2/\(lL ps th ms).getD k 0=(dU (bB ps ms) (goP ps th ms) (f,la) k).1 k/\k∈goP ps th ms:=by
 have hc:=iR (gT (jZ hk))
 have hs:goP ps th ms=(D ++ [k])++eN (bB ps ms) (cnt (left.set k false)) (left.set k false):=by
  rw [h.split,hc,eN,hk,List.append_assoc];rfl
 have hkg:k∈goP ps th ms:=by rw [hs];simp
 have hok:=h.ok.step (dY ps ms) hkg
 refine ⟨⟨hs,by rw [List.length_set];exact h.len,?_,?_,?_⟩,?_,hkg⟩
 ·rw [List.foldl_append,h.num];rfl
 ·rw [List.reverse_append];exact hok
 ·have:=aFi (C:=bB ps ms) (all:=goP ps th ms) f la k
  have:=h.low
  rw [List.length_append,List.length_singleton]
  omega
 ·obtain ⟨-,ff,la',h1,h2,-⟩:=aEs ps th ms
  rw [h1]
  have h3:(eN (bB ps ms) (cnt (left.set k false)) (left.set k false)).foldl (dU (bB ps ms) (goP ps th ms)) (dU (bB ps ms) (goP ps th ms) (f,la) k)=(ff,la'):=by
   rw [← h2]
   have e : ∀ g:List Nat,g=(D ++ [k])++eN (bB ps ms) (cnt (left.set k false)) (left.set k false)->g.foldl (dU (bB ps ms) (goP ps th ms)) (fun _=>0,0)=(eN (bB ps ms) (cnt (left.set k false)) (left.set k false)).foldl (dU (bB ps ms) (goP ps th ms)) (dU (bB ps ms) (goP ps th ms) (f,la) k):=by
    intro g hg
    rw [hg,List.foldl_append,List.foldl_append,h.num];rfl
   exact (e _ hs).symm
  have h4:=vB (dY ps ms) _ _ _ _ hok (fun x hx=>by rw [hs];exact List.mem_append.2 (.inr hx)) k (List.mem_cons_self ..)
  rw [← h4]
  show ff k=((eN (bB ps ms) (cnt (left.set k false)) (left.set k false)).foldl (dU (bB ps ms) (goP ps th ms)) (dU (bB ps ms) (goP ps th ms) (f,la) k)).1 k
  rw [h3]
theorem PlS.more {ps:List PK} {ms:List MB} {left:List Bool} (h:frL left ≠ []) : ∃ k,nxt (bB ps ms) left=some k:=by
 obtain ⟨i,hi⟩:=List.exists_mem_of_ne_nil _ h
 cases hn:nxt (bB ps ms) left with
 | none=>have:=qE (dY ps ms) hn i;rw [eW.1 hi] at this;cases this
 | some k=>exact ⟨k,rfl⟩
theorem PlS.done {ps:List PK} {th ms:List MB} {D:List Nat} {left:List Bool} {f:Nat->Int} {la:Int} (h:PlS ps th ms D left f la) (h0:frL left = []):D=goP ps th ms:=by
 have hs:=h.split
 cases hl:eN (bB ps ms) (cnt left) left with
 | nil=>rw [hl,List.append_nil] at hs;exact hs.symm
 | cons k r=>
  have:k∈frL left:=eW.2 (((iJ (dY ps ms) _ left (Nat.le_refl _)).2 k).1 (by rw [hl];exact List.mem_cons_self ..))
  rw [h0] at this;simp at this
theorem PlS.few {ps:List PK} {th ms:List MB} {D:List Nat} {left:List Bool} {f:Nat->Int} {la:Int} (h:PlS ps th ms D left f la):D.length+(frL left).length<=ms.length:=by
 have hg:(goP ps th ms).length<=ms.length:=by
  have h1:(goP ps th ms).length<=(List.range ms.length).length:=rY (kN ps th ms) (fun x hx=>List.mem_range.2 (kP.1 hx).1)
  rw [List.length_range] at h1;exact h1
 have h2:=rZ (dY ps ms) _ left (Nat.le_refl _)
 have h3:(frL left).length<=cnt left:=by
  have:(frL left).length<=(eN (bB ps ms) (cnt left) left).length:=rY (rO left) (fun x hx=>((iJ (dY ps ms) _ left (Nat.le_refl _)).2 x).2 (eW.1 hx))
  omega
 have h4:=congrArg List.length h.split
 rw [List.length_append] at h4
 omega
noncomputable def lG (ps:List PK) (th ms:List MB) (D:List Nat):List AC:=(th.filter (oM ps ms)).map (fun m=>⟨true,m,0⟩)++D.map (fun k=>⟨false,ms.getD k MB.zero,(lL ps th ms).getD k 0⟩)
theorem aBt (ps:List PK) (th ms:List MB):lG ps th ms (goP ps th ms)=kC ps th ms:=rfl
theorem zA (ps:List PK) (th ms:List MB) (D:List Nat) (k:Nat):lG ps th ms (D ++ [k])=lG ps th ms D ++ [⟨false,ms.getD k MB.zero,(lL ps th ms).getD k 0⟩]:=by
 unfold lG;rw [List.map_append,List.append_assoc];rfl
end Go.Proofs.YthaaaecmeafofaaGreatDoor
namespace Go.Proofs.YthaaaecmeafofaaGreatDoor
open Go.RowKit Go.Sort Go.Lib
theorem jO {F:Nat} {cap:Array Value} (S:Nat->Prop) (zs:List Int) (g:Int->Bool) (lv:Value) (w:World) (hS : ∀ b,S b->b<w.heap.size)
  (hF : ∀ args w,(callFunc F args).run Tryz.prog w=.ok (.enter F args) w) (hm:bN S w zs lv)
  (hc : ∀ (j:Nat) (h:j<zs.length) (W:World),aA w W->Calls Tryz.prog F (#[.int .i64 zs[j]]++cap) W fun e w'=>e=.returned (.bool (g zs[j]))/\aA W w') :
  Calls Tryz.prog 68 #[lv,.func (.func F) #[] cap] w fun e w'=> ∃ n:Int,e=.returned (.int .i64 n)/\((∃ (a:Nat) (h:a<zs.length),n=a/\g zs[a]=true/\(zs.take a).any g=false)∨(n = -1/\zs.any g=false))/\aA w w':=by
 have HM:=hid hm
 have HC:=hid hc
 obtain ⟨lp,lc,rfl,hlen,-⟩:=hm
 clear hc
 go_enter Tryz.func68,Tryz.ntmps68
 go_wp2_with fail
 go_loopg [8] zs.length (fun gk i wr=> ∃ j:Nat,j+gk=zs.length/\i=.int .i64 j/\(zs.take j).any g=false/\aA w wr)
 case atStart=>exact ⟨0,by simp,rfl,by simp,aA.refl _⟩
 case round=>
  obtain ⟨j,hj,rfl,hno,hkp⟩:=hrel
  have HNO:=hid hno
  have HKP:=hid hkp
  clear hno hkp
  by_cases hlt:j<zs.length
  ·obtain ⟨p',c',e',-,h3⟩:=HM.out.keep hS HKP.out
   cases e'
   obtain ⟨nb,noff,rfl,hnb,hcell⟩:=h3 (by omega)
   have hcj:=hcell j _ (List.getElem?_eq_getElem hlt)
   have hnl:nb<wr.heap.size:=Nat.lt_of_lt_of_le (hS _ hnb) HKP.out.size
   have HCALL:=hid (HC.out j hlt wr HKP.out)
   have HST:Hid ((zs.take (j+1)).any g=g zs[j]):=by
    show _=_
    rw [List.take_succ_eq_append_getElem hlt,List.any_append,HNO.out];simp
   have HUP:Hid (g zs[j]=true->∃ (a:Nat) (h:a<zs.length),(j:Int)=a/\g zs[a]=true/\(zs.take a).any g=false):=fun h=>⟨j,hlt,rfl,h,HNO.out⟩
   generalize g zs[j]=β at HCALL HST HUP
   generalize zs[j]=z at hcj HCALL
   clear hcell h3 HNO
   go_wp2_with fail
   refine HCALL.out.mono ?_
   rintro e w1 ⟨rfl,k1⟩
   have K1:=hid (HKP.out.trans k1)
   clear k1 hcj HCALL
   cases β
   ·go_wp2_with fail
    go_roundg (zs.length-(j+1))
    case rel=>exact ⟨j+1,by omega,by go_num,HST.out,K1.out⟩
    case measure=>omega
   ·go_wp2_with fail
    go_ret
    exact ⟨(j:Int),rfl,.inl (HUP.out trivial),K1.out⟩
  ·obtain rfl:j=zs.length:=by omega
   go_wp2_with fail
   go_ret
   refine ⟨-1,rfl,.inr ⟨rfl,?_⟩,HKP.out⟩
   have:=HNO.out
   rw [List.take_length] at this
   exact this
theorem mC {F:Nat} {cap:Array Value} (S:Nat->Prop) (zs:List Int) (g:Int->Bool) (lv:Value) (w:World) (hS : ∀ b,S b->b<w.heap.size)
  (hF : ∀ args w,(callFunc F args).run Tryz.prog w=.ok (.enter F args) w) (hm:bN S w zs lv)
  (hc : ∀ (j:Nat) (h:j<zs.length) (W:World),aA w W->Calls Tryz.prog F (#[.int .i64 zs[j]]++cap) W fun e w'=>e=.returned (.bool (g zs[j]))/\aA W w') :
  Calls Tryz.prog 70 #[lv,.func (.func F) #[] cap] w fun e w'=>e=.returned (.bool (zs.any g))/\aA w w':=by
 have HI:=hid (jO S zs g _ w hS hF hm hc)
 obtain ⟨lp,lc,rfl,hlen,-⟩:=hm
 clear hc
 go_enter Tryz.func70,Tryz.ntmps70
 go_wp2_with fail
 refine HI.out.mono ?_
 rintro e w1 ⟨n,rfl,hn,k1⟩
 have HN:Hid (decide (0<=n)=zs.any g):=by
  show _=_
  rcases hn with ⟨a,ha,rfl,h1,-⟩ | ⟨rfl,h1⟩
  ·rw [List.any_eq_true.2 ⟨_,List.getElem_mem ha,h1⟩];exact decide_eq_true (by omega)
  ·rw [h1];rfl
 have K1:=hid k1
 clear hn k1 HI
 go_wp2_with fail
 go_ret
 exact ⟨aG HN.out,K1.out⟩
theorem zN (args:Array Value) (w:World):(callFunc 67 args).run Tryz.prog w=.ok (.enter 67 args) w:=enters_of Tryz.func67 (by kernel_rfl) rfl args w
theorem zO (args:Array Value) (w:World):(callFunc 69 args).run Tryz.prog w=.ok (.enter 69 args) w:=enters_of Tryz.func69 (by kernel_rfl) rfl args w
theorem wW (args:Array Value) (w:World):(callFunc 71 args).run Tryz.prog w=.ok (.enter 71 args) w:=enters_of Tryz.func71 (by kernel_rfl) rfl args w
theorem aFk (S:Nat->Prop) (x m:MB) (p1 p2:Option Addr) (c1 c2 cm:Nat) (w:World) (hS : ∀ b,S b->b<w.heap.size) (h1:aN S w x.on (.slice p1 x.on.length c1)) (h2:aN S w m.on (.slice p2 m.on.length c2)) (hb:aH cm #[.int .i64 m.pl,.slice p2 m.on.length c2] w) :
  Calls Tryz.prog 67 #[.agg #[.int .i64 x.pl,.slice p1 x.on.length c1],.pointer (some ⟨cm,0,none⟩)] w fun e w'=>e=.returned (.bool (eqM x m))/\aA w w':=by
 have H1:=hid h1
 have H2:=hid h2
 have hbc:=hb.2
 have hbl:=hb.1
 clear h1 h2 hb
 rcases x with ⟨xp,xs⟩
 rcases m with ⟨mp,mo⟩
 simp only at H1 H2 hbc ⊢
 go_enter Tryz.func67,Tryz.ntmps67
 go_wp2_with fail
 refine cM (fun W'=>aA w W') (aA.alloc _ _) ?_
 intro W2 k2
 refine (qK S ⟨mp,mo⟩ ⟨xp,xs⟩ _ _ W2 (fun b hb=>Nat.lt_of_lt_of_le (hS b hb) k2.size) (H2.out.keep hS k2) (H1.out.keep hS k2)).mono ?_
 rintro e w3 ⟨β,rfl,hβ,k3⟩
 have K3:=hid (k2.trans k3)
 have HB:Hid (β=eqM ⟨xp,xs⟩ ⟨mp,mo⟩):=by
  show _=_
  rw [Bool.eq_iff_iff,hβ,aEu];exact ⟨Eq.symm,Eq.symm⟩
 clear k2 k3 hβ hbc
 go_wp2_with fail
 go_ret
 exact ⟨aG HB.out,K3.out⟩
structure RfM (S:Nat->Prop) (adj:Nat->List Nat) (C:Nat->Nat->Bool) (n:Nat) (L:List (List Int)) (lv:Value) (w:World):Prop where
 few:n<=1000
 len:L.length=n
 row : ∀ i,i<n->L[i]? = some (aL (adj i))
 low : ∀ i,∀ j∈adj i,j<n
 com : ∀ k i,C k i=true↔Rch adj k i
 is:cG S w L lv
 old : ∀ b,S b->b<w.heap.size
theorem RfM.keep {S:Nat->Prop} {adj:Nat->List Nat} {C:Nat->Nat->Bool} {n:Nat} {L:List (List Int)} {lv:Value} {w w':World} (h:RfM S adj C n L lv w) (k:aA w w'):RfM S adj C n L lv w':=
 ⟨h.few,h.len,h.row,h.low,h.com,h.is.keep h.old k,fun b hb=>Nat.lt_of_lt_of_le (h.old b hb) k.size⟩
theorem RfM.asks {S:Nat->Prop} {adj:Nat->List Nat} {C:Nat->Nat->Bool} {n:Nat} {L:List (List Int)} {lv:Value} {w:World} (h:RfM S adj C n L lv w) {fr tn:Nat} (hfr:fr<n) (hto:tn<n):Calls Tryz.prog 72 #[lv,.int .i64 fr,.int .i64 tn] w fun e w'=>e=.returned (.bool (C fr tn))/\aA w w':=
 tO S adj C L lv n fr tn w h.old h.few h.len h.row h.low h.com hfr hto h.is
theorem aDn {S:Nat->Prop} {adj:Nat->List Nat} {C:Nat->Nat->Bool} {n:Nat} {L:List (List Int)} {lv:Value} {w:World} (h:RfM S adj C n L lv w) {con ci i k:Nat} (hi:i<n) (hk:k<n) (v1:aB con 26 lv w) (v2:aB ci 3 (.int .i64 i) w) :
  Calls Tryz.prog 71 #[.int .i64 k,.pointer (some ⟨con,0,none⟩),.pointer (some ⟨ci,0,none⟩)] w fun e w'=>e=.returned (.bool (C i k && !C k i))/\aA w w':=by
 have H:=hid h
 obtain ⟨lp,lc,rfl,-⟩:=h.is.len
 have V1:=hid v1
 have V2:=hid v2
 obtain ⟨a1,-,a2⟩:=v1.facts
 obtain ⟨b1,-,b2⟩:=v2.facts
 have HC1:=hid (H.out.asks hi hk)
 clear h v1 v2
 cases hc:C i k
 ·rw [hc] at HC1
  go_enter Tryz.func71,Tryz.ntmps71
  go_wp2_with fail
  refine HC1.out.mono ?_
  rintro e w1 ⟨rfl,k1⟩
  have K1:=hid k1
  clear k1 a1 b1
  go_wp2_with fail
  go_ret
  exact ⟨rfl,K1.out⟩
 ·rw [hc] at HC1
  go_enter Tryz.func71,Tryz.ntmps71
  go_wp2_with fail
  refine HC1.out.mono ?_
  rintro e w1 ⟨rfl,k1⟩
  have K1:=hid k1
  obtain ⟨a1',-,a2'⟩:=(V1.out.keep k1 a2).facts
  obtain ⟨b1',-,b2'⟩:=(V2.out.keep k1 b2).facts
  have HC2:=hid ((H.out.keep k1).asks hk hi)
  clear k1 a1 b1 a2 b2 HC1
  go_wp2_with fail
  refine HC2.out.mono ?_
  rintro e w2 ⟨rfl,k2⟩
  have K2:=hid (K1.out.trans k2)
  clear k2 a1' b1' HC2
  go_wp2_with fail
  go_ret
  exact ⟨rfl,K2.out⟩
theorem oV (l:List Nat) (g:Nat->Bool):(aL l).any (fun x=>g x.toNat)=l.any g:=by
 unfold aL
 rw [List.any_map]
 congr 1
theorem oX {l:List Nat} {j:Nat} (h:j<(aL l).length):(aL l)[j]=((l[j]'(by rw [aJ] at h;exact h):Nat):Int):=by
 have h2:=eL (l:=l) (j:=j) (by rw [aJ] at h;exact h)
 rw [List.getElem?_eq_getElem h] at h2
 exact Option.some.inj h2
theorem aFl {S:Nat->Prop} {adj:Nat->List Nat} {C:Nat->Nat->Bool} {n:Nat} {L:List (List Int)} {lv fv:Value} {fr:List Nat} {w:World} (h:RfM S adj C n L lv w) (hf:bN S w (aL fr) fv) (hfn : ∀ x∈fr,x<n) {cf con i:Nat} (hi:i<n) (v0:aB cf 37 fv w) (v1:aB con 26 lv w) :
  Calls Tryz.prog 69 #[.int .i64 i,.pointer (some ⟨cf,0,none⟩),.pointer (some ⟨con,0,none⟩)] w fun e w'=>e=.returned (.bool (!lX C fr i))/\aA w w':=by
 have H:=hid h
 have HF:=hid hf
 have V0:=hid v0
 have V1:=hid v1
 obtain ⟨fp,fc,rfl,-,-⟩:=hf
 have hmf : ∀ (fn:Fn) (first cap:Array Value) (w:World),(Instr.makeFunc fn first cap).run Tryz.prog w=.ok (.func fn first cap) w:=fun _ _ _ _=>rfl
 clear h v0 v1
 go_enter Tryz.func69,Tryz.ntmps69
 go_upto_region 1 with fail
 refine aZ (fun W'=>aA w W'/\aB w.heap.size 3 (.int .i64 i) W') ⟨aA.alloc _ _,aB.new _ _ _⟩ ?_
 rintro W0 ⟨k0,a0⟩
 have K0:=hid k0
 have VI:=hid a0
 obtain ⟨f1,-,f2⟩:=(V0.out.keep k0 V0.out.facts.2.2).facts
 have VC:=hid (V1.out.keep k0 V1.out.facts.2.2)
 have HCALL:=hid (mC S (aL fr) (fun x=>C i x.toNat && !C x.toNat i) _ W0 (fun b hb=>Nat.lt_of_lt_of_le (H.out.old b hb) k0.size) wW (HF.out.keep H.out.old k0) (cap:=#[.pointer (some ⟨con,0,none⟩),.pointer (some ⟨w.heap.size,0,none⟩)]) (fun j hj W kW=>by
  have:=aDn ((H.out.keep K0.out).keep kW) (con:=con) (ci:=w.heap.size) (i:=i) (k:=fr[j]'(by rw [aJ] at hj;exact hj)) hi (hfn _ (List.getElem_mem _)) (VC.out.keep kW VC.out.facts.2.2) (VI.out.keep kW VI.out.facts.2.2)
  rw [oX hj]
  exact this))
 clear k0 a0
 generalize w.heap.size=b at VI HCALL ⊢
 go_wp2_with fail
 refine HCALL.out.mono ?_
 rintro e w1 ⟨rfl,k1⟩
 have K1:=hid (K0.out.trans k1)
 have HX:Hid ((aL fr).any (fun x=>C i x.toNat && !C x.toNat i)=lX C fr i):=oV fr fun k=>C i k && !C k i
 clear k1 HCALL f1
 generalize (aL fr).any (fun x=>C i x.toNat && !C x.toNat i)=β at HX ⊢
 cases β
 ·go_wp2_with fail
  go_ret
  exact ⟨aG (by rw [← HX.out];rfl),K1.out⟩
 ·go_wp2_with fail
  go_ret
  exact ⟨aG (by rw [← HX.out];rfl),K1.out⟩
end Go.Proofs.YthaaaecmeafofaaGreatDoor
namespace Go.Proofs.YthaaaecmeafofaaGreatDoor
open Go.RowKit Go.Sort Go.Lib
def Oth (cf gm:Nat) (av:Value) (W:World) (c:Nat):Prop:=c<W.heap.size/\c≠cf/\c≠gm/\av.ownBlock≠some c
structure PlM (S:Nat->Prop) (w:World) (L:List (List Int)) (fr al:List Nat) (acc:List AC) (lv fv alv av:Value) (con cf gm m:Nat) (fm:Int->Option Int) (W:World):Prop where
 kp:aA w W
 von:aB con 26 lv W
 vfr:aB cf 37 fv W
 map:jD gm m fm W
 act:bW S w (w.heap.size+1) av acc W
 rows:cG (Oth cf gm av W) W L lv
 frs:bN (Oth cf gm av W) W (aL fr) fv
 cap : ∃ p c,fv=.slice p fr.length c/\fr.length<=c/\(p=none->c=0)
 all:bN (Oth cf gm av W) W (aL al) alv
 ne:con≠cf/\con≠gm/\cf≠gm/\w.heap.size<con/\w.heap.size<cf/\w.heap.size<gm
 own:av.ownBlock≠some con/\av.ownBlock≠some cf/\av.ownBlock≠some gm
section
variable {S:Nat->Prop} {w:World} {L:List (List Int)} {fr al:List Nat} {acc:List AC} {lv fv alv av:Value} {con cf gm m:Nat} {fm:Int->Option Int} {W W':World}
theorem PlM.keep (h:PlM S w L fr al acc lv fv alv av con cf gm m fm W) (k:aA W W'):PlM S w L fr al acc lv fv alv av con cf gm m fm W':=by
 have hc : ∀ p:Addr,Oth cf gm av W p.block->W'.cell? p=W.cell? p:=fun p hp=>k.cell (p:=p) hp.1
 have hs : ∀ c,Oth cf gm av W c->Oth cf gm av W' c:=fun c hc=>⟨Nat.lt_of_lt_of_le hc.1 k.size,hc.2⟩
 exact ⟨h.kp.trans k,h.von.keep k h.von.facts.2.2,h.vfr.keep k h.vfr.facts.2.2,h.map.keep k,h.act.keep k,h.rows.mono hc hs,h.frs.mono hc hs,h.cap,h.all.mono hc hs,h.ne,h.own⟩
theorem PlM.cut (h:PlM S w L fr al acc lv fv alv av con cf gm m fm W) {fr':List Nat} {fv':Value} (hn:bN (Oth cf gm av W) W (aL fr') fv') (hc : ∃ p c,fv'=.slice p fr'.length c/\fr'.length<=c/\(p=none->c=0)):PlM S w L fr' al acc lv fv' alv av con cf gm m fm (W.setCell ⟨cf,0,none⟩ fv'):=by
 have hap:=dT cf W fv'
 have hgr:W.grownBy (W.setCell ⟨cf,0,none⟩ fv') (some cf):=⟨hap.os,hap.tape,hap.output,hap.size,fun c hc hne=>hap.block c hc (fun e=>hne (by rw [show c=cf from e]))⟩
 have hcl : ∀ p:Addr,Oth cf gm av W p.block->(W.setCell ⟨cf,0,none⟩ fv').cell? p=W.cell? p:=fun p hp=>hap.cell p hp.1 hp.2.1
 have hs : ∀ c,Oth cf gm av W c->Oth cf gm av (W.setCell ⟨cf,0,none⟩ fv') c:=fun c hc=>⟨Nat.lt_of_lt_of_le hc.1 hap.size,hc.2⟩
 have hne:=h.ne
 refine ⟨Below.trans h.kp ((aM W cf 0 fv').mono (by omega)),h.von.apart hap hne.1,h.vfr.set fv',h.map.kept hgr (fun e=>hne.2.2.1 (Option.some.inj e).symm),h.act.kept hgr (.inr h.own.2.1),h.rows.mono hcl hs,hn.mono hcl hs,hc,h.all.mono hcl hs,h.ne,h.own⟩
theorem PlM.put (h:PlM S w L fr al acc lv fv alv av con cf gm m fm W) {m':Nat} {fm':Int->Option Int} (hm:jD gm m' fm' W') (hg:W.grownBy W' (some gm)):PlM S w L fr al acc lv fv alv av con cf gm m' fm' W':=by
 have hap:=gZ hg
 have hcl : ∀ p:Addr,Oth cf gm av W p.block->W'.cell? p=W.cell? p:=fun p hp=>hap.cell p hp.1 hp.2.2.1
 have hs : ∀ c,Oth cf gm av W c->Oth cf gm av W' c:=fun c hc=>⟨Nat.lt_of_lt_of_le hc.1 hap.size,hc.2⟩
 have hne:=h.ne
 refine ⟨Below.trans h.kp ⟨hg.os,hg.tape,hg.output,hg.size,fun c hc=>hg.block c (Nat.lt_of_lt_of_le hc h.kp.size) (fun e=>by have:=Option.some.inj e;omega)⟩,h.von.apart hap hne.2.1,h.vfr.apart hap hne.2.2.1,hm,h.act.kept hg (.inr h.own.2.2),h.rows.mono hcl hs,h.frs.mono hcl hs,h.cap,h.all.mono hcl hs,h.ne,h.own⟩
theorem PlM.push (h:PlM S w L fr al acc lv fv alv av con cf gm m fm W) {acc':List AC} {av':Value} {o:Obj} (ha:bW S w (w.heap.size+1) av' acc' W') (hg:(W.alloc o).grownBy W' av.ownBlock) (ho:av'.ownBlock=av.ownBlock∨av'.ownBlock=some (W.alloc o).heap.size):PlM S w L fr al acc' lv fv alv av' con cf gm m fm W':=by
 have hsz:=aD W o
 have hg2:=Cn.jM hg
 have hblk : ∀ c,c<W.heap.size->av.ownBlock≠some c->W'.heap[c]? = W.heap[c]? :=fun c h1 h2=>hg2.block c h1 (fun e=>h2 e.symm)
 have hcl : ∀ p:Addr,Oth cf gm av W p.block->W'.cell? p=W.cell? p:=fun p hp=>World.cell?_of_block (hblk p.block hp.1 hp.2.2.2)
 have hno : ∀ c,c<W.heap.size->av.ownBlock≠some c->av'.ownBlock≠some c:=fun c h1 h2=>by
  rcases ho with ho | ho
  ·rw [ho];exact h2
  ·rw [ho];intro e;have:=Option.some.inj e;omega
 have hs : ∀ c,Oth cf gm av W c->Oth cf gm av' W' c:=fun c hc=>⟨Nat.lt_of_lt_of_le hc.1 hg2.size,hc.2.1,hc.2.2.1,hno c hc.1 hc.2.2.2⟩
 have hvar : ∀ {c:Nat} {T:TypeId} {x:Value},aB c T x W->av.ownBlock≠some c->aB c T x W':=fun {c T x} hv hne=>by
  have hl:=hv.facts.2.2
  unfold aB at *;rw [hblk c hl hne];exact hv
 refine ⟨Below.trans h.kp ⟨hg2.os,hg2.tape,hg2.output,hg2.size,fun c hc=>hblk c (Nat.lt_of_lt_of_le hc h.kp.size) (fun e=>by have:=(h.act.own c e).1;omega)⟩,hvar h.von h.own.1,hvar h.vfr h.own.2.1,h.map.kept hg2 (fun e=>h.own.2.2 e.symm),ha,h.rows.mono hcl hs,h.frs.mono hcl hs,h.cap,h.all.mono hcl hs,h.ne,hno con h.von.facts.2.2 h.own.1,hno cf h.vfr.facts.2.2 h.own.2.1,hno gm h.map.lt h.own.2.2⟩
theorem PlM.asks (h:PlM S w L fr al acc lv fv alv av con cf gm m fm W) {adj:Nat->List Nat} {C:Nat->Nat->Bool} {n:Nat} (hn:n<=1000) (hl:L.length=n) (hr : ∀ i,i<n->L[i]? = some (aL (adj i))) (ha : ∀ i,∀ j∈adj i,j<n) (hC : ∀ k i,C k i=true↔Rch adj k i):RfM (Oth cf gm av W) adj C n L lv W:=⟨hn,hl,hr,ha,hC,h.rows,fun _ hb=>hb.1⟩
end
def frU (th ms:List MB) (k:Nat):List Nat:=(List.range k).filter (kX th ms)
theorem aCn (th ms:List MB) (k:Nat):frU th ms (k+1)=if kX th ms k=true then frU th ms k ++ [k] else frU th ms k:=by
 unfold frU
 rw [List.range_succ,List.filter_append]
 by_cases h:kX th ms k=true
 ·simp [h]
 ·simp [h]
theorem aEx (th ms:List MB) (k:Nat):(frU th ms k).length<=k:=by
 unfold frU
 exact Nat.le_trans (List.length_filter_le _ _) (by simp)
theorem aEw (th ms:List MB):frU th ms ms.length=frL (eC th ms):=by
 unfold frU frL
 rw [iK]
 refine List.filter_congr fun x hx=> ?_
 rw [Bool.eq_iff_iff,mN]
 exact ⟨fun h=>⟨List.mem_range.1 hx,h⟩,fun h=>h.2⟩
theorem lH (l:List Nat) (k:Nat):aL (l ++ [k])=aL l ++ [(k:Int)]:=by simp [aL]
theorem aEj {cf B:Nat} {T:TypeId} {fv v':Value} {zs:List Int} {x:Int} {w w':World} {o:Obj} (hv:aB cf T fv w) (ho:cT B fv zs w) (hcf:cf<B) (hB:B<=w.heap.size) (h1:w'.ownsRow B 3 1 v' (zs.length+1) (zs.map (Value.int .i64) ++ [.int .i64 x])) (h2:(w.alloc o).grownBy w' fv.ownBlock):aB cf T v' (w'.setCell ⟨cf,0,none⟩ v')/\cT B v' (zs ++ [x]) (w'.setCell ⟨cf,0,none⟩ v')/\Below cf w (w'.setCell ⟨cf,0,none⟩ v'):=by
 obtain ⟨p1,p2⟩:=fC hB ho h1 h2
 have hap:=dT cf w' v'
 have hgr:w'.grownBy (w'.setCell ⟨cf,0,none⟩ v') (some cf):=⟨hap.os,hap.tape,hap.output,hap.size,fun c hc hne=>hap.block c hc (fun e=>hne (by rw [show c=cf from e]))⟩
 refine ⟨(hv.keep p2 hcf).set v',World.ownsRow.kept p1 hgr ?_,Below.trans (p2.mono (by omega)) (aM w' cf 0 v')⟩
 cases hb:v'.ownBlock with
 | none=>exact .inl rfl
 | some g=>exact .inr (fun e=>by have:=(cW p1 hb).1;have:=Option.some.inj e;omega)
end Go.Proofs.YthaaaecmeafofaaGreatDoor
namespace Go.Proofs.YthaaaecmeafofaaGreatDoor
open Go.RowKit Go.Sort Go.Lib
def aCe (nb noff gc a:Nat):Addr:=if gc=a+1 then ⟨nb,noff,none⟩ else ⟨nb,noff+(a+1),none⟩
theorem vR (W:World):(sizeOf (Tryz.prog.elem 37)).run Tryz.prog W=.ok 1 W:=by
 obtain ⟨i0,hi,hz0,hz1,hz2⟩:=info_parts hN
 have e:Tryz.prog.elem 37=3:=by kernel_rfl
 rw [e]
 simp [sizeOf,typeInfo,hi,hz1]
theorem xY {nb noff fl gc a:Nat} (h:a+1<=fl) (W:World):(Instr.slice 37 (.slice (some ⟨nb,noff,none⟩) fl gc) (some (.int .i64 ((a:Int)+1))) none none).run Tryz.prog W=.ok (.slice (some (aCe nb noff gc a)) (fl-(a+1)) (gc-(a+1))) W:=by
 rw [run_slice_l W 37 _ fl gc (by kernel_rfl) .i64 _ (by omega) (by omega),vR]
 show Result.ok (sliced _ ((a:Int)+1).toNat fl gc 1) W=_
 rw [show ((a:Int)+1).toNat=a+1 by omega]
 unfold sliced aCe
 by_cases e:gc=a+1
 ·rw [if_pos e,if_pos e]
 ·rw [if_neg e,if_neg e,Nat.mul_one]
  rfl
theorem xX {nb noff fl gc a:Nat} (h:a<=gc) (W:World):(Instr.slice 37 (.slice (some ⟨nb,noff,none⟩) fl gc) none (some (.int .i64 (a:Int))) (some (.int .i64 (a:Int)))).run Tryz.prog W=.ok (.slice (some ⟨nb,noff,none⟩) a a) W:=by
 rw [run_slice_hm W 37 _ fl gc (by kernel_rfl) .i64 .i64 _ _ (by omega) (by omega) (by omega),vR]
 show Result.ok (sliced _ 0 (a:Int).toNat (a:Int).toNat 1) W=_
 rw [Int.toNat_natCast]
 unfold sliced
 by_cases e:a=0
 ·rw [if_pos e];simp
 ·rw [if_neg e];rfl
theorem aCf {w:World} {zs:List Int} {b off a gc:Nat} (ha:a<zs.length) (hsm:zs.length<=1000) (hgc:zs.length<=gc) (h : ∀ (j:Nat) (x:Int),zs[j]? = some x->w.cell? ⟨b,off+j,none⟩=some (.int .i64 x)) :
  ∃ v' w',(∀ ty,(Builtin.append_ #[37,37] ty #[.slice (some ⟨b,off,none⟩) a a,.slice (some (aCe b off gc a)) (zs.length-(a+1)) (gc-(a+1))]).run Tryz.prog w=.ok v' w')/\aA w w'/\bN (fun x=>x=b∨(w.heap.size<=x/\x<w'.heap.size)) w' (zs.take a++zs.drop (a+1)) v'/\∃ p c',v'=.slice p (zs.length-1) c'/\zs.length-1<=c'/\(p=none->c'=0):=by
 by_cases e:gc=a+1
 ·obtain ⟨i0,hi,hz0,hz1,hz2⟩:=info_parts hN
  have h0:zs.length-(a+1)=0:=by omega
  refine ⟨.slice (some ⟨b,off,none⟩) a a,w,fun ty=> ?_,aA.refl _,?_,some ⟨b,off,none⟩,a,by rw [show zs.length-1=a by omega],by omega,fun h=>by cases h⟩
  ·rw [h0]
   simp [Builtin.append_,run_underlying Tryz.underlying37,sizeOf,typeInfo,hi,Builtin.lenOf,Builtin.firstCells,loadCells,loadCellsFrom,storeCells]
  ·rw [List.drop_eq_nil_of_le (by omega),List.append_nil]
   refine ⟨_,_,by rw [List.length_take_of_le (by omega)],by rw [List.length_take_of_le (by omega)];omega,fun _=>⟨b,off,rfl,.inl rfl,fun j x hx=> ?_⟩⟩
   rw [List.getElem?_take] at hx
   split at hx
   ·exact h j x hx
   ·cases hx
 ·unfold aCe
  rw [if_neg e]
  exact aEr ha hsm h
end Go.Proofs.YthaaaecmeafofaaGreatDoor
