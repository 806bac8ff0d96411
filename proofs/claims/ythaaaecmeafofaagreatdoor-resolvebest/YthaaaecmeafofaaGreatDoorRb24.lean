/- Steps of the proof: EncNeeded, EncNeedAll, EncPart. -/
import Derived.Test.YthaaaecmeafofaaGreatDoorRb23
import Derived.Laws.EntriesVeiled
set_option maxHeartbeats 16000000
set_option maxRecDepth 100000
namespace Go.Proofs.YthaaaecmeafofaaGreatDoor
open Go.RowKit
structure NV (x:Cn.DD) (bh bd bp i:Nat) (w:World):Prop where
 h:aE bh 183 (.func (Fn.func 139) #[] #[.pointer (some ⟨bh,0,none⟩),.pointer (some ⟨bd,0,none⟩),.pointer (some ⟨bp,0,none⟩)]) w
 d:aE bd 146 (.pointer (some ⟨x.b,0,none⟩)) w
 p:aE bp 3 (.int .i64 i) w
 no : ¬ x.own bh/\¬ x.own bd/\¬ x.own bp
theorem aE.turnV {c:Nat} {T:TypeId} {v:Value} {w w':World} {O O':Nat->Prop} (h:aE c T v w) (k:Cn.aF O O' w w') (hc : ¬ O c):aE c T v w':=by
 have hl:=h.facts.2.2
 unfold aE at *;rw [k.block c hl hc];exact h
theorem NV.turn {x:Cn.DD} {bh bd bp i:Nat} {w w':World} {v:Value} {k:Nat} {cc:Nat->Prop} (h:NV x bh bd bp i w) (t:Cn.aF x.own (x.to v k cc).own w w'):NV (x.to v k cc) bh bd bp i w':=by
 have hl1:=h.h.facts.2.2
 have hl2:=h.d.facts.2.2
 have hl3:=h.p.facts.2.2
 exact ⟨h.h.turnV t h.no.1,h.d.turnV t h.no.2.1,h.p.turnV t h.no.2.2,fun ho=>(t.new _ ho).elim h.no.1 (by omega),fun ho=>(t.new _ ho).elim h.no.2.1 (by omega),fun ho=>(t.new _ ho).elim h.no.2.2 (by omega)⟩
theorem NV.keep {x:Cn.DD} {bh bd bp i:Nat} {w w':World} (h:NV x bh bd bp i w) (k:aA w w'):NV x bh bd bp i w':=⟨h.h.keep k h.h.facts.2.2,h.d.keep k h.d.facts.2.2,h.p.keep k h.p.facts.2.2,h.no⟩
def aEd (x:Cn.DD) (L:Nat) (r:Cn.DS × Int) (w:World) (e:Ending) (w':World):Prop:=e=.returned (.int .i64 r.2)/\∃ v k cc,Cn.DM (x.to v k cc) L r.1 w'/\Cn.aF x.own (x.to v k cc).own w w'
def aRj (ps:List PK) (wi:WI) (i bh bd bp L:Nat) (t:NT):Prop:= ∀ (x:Cn.DD) (s:Cn.DS) (cs:List Value) (m c:Nat) (w:World),Cn.DM x L s w->DR ps wi x L w->NV x bh bd bp i w->aI (fun b=>b<L) w t cs->Cn.Bd s m c->(aB ps wi).many<=m->m+10*t.size<=300000->c+100*t.size<=300000->
 Calls Tryz.prog 139 #[.agg cs.toArray,.pointer (some ⟨bh,0,none⟩),.pointer (some ⟨bd,0,none⟩),.pointer (some ⟨bp,0,none⟩)] w fun e w'=>aEd x L (ndS ps (aB ps wi) i t s) w e w'
theorem aBq (args:Array Value) (w:World):(callFunc 139 args).run Tryz.prog w=.ok (.enter 139 args) w:=enters_of Tryz.func139 (by kernel_rfl) rfl args w
theorem mA : ∀ (ts:List NT) (j:Nat) (h:j<ts.length),bO (ts.take j)+ts[j].size<=bO ts
 | [],j,h=>absurd h (Nat.not_lt_zero _)
 | t :: ts,0,_=>by simp only [List.take_zero,List.getElem_cons_zero,bO];omega
 | t :: ts,j+1,h=>by
  have:=mA ts j (by simpa using h)
  simp only [List.take_succ_cons,List.getElem_cons_succ,bO]
  omega
theorem lR : ∀ {ts:List NT} {f:ByteArray},f∈dE ts ↔ ∃ t∈ts,f∈t.flags
 | [],f=>by simp [dE]
 | t :: ts,f=>by rw [dE,List.mem_append,lR (ts:=ts)];simp
theorem aQl (ps:List PK) (wi:WI) (i bh bd bp L:Nat) (hT:dA ps=0) (hok:(aB ps wi).Ok) (hi:i<ps.length) (kd:Int) (a:At) (fl:ByteArray) (nt:Bool) (kids:List NT) (hnode:dF (.node kd a fl nt kids)=0) (hfl : ∀ f∈NT.flags (.node kd a fl nt kids),aO (ps.getD i PK.zero).fl f<(ps.getD i PK.zero).fl.length) (hsz:(NT.node kd a fl nt kids).size<=50) (IH : ∀ (j:Nat) (h:j<kids.length),aRj ps wi i bh bd bp L kids[j]):aRj ps wi i bh bd bp L (.node kd a fl nt kids):=by
 intro x s cs m c w h hr hv hn hb hm hm2 hc2
 obtain ⟨i0,hi0,hz0,hz1,hz2⟩:=info_parts dG
 have h8:=(dN hT).1
 have hf2:(ps.getD i PK.zero).fl.length<=2:=(nP (iY ((dN hT).2 _ (by rw [List.getD_eq_getElem?_getD,List.getElem?_eq_getElem hi];exact List.getElem_mem hi))).2.2.1).1
 rw [NT.size] at hsz hm2 hc2
 rw [NT.flags] at hfl
 have HFLK:=hid (show ∀ f∈dE kids,aO (ps.getD i PK.zero).fl f<(ps.getD i PK.zero).fl.length from fun f hf=>hfl f (List.mem_append_right _ hf))
 have HFLO:=hid (show kd=5->aO (ps.getD i PK.zero).fl fl<(ps.getD i PK.zero).fl.length from fun h5=>hfl fl (by simp [h5]))
 have hkl:=tF kids
 have HBK:=hid (fun (j:Nat)=>aMa hok h8 hi (kids.take j) s m c hb hm (fun f hf=>by
  obtain ⟨t,ht,hft⟩:=lR.1 hf
  exact HFLK.out f (lR.2 ⟨t,List.mem_of_mem_take ht,hft⟩)) (by
  by_cases hj:j<kids.length
  ·have:=mA kids j hj;omega
  ·rw [List.take_of_length_le (by omega)];omega))
 have HSJ:=hid (fun (j:Nat) (hj:j<kids.length)=>mA kids j hj)
 have HD:=hid h
 have HR:=hid hr
 have HV:=hid hv
 have HLL:=hid h.L
 rw [aI] at hn
 obtain ⟨kp,kc,rfl,hkc,hkmax,hkids⟩:=hn
 have HK:=hid hkids
 have hent:=aBq
 have HND:=hid (show ndS ps (aB ps wi) i (.node kd a fl nt kids) s=if kd=1 then oO (dK ps (aB ps wi) (-1) (kdS ps (aB ps wi) i kids s).1 a) else if kd=2 then aSk (oO (dK ps (aB ps wi) i (kdS ps (aB ps wi) i kids s).1 a)) else if kd=4 then oO (kdS ps (aB ps wi) i kids s) else if kd=5 then ifS (Cn.sg ((aB ps wi).fgL i (aO (ps.getD i PK.zero).fl fl)) nt) (rU (kdS ps (aB ps wi) i kids s)) else rU (kdS ps (aB ps wi) i kids s) by rw [ndS])
 have HIH:=hid IH
 have HNODE:=hid (gQ hnode)
 have hklen:kids.length<=50:=by omega
 clear h hr hv hb hkids IH hnode hfl
 go_enter Tryz.func139,Tryz.ntmps139
 go_upto_region 2 with fail
 refine bF (fun W'=>aA w W'/\aN w.heap.size #[.int .i64 kd,.string a.n,.int .i64 a.op,.int .i64 a.v,.int .i64 a.sl,.string a.f,.bool a.on,.string fl,.bool nt,.slice kp kids.length kc] W') ⟨aA.alloc _ _,aN.new _ _ _⟩ ?_
 rintro W0 ⟨k0,b0⟩
 have K0:=hid k0
 have B0:=hid b0
 have D0:=hid (HD.out.keep k0)
 have V0:=hid (HV.out.keep k0)
 have HNO:=hid (show ∀ b,w.heap.size<=b->¬ x.own b from fun b hb ho=>by have:=(HD.out.lt ho).2;omega)
 have hc9:W0.cell? ⟨w.heap.size,9,none⟩=some (.slice kp kids.length kc):=b0.2 9
 have hnl:=b0.1
 obtain ⟨bn,hbn⟩ : ∃ bn,bn=w.heap.size:=⟨_,rfl⟩
 rw [← hbn] at B0 HNO hc9 hnl ⊢
 have HBN:=hid hbn
 clear k0 b0 hbn
 have HL0:=hid (show L<=W0.heap.size by have:=HLL.out;have:=HBN.out;omega)
 have HLOW:=hid (show ∀ (v:Value) (k:Nat) (cc:Nat->Prop) (W:World),Cn.aF x.own (x.to v k cc).own W0 W->Below L w W from fun v k cc W t=>(qG HLL.out K0.out).trans (lC D0.out t))
 have HBX:=hid (show ∀ (v:Value) (k:Nat) (cc:Nat->Prop) (W:World),Cn.aF x.own (x.to v k cc).own W0 W->∀ o,W.cell? ⟨bn,o,none⟩=(#[.int .i64 kd,.string a.n,.int .i64 a.op,.int .i64 a.v,.int .i64 a.sl,.string a.f,.bool a.on,.string fl,.bool nt,.slice kp kids.length kc]:Array Value)[o]? from fun v k cc W t o=>(t.cell ⟨bn,o,none⟩ hnl (HNO.out _ (Nat.le_refl _))).trans (B0.out.2 o))
 go_wp2_with fail
 clear hc9
 go_loopg [6,12] kids.length (fun gk lv iv wr=> ∃ (j:Nat) (v:Value) (k:Nat) (cc:Nat->Prop),j+gk=kids.length/\iv=.int .i64 j/\Cn.aU W0.heap.size lv (kdS ps (aB ps wi) i (kids.take j) s).2 wr/\(∀ g,lv.ownBlock=some g->¬ (x.to v k cc).own g)/\Cn.DM (x.to v k cc) L (kdS ps (aB ps wi) i (kids.take j) s).1 wr/\Cn.aF x.own (x.to v k cc).own W0 wr)
 case atStart=>exact ⟨0,x.cv,x.np,x.cs,by omega,rfl,by rw [List.take_zero,kdS];exact World.ownsRow_nil _ _ _ _,by simp [Value.ownBlock],by rw [List.take_zero,kdS];exact D0.out,Cn.aF.refl _ _⟩
 case round=>
  obtain ⟨j,v,k,cc,hj,rfl,hown,hap,hd,ht⟩:=hrel
  have OW:=hid hown
  have AP:=hid hap
  have D2:=hid hd
  have T2:=hid ht
  have V2:=hid (V0.out.turn ht)
  have R2:=hid ((HR.out.keep HLL.out K0.out).turn D0.out ht)
  have HBK1:=hid (HBK.out j)
  have HKL:=hid (tE ps (aB ps wi) i (kids.take j) s)
  obtain ⟨lp,lc,hlv⟩:=hown.ints.len
  subst hlv
  clear hown hap hd ht D0
  by_cases hlt:j<kids.length
  ·obtain ⟨p,cs,hp,hSp,hcell,hneed⟩:=jG (bB.mono (bG (B:=L) (fun _ h=>h) (HLOW.out v k cc wr T2.out)) (fun _ h=>h) kids kp 0 HK.out) j hlt
   have hsj:=HSJ.out j hlt
   have HSN:=hid (show kdS ps (aB ps wi) i (kids.take (j+1)) s=((ndS ps (aB ps wi) i kids[j] (kdS ps (aB ps wi) i (kids.take j) s).1).1,(kdS ps (aB ps wi) i (kids.take j) s).2 ++ [(ndS ps (aB ps wi) i kids[j] (kdS ps (aB ps wi) i (kids.take j) s).1).2]) by rw [List.take_succ_eq_append_getElem hlt,aCk])
   have hkl2:(kdS ps (aB ps wi) i (kids.take j) s).2.length<=50:=by rw [HKL.out,List.length_take];omega
   obtain ⟨hbd,-⟩:=HBK1.out
   generalize kdS ps (aB ps wi) i (kids.take j) s=st at OW D2 HSN hbd hkl2 AP ⊢
   obtain ⟨s2,acc⟩:=st
   dsimp only at OW D2 hbd hkl2 HSN AP ⊢
   have HCALL:=hid (show ∀ W,aA wr W->Calls Tryz.prog 139 #[.agg cs.toArray,.pointer (some ⟨bh,0,none⟩),.pointer (some ⟨bd,0,none⟩),.pointer (some ⟨bp,0,none⟩)] W fun e w'=>e=.returned (.int .i64 (ndS ps (aB ps wi) i kids[j] s2).2)/\∃ v3 k3 c3,Cn.DM (x.to v3 k3 c3) L (ndS ps (aB ps wi) i kids[j] s2).1 w'/\Cn.aF x.own (x.to v3 k3 c3).own W0 w'/\Cn.aU W0.heap.size (.slice lp acc.length lc) acc w'/\(∀ g,(Value.slice lp acc.length lc).ownBlock=some g->¬ (x.to v3 k3 c3).own g) from fun W kW=>by
    have hlr:L<=wr.heap.size:=Nat.le_trans HL0.out T2.out.size
    refine (HIH.out j hlt (x.to v k cc) s2 cs (m+10*bO (kids.take j)) (c+100*bO (kids.take j)) W (D2.out.keep kW) (R2.out.keep hlr kW) (V2.out.keep kW) (hneed.keep (B:=L) (fun _ h=>h) (qG hlr kW)) hbd (by omega) (by omega) (by omega)).mono ?_
    rintro e w4 ⟨rfl,v3,k3,c3,d3,t3⟩
    have TR:Cn.aF (x.to v k cc).own (x.to v3 k3 c3).own wr w4:=(Cn.aF.keep kW).trans t3
    exact ⟨rfl,v3,k3,c3,d3,T2.out.trans TR,Cn.cM OW.out (fun g hg=>TR.block g (Cn.bQ OW.out hg).2 (AP.out g hg)),xQ (fun g hg=>⟨(Cn.bQ OW.out hg).2,AP.out g hg⟩) TR⟩)
   subst hp
   rw [Nat.zero_add] at hcell
   generalize ndS ps (aB ps wi) i kids[j] s2=r at HCALL HSN
   cases hkid:kids[j] with
   | node k' a' fl' nt' kids'=>
   rw [hkid,aI] at hneed
   obtain ⟨kp',kc',rfl,-,-,-⟩:=hneed
   obtain ⟨y0,y1,y2,y3,y4,y5,y6,y7,y8,y9⟩:=sY hcell
   have hpl:p.block<wr.heap.size:=Nat.lt_of_lt_of_le hSp (Nat.le_trans HL0.out T2.out.size)
   obtain ⟨hhc,-,hhl⟩:=V2.out.h.facts
   have hjI:(j:Int)<(kids.length:Int):=by omega
   have hW0r:=T2.out.size
   clear hcell hkid
   go_wp2_with fail
   refine aX (fun W'=>aA wr W') (aA.alloc _ _) ?_
   intro W1 k1
   refine (HCALL.out W1 k1).mono ?_
   rintro e w4 ⟨rfl,v3,k3,c3,d3,t3,o3,a3⟩
   have D4:=hid d3
   have T4:=hid t3
   have OW4:=hid o3
   have AP4:=hid a3
   have hW04:=t3.size
   clear d3 t3 o3 a3 k1 y0 y1 y2 y3 y4 y5 y6 y7 y8 y9 hhc hhl
   go_wp2_with (at_builtin;refine wpList_append_own_at _ rfl _ _ 37 rfl W0.heap.size 3 i0 (.int .i64 0) 1 8 Tryz.underlying37 hi0 hz0 hz1 hz2 rfl (by decide) (.slice lp acc.length lc) acc.length (acc.map (Value.int .i64)) rfl (World.ownsRow.alloc OW4.out _) ⟨w4.heap.size,0,none⟩ 1 1 [.int .i64 r.2] rfl rfl Cn.dC dB (by unfold maxLen;omega) (by omega) (by rw [aC];omega) ?_;intro v5 w5 h1 h2 _ h4)
   have P5:=hid (tO OW4.out AP4.out D4.out T4.out h1 h2 h4)
   clear h1 h2 h4
   go_wp2_with fail
   go_roundg (kids.length-(j+1))
   case rel=>exact ⟨j+1,v3,k3,c3,by omega,by go_num,by rw [HSN.out];exact P5.out.1,P5.out.2.1,by rw [HSN.out];exact P5.out.2.2.1,P5.out.2.2.2⟩
   case measure=>omega
  ·obtain rfl:j=kids.length:=by omega
   have hbd:=HBK1.out.1
   have HLIT:=hid HBK1.out.2
   have hal:(kdS ps (aB ps wi) i (kids.take kids.length) s).2.length<=50:=by rw [HKL.out,List.length_take];omega
   rw [List.take_length] at OW D2 AP hbd hal HLIT ⊢
   have hW0r:=T2.out.size
   have HSV:=hid (show ∀ (v:Value) (k:Nat) (cc:Nat->Prop) (W:World),Cn.aF x.own (x.to v k cc).own W0 W->(W.cell? ⟨bd,0,none⟩=some (.pointer (some ⟨x.b,0,none⟩))/\W.cell? ⟨bp,0,none⟩=some (.int .i64 i)/\∀ o,W.cell? ⟨bn,o,none⟩=(#[.int .i64 kd,.string a.n,.int .i64 a.op,.int .i64 a.v,.int .i64 a.sl,.string a.f,.bool a.on,.string fl,.bool nt,.slice kp kids.length kc]:Array Value)[o]?) from fun v k cc W t=>⟨((V0.out.turn t).d.facts.1),((V0.out.turn t).p.facts.1),HBX.out v k cc W t⟩)
   generalize hQ:kdS ps (aB ps wi) i kids s=Q at OW D2 AP hbd hal HLIT HND ⊢
   obtain ⟨s2,acc⟩:=Q
   dsimp only at OW D2 AP hbd hal HLIT ⊢
   have hsn:s2.n<=400000:=by have:=hbd.1;omega
   have hscl:s2.cl.length<=400000:=by have:=hbd.2.1;omega
   have hlits : ∀ y∈acc,y.natAbs<=400000:=fun y hy=>by have:=HLIT.out y hy;omega
   have HKN:=hid (aCx OW.out (by omega) AP.out)
   have HKNIL:=hid (aIb OW.out)
   have HLITS:=hid hlits
   have HBD:=hid hbd
   obtain ⟨hdc,hpc,hnc⟩:=HSV.out v k cc wr T2.out
   have hnk:=hnc 0
   have hnlr:bn<wr.heap.size:=Nat.lt_of_lt_of_le hnl T2.out.size
   have hdl:=V2.out.d.facts.2.2
   have hpl:=V2.out.p.facts.2.2
   have HFIN:=hid (show ∀ (v4:Value) (k4:Nat) (c4:Nat->Prop) (w':World) (r:Cn.DS × Int),Cn.DM (x.to v4 k4 c4) L r.1 w'->Cn.aF x.own (x.to v4 k4 c4).own W0 w'->ndS ps (aB ps wi) i (.node kd a fl nt kids) s=r->aEd x L (ndS ps (aB ps wi) i (.node kd a fl nt kids) s) w (.returned (.int .i64 r.2)) w' from fun v4 k4 c4 w' r d t e=>by rw [e];exact ⟨rfl,v4,k4,c4,d,(Cn.aF.keep K0.out).trans t⟩)
   have HCSOME:=hid (show ∀ (W:World) (v3:Value) (k3:Nat) (c3:Nat->Prop) (s3:Cn.DS) (l:List Int) (Q:Nat->Prop) (p:Option Addr) (n cap:Nat),l.length=n->(p=none->cap=0)->Cn.DM (x.to v3 k3 c3) L s3 W->Cn.aF x.own (x.to v3 k3 c3).own W0 W->(∀ b,Q b->b<W.heap.size/\¬ (x.to v3 k3 c3).own b)->Cn.aH Q W l (.slice p n cap)->l.length<=900->s3.cl.length<=500000->s3.n<=500000->(∀ y∈l,y.natAbs<=900000)->Calls Tryz.prog 140 #[.pointer (some ⟨x.b,0,none⟩),.slice p n cap] W fun e w'=>e=.returned (.int .i64 (s3.someL l))/\∃ v4 c4,Cn.DM (x.to v4 k3 c4) L (s3.someS l) w'/\Cn.aF x.own (x.to v4 k3 c4).own W0 w' from fun W v3 k3 c3 s3 l Q p n cap h1 h2 h3 h4 h5 h6 h7 h8 h9 h10=>by
    refine (Cn.aDm (x.to v3 k3 c3) L s3 Q l p n cap W h1 h2 h3 h5 h6 h7 h8 h9 h10).mono ?_
    rintro e w' ⟨rfl,v4,c4,d4,t4⟩
    exact ⟨rfl,v4,c4,d4,h4.trans t4⟩)
   have HCALL2:=hid (show ∀ W,aA wr W->Calls Tryz.prog 141 #[.pointer (some ⟨x.b,0,none⟩),.slice lp acc.length lc] W fun e w'=>e=.returned (.int .i64 (s2.allL acc))/\∃ v3 c3,Cn.DM (x.to v3 k c3) L (s2.allS acc) w'/\Cn.aF x.own (x.to v3 k c3).own W0 w' from fun W kW=>by
    refine (Cn.aHb (x.to v k cc) L s2 (fun b=>b<wr.heap.size) acc lp acc.length lc W rfl (D2.out.keep kW) (fun b hb=>Nat.lt_of_lt_of_le hb kW.size) ((HKN.out.mono (fun _ _=>rfl) (fun b hb=>hb.2.1)).keep (B:=wr.heap.size) (fun _ h=>h) kW) (by omega) (by omega) (by omega) (fun y hy=>by have:=HLITS.out y hy;omega)).mono ?_
    rintro e w' ⟨rfl,v3,c3,d3,t3⟩
    exact ⟨rfl,v3,c3,d3,(T2.out.trans (Cn.aF.keep kW)).trans t3⟩)
   have HCASK:=hid (show ∀ (but:Int) W,aA wr W->iE a=0->Calls Tryz.prog 94 #[.pointer (some ⟨x.b,0,none⟩),.agg #[.string a.n,.int .i64 a.op,.int .i64 a.v,.int .i64 a.sl,.string a.f,.bool a.on],.int .i64 but] W fun e w'=> ∃ lp3 lc3 v3 k3 c3,e=.returned (.slice lp3 (dK ps (aB ps wi) but s2 a).2.length lc3)/\(lp3=none->lc3=0)/\Cn.aH (fun b=>b<w'.heap.size/\¬ (x.to v3 k3 c3).own b) w' (dK ps (aB ps wi) but s2 a).2 (.slice lp3 (dK ps (aB ps wi) but s2 a).2.length lc3)/\Cn.DM (x.to v3 k3 c3) L (dK ps (aB ps wi) but s2 a).1 w'/\Cn.aF x.own (x.to v3 k3 c3).own W0 w' from fun but W kW hA=>by
    have hlr:L<=wr.heap.size:=Nat.le_trans HL0.out T2.out.size
    refine (wV ps wi (x.to v k cc) L s2 a.n a.f a.op a.v a.sl a.on but W _ _ hT hA hok (D2.out.keep kW) (R2.out.keep hlr kW) HBD.out (by omega) (by omega) (by omega)).mono ?_
    rintro e w' ⟨lp3,lc3,v3,k3,c3,rfl,h1,h2,h3,h4⟩
    exact ⟨lp3,lc3,v3,k3,c3,rfl,h1,h2.mono (fun _ _=>rfl) (fun b hb=>⟨hb.2.1,hb.2.2⟩),h3,(T2.out.trans (Cn.aF.keep kW)).trans h4⟩)
   have HBA:=hid (fun but:Int=>pP hok h8 hbd (by omega) but a)
   have HCS1:=hid (show ∀ (but:Int) (w8:World) (lp3:Option Addr) (lc3:Nat) (v3:Value) (k3:Nat) (c3:Nat->Prop),(lp3=none->lc3=0)->Cn.aH (fun b=>b<w8.heap.size/\¬ (x.to v3 k3 c3).own b) w8 (dK ps (aB ps wi) but s2 a).2 (.slice lp3 (dK ps (aB ps wi) but s2 a).2.length lc3)->Cn.DM (x.to v3 k3 c3) L (dK ps (aB ps wi) but s2 a).1 w8->Cn.aF x.own (x.to v3 k3 c3).own W0 w8->Calls Tryz.prog 140 #[.pointer (some ⟨x.b,0,none⟩),.slice lp3 (dK ps (aB ps wi) but s2 a).2.length lc3] w8 fun e w'=>e=.returned (.int .i64 ((dK ps (aB ps wi) but s2 a).1.someL (dK ps (aB ps wi) but s2 a).2))/\∃ v4 c4,Cn.DM (x.to v4 k3 c4) L ((dK ps (aB ps wi) but s2 a).1.someS (dK ps (aB ps wi) but s2 a).2) w'/\Cn.aF x.own (x.to v4 k3 c4).own W0 w' from fun but w8 lp3 lc3 v3 k3 c3 h1 h2 h3 h4=>by
    obtain ⟨g1,g2,g3⟩:=HBA.out but
    exact HCSOME.out w8 v3 k3 c3 _ _ _ lp3 _ lc3 rfl h1 h3 h4 (fun b hb=>hb) h2 (by omega) (by have:=g1.2.1;omega) (by have:=g1.1;omega) (fun y hy=>by have:=g2 y hy;omega))
   have HWR:=hid (show ∀ but:Int,IntKind.i64.wrap (-((dK ps (aB ps wi) but s2 a).1.someL (dK ps (aB ps wi) but s2 a).2)) = -((dK ps (aB ps wi) but s2 a).1.someL (dK ps (aB ps wi) but s2 a).2) from fun but=>by
    obtain ⟨g1,g2,g3⟩:=HBA.out but
    have:=g1.someL (l:=(dK ps (aB ps wi) but s2 a).2) (fun y hy=>Nat.le_trans (g2 y hy) (by omega))
    exact cJ (by omega))
   rcases HNODE.out with ⟨hk12,-,-,-,hA⟩ | ⟨hk34,-,-,-⟩ | ⟨hk5,-,-⟩
   ·rcases hk12 with rfl | rfl
    ·have HS:=hid (HSV.out v k cc wr T2.out)
     have HSd:=hid (show wr.drew.cell? ⟨bd,0,none⟩=some (.pointer (some ⟨x.b,0,none⟩))/\wr.drew.cell? ⟨bp,0,none⟩=some (.int .i64 i)/\∀ o,wr.drew.cell? ⟨bn,o,none⟩=(#[.int .i64 1,.string a.n,.int .i64 a.op,.int .i64 a.v,.int .i64 a.sl,.string a.f,.bool a.on,.string fl,.bool nt,.slice kp kids.length kc]:Array Value)[o]? from ⟨HS.out.1,HS.out.2.1,HS.out.2.2⟩)
     have hwr:=HWR.out (-1)
     have HCA:=hid (HCASK.out (-1))
     have HCS:=hid (HCS1.out (-1))
     go_wp2_with fail
     go_region_held3 (fun W'=>W'.cell? ⟨bd,0,none⟩=some (.pointer (some ⟨x.b,0,none⟩))/\W'.cell? ⟨bp,0,none⟩=some (.int .i64 i)/\∀ o,W'.cell? ⟨bn,o,none⟩=(#[.int .i64 1,.string a.n,.int .i64 a.op,.int .i64 a.v,.int .i64 a.sl,.string a.f,.bool a.on,.string fl,.bool nt,.slice kp kids.length kc]:Array Value)[o]?)
      (first | with_reducible exact HS.out | with_reducible exact HSd.out | with_reducible exact HS8.out | with_reducible exact HS9.out | go_keep)
      (first
       | (go_at_call 94;refine (HCA.out _ (aA.drew (aA.refl _)) hA).mono ?_;rintro e w8 ⟨lp3,lc3,v3,k3,c3,rfl,h31,h32,h33,h34⟩;have G31:=hid h31;have G32:=hid h32;have G33:=hid h33;have G34:=hid h34;have HS8:=hid (HSV.out v3 k3 c3 w8 h34);clear h31 h32 h33 h34)
       | (go_at_call 140;refine (HCS.out w8 lp3 lc3 v3 k3 c3 G31.out G32.out G33.out G34.out).mono ?_;rintro e w9 ⟨rfl,v4,c4,d4,t4⟩;have D9:=hid d4;have T9:=hid t4;have HS9:=hid (HSV.out v4 k3 c4 w9 t4);clear d4 t4))
     go_wp2_with fail
     go_ret
     exact HFIN.out v4 k3 c4 _ (oO (dK ps (aB ps wi) (-1) s2 a)) D9.out T9.out (by rw [HND.out];rfl)
    ·have HS:=hid (HSV.out v k cc wr T2.out)
     have HSd:=hid (show wr.drew.cell? ⟨bd,0,none⟩=some (.pointer (some ⟨x.b,0,none⟩))/\wr.drew.cell? ⟨bp,0,none⟩=some (.int .i64 i)/\∀ o,wr.drew.cell? ⟨bn,o,none⟩=(#[.int .i64 2,.string a.n,.int .i64 a.op,.int .i64 a.v,.int .i64 a.sl,.string a.f,.bool a.on,.string fl,.bool nt,.slice kp kids.length kc]:Array Value)[o]? from ⟨HS.out.1,HS.out.2.1,HS.out.2.2⟩)
     have hwr:=HWR.out (i:Int)
     have HCA:=hid (HCASK.out (i:Int))
     have HCS:=hid (HCS1.out (i:Int))
     go_wp2_with fail
     go_region_held3 (fun W'=>W'.cell? ⟨bd,0,none⟩=some (.pointer (some ⟨x.b,0,none⟩))/\W'.cell? ⟨bp,0,none⟩=some (.int .i64 i)/\∀ o,W'.cell? ⟨bn,o,none⟩=(#[.int .i64 2,.string a.n,.int .i64 a.op,.int .i64 a.v,.int .i64 a.sl,.string a.f,.bool a.on,.string fl,.bool nt,.slice kp kids.length kc]:Array Value)[o]?)
      (first | with_reducible exact HS.out | with_reducible exact HSd.out | with_reducible exact HS8.out | with_reducible exact HS9.out | go_keep)
      (first
       | (go_at_call 94;refine (HCA.out _ (aA.drew (aA.refl _)) hA).mono ?_;rintro e w8 ⟨lp3,lc3,v3,k3,c3,rfl,h31,h32,h33,h34⟩;have G31:=hid h31;have G32:=hid h32;have G33:=hid h33;have G34:=hid h34;have HS8:=hid (HSV.out v3 k3 c3 w8 h34);clear h31 h32 h33 h34)
       | (go_at_call 140;refine (HCS.out w8 lp3 lc3 v3 k3 c3 G31.out G32.out G33.out G34.out).mono ?_;rintro e w9 ⟨rfl,v4,c4,d4,t4⟩;have D9:=hid d4;have T9:=hid t4;have HS9:=hid (HSV.out v4 k3 c4 w9 t4);clear d4 t4))
     go_wp2_with fail
     go_ret
     exact HFIN.out v4 k3 c4 _ (aSk (oO (dK ps (aB ps wi) (i:Int) s2 a))) D9.out T9.out (by rw [HND.out];rfl)
   ·rcases hk34 with rfl | rfl
    ·go_wp2_with fail
     refine (HCALL2.out wr (aA.refl _)).mono ?_
     rintro e w' ⟨rfl,v3,c3,d3,t3⟩
     have D4:=hid d3
     have T4:=hid t3
     clear d3 t3
     go_wp2_with fail
     go_ret
     exact HFIN.out v3 k c3 _ (rU (s2,acc)) D4.out T4.out (by rw [HND.out];rfl)
    ·go_wp2_with fail
     refine (HCSOME.out wr v k cc s2 acc _ lp acc.length lc rfl HKNIL.out D2.out T2.out (fun b hb=>hb.2) HKN.out (by omega) (by omega) (by omega) (fun y hy=>by have:=HLITS.out y hy;omega)).mono ?_
     rintro e w' ⟨rfl,v3,c3,d3,t3⟩
     have D4:=hid d3
     have T4:=hid t3
     clear d3 t3
     go_wp2_with fail
     go_ret
     exact HFIN.out v3 k c3 _ (oO (s2,acc)) D4.out T4.out (by rw [HND.out];rfl)
   ·subst hk5
    have hfl5:=HFLO.out rfl
    have HS:=hid (HSV.out v k cc wr T2.out)
    have HSd:=hid (show wr.drew.cell? ⟨bd,0,none⟩=some (.pointer (some ⟨x.b,0,none⟩))/\wr.drew.cell? ⟨bp,0,none⟩=some (.int .i64 i)/\∀ o,wr.drew.cell? ⟨bn,o,none⟩=(#[.int .i64 5,.string a.n,.int .i64 a.op,.int .i64 a.v,.int .i64 a.sl,.string a.f,.bool a.on,.string fl,.bool nt,.slice kp kids.length kc]:Array Value)[o]? from ⟨HS.out.1,HS.out.2.1,HS.out.2.2⟩)
    have hfg:=Cn.CT.fg_lit (aB ps wi) (i:=i) (k:=aO (ps.getD i PK.zero).fl fl) (by rw [cB];exact hi) (by rw [kN wi hi];exact hfl5)
    have hfr0:((aB ps wi).fgL i (aO (ps.getD i PK.zero).fl fl)).natAbs<=900000:=by have:=hfg.2;omega
    have HCFL:=hid (show ∀ W,aA wr W->Calls Tryz.prog 138 #[.pointer (some ⟨x.b,0,none⟩),.int .i64 i,.string fl] W fun e w'=>e=.returned (.int .i64 ((aB ps wi).fgL i (aO (ps.getD i PK.zero).fl fl)))/\aA W w' from fun W kW=>aBu ps wi (x.to v k cc) L s2 i fl W (D2.out.keep kW) (R2.out.keep (Nat.le_trans HL0.out T2.out.size) kW) h8 hi hfl5 hf2)
    have HCS5:=hid (show ∀ (w10:World) (v3:Value) (c3:Nat->Prop),Cn.DM (x.to v3 k c3) L (s2.allS acc) w10->Cn.aF x.own (x.to v3 k c3).own W0 w10->Calls Tryz.prog 140 #[.pointer (some ⟨x.b,0,none⟩),.slice (some ⟨w10.heap.size,0,none⟩) 2 2] (w10.alloc (.cells #[.int .i64 (Cn.sg ((aB ps wi).fgL i (aO (ps.getD i PK.zero).fl fl)) nt),.int .i64 (s2.allL acc)] 3)) fun e w'=>e=.returned (.int .i64 ((s2.allS acc).someL [Cn.sg ((aB ps wi).fgL i (aO (ps.getD i PK.zero).fl fl)) nt,s2.allL acc]))/\∃ v4 c4,Cn.DM (x.to v4 k c4) L ((s2.allS acc).someS [Cn.sg ((aB ps wi).fgL i (aO (ps.getD i PK.zero).fl fl)) nt,s2.allL acc]) w'/\Cn.aF x.own (x.to v4 k c4).own W0 w' from fun w10 v3 c3 d t=>by
     have g1:=HBD.out.all (k:=50) (l:=acc) hal
     have g2:=HBD.out.allL (l:=acc) (fun y hy=>Nat.le_trans (HLIT.out y hy) (Nat.le_succ _))
     exact HCSOME.out _ v3 k c3 _ _ (fun b=>b=w10.heap.size) _ 2 2 rfl (by intro h;cases h) (d.keep (aA.alloc _ _)) (t.trans (Cn.aF.keep (aA.alloc _ _))) (fun b hb=>by subst hb;exact ⟨by rw [aC];omega,fun ho=>by have:=(d.lt ho).2;omega⟩) (Cn.nI _ _ _) (by simp) (by have:=g1.2.1;omega) (by have:=g1.1;omega) (fun y hy=>by
      rcases List.mem_cons.1 hy with rfl | hy
      ·rw [Cn.nF];exact hfr0
      ·rw [List.mem_singleton.1 hy];omega))
    generalize (aB ps wi).fgL i (aO (ps.getD i PK.zero).fl fl)=fr at HCFL HCS5 hfr0 HND
    go_wp2_with fail
    go_region_held3 (fun W'=>W'.cell? ⟨bd,0,none⟩=some (.pointer (some ⟨x.b,0,none⟩))/\W'.cell? ⟨bp,0,none⟩=some (.int .i64 i)/\∀ o,W'.cell? ⟨bn,o,none⟩=(#[.int .i64 5,.string a.n,.int .i64 a.op,.int .i64 a.v,.int .i64 a.sl,.string a.f,.bool a.on,.string fl,.bool nt,.slice kp kids.length kc]:Array Value)[o]?)
     (first | with_reducible exact HS.out | with_reducible exact HSd.out | with_reducible exact HS8.out | with_reducible exact HS9.out | with_reducible exact HS10.out | with_reducible exact HS11.out | go_keep)
     (first
      | (go_at_call 138;refine (HCFL.out _ (aA.drew (aA.refl _))).mono ?_;rintro e w8 ⟨rfl,k8⟩;have K8:=hid (hJ k8);have HS8:=hid (HSV.out v k cc w8 (T2.out.trans (Cn.aF.keep K8.out)));clear k8)
      | (go_at_call 84;refine (pG fr nt _ hfr0).mono ?_;rintro e w9 ⟨rfl,hw9⟩;rw [hw9];clear hw9)
      | (go_at_call 141;refine (HCALL2.out w8 K8.out).mono ?_;rintro e w10 ⟨rfl,v3,c3,d3,t3⟩;have D10:=hid d3;have T10:=hid t3;have HS10:=hid (HSV.out v3 k c3 w10 t3);have HS11:=hid (HSV.out v3 k c3 (w10.alloc (.cells #[.int .i64 (Cn.sg fr nt),.int .i64 (s2.allL acc)] 3)) (t3.trans (Cn.aF.keep (aA.alloc _ _))));clear d3 t3)
      | (go_at_call 140;refine (HCS5.out w10 v3 c3 D10.out T10.out).mono ?_;rintro e w11 ⟨rfl,v4,c4,d4,t4⟩;have D11:=hid d4;have T11:=hid t4;have HS9:=hid (HSV.out v4 k c4 w11 t4);clear d4 t4))
    go_wp2_with fail
    go_ret
    exact HFIN.out v4 k c4 _ (ifS (Cn.sg fr nt) (rU (s2,acc))) D11.out T11.out (by rw [HND.out];rfl)
theorem aOl : ∀ {ts:List NT} (j:Nat) (h:j<ts.length),ts[j].size<=bO ts:=fun {ts} j h=>by have:=mA ts j h;omega
theorem aNo (ps:List PK) (wi:WI) (i bh bd bp L:Nat) (hT:dA ps=0) (hok:(aB ps wi).Ok) (hi:i<ps.length) : ∀ (n:Nat) (t:NT),t.size<=n->t.ok->(∀ f∈t.flags,aO (ps.getD i PK.zero).fl f<(ps.getD i PK.zero).fl.length)->t.size<=50->aRj ps wi i bh bd bp L t
 | 0,.node kd a fl nt kids,hn,_,_,_=>by rw [NT.size] at hn;omega
 | n+1,.node kd a fl nt kids,hn,ho,hf,hs=>by
  rw [NT.ok] at ho
  refine aQl ps wi i bh bd bp L hT hok hi kd a fl nt kids ho.1 hf hs fun j hj=> ?_
  rw [NT.size] at hn hs
  have:=aOl j hj
  refine aNo ps wi i bh bd bp L hT hok hi n kids[j] (by omega) (zK ho.2 j hj) (fun f hfm=>hf f ?_) (by omega)
  rw [NT.flags]
  exact List.mem_append_right _ (lR.2 ⟨_,List.getElem_mem hj,hfm⟩)
theorem wG (ps:List PK) (wi:WI) (x:Cn.DD) (L:Nat) (s:Cn.DS) (i:Nat) (w:World) (m c:Nat) (hT:dA ps=0) (hok:(aB ps wi).Ok) (hi:i<ps.length) (h:Cn.DM x L s w) (hr:DR ps wi x L w) (hb:Cn.Bd s m c) (hm:(aB ps wi).many<=m) (hm2:m<=200000) (hc2:c<=200000) :
  Calls Tryz.prog 95 #[.pointer (some ⟨x.b,0,none⟩),.int .i64 i] w fun e w'=>aEd x L (ndS ps (aB ps wi) i (ps.getD i PK.zero).nd s) w e w':=by
 obtain ⟨pb,po,pc,hpv,hpb,-,hrow⟩:=hr.pk.get hi
 obtain ⟨cs,hcs,hpj⟩:=hrow i hi
 obtain ⟨kd,a,fl,nt,kids,kp,fp,kc,fc,hnd,-,rfl,-,hneed⟩:=hpj.spelt
 obtain ⟨y0,y1,y2,y3,y4,y5,y6,y7,y8,y9,y10,y11,y12,y13⟩:=eO hcs
 have hq:ps.getD i PK.zero=ps[i]:=fD ps i hi
 have hP:eQ ps[i]=0:=(dN hT).2 _ (List.getElem_mem hi)
 obtain ⟨-,-,-,-,hN⟩:=iY hP
 have hNo:=(cZ.1 hN).2
 have hNs:=(jN (cZ.1 hN).1).1
 have hNf:=nB hP
 rw [← hq] at hNf hNs hNo hneed
 have HD:=hid h
 have HR:=hid hr
 have HLL:=hid h.L
 have HNE:=hid hneed
 have HB:=hid hb
 have hbl:=h.box.facts.2.2
 have hb3:w.cell? ⟨x.b,3,none⟩=some (.slice (some ⟨pb,po,none⟩) ps.length pc):=(h.cell 3).trans (congrArg some hpv)
 have hpl:pb<w.heap.size:=Nat.lt_of_lt_of_le hpb h.L
 have hiI:(i:Int)<(ps.length:Int):=by omega
 have hent:=aBq
 have HALL:=hid (fun bh bd bp=>aNo ps wi i bh bd bp L hT hok hi _ (ps.getD i PK.zero).nd (Nat.le_refl _) hNo hNf (by omega))
 generalize (ps.getD i PK.zero).nd=t at HNE HALL hNs ⊢
 clear hcs hpj hrow hneed h hr hpv hq hnd hN hNo hNf hP y0 y1 y2 y3 hb
 go_enter Tryz.func95,Tryz.ntmps95
 go_upto_region 3 with fail
 have k1:=aA.alloc w (.cells #[.pointer (some ⟨x.b,0,none⟩)] 146)
 have v1:=aE.new w 146 (.pointer (some ⟨x.b,0,none⟩))
 have z1:=aC w (.cells #[.pointer (some ⟨x.b,0,none⟩)] 146)
 generalize w.alloc (.cells #[.pointer (some ⟨x.b,0,none⟩)] 146)=A1 at k1 v1 z1 ⊢
 have k2:=aA.alloc A1 (.cells #[.int .i64 i] 3)
 have v2:=aE.new A1 3 (.int .i64 i)
 have z2:=aC A1 (.cells #[.int .i64 i] 3)
 generalize A1.alloc (.cells #[.int .i64 i] 3)=A2 at k2 v2 z2 ⊢
 have k3:=aA.alloc A2 (.cells #[.func (Fn.func 139) #[] #[.pointer (some ⟨w.heap.size+1+1,0,none⟩),.pointer (some ⟨w.heap.size,0,none⟩),.pointer (some ⟨w.heap.size+1,0,none⟩)]] 183)
 have v3:=aE.new A2 183 (.func (Fn.func 139) #[] #[.pointer (some ⟨w.heap.size+1+1,0,none⟩),.pointer (some ⟨w.heap.size,0,none⟩),.pointer (some ⟨w.heap.size+1,0,none⟩)])
 generalize A2.alloc (.cells #[.func (Fn.func 139) #[] #[.pointer (some ⟨w.heap.size+1+1,0,none⟩),.pointer (some ⟨w.heap.size,0,none⟩),.pointer (some ⟨w.heap.size+1,0,none⟩)]] 183)=W3 at k3 v3 ⊢
 rw [z1] at v2
 rw [z2,z1] at v3
 have K3:=hid ((k1.trans k2).trans k3)
 have HNO:=hid (show ∀ b,w.heap.size<=b->¬ x.own b from fun b hb ho=>by have:=(HD.out.lt ho).2;omega)
 have NV3:=hid (show NV x (w.heap.size+1+1) w.heap.size (w.heap.size+1) i W3 from ⟨v3,v1.keep (k2.trans k3) (by omega),v2.keep k3 (by omega),HNO.out _ (by omega),HNO.out _ (by omega),HNO.out _ (by omega)⟩)
 have HS:=hid (show W3.cell? ⟨w.heap.size+1+1,0,none⟩=some (.func (Fn.func 139) #[] #[.pointer (some ⟨w.heap.size+1+1,0,none⟩),.pointer (some ⟨w.heap.size,0,none⟩),.pointer (some ⟨w.heap.size+1,0,none⟩)])/\W3.cell? ⟨w.heap.size,0,none⟩=some (.pointer (some ⟨x.b,0,none⟩))/\W3.cell? ⟨w.heap.size+1,0,none⟩=some (.int .i64 i)/\W3.cell? ⟨x.b,3,none⟩=some (.slice (some ⟨pb,po,none⟩) ps.length pc)/\W3.cell? ⟨pb,po+i*14+4,none⟩=some (.int .i64 kd)/\W3.cell? ⟨pb,po+i*14+5,none⟩=some (.string a.n)/\W3.cell? ⟨pb,po+i*14+6,none⟩=some (.int .i64 a.op)/\W3.cell? ⟨pb,po+i*14+7,none⟩=some (.int .i64 a.v)/\W3.cell? ⟨pb,po+i*14+8,none⟩=some (.int .i64 a.sl)/\W3.cell? ⟨pb,po+i*14+9,none⟩=some (.string a.f)/\W3.cell? ⟨pb,po+i*14+10,none⟩=some (.bool a.on)/\W3.cell? ⟨pb,po+i*14+11,none⟩=some (.string fl)/\W3.cell? ⟨pb,po+i*14+12,none⟩=some (.bool nt)/\W3.cell? ⟨pb,po+i*14+13,none⟩=some (.slice kp kids.length kc) from ⟨NV3.out.h.facts.1,NV3.out.d.facts.1,NV3.out.p.facts.1,(K3.out.cell (p:=⟨x.b,3,none⟩) hbl).trans hb3,(K3.out.cell (p:=⟨pb,_,none⟩) hpl).trans y4,(K3.out.cell (p:=⟨pb,_,none⟩) hpl).trans y5,(K3.out.cell (p:=⟨pb,_,none⟩) hpl).trans y6,(K3.out.cell (p:=⟨pb,_,none⟩) hpl).trans y7,(K3.out.cell (p:=⟨pb,_,none⟩) hpl).trans y8,(K3.out.cell (p:=⟨pb,_,none⟩) hpl).trans y9,(K3.out.cell (p:=⟨pb,_,none⟩) hpl).trans y10,(K3.out.cell (p:=⟨pb,_,none⟩) hpl).trans y11,(K3.out.cell (p:=⟨pb,_,none⟩) hpl).trans y12,(K3.out.cell (p:=⟨pb,_,none⟩) hpl).trans y13⟩)
 have HSd:=hid (show W3.drew.cell? ⟨w.heap.size+1+1,0,none⟩=some (.func (Fn.func 139) #[] #[.pointer (some ⟨w.heap.size+1+1,0,none⟩),.pointer (some ⟨w.heap.size,0,none⟩),.pointer (some ⟨w.heap.size+1,0,none⟩)])/\W3.drew.cell? ⟨w.heap.size,0,none⟩=some (.pointer (some ⟨x.b,0,none⟩))/\W3.drew.cell? ⟨w.heap.size+1,0,none⟩=some (.int .i64 i)/\W3.drew.cell? ⟨x.b,3,none⟩=some (.slice (some ⟨pb,po,none⟩) ps.length pc)/\W3.drew.cell? ⟨pb,po+i*14+4,none⟩=some (.int .i64 kd)/\W3.drew.cell? ⟨pb,po+i*14+5,none⟩=some (.string a.n)/\W3.drew.cell? ⟨pb,po+i*14+6,none⟩=some (.int .i64 a.op)/\W3.drew.cell? ⟨pb,po+i*14+7,none⟩=some (.int .i64 a.v)/\W3.drew.cell? ⟨pb,po+i*14+8,none⟩=some (.int .i64 a.sl)/\W3.drew.cell? ⟨pb,po+i*14+9,none⟩=some (.string a.f)/\W3.drew.cell? ⟨pb,po+i*14+10,none⟩=some (.bool a.on)/\W3.drew.cell? ⟨pb,po+i*14+11,none⟩=some (.string fl)/\W3.drew.cell? ⟨pb,po+i*14+12,none⟩=some (.bool nt)/\W3.drew.cell? ⟨pb,po+i*14+13,none⟩=some (.slice kp kids.length kc) from HS.out)
 have hbl3:x.b<W3.heap.size:=Nat.lt_of_lt_of_le hbl K3.out.size
 have hpl3:pb<W3.heap.size:=Nat.lt_of_lt_of_le hpl K3.out.size
 have hv3:=NV3.out.h.facts.2.2
 have HCN:=hid (show ∀ W,aA W3 W->Calls Tryz.prog 139 #[.agg #[.int .i64 kd,.string a.n,.int .i64 a.op,.int .i64 a.v,.int .i64 a.sl,.string a.f,.bool a.on,.string fl,.bool nt,.slice kp kids.length kc],.pointer (some ⟨w.heap.size+1+1,0,none⟩),.pointer (some ⟨w.heap.size,0,none⟩),.pointer (some ⟨w.heap.size+1,0,none⟩)] W fun e w'=>e=.returned (.int .i64 (ndS ps (aB ps wi) i t s).2)/\(∃ v k cc,Cn.DM (x.to v k cc) L (ndS ps (aB ps wi) i t s).1 w'/\Cn.aF x.own (x.to v k cc).own w w')/\(w'.cell? ⟨w.heap.size+1+1,0,none⟩=some (.func (Fn.func 139) #[] #[.pointer (some ⟨w.heap.size+1+1,0,none⟩),.pointer (some ⟨w.heap.size,0,none⟩),.pointer (some ⟨w.heap.size+1,0,none⟩)])/\w'.cell? ⟨w.heap.size,0,none⟩=some (.pointer (some ⟨x.b,0,none⟩))/\w'.cell? ⟨w.heap.size+1,0,none⟩=some (.int .i64 i)/\w'.cell? ⟨x.b,3,none⟩=some (.slice (some ⟨pb,po,none⟩) ps.length pc)/\w'.cell? ⟨pb,po+i*14+4,none⟩=some (.int .i64 kd)/\w'.cell? ⟨pb,po+i*14+5,none⟩=some (.string a.n)/\w'.cell? ⟨pb,po+i*14+6,none⟩=some (.int .i64 a.op)/\w'.cell? ⟨pb,po+i*14+7,none⟩=some (.int .i64 a.v)/\w'.cell? ⟨pb,po+i*14+8,none⟩=some (.int .i64 a.sl)/\w'.cell? ⟨pb,po+i*14+9,none⟩=some (.string a.f)/\w'.cell? ⟨pb,po+i*14+10,none⟩=some (.bool a.on)/\w'.cell? ⟨pb,po+i*14+11,none⟩=some (.string fl)/\w'.cell? ⟨pb,po+i*14+12,none⟩=some (.bool nt)/\w'.cell? ⟨pb,po+i*14+13,none⟩=some (.slice kp kids.length kc)) from fun W kW=>by
  have hk:aA w W:=K3.out.trans kW
  refine (HALL.out _ _ _ x s _ m c W (HD.out.keep hk) (HR.out.keep HLL.out hk) (NV3.out.keep kW) (HNE.out.keep (B:=L) (fun _ h=>h) (qG HLL.out hk)) HB.out hm (by omega) (by omega)).mono ?_
  rintro e w' ⟨rfl,v,k,cc,d,t'⟩
  have TW:Cn.aF x.own (x.to v k cc).own w w':=(Cn.aF.keep hk).trans t'
  have T3:Cn.aF x.own (x.to v k cc).own W3 w':=(Cn.aF.keep kW).trans t'
  have N:=NV3.out.turn T3
  have hlow:=lC HD.out TW
  have hcp : ∀ o,w'.cell? ⟨pb,o,none⟩=w.cell? ⟨pb,o,none⟩:=fun o=>hlow.cell (p:=⟨pb,o,none⟩) hpb
  have e3:w'.cell? ⟨x.b,3,none⟩=some (.slice (some ⟨pb,po,none⟩) ps.length pc):=(d.cell 3).trans ((HD.out.cell 3).symm.trans hb3)
  exact ⟨rfl,⟨v,k,cc,d,TW⟩,N.h.facts.1,N.d.facts.1,N.p.facts.1,e3,(hcp _).trans y4,(hcp _).trans y5,(hcp _).trans y6,(hcp _).trans y7,(hcp _).trans y8,(hcp _).trans y9,(hcp _).trans y10,(hcp _).trans y11,(hcp _).trans y12,(hcp _).trans y13⟩)
 clear k1 v1 z1 k2 v2 z2 k3 v3 y4 y5 y6 y7 y8 y9 y10 y11 y12 y13 hb3
 go_region_held3 (fun W'=>W'.cell? ⟨w.heap.size+1+1,0,none⟩=some (.func (Fn.func 139) #[] #[.pointer (some ⟨w.heap.size+1+1,0,none⟩),.pointer (some ⟨w.heap.size,0,none⟩),.pointer (some ⟨w.heap.size+1,0,none⟩)])/\W'.cell? ⟨w.heap.size,0,none⟩=some (.pointer (some ⟨x.b,0,none⟩))/\W'.cell? ⟨w.heap.size+1,0,none⟩=some (.int .i64 i)/\W'.cell? ⟨x.b,3,none⟩=some (.slice (some ⟨pb,po,none⟩) ps.length pc)/\W'.cell? ⟨pb,po+i*14+4,none⟩=some (.int .i64 kd)/\W'.cell? ⟨pb,po+i*14+5,none⟩=some (.string a.n)/\W'.cell? ⟨pb,po+i*14+6,none⟩=some (.int .i64 a.op)/\W'.cell? ⟨pb,po+i*14+7,none⟩=some (.int .i64 a.v)/\W'.cell? ⟨pb,po+i*14+8,none⟩=some (.int .i64 a.sl)/\W'.cell? ⟨pb,po+i*14+9,none⟩=some (.string a.f)/\W'.cell? ⟨pb,po+i*14+10,none⟩=some (.bool a.on)/\W'.cell? ⟨pb,po+i*14+11,none⟩=some (.string fl)/\W'.cell? ⟨pb,po+i*14+12,none⟩=some (.bool nt)/\W'.cell? ⟨pb,po+i*14+13,none⟩=some (.slice kp kids.length kc))
  (first | with_reducible exact HS.out | with_reducible exact HSd.out | with_reducible exact HS8.out | go_keep)
  (first | (go_at_call 139;refine (HCN.out _ (aA.drew (aA.refl _))).mono ?_;rintro e w8 ⟨rfl,hd8,hs8⟩;have D8:=hid hd8;have HS8:=hid hs8;clear hd8 hs8))
 go_wp2_with fail
 go_ret
 exact ⟨rfl,D8.out⟩
theorem lX {α:Type} (F:α->Nat->α) (a:α) (j:Nat):(List.range (j+1)).foldl F a=F ((List.range j).foldl F a) j:=by rw [List.range_succ,List.foldl_append];rfl
theorem aMc {ps:List PK} {ct:Cn.CT} {i:Nat} {s:Cn.DS} {m c:Nat} (h:Cn.Bd s m c) : ∀ j,Cn.Bd ((List.range j).foldl (slS ps ct i) s) m (c+j)
 | 0=>h
 | j+1=>by
  rw [lX]
  have:=aMc (ps:=ps) (ct:=ct) (i:=i) h j
  unfold slS
  split
  ·exact (this.clause _).mono (Nat.le_refl _) (by omega)
  ·exact this.mono (Nat.le_refl _) (by omega)
theorem aKq (ps:List PK) (wi:WI) (x:Cn.DD) (L:Nat) (s:Cn.DS) (i:Nat) (w:World) (m c:Nat) (h8:ps.length<=8) (hok:(aB ps wi).Ok) (hm14:(aB ps wi).many<=14) (hi:i<ps.length) (h:Cn.DM x L s w) (hr:DR ps wi x L w) (hb:Cn.Bd s m c) (hc2:c<=300000) :
  Calls Tryz.prog 96 #[.pointer (some ⟨x.b,0,none⟩),.int .i64 i] w fun e w'=>e=.returned (.tuple #[])/\∃ v cc,Cn.DM (x.to v x.np cc) L ((List.range i).foldl (slS ps (aB ps wi) i) s) w'/\Cn.aF x.own (x.to v x.np cc).own w w':=by
 have HD:=hid h
 have HR:=hid hr
 have HLL:=hid h.L
 have HB:=hid hb
 obtain ⟨pb,po,pc,hpv,hpb,-,hrow⟩:=hr.pk.get hi
 obtain ⟨cs,hcs,hpj⟩:=hrow i hi
 obtain ⟨kd,a,fl,nt,kids,kp,fp,kc,fc,-,hflb,rfl,-,-⟩:=hpj.spelt
 obtain ⟨y0,y1,y2,y3,y4,y5,y6,y7,y8,y9,y10,y11,y12,y13⟩:=eO hcs
 have hq:ps.getD i PK.zero=ps[i]:=fD ps i hi
 have hcap:ps.length<=pc:=hr.cap _ _ _ hpv
 have hb3:w.cell? ⟨x.b,3,none⟩=some (.slice (some ⟨pb,po,none⟩) ps.length pc):=(h.cell 3).trans (congrArg some hpv)
 have hbl:=h.box.facts.2.2
 have hpl:pb<w.heap.size:=Nat.lt_of_lt_of_le hpb h.L
 have hiI:(i:Int)<(ps.length:Int):=by omega
 have hicap:(i:Int)<=(pc:Int):=by omega
 have HROW:=hid hrow
 have HPV:=hid hpv
 have HQ:=hid hq
 obtain ⟨q,hqe⟩ : ∃ q,q=ps[i]:=⟨_,rfl⟩
 rw [← hqe] at y0 y1 y2 y3 hflb HQ
 clear hcs hpj hrow h hr hb hpv hq hqe
 go_enter Tryz.func96,Tryz.ntmps96
 go_upto_region 1 with fail
 refine bF (fun W'=>aA w W'/\aN w.heap.size #[.string q.n,.int .i64 q.v,.int .i64 q.sl,.slice fp q.fl.length fc,.int .i64 kd,.string a.n,.int .i64 a.op,.int .i64 a.v,.int .i64 a.sl,.string a.f,.bool a.on,.string fl,.bool nt,.slice kp kids.length kc] W') ⟨aA.alloc _ _,aN.new _ _ _⟩ ?_
 rintro W0 ⟨k0,b0⟩
 have K0:=hid k0
 have D0:=hid (HD.out.keep k0)
 have hn0:W0.cell? ⟨w.heap.size,0,none⟩=some (.string q.n):=b0.2 0
 have hn2:W0.cell? ⟨w.heap.size,2,none⟩=some (.int .i64 q.sl):=b0.2 2
 have hnl:=b0.1
 have hb3:W0.cell? ⟨x.b,3,none⟩=some (.slice (some ⟨pb,po,none⟩) ps.length pc):=(k0.cell (p:=⟨x.b,3,none⟩) hbl).trans hb3
 have hbl0:x.b<W0.heap.size:=Nat.lt_of_lt_of_le hbl k0.size
 have HNO:=hid (show ∀ b,w.heap.size<=b->¬ x.own b from fun b hb ho=>by have:=(HD.out.lt ho).2;omega)
 obtain ⟨bn,hbn⟩ : ∃ bn,bn=w.heap.size:=⟨_,rfl⟩
 rw [← hbn] at HNO hn0 hn2 hnl ⊢
 clear k0 b0 hbn y0 y1 y2 y3 y4 y5 y6 y7 y8 y9 y10 y11 y12 y13
 have HLOW:=hid (show ∀ (v:Value) (cc:Nat->Prop) (W:World),Cn.aF x.own (x.to v x.np cc).own W0 W->Below L w W from fun v cc W t=>(qG HLL.out K0.out).trans (lC D0.out t))
 go_wp2_with fail
 go_loopg [23] i (fun gk iv wr=> ∃ (j:Nat) (v:Value) (cc:Nat->Prop),j+gk=i/\iv=.int .i64 j/\Cn.DM (x.to v x.np cc) L ((List.range j).foldl (slS ps (aB ps wi) i) s) wr/\Cn.aF x.own (x.to v x.np cc).own W0 wr)
 case atStart=>exact ⟨0,x.cv,x.cs,by omega,rfl,D0.out,Cn.aF.refl _ _⟩
 case round=>
  obtain ⟨j,v,cc,hj,rfl,hd,ht⟩:=hrel
  have D2:=hid hd
  have T2:=hid ht
  have R2:=hid ((HR.out.keep HLL.out K0.out).turn D0.out ht)
  have BL:=hid (HLOW.out v cc wr ht)
  clear hd ht D0 hb3
  have hn0r:wr.cell? ⟨bn,0,none⟩=some (.string q.n):=(T2.out.cell ⟨bn,0,none⟩ hnl (HNO.out _ (Nat.le_refl _))).trans hn0
  have hn2r:wr.cell? ⟨bn,2,none⟩=some (.int .i64 q.sl):=(T2.out.cell ⟨bn,2,none⟩ hnl (HNO.out _ (Nat.le_refl _))).trans hn2
  have hnlr:bn<wr.heap.size:=Nat.lt_of_lt_of_le hnl T2.out.size
  by_cases hlt:j<i
  ·obtain ⟨cs2,hcs2,hpj2⟩:=HROW.out j (by omega)
   obtain ⟨kd2,a2,fl2,nt2,kids2,kp2,fp2,kc2,fc2,-,hflb2,rfl,-,-⟩:=hpj2.spelt
   have hcs3:=fun m v hv=>(BL.out.cell (p:=⟨pb,po+j*14+m,none⟩) hpb).trans (hcs2 m v hv)
   obtain ⟨y0,y1,y2,y3,y4,y5,y6,y7,y8,y9,y10,y11,y12,y13⟩:=eO hcs3
   have hplr:pb<wr.heap.size:=by have:=HLL.out;have:=BL.out.size;omega
   have hjI:(j:Int)<(i:Int):=by omega
   have HAL:=hid (show pM ps j i=((ps[j].n.toList==q.n.toList)&&(ps[j].sl==q.sl)) by unfold pM;rw [HQ.out,fD ps j (by omega)])
   have HNX:=hid (lX (slS ps (aB ps wi) i) s j)
   have hbd:=aMc (ps:=ps) (ct:=aB ps wi) (i:=i) HB.out j
   generalize ps[j]=r at y0 y1 y2 y3 HAL hflb2
   generalize (List.range j).foldl (slS ps (aB ps wi) i) s=s2 at D2 HNX hbd ⊢
   have HSL:=hid (show slS ps (aB ps wi) i s2 j=if pM ps j i=true then s2.clause [-(aB ps wi).tkL j,-(aB ps wi).tkL i] else s2 from rfl)
   clear hcs2 hcs3 hpj2
   go_upto_region 4 with fail
   refine bF (fun W'=>aA wr W'/\aN wr.heap.size #[.string r.n,.int .i64 r.v,.int .i64 r.sl,.slice fp2 r.fl.length fc2,.int .i64 kd2,.string a2.n,.int .i64 a2.op,.int .i64 a2.v,.int .i64 a2.sl,.string a2.f,.bool a2.on,.string fl2,.bool nt2,.slice kp2 kids2.length kc2] W') ⟨aA.alloc _ _,aN.new _ _ _⟩ ?_
   rintro W5 ⟨k5,b5⟩
   have D5:=hid (D2.out.keep k5)
   have T5:=hid (T2.out.trans (Cn.aF.keep k5))
   have R5:=hid (R2.out.keep (by have:=HLL.out;have:=BL.out.size;omega) k5)
   have hm0:W5.cell? ⟨wr.heap.size,0,none⟩=some (.string r.n):=b5.2 0
   have hm2:W5.cell? ⟨wr.heap.size,2,none⟩=some (.int .i64 r.sl):=b5.2 2
   have hml:=b5.1
   have hn0r:W5.cell? ⟨bn,0,none⟩=some (.string q.n):=(k5.cell (p:=⟨bn,0,none⟩) hnlr).trans hn0r
   have hn2r:W5.cell? ⟨bn,2,none⟩=some (.int .i64 q.sl):=(k5.cell (p:=⟨bn,2,none⟩) hnlr).trans hn2r
   have hnlr:bn<W5.heap.size:=Nat.lt_of_lt_of_le hnlr k5.size
   obtain ⟨bm,hbm⟩ : ∃ bm,bm=wr.heap.size:=⟨_,rfl⟩
   rw [← hbm] at hm0 hm2 hml ⊢
   clear k5 b5 hbm y0 y1 y2 y3 y4 y5 y6 y7 y8 y9 y10 y11 y12 y13 hplr
   cases e1:(r.n.toList==q.n.toList)
   ·have HN:=hid (HNX.out.trans (HSL.out.trans (if_neg (by rw [HAL.out,e1];simp))))
    go_wp2_with fail
    go_roundg (i-(j+1))
    case rel=>exact ⟨j+1,v,cc,by omega,by go_num,by rw [HN.out];exact D5.out,T5.out⟩
    case measure=>omega
   ·cases e2:(r.sl==q.sl)
    ·have HN:=hid (HNX.out.trans (HSL.out.trans (if_neg (by rw [HAL.out,e1,e2];decide))))
     go_wp2_with fail
     go_roundg (i-(j+1))
     case rel=>exact ⟨j+1,v,cc,by omega,by go_num,by rw [HN.out];exact D5.out,T5.out⟩
     case measure=>omega
    ·have HN:=hid (HNX.out.trans (HSL.out.trans (if_pos (by rw [HAL.out,e1,e2];rfl))))
     have hb1c:W5.cell? ⟨x.b,1,none⟩=some x.tv:=D5.out.cell 1
     have hbl5:x.b<W5.heap.size:=D5.out.box.facts.2.2
     have hnl2:=cB ps wi
     have htl:=Cn.CT.tks_len (aB ps wi)
     obtain ⟨tp,tc,htv,-⟩:=R5.out.tk.shape
     have htv2:x.tv=.slice tp (aB ps wi).tks.length tc:=htv
     obtain ⟨tb,tof,htp,htb,htc⟩:=(htv ▸ R5.out.tk:Cn.aH _ W5 (aB ps wi).tks (.slice tp (aB ps wi).tks.length tc)).nth (k:=i) (by omega)
     subst htp
     have htj:=htc j _ (Cn.CT.tks_get (aB ps wi) (i:=j) (by omega))
     have hti:=htc i _ (Cn.CT.tks_get (aB ps wi) (i:=i) (by omega))
     rw [htv2,htl,hnl2] at hb1c
     have htbn : ¬ (x.to v x.np cc).own tb:=(R5.out.ro tb htb).2
     have htbl:tb<W5.heap.size:=(R5.out.ro tb htb).1
     have hmj:((aB ps wi).tkL j).natAbs<=1000:=by have:=(Cn.CT.tk_lit hok (i:=j) (by omega)).2;omega
     have hmi:((aB ps wi).tkL i).natAbs<=1000:=by have:=(Cn.CT.tk_lit hok (i:=i) (by omega)).2;omega
     clear htc hnl2 htl htv htv2
     generalize (aB ps wi).tkL j=tj at htj hmj HN
     generalize (aB ps wi).tkL i=ti at hti hmi HN
     have hwj:IntKind.i64.wrap (-tj) = -tj:=cJ (by omega)
     have hwi:IntKind.i64.wrap (-ti) = -ti:=cJ (by omega)
     have hjI2:(j:Int)<(ps.length:Int):=by omega
     have HS:=hid (show W5.cell? ⟨x.b,1,none⟩=some (.slice (some ⟨tb,tof,none⟩) ps.length tc)/\W5.cell? ⟨tb,tof+j,none⟩=some (.int .i64 tj)/\W5.cell? ⟨tb,tof+i,none⟩=some (.int .i64 ti) from ⟨hb1c,htj,hti⟩)
     have HSd:=hid (show W5.drew.cell? ⟨x.b,1,none⟩=some (.slice (some ⟨tb,tof,none⟩) ps.length tc)/\W5.drew.cell? ⟨tb,tof+j,none⟩=some (.int .i64 tj)/\W5.drew.cell? ⟨tb,tof+i,none⟩=some (.int .i64 ti) from ⟨hb1c,htj,hti⟩)
     have HSa:=hid (show (W5.drew.alloc (.cells #[.int .i64 (-tj),.int .i64 (-ti)] 3)).cell? ⟨x.b,1,none⟩=some (.slice (some ⟨tb,tof,none⟩) ps.length tc)/\(W5.drew.alloc (.cells #[.int .i64 (-tj),.int .i64 (-ti)] 3)).cell? ⟨tb,tof+j,none⟩=some (.int .i64 tj)/\(W5.drew.alloc (.cells #[.int .i64 (-tj),.int .i64 (-ti)] 3)).cell? ⟨tb,tof+i,none⟩=some (.int .i64 ti) from ⟨((aA.alloc _ _).cell (p:=⟨x.b,1,none⟩) hbl5).trans hb1c,((aA.alloc _ _).cell (p:=⟨tb,tof+j,none⟩) htbl).trans htj,((aA.alloc _ _).cell (p:=⟨tb,tof+i,none⟩) htbl).trans hti⟩)
     have HCC:=hid (show Calls Tryz.prog 93 #[.pointer (some ⟨x.b,0,none⟩),.slice (some ⟨W5.heap.size,0,none⟩) 2 2] (W5.drew.alloc (.cells #[.int .i64 (-tj),.int .i64 (-ti)] 3)) fun e w'=>e=.returned (.tuple #[])/\∃ v4 c4,Cn.DM (x.to v4 x.np c4) L (s2.clause [-tj,-ti]) w'/\Cn.aF x.own (x.to v4 x.np c4).own W0 w'/\(w'.cell? ⟨x.b,1,none⟩=some (.slice (some ⟨tb,tof,none⟩) ps.length tc)/\w'.cell? ⟨tb,tof+j,none⟩=some (.int .i64 tj)/\w'.cell? ⟨tb,tof+i,none⟩=some (.int .i64 ti)) from by
      have ka:aA W5 (W5.drew.alloc (.cells #[.int .i64 (-tj),.int .i64 (-ti)] 3)):=(aA.drew (aA.refl W5)).alloc' _
      refine (Cn.fG (x.to v x.np cc) L s2 (fun b=>b=W5.heap.size) [-tj,-ti] _ 2 2 _ rfl (D5.out.keep ka) (fun b hb=>by subst hb;rw [aC];exact Nat.lt_succ_self _) (Cn.nI W5.drew _ _) (by simp) (by have:=hbd.2.1;omega)).mono ?_
      rintro e w' ⟨rfl,v4,c4,d4,t4⟩
      have TR:Cn.aF (x.to v x.np cc).own (x.to v4 x.np c4).own W5 w':=(Cn.aF.keep ka).trans t4
      have hlt : ∀ o,w'.cell? ⟨tb,o,none⟩=W5.cell? ⟨tb,o,none⟩:=fun o=>TR.cell ⟨tb,o,none⟩ htbl htbn
      exact ⟨rfl,v4,c4,d4,T5.out.trans TR,(d4.cell 1).trans ((D5.out.cell 1).symm.trans hb1c),(hlt _).trans htj,(hlt _).trans hti⟩)
     go_upto_region 5 with fail
     go_region_held3 (fun W'=>W'.cell? ⟨x.b,1,none⟩=some (.slice (some ⟨tb,tof,none⟩) ps.length tc)/\W'.cell? ⟨tb,tof+j,none⟩=some (.int .i64 tj)/\W'.cell? ⟨tb,tof+i,none⟩=some (.int .i64 ti))
      (first | with_reducible exact HS.out | with_reducible exact HSd.out | with_reducible exact HSa.out | with_reducible exact HS8.out | go_keep)
      (first | (go_at_call 93;refine HCC.out.mono ?_;rintro e w8 ⟨rfl,v4,c4,d4,t4,s4⟩;have D8:=hid d4;have T8:=hid t4;have HS8:=hid s4;clear d4 t4 s4))
     go_wp2_with fail
     go_roundg (i-(j+1))
     case rel=>exact ⟨j+1,v4,c4,by omega,by go_num,by rw [HN.out];exact D8.out,T8.out⟩
     case measure=>omega
  ·obtain rfl:j=i:=by omega
   go_wp2_with fail
   refine bodyPost_end (results_none rfl _ _ _) rfl ?_
   exact ⟨rfl,v,cc,D2.out,(Cn.aF.keep K0.out).trans T2.out⟩
end Go.Proofs.YthaaaecmeafofaaGreatDoor
