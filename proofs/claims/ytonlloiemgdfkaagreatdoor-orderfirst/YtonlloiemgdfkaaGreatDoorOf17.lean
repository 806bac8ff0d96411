/- Steps of the proof: OrdPlan, OrdFirstP, OrdMapI, OrdSame, ValidValid, ValidSmall, ValidAllowed, OrdClosed. -/
import Derived.Test.YtonlloiemgdfkaaGreatDoorOf16
import Derived.Test.YtonlloiemgdfkaaGreatDoorOf13
import Derived.Test.YtonlloiemgdfkaaGreatDoorOf15
import Derived.Test.YtonlloiemgdfkaaGreatDoorOf14
import Derived.Test.YtonlloiemgdfkaaGreatDoorOf10
import Derived.Test.YtonlloiemgdfkaaGreatDoorOf11
import Derived.BigRegion
set_option maxHeartbeats 16000000
set_option maxRecDepth 100000
namespace Go.Proofs.YtonlloiemgdfkaaGreatDoor
open Go.RowKit Go.Sort Go.Lib
theorem aBu {ps:List PK} {ms:List MB} {C:List (List Bool)} (hq:SqB C ms.length) (h : ∀ k i,k<ms.length->(bF C k i=true↔Rch (bX ps ms) k i)):bF C=fW ps ms:=by
 funext k i
 by_cases hk:k<ms.length
 ·rw [Bool.eq_iff_iff,h k i hk,gM]
 ·have h1:bF C k i=false:=by
   unfold bF
   rw [show C.getD k [] = [] by rw [List.getD_eq_getElem?_getD,List.getElem?_eq_none (by rw [hq.1];omega)];rfl]
   rfl
  have h2:fW ps ms k i=false:=by
   cases hc:fW ps ms k i with
   | false=>rfl
   | true=>
    have hr:=gM.1 hc
    have : ∃ j,j∈bX ps ms k:=by cases hr with
     | one h=>exact ⟨_,h⟩
     | more h _=>exact ⟨_,h⟩
    obtain ⟨j,hj⟩:=this
    exact absurd (iQ.1 hj).1 hk
  rw [h1,h2]
def fG (ps:List PK) (th ms:List MB):Int:=if bA ps ms≠0 then bA ps ms else bA ps th
noncomputable def fI (ps:List PK) (th ms:List MB) (j:Nat):List AC:=((goP ps th ms).take j).map fun k=>⟨false,ms.getD k MB.zero,(eP ps th ms).getD k 0⟩
theorem wF {ps:List PK} {th ms:List MB} {j:Nat} (h:j<(goP ps th ms).length):fI ps th ms (j+1)=fI ps th ms j ++ [⟨false,ms.getD (goP ps th ms)[j] MB.zero,(eP ps th ms).getD (goP ps th ms)[j] 0⟩]:=by
 unfold fI
 rw [List.take_succ_eq_append_getElem h,List.map_append];rfl
theorem yU (ps:List PK) (th ms:List MB) (j:Nat):(fI ps th ms j).length<=j:=by
 unfold fI;rw [List.length_map];exact List.length_take_le _ _
theorem mC (ps:List PK) (th ms:List MB):cU ps th ms th.length++fI ps th ms (goP ps th ms).length=bH ps th ms:=by
 unfold cU fI bH
 rw [List.take_length,List.take_length]
theorem lX (ps:List PK) (th ms:List MB):(goP ps th ms).length<=ms.length:=by
 have h1 : ∀ x∈goP ps th ms,x∈List.range ms.length:=fun x hx=>List.mem_range.2 (fU.1 hx).1
 have:=List.Nodup.length_le_of_subset (gE ps th ms) h1
 simpa using this
def xR (ps:List PK) (th ms:List MB) (w:World) (e:Ending) (w':World):Prop:=aA w w'/\((fG ps th ms≠0/\e=.returned (.tuple #[.slice none 0 0,.int .i64 (fG ps th ms)]))∨(fG ps th ms=0/\∃ v,e=.returned (.tuple #[v,.int .i64 0])/\cP (fun b=>w.heap.size<=b/\b<w'.heap.size) w' (bH ps th ms) v))
theorem sK (S:Nat->Prop) (ps:List PK) (th ms:List MB) (tv hv lv:Value) (w:World) (hS : ∀ b,S b->b<w.heap.size) (hp:aY S w ps tv) (ht:cC S w th hv) (hm:cC S w ms lv) :
  Calls Tryz.prog 30 #[.agg #[tv],hv,lv] w (xR ps th ms w):=by
 have HP:=hid hp
 have HT:=hid ht
 have HM:=hid hm
 obtain ⟨tp,tc,rfl,hlen⟩:=hp.len
 obtain ⟨hp',hc',rfl,hhl⟩:=ht.len
 obtain ⟨lp,lc,rfl,hll⟩:=hm.len
 obtain ⟨i0,hi,hz0,hz1,hz2⟩:=info_parts vC
 clear hp ht hm
 go_enter Tryz.func30,Tryz.ntmps30
 go_upto_region 1 with fail
 refine bI (fun W'=>aA w W'/\aC w.heap.size 24 (.slice tp ps.length tc) W') ⟨aA.alloc _ _,aC.new _ _ _⟩ ?_
 rintro W0 ⟨k0,v0⟩
 have K0:=hid k0
 have V0:=hid v0
 obtain ⟨g0,-,l0⟩:=v0.facts
 clear k0 v0
 generalize hct:w.heap.size=ct at V0 g0 l0 ⊢
 have HCT:=hid hct
 clear hct
 go_wp2_with fail
 refine (pD S ps ms _ _ W0 (fun b hb=>Nat.lt_of_lt_of_le (hS b hb) K0.out.size) (HP.out.keep hS K0.out) (HM.out.keep hS K0.out)).mono ?_
 rintro e W1 ⟨k1,hd⟩
 have K1:=hid (K0.out.trans k1)
 have V1:=hid (V0.out.keep k1 V0.out.facts.2.2)
 have HW01:Hid (W0.heap.size<=W1.heap.size):=k1.size
 clear k1 g0 l0 V0
 rcases hd with ⟨hz,rfl⟩ | ⟨hz,v1,rfl,hr1⟩
 ·have hc1:(bA ps ms != 0)=true:=by simp [hz]
  have HE:Hid (fG ps th ms=bA ps ms):=by show _=_;unfold fG;rw [if_pos hz]
  have HZ:=hid hz
  generalize bA ps ms=cz at hc1 HE HZ ⊢
  clear hz
  go_wp2_with fail
  refine bodyPost_ret (v:= .tuple #[.slice none 0 0,.int .i64 cz]) ?_ rfl ?_
  ·simp [results,Tryz.results30,go_sem]
  ·exact ⟨K1.out,.inl ⟨by rw [HE.out];exact HZ.out,by rw [HE.out]⟩⟩
 ·obtain ⟨rp,rc,hrv,-⟩:=hr1.len
  subst hrv
  rw [dI]
  have R1:=hid hr1
  rw [dI] at R1
  have HPE:Hid (fG ps th ms=bA ps th):=by show _=_;unfold fG;rw [if_neg (by simp [hz])]
  obtain ⟨-,-,-,-,h8,hok⟩:=dL hz
  have HOK:=hid hok
  have HZ:=hid hz
  obtain ⟨g0,-,l0⟩:=V1.out.facts
  clear hz hr1 hok
  go_wp2_with fail
  refine (jO S ps th _ _ W1 (fun b hb=>Nat.lt_of_lt_of_le (hS b hb) K1.out.size) (HP.out.keep hS K1.out) (HT.out.keep hS K1.out)).mono ?_
  rintro e W2 ⟨rfl,k2⟩
  have K2:=hid (K1.out.trans k2)
  have V2:=hid (V1.out.keep k2 V1.out.facts.2.2)
  have R2:=hid (R1.out.mono (S':=fun b=>b<W2.heap.size) (fun p hp=>k2.cell (p:=p) hp.2) fun b hb=>Nat.lt_of_lt_of_le hb.2 k2.size)
  clear k2 g0 l0 V1 R1
  by_cases hzt:bA ps th=0
  ·obtain ⟨-,hfl2,-,-,h8t,hokt⟩:=dL hzt
   have HOKT:=hid hokt
   have HPZ:Hid (fG ps th ms=0):=HPE.out.trans hzt
   have HONT:Hid (∀ m∈th,m.on.length<=1000):=fun m hm=>by
    obtain ⟨i,hi⟩:=List.mem_iff_getElem?.1 hm
    obtain ⟨x1,x2,x3⟩:=hokt i m hi
    rw [x3]
    have hq:m.pl.toNat<ps.length:=by omega
    have:dZ ps m∈ps:=by unfold dZ;rw [gO ps _ hq];exact List.getElem_mem hq
    have:=hfl2 _ this
    omega
   have HONM:Hid (∀ m∈ms,m.on.length<=1000):=fun m hm=>by
    obtain ⟨i,hi⟩:=List.mem_iff_getElem?.1 hm
    obtain ⟨x1,x2,x3⟩:=HOK.out i m hi
    rw [x3]
    have hq:m.pl.toNat<ps.length:=by omega
    have:dZ ps m∈ps:=by unfold dZ;rw [gO ps _ hq];exact List.getElem_mem hq
    have:=hfl2 _ this
    omega
   rw [hzt]
   clear hzt hokt hfl2
   go_wp2_with fail
   refine (tI (fun b=>b<W2.heap.size) (bX ps ms) (jT ps ms) _ ms.length W2 (fun _ h=>h) (by omega) (dI ps ms) (fun i hi=>kQ hi) (fun i j hj=>(iQ.1 hj).2.1) R2.out).mono ?_
   rintro e W3 ⟨cv,C,rfl,hcr,hsq,hci,k3⟩
   have HCE:=hid (aBu hsq hci)
   have HSQ:=hid hsq
   obtain ⟨cp,ccap,hcv,-⟩:=hcr.len
   subst hcv
   have C3:=hid (hcr.mono (S':=fun b=>b<W3.heap.size) (fun _ _=>rfl) fun b hb=>hb.2)
   have K3:=hid (K2.out.trans k3)
   have V3:=hid (V2.out.keep k3 V2.out.facts.2.2)
   clear k3 hcr hci V2 R2 hsq
   go_wp2_with fail
   refine (sA S th ms _ _ W3 (fun b hb=>Nat.lt_of_lt_of_le (hS b hb) K3.out.size) (HT.out.keep hS K3.out) (HM.out.keep hS K3.out) (by omega)).mono ?_
   rintro e W4 ⟨nv,rfl,hnv,k4⟩
   obtain ⟨np,ncap,hnvv,-⟩:=id hnv
   subst hnvv
   have N4:=hid (hnv.mono (S':=fun b=>b<W4.heap.size) (fun _ _=>rfl) fun b hb=>hb.2)
   have C4:=hid (C3.out.mono (S':=fun b=>b<W4.heap.size) (fun p hp=>k4.cell (p:=p) hp) fun b hb=>Nat.lt_of_lt_of_le hb k4.size)
   have K4:=hid (K3.out.trans k4)
   have V4:=hid (V3.out.keep k4 V3.out.facts.2.2)
   clear k4 hnv V3 C3
   go_wp2_with fail
   refine (uA (fun b=>b<W4.heap.size) C (oN th ms) ms.length _ _ W4 (fun _ h=>h) (by omega) N4.out (nM th ms) C4.out HSQ.out).mono ?_
   rintro e W5 ⟨liv,rfl,oli,k5⟩
   have e5:inL (bF C) (oN th ms)=goP ps th ms:=by rw [HCE.out];rfl
   rw [e5] at oli
   have O5:=hid oli
   obtain ⟨lip,lic,hliv,-⟩:=iF oli
   subst hliv
   rw [bK]
   rw [bK] at O5
   have hcap5:(goP ps th ms).length<=lic/\lic<=9223372036854775807:=by
    obtain ⟨-,⟨e,h0⟩ | ⟨g,cap,cur,e,-,-,h2,h3,-⟩⟩:=O5.out
    ·simp only [Value.slice.injEq] at e;rw [bK] at h0;omega
    ·simp only [Value.slice.injEq] at e;rw [bK] at h2;unfold maxLen at h3;omega
   have L5:=hid (show dP (fun b=>b<W5.heap.size) W5 (bQ (goP ps th ms)) (.slice lip (goP ps th ms).length lic) from (iF O5.out).mono (fun _ _=>rfl) fun b hb=>hb.2)
   have C5:=hid (C4.out.mono (S':=fun b=>b<W5.heap.size) (fun p hp=>k5.cell (p:=p) hp) fun b hb=>Nat.lt_of_lt_of_le hb k5.size)
   have K5:=hid (K4.out.trans k5)
   have V5:=hid (V4.out.keep k5 V4.out.facts.2.2)
   clear k5 oli V4 C4 N4 e5
   go_wp2_with fail
   refine (uE (fun b=>b<W5.heap.size) C (goP ps th ms) ms.length _ _ _ W5 (fun _ h=>h) (by omega) L5.out hcap5.1 hcap5.2 C5.out HSQ.out (fun x hx=>(fU.1 hx).1) (lX ps th ms)).mono ?_
   rintro e W6 ⟨rfl,hcy,k6⟩
   have e6:wW (bF C) ms.length (goP ps th ms)=eP ps th ms:=by rw [HCE.out];rfl
   rw [e6] at hcy
   have CY6:=hid hcy
   have L6:=hid (L5.out.mono (S':=fun b=>b<W6.heap.size) (fun p hp=>k6.cell (p:=p) hp) fun b hb=>Nat.lt_of_lt_of_le hb k6.size)
   have K6:=hid (K5.out.trans k6)
   have V6:=hid (V5.out.keep k6 V5.out.facts.2.2)
   clear k6 hcy V5 C5 L5 e6 O5
   generalize W5.heap.size=cg at CY6 ⊢
   obtain ⟨g0,-,l0⟩:=V6.out.facts
   go_wp2_with fail
   refine (sU S ps th ms _ _ _ W6 (fun b hb=>Nat.lt_of_lt_of_le (hS b hb) K6.out.size) (HP.out.keep hS K6.out) (HT.out.keep hS K6.out) (HM.out.keep hS K6.out) HOKT.out HOK.out (by omega) HONT.out).mono ?_
   rintro e W7 ⟨av,rfl,har,k7,HSZ7⟩
   obtain ⟨ap,acap,hav⟩:=har.shape
   subst hav
   have A7:=hid har
   have K67:=hid k7
   have K7:=hid (K6.out.trans k7)
   have CY7:=hid (CY6.out.keep k7)
   have L7:=hid (L6.out.mono (S':=fun b=>b<W6.heap.size) (fun p hp=>k7.cell (p:=p) hp) fun b hb=>hb)
   clear k7 har g0 l0 V6
   have hgl:=lX ps th ms
   have HPL:=hid (mC ps th ms)
   have HOL:=hid (nO ps th ms th.length)
   have HBS:Hid (W6.heap.size+1<=W7.heap.size):=HSZ7
   have HAC:Hid (cU ps th ms th.length=cU ps th ms th.length++fI ps th ms 0):=by show _=_;unfold fI;simp
   have HB:Hid (w.heap.size<=W6.heap.size+1/\W6.heap.size<=W7.heap.size/\cg<W6.heap.size):=⟨by have:=K6.out.size;omega,K67.out.size,CY6.out.1.facts.2.2⟩
   rw [HAC.out] at A7
   rw [HAC.out]
   generalize cU ps th ms th.length=outs at A7 HOL HPL ⊢
   go_wp2_with fail
   go_loopg [48,14] (goP ps th ms).length (fun gk iv av wr=> ∃ j:Nat,j+gk=(goP ps th ms).length/\iv=.int .i64 j/\bP (W6.heap.size+1) av (outs++fI ps th ms j) wr/\Below (W6.heap.size+1) W7 wr)
   case atStart=>exact ⟨0,by omega,rfl,by have:=A7.out;rw [List.length_append] at this;exact this,Below.refl _ _⟩
   case round=>
    obtain ⟨j,hjg,rfl,har,hkb⟩:=hrel
    have AR:=hid har
    have KB:=hid hkb
    have KR:=hid (show aA w wr from Below.trans K7.out (hkb.mono HB.out.1))
    clear har hkb
    by_cases hlt:j<(goP ps th ms).length
    ·have hkm:=(fU.1 (List.getElem_mem hlt)).1
     have HSU:=hid (wF hlt)
     have hSr : ∀ b,S b->b<wr.heap.size:=fun b hb=>Nat.lt_of_lt_of_le (hS b hb) KR.out.size
     obtain ⟨p',c',e',-,h3⟩:=(L7.out.mono (S':=fun b=>b<W6.heap.size) (fun p hp=>KB.out.cell (p:=p) (by have:p.block<W6.heap.size:=hp;omega)) fun _ h=>h)
     rw [bK] at e' h3
     cases e'
     obtain ⟨lb,loff,rfl,hlb,hcell⟩:=h3 (by omega)
     have hcj:=hcell j _ (gD hlt)
     have hlbl:lb<wr.heap.size:=by have:=KB.out.size;have:=HB.out;omega
     clear h3 hcell
     generalize (goP ps th ms)[j]=k at hkm HSU hcj
     obtain ⟨mb,moff,mcap,hmv,hmS,-,hrow⟩:=(HM.out.keep hS KR.out).get hkm
     cases hmv
     obtain ⟨op,oc,hc0,hc1,hol,hbl⟩:=hrow k _ (List.getElem?_eq_getElem hkm)
     have ho1:=HONM.out _ (List.getElem_mem hkm)
     rw [dB ms k hkm] at HSU
     have HBL:=hid hbl
     generalize ms[k]=m at hc0 hc1 hol HBL HSU ho1
     rcases m with ⟨pl,on⟩
     simp only at hc0 hc1 hol HBL HSU ho1
     have hcy:=(jJ.cell ⟨CY7.out.1.keep KB.out (by have:=HB.out.2.2;omega),CY7.out.2⟩ hkm:wr.cell? ⟨cg,k,none⟩=_/\_)
     obtain ⟨y1,-,y3⟩:=hcy
     generalize (eP ps th ms).getD k 0=ck at HSU y1
     have hml:=hSr mb hmS
     have HS:=hid (show wr.cell? ⟨mb,moff+k*2,none⟩=some (.int .i64 pl)/\wr.cell? ⟨mb,moff+k*2+1,none⟩=some (.slice op on.length oc)/\wr.cell? ⟨cg,k,none⟩=some (.int .i64 ck) from ⟨hc0,hc1,y1⟩)
     have HSd:=hid (show wr.drew.cell? ⟨mb,moff+k*2,none⟩=some (.int .i64 pl)/\wr.drew.cell? ⟨mb,moff+k*2+1,none⟩=some (.slice op on.length oc)/\wr.drew.cell? ⟨cg,k,none⟩=some (.int .i64 ck) from ⟨hc0,hc1,y1⟩)
     have HCW:=hid (show ∀ W,aA wr W->Calls Tryz.prog 82 #[.agg #[.int .i64 pl,.slice op on.length oc]] W fun e w'=> ∃ v,e=.returned (.agg #[.int .i64 pl,v])/\aN (fun b=>W.heap.size<=b/\b<w'.heap.size) w' on v/\aA W w' from fun W kW=>pQ S ⟨pl,on⟩ op oc W (fun b hb=>Nat.lt_of_lt_of_le (hSr b hb) kW.size) (HBL.out.keep hSr kW) ho1)
     obtain ⟨xp,xc,hxv⟩:=AR.out.shape
     subst hxv
     have HIL:=hid (yU ps th ms j)
     have hol2:=HOL.out
     have hil2:=HIL.out
     have HAPP:Hid ((outs++fI ps th ms j).length=outs.length+(fI ps th ms j).length):=List.length_append
     have hacl:(outs++fI ps th ms j).length<=100:=by rw [HAPP.out];omega
     have HSU2:Hid (outs++fI ps th ms (j+1)=(outs++fI ps th ms j) ++ [⟨false,⟨pl,on⟩,ck⟩]):=by show _=_;rw [HSU.out,List.append_assoc]
     generalize outs++fI ps th ms j=acc at AR hacl HSU2 HAPP ⊢
     have HOW:=hid (show ∀ g,(Value.slice xp acc.length xc).ownBlock=some g->W6.heap.size+1<=g/\g<wr.heap.size from AR.out.own)
     clear hc0 hc1 y1 hrow hbl HSU
     have hwB:W6.heap.size+1<=wr.heap.size:=by have:=KB.out.size;have:=HBS.out;omega
     have HAP:=hid (show ∀ (w8 w6':World) (vp:Option Addr) (vc:Nat) (v5:Value) (o:Obj),aA wr w8->aN (fun b=>wr.heap.size<=b/\b<w8.heap.size) w8 on (.slice vp on.length vc)->(w8.cell? ⟨mb,moff+k*2,none⟩=some (.int .i64 pl)/\w8.cell? ⟨mb,moff+k*2+1,none⟩=some (.slice op on.length oc)/\w8.cell? ⟨cg,k,none⟩=some (.int .i64 ck))->∀ csl:List (List Value),csl.length=acc.length->(∀ cs∈csl,cs.length=4)->(∀ (i:Nat) t cs,acc[i]? = some t->csl[i]? = some cs->gZ (fun b=>W6.heap.size+1<=b/\b<w8.heap.size/\(Value.slice xp acc.length xc).ownBlock≠some b) w8 t cs)->w6'.ownsRow (W6.heap.size+1) 81 4 v5 (acc.length+1) (csl.flatten ++ [.bool false,.int .i64 pl,.slice vp on.length vc,.int .i64 ck])->(w8.alloc o).grownBy w6' (Value.slice xp acc.length xc).ownBlock->(v5.ownBlock=(Value.slice xp acc.length xc).ownBlock∨v5.ownBlock=some (w8.alloc o).heap.size)->(bP (W6.heap.size+1) v5 (acc ++ [⟨false,⟨pl,on⟩,ck⟩]) w6'/\Below (W6.heap.size+1) wr w6')/\(w6'.cell? ⟨mb,moff+k*2,none⟩=some (.int .i64 pl)/\w6'.cell? ⟨mb,moff+k*2+1,none⟩=some (.slice op on.length oc)/\w6'.cell? ⟨cg,k,none⟩=some (.int .i64 ck)) from by
      intro w8 w6' vp vc v5 o k8 hb8 hs csl e1 e2 e4 h1 h2 h4
      have hlow:Below (W6.heap.size+1) wr w6':=Below.trans (k8.mono hwB) (((Below.refl _ w8).alloc (Nat.le_trans hwB k8.size) o).grown h2 (by rw [aE];have:=k8.size;omega) (fun g hg=>(HOW.out g hg).1))
      refine ⟨⟨bP.push (B':=wr.heap.size) e1 e2 e4 hwB (fun g hg=>(HOW.out g hg).2) ⟨_,rfl,hb8⟩ rfl h1 h2 h4,hlow⟩,?_⟩
      have hmb:mb<W6.heap.size+1:=by have:=hS mb hmS;have:=HB.out.1;omega
      have hcg:cg<W6.heap.size+1:=by have:=HB.out.2.2;omega
      exact ⟨(hlow.cell (p:=⟨mb,moff+k*2,none⟩) hmb).trans HS.out.1,(hlow.cell (p:=⟨mb,moff+k*2+1,none⟩) hmb).trans HS.out.2.1,(hlow.cell (p:=⟨cg,k,none⟩) hcg).trans HS.out.2.2⟩)
     go_upto_region 14 with fail
     go_region_held3 (fun W'=>W'.cell? ⟨mb,moff+k*2,none⟩=some (.int .i64 pl)/\W'.cell? ⟨mb,moff+k*2+1,none⟩=some (.slice op on.length oc)/\W'.cell? ⟨cg,k,none⟩=some (.int .i64 ck))
      (first | with_reducible exact HS.out | with_reducible exact HSd.out | with_reducible exact HS8.out | with_reducible exact HS9.out | with_reducible exact HS6.out | go_keep)
      (first
       | (go_at_call 82;refine (HCW.out _ (aA.drew (aA.refl _))).mono ?_;rintro e w8 ⟨v8,rfl,hb8,k8⟩;obtain ⟨vp,vc,hv8,-⟩:=id hb8;subst hv8;have K8:=hid (eD k8);have B8:=hid (show aN (fun b=>wr.heap.size<=b/\b<w8.heap.size) w8 on (.slice vp on.length vc) from hb8);have HS8:=hid (show w8.cell? ⟨mb,moff+k*2,none⟩=some (.int .i64 pl)/\w8.cell? ⟨mb,moff+k*2+1,none⟩=some (.slice op on.length oc)/\w8.cell? ⟨cg,k,none⟩=some (.int .i64 ck) from ⟨(K8.out.cell (p:=⟨mb,moff+k*2,none⟩) hml).trans HS.out.1,(K8.out.cell (p:=⟨mb,moff+k*2+1,none⟩) hml).trans HS.out.2.1,(K8.out.cell (p:=⟨cg,k,none⟩) y3).trans HS.out.2.2⟩);have A8:=hid (AR.out.keep K8.out);obtain ⟨csl,e1,e2,e3,e4⟩:=A8.out;have OW8:=hid e3;have E4:=hid e4;clear k8 hb8 e3 e4)
       | (refine Cn.eI rfl _ _ 56 rfl (W6.heap.size+1) 81 i0 (.agg #[.bool false,.int .i64 0,.slice none 0 0,.int .i64 0]) 4 48 Tryz.underlying56 hi hz0 hz1 hz2 rfl (by decide) (.slice xp acc.length xc) acc.length csl.flatten rfl (World.ownsRow.alloc OW8.out _) ⟨w8.heap.size,0,none⟩ 1 1 [.bool false,.int .i64 pl,.slice vp on.length vc,.int .i64 ck] rfl rfl dX (by intro u hu;simp at hu;rcases hu with rfl | rfl | rfl | rfl<;>rfl) (by unfold maxLen;omega) (by omega) (by rw [aE];have:=K8.out.size;omega) ?_;intro v5 w6' h1 h2 h4;have PP:=hid (HAP.out w8 w6' vp vc v5 _ K8.out B8.out HS8.out csl e1 e2 E4.out h1 h2 h4);have P6:=hid PP.out.1;have HS6:=hid PP.out.2;clear h1 h2 h4 PP))
     obtain ⟨g6,cap6,hv6⟩:=P6.out.1.shape
     subst hv6
     go_wp2_with fail
     go_roundg ((goP ps th ms).length-(j+1))
     case rel=>exact ⟨j+1,by omega,by go_num,by rw [HSU2.out];exact P6.out.1,Below.trans KB.out P6.out.2⟩
     case measure=>omega
    ·obtain rfl:j=(goP ps th ms).length:=by omega
     have HF:=hid AR.out.final
     rw [show outs++fI ps th ms (goP ps th ms).length=bH ps th ms from HPL.out] at HF
     obtain ⟨xp,xc,hxv⟩:=AR.out.shape
     subst hxv
     go_wp2_with fail
     refine bodyPost_ret (v:= .tuple #[.slice xp (outs++fI ps th ms (goP ps th ms).length).length xc,.int .i64 0]) ?_ rfl ?_
     ·simp [results,Tryz.results30,go_sem]
     ·exact ⟨KR.out,.inr ⟨HPZ.out,_,rfl,HF.out.mono (fun _ _=>rfl) fun b hb=>⟨by have:=HB.out.1;omega,hb.2⟩⟩⟩
  ·have hc1:(bA ps th != 0)=true:=by simp [hzt]
   have HZT:=hid hzt
   generalize bA ps th=cz at hc1 HPE HZT ⊢
   clear hzt
   go_wp2_with fail
   refine bodyPost_ret (v:= .tuple #[.slice none 0 0,.int .i64 cz]) ?_ rfl ?_
   ·simp [results,Tryz.results30,go_sem]
   ·exact ⟨K2.out,.inl ⟨by rw [HPE.out];exact HZT.out,by rw [HPE.out]⟩⟩
end Go.Proofs.YtonlloiemgdfkaaGreatDoor
namespace Go.Proofs.YtonlloiemgdfkaaGreatDoor
open Go.RowKit
theorem sC {l:List Nat} (h:l.Nodup) {i j:Nat} (hi:i<l.length) (hj:j<l.length) (e:l[i]=l[j]):i=j:=by
 have hp:=List.pairwise_iff_getElem.1 h
 rcases Nat.lt_trichotomy i j with hlt | he | hlt
 ·exact absurd e (hp i j hi hj hlt)
 ·exact he
 ·exact absurd e.symm (hp j i hj hi hlt)
def AC.zero:AC:=⟨true,MB.zero,0⟩
def whF (A:List AC):Nat->Int->Option Int
 | 0=>fun _=>none
 | j+1=>if (A.getD j AC.zero).out=true then whF A j else fun y=>if y=(A.getD j AC.zero).m.pl then some (j:Int) else whF A j y
def cyF (A:List AC):Nat->Int->Option Int
 | 0=>fun _=>none
 | j+1=>if (A.getD j AC.zero).out=true then cyF A j else fun y=>if y=(A.getD j AC.zero).m.pl then some (A.getD j AC.zero).cy else cyF A j y
def nuF (A:List AC):Nat->Int->Option Int
 | 0=>fun _=>none
 | j+1=>if (A.getD j AC.zero).out=true∨¬ 0<(A.getD j AC.zero).cy then nuF A j else fun y=>if y=(A.getD j AC.zero).cy then some (((nuF A j) y).getD 0+1) else nuF A j y
theorem mD {A:List AC} : ∀ {j:Nat} {y k:Int},whF A j y=some k->∃ i:Nat,k=i/\i<j/\(A.getD i AC.zero).out=false/\(A.getD i AC.zero).m.pl=y
 | 0,_,_,h=>by simp [whF] at h
 | j+1,y,k,h=>by
  rw [whF] at h
  split at h
  ·obtain ⟨i,h1,h2,h3⟩:=mD h
   exact ⟨i,h1,by omega,h3⟩
  ·rename_i ho
   dsimp only at h
   split at h
   ·rename_i e
    cases h
    exact ⟨j,rfl,Nat.lt_succ_self _,by simpa using ho,e.symm⟩
   ·obtain ⟨i,h1,h2,h3⟩:=mD h
    exact ⟨i,h1,by omega,h3⟩
theorem yE {A:List AC} : ∀ (j:Nat) (y:Int),cyF A j y=(whF A j y).map fun k=>(A.getD k.toNat AC.zero).cy
 | 0,y=>rfl
 | j+1,y=>by
  rw [cyF,whF]
  split
  ·exact yE j y
  ·show (if y=_ then _ else _)=Option.map _ (if y=_ then _ else _)
   split
   ·rfl
   ·exact yE j y
theorem jG {A:List AC} : ∀ {j:Nat} {y c:Int},nuF A j y=some c->1<=c/\c<=j/\0<y/\∃ i,i<j/\(A.getD i AC.zero).out=false/\(A.getD i AC.zero).cy=y
 | 0,_,_,h=>by simp [nuF] at h
 | j+1,y,c,h=>by
  rw [nuF] at h
  split at h
  ·obtain ⟨h1,h2,h3,i,h4,h5⟩:=jG h
   exact ⟨h1,by omega,h3,i,by omega,h5⟩
  ·rename_i ho
   have ho2:(A.getD j AC.zero).out=false/\0<(A.getD j AC.zero).cy:=by
    constructor
    ·cases hb:(A.getD j AC.zero).out with
     | true=>exact absurd (.inl hb) ho
     | false=>rfl
    ·exact Classical.byContradiction fun h=>ho (.inr h)
   dsimp only at h
   split at h
   ·rename_i e
    cases h
    refine ⟨?_,?_,by rw [e];exact ho2.2,j,Nat.lt_succ_self _,ho2.1,e.symm⟩
    ·cases hn:nuF A j y with
     | none=>simp
     | some d=>have:=(jG hn).1;simp;omega
    ·cases hn:nuF A j y with
     | none=>simp;omega
     | some d=>have:=(jG hn).2.1;simp;omega
   ·obtain ⟨h1,h2,h3,i,h4,h5⟩:=jG h
    exact ⟨h1,by omega,h3,i,by omega,h5⟩
theorem aBk {A:List AC} {y:Int} (hy:0<y) : ∀ (j:Nat),((∃ i,i<j/\(A.getD i AC.zero).out=false/\(A.getD i AC.zero).cy=y)->1<=((nuF A j) y).getD 0)/\((∃ i i',i<i'/\i'<j/\((A.getD i AC.zero).out=false/\(A.getD i AC.zero).cy=y)/\(A.getD i' AC.zero).out=false/\(A.getD i' AC.zero).cy=y)->2<=((nuF A j) y).getD 0)
 | 0=>⟨by rintro ⟨i,h,-⟩;omega,by rintro ⟨i,i',-,h,-⟩;omega⟩
 | j+1=>by
  obtain ⟨ih1,ih2⟩:=aBk hy j
  have hsame:((A.getD j AC.zero).out=false/\(A.getD j AC.zero).cy=y)->((nuF A (j+1)) y).getD 0=((nuF A j) y).getD 0+1:=fun ⟨h1,h2⟩=>by
   rw [nuF,if_neg (by rw [h1,h2];simp [hy]),if_pos h2.symm];rfl
  have hmono:((nuF A j) y).getD 0<=((nuF A (j+1)) y).getD 0:=by
   rw [nuF]
   split
   ·exact Int.le_refl _
   ·show _<=(if y=_ then _ else _:Option Int).getD 0
    split
    ·simp;omega
    ·exact Int.le_refl _
  have h0:0<=((nuF A j) y).getD 0:=by
   cases hn:nuF A j y with
   | none=>simp
   | some d=>have:=(jG hn).1;simp;omega
  constructor
  ·rintro ⟨i,hi,ha⟩
   by_cases e:i=j
   ·subst e;rw [hsame ha];omega
   ·have:=ih1 ⟨i,by omega,ha⟩;omega
  ·rintro ⟨i,i',hii,hi',ha,hb⟩
   by_cases e:i'=j
   ·subst e
    rw [hsame hb]
    have:=ih1 ⟨i,hii,ha⟩
    omega
   ·have:=ih2 ⟨i,i',hii,by omega,ha,hb⟩;omega
theorem nQ {C:Nat->Nat->Bool} : ∀ {l:List Nat},pY C l->∀ (r s:Nat) (hr:r<s) (hs:s<l.length),C l[r] l[s]=true->C l[s] l[r]=true
 | [],_,_,_,_,hs,_=>by simp at hs
 | k :: l,h,0,s+1,_,hs,hc=>by
  have hs':s<l.length:=by simpa using hs
  exact h.1 l[s] (List.getElem_mem hs') (by simpa using hc)
 | k :: l,h,r+1,s+1,hr,hs,hc=>by
  have hs':s<l.length:=by simpa using hs
  have:=nQ h.2 r s (by omega) hs' (by simpa using hc)
  simpa using this
section
variable {ps:List PK} {th ms:List MB}
theorem sL:(bH ps th ms).length=(cU ps th ms th.length).length+(goP ps th ms).length:=by
 rw [← mC,List.length_append]
 unfold fI
 rw [List.take_length,List.length_map]
theorem jZ {i:Nat} (h:((bH ps th ms).getD i AC.zero).out=false) : ∃ (r:Nat) (hr:r<(goP ps th ms).length),i=(cU ps th ms th.length).length+r/\(bH ps th ms).getD i AC.zero=⟨false,ms.getD (goP ps th ms)[r] MB.zero,(eP ps th ms).getD (goP ps th ms)[r] 0⟩:=by
 rw [← mC] at h ⊢
 by_cases h1:i<(cU ps th ms th.length).length
 ·exfalso
  rw [List.getD_eq_getElem?_getD,List.getElem?_append_left h1,List.getElem?_eq_getElem h1] at h
  have hm:=List.getElem_mem h1
  generalize (cU ps th ms th.length)[i]=x at h hm
  unfold cU at hm
  obtain ⟨m,-,rfl⟩:=List.mem_map.1 hm
  cases h
 ·by_cases h2:i-(cU ps th ms th.length).length<(goP ps th ms).length
  ·refine ⟨i-(cU ps th ms th.length).length,h2,by omega,?_⟩
   rw [List.getD_eq_getElem?_getD,List.getElem?_append_right (by omega)]
   unfold fI
   rw [List.take_length,List.getElem?_map,List.getElem?_eq_getElem h2]
   rfl
  ·exfalso
   rw [List.getD_eq_getElem?_getD,List.getElem?_eq_none (by rw [List.length_append];unfold fI;rw [List.take_length,List.length_map];omega)] at h
   cases h
theorem nR {r:Nat} (hr:r<(goP ps th ms).length):(bH ps th ms).getD ((cU ps th ms th.length).length+r) AC.zero=⟨false,ms.getD (goP ps th ms)[r] MB.zero,(eP ps th ms).getD (goP ps th ms)[r] 0⟩:=by
 rw [← mC,List.getD_eq_getElem?_getD,List.getElem?_append_right (by omega),Nat.add_sub_cancel_left]
 unfold fI
 rw [List.take_length,List.getElem?_map,List.getElem?_eq_getElem hr]
 rfl
theorem zN (hz:bA ps ms=0) {i j:Nat} (hi:i<ms.length) (hj:j<ms.length) (h:(ms.getD i MB.zero).pl=(ms.getD j MB.zero).pl):i=j:=by
 have hup:=(dL hz).2.2.1
 rw [dB ms i hi,dB ms j hj] at h
 have hl:(plI ms).length=ms.length:=by simp [plI]
 have g : ∀ k (hk:k<ms.length),(plI ms)[k]'(by omega)=ms[k].pl:=fun k hk=>by simp [plI]
 rcases Nat.lt_trichotomy i j with hlt | he | hlt
 ·have:=List.pairwise_iff_getElem.1 hup i j (by omega) (by omega) hlt
  rw [g i hi,g j hj] at this;omega
 ·exact he
 ·have:=List.pairwise_iff_getElem.1 hup j i (by omega) (by omega) hlt
  rw [g i hi,g j hj] at this;omega
theorem aBh (hz:bA ps ms=0) {j:Nat} (h:((bH ps th ms).getD j AC.zero).out=false):whF (bH ps th ms) j ((bH ps th ms).getD j AC.zero).m.pl=none:=by
 cases hw:whF (bH ps th ms) j ((bH ps th ms).getD j AC.zero).m.pl with
 | none=>rfl
 | some k=>
  exfalso
  obtain ⟨i,-,hij,h1,h2⟩:=mD hw
  obtain ⟨r,hr,e1,e2⟩:=jZ h
  obtain ⟨s,hs,e3,e4⟩:=jZ h1
  rw [e2,e4] at h2
  have hrm:=(fU.1 (List.getElem_mem hr)).1
  have hsm:=(fU.1 (List.getElem_mem hs)).1
  have:=zN hz hsm hrm h2
  have:=sC (gE ps th ms) (by assumption) (by assumption) this
  omega
theorem aBn (hz:bA ps ms=0) {i:Nat} (hi:i<ms.length) {n:Nat} {k:Int} (h:whF (bH ps th ms) n (ms.getD i MB.zero).pl=some k) : ∃ (r:Nat) (hr:r<(goP ps th ms).length),k=(((cU ps th ms th.length).length+r:Nat):Int)/\(goP ps th ms)[r]=i/\cyF (bH ps th ms) n (ms.getD i MB.zero).pl=some ((eP ps th ms).getD i 0):=by
 obtain ⟨j,rfl,-,h1,h2⟩:=mD h
 obtain ⟨r,hr,e1,e2⟩:=jZ h1
 have hrm:=(fU.1 (List.getElem_mem hr)).1
 rw [e2] at h2
 have hri:=zN hz hrm hi h2
 refine ⟨r,hr,by rw [e1],hri,?_⟩
 rw [yE,h,Option.map_some,Int.toNat_natCast,e2,hri]
theorem yK (hz:bA ps ms=0) {i j:Nat} (hi:i<ms.length) (hj:j∈bX ps ms i) {n:Nat} {k k':Int} (h1:whF (bH ps th ms) n (ms.getD i MB.zero).pl=some k) (h2:whF (bH ps th ms) n (ms.getD j MB.zero).pl=some k') (hk:k<k'):((cyF (bH ps th ms) n (ms.getD i MB.zero).pl).getD 0≠0)/\(cyF (bH ps th ms) n (ms.getD j MB.zero).pl).getD 0=(cyF (bH ps th ms) n (ms.getD i MB.zero).pl).getD 0:=by
 have hjm:=(iQ.1 hj).2.1
 obtain ⟨r,hr,e1,e2,e3⟩:=aBn hz hi h1
 obtain ⟨s,hs,f1,f2,f3⟩:=aBn hz hjm h2
 have hrs:r<s:=by omega
 have hc:fW ps ms i j=true:=gM.2 (.one hj)
 have hb:fW ps ms j i=true:=by
  have:=nQ (tU ps th ms) r s hrs hs (by rw [e2,f2];exact hc)
  rw [e2,f2] at this;exact this
 have hne:j≠i:=by
  intro e
  have:(goP ps th ms)[s]=(goP ps th ms)[r]:=by rw [e2,f2,e]
  have:=sC (gE ps th ms) (by assumption) (by assumption) this
  omega
 have:=yF (th:=th) (e2 ▸ List.getElem_mem hr) (f2 ▸ List.getElem_mem hs) hne hc hb
 rw [e3,f3,Option.getD_some,Option.getD_some]
 exact ⟨by omega,this.2⟩
theorem aCh {y c:Int} (h:nuF (bH ps th ms) (bH ps th ms).length y=some c):2<=c:=by
 obtain ⟨-,-,hy,i,hi,h1,h2⟩:=jG h
 obtain ⟨r,hr,e1,e2⟩:=jZ h1
 rw [e2] at h2
 simp only at h2
 obtain ⟨-,j,hjm,hne,hje⟩:=aAm (ps:=ps) (th:=th) (ms:=ms) (k:=(goP ps th ms)[r]) (by rw [h2];exact hy)
 obtain ⟨s,hs,hse⟩:=List.getElem_of_mem hjm
 have hsr:s≠r:=fun e=>hne (by subst e;exact hse.symm)
 have hat:=nR (ps:=ps) (th:=th) (ms:=ms) hs
 have hat2:=nR (ps:=ps) (th:=th) (ms:=ms) hr
 have hlen:=sL (ps:=ps) (th:=th) (ms:=ms)
 have a1:((bH ps th ms).getD ((cU ps th ms th.length).length+r) AC.zero).out=false/\((bH ps th ms).getD ((cU ps th ms th.length).length+r) AC.zero).cy=y:=by rw [hat2];exact ⟨rfl,h2⟩
 have a2:((bH ps th ms).getD ((cU ps th ms th.length).length+s) AC.zero).out=false/\((bH ps th ms).getD ((cU ps th ms th.length).length+s) AC.zero).cy=y:=by rw [hat];exact ⟨rfl,by show (eP ps th ms).getD (goP ps th ms)[s] 0=y;rw [hse,hje];exact h2⟩
 have:=(aBk hy (bH ps th ms).length).2 (by
  rcases Nat.lt_or_gt_of_ne hsr with hlt | hlt
  ·exact ⟨_,_,(by omega:(cU ps th ms th.length).length+s<(cU ps th ms th.length).length+r),by omega,a2,a1⟩
  ·exact ⟨_,_,(by omega:(cU ps th ms th.length).length+r<(cU ps th ms th.length).length+s),by omega,a1,a2⟩)
 rw [h] at this
 simpa using this
end
end Go.Proofs.YtonlloiemgdfkaaGreatDoor
namespace Go.Proofs.YtonlloiemgdfkaaGreatDoor
open Go.RowKit Go.Lib
def eN (g n:Nat) (f:Int->Option Int) (w:World):Prop:= ∃ D:DataW Unit,w.ownsMap Tryz.prog 3 (plainElem Tryz.prog 3) g n D/\(∀ x zd,D.atKey (.int .i64 x) zd=match f x with | none=>zd | some c=> .lit (.int .i64 c))/\∀ x,Maps.has D (.int .i64 x)=(f x).isSome
theorem eN.lt {g n:Nat} {f:Int->Option Int} {w:World} (h:eN g n f w):g<w.heap.size:=by obtain ⟨D,h,-⟩:=h;exact h.lt
theorem eN.kept {g n:Nat} {f:Int->Option Int} {w w':World} {row:Option Nat} (h:eN g n f w) (hg:w.grownBy w' row) (hne:some g≠row):eN g n f w':=by
 obtain ⟨D,h1,h2⟩:=h
 exact ⟨D,h1.kept hg hne,h2⟩
theorem eN.keep {g n:Nat} {f:Int->Option Int} {w w':World} (h:eN g n f w) (k:aA w w'):eN g n f w':=h.kept (row:=none) ⟨k.os,k.tape,k.output,k.size,fun b hb _=>k.block b hb⟩ (by simp)
theorem kO (w:World):eN w.heap.size 0 (fun _=>none) (w.alloc (.map #[] 0)):=⟨.map [],World.ownsMap_made w _ _ _,fun x zd=>by simp [DataW.atKey],fun x=>by simp [Maps.has]⟩
theorem mZ {x:Int} (h:(Lit.int .i64 x).wf=true):keyOf Tryz.prog 3 (.int .i64 x)=some (.int .i64 x):=Maps.keyOf_int_mk Tryz.underlying3 h
theorem kF {x:Int} (h:x.natAbs<=100000):(Lit.int .i64 x).wf=true:=by
 have e1:IntKind.i64.min = -9223372036854775808:=by decide
 have e2:IntKind.i64.max=9223372036854775807:=by decide
 simp [Lit.wf]
 omega
theorem eN.look {g n:Nat} {f:Int->Option Int} {w:World} {t:TypeId} (h:eN g n f w) (ht:Tryz.prog.underlying t=some (.map 3 3)) {x:Int} (hx:x.natAbs<=100000):(Instr.lookup t (.map (some g)) (.int .i64 x) false).run Tryz.prog w=.ok (.int .i64 ((f x).getD 0)) w:=by
 obtain ⟨D,h1,h2,-⟩:=h
 obtain ⟨c,hrun,hat,-⟩:=h1.lookup_int (Maps.int_keyed Tryz.underlying3) ht Tryz.underlying3 (by kernel_rfl) (mZ (kF hx))
 rw [h2 x] at hat
 cases hf:f x with
 | none=>rw [hf] at hat;cases hat;exact hrun
 | some d=>rw [hf] at hat;cases hat;exact hrun
theorem eN.lookOk {g n:Nat} {f:Int->Option Int} {w:World} {t:TypeId} (h:eN g n f w) (ht:Tryz.prog.underlying t=some (.map 3 3)) {x:Int} (hx:x.natAbs<=100000):(Instr.lookup t (.map (some g)) (.int .i64 x) true).run Tryz.prog w=.ok (.tuple #[.int .i64 ((f x).getD 0),.bool (f x).isSome]) w:=by
 obtain ⟨D,h1,h2,h3⟩:=h
 obtain ⟨v,ps,hrun,hv⟩:=h1.look_ok (Maps.int_keyed Tryz.underlying3) ht (z:= .int .i64 0) (by kernel_rfl) (plainElem_int Tryz.underlying3 (by decide)) (mZ (kF hx))
 obtain ⟨c,rfl,hc,-⟩:=plainElem_int_inv Tryz.underlying3 hv
 rw [h2 x] at hc
 rw [h3 x] at hrun
 cases hf:f x with
 | none=>rw [hf] at hc hrun;cases hc;exact hrun
 | some d=>rw [hf] at hc hrun;cases hc;exact hrun
theorem eN.put {g n:Nat} {f:Int->Option Int} {w:World} {t:TypeId} (h:eN g n f w) (ht:Tryz.prog.underlying t=some (.map 3 3)) {x c:Int} (hx:x.natAbs<=100000) (hc:c.natAbs<=100000) (hl:n<1000000) : ∃ w',(Instr.mapUpdate t (.map (some g)) (.int .i64 x) (.int .i64 c)).run Tryz.prog w=.ok () w'/\eN g (n+1) (fun y=>if y=x then some c else f y) w'/\w.grownBy w' (some g):=by
 obtain ⟨D,h1,h2,h3⟩:=h
 obtain ⟨w',hrun,hown,hgr⟩:=h1.update (Maps.int_keyed Tryz.underlying3) ht (by unfold maxLen;omega) (mZ (kF hx)) (plainElem_int Tryz.underlying3 (kF hc))
 refine ⟨w',hrun,⟨_,hown,fun y zd=> ?_,fun y=> ?_⟩,hgr⟩
 ·by_cases e:y=x
  ·subst e
   rw [Maps.atKey_put_same h1.isMap (by simp [WideAt.IsKeyLit])];simp
  ·rw [Maps.atKey_put_other (by simpa using e),h2 y];simp [e]
 ·by_cases e:y=x
  ·subst e
   rw [Maps.has_put_same h1.isMap (by simp [WideAt.IsKeyLit])];simp
  ·rw [Maps.has_put_other (by simpa using e),h3 y];simp [e]
end Go.Proofs.YtonlloiemgdfkaaGreatDoor
namespace Go.Proofs.YtonlloiemgdfkaaGreatDoor
open Go.RowKit
theorem tM (args:Array Value) (w:World):(callFunc 91 args).run Tryz.prog w=.ok (.enter 91 args) w:=enters_of Tryz.func91 (by kernel_rfl) rfl args w
theorem sP (S:Nat->Prop) (x y:AC) (p1 p2:Option Addr) (c1 c2:Nat) (w:World) (hS : ∀ b,S b->b<w.heap.size) (h1:aN S w x.m.on (.slice p1 x.m.on.length c1)) (h2:aN S w y.m.on (.slice p2 y.m.on.length c2)) :
  Calls Tryz.prog 91 #[.agg #[.bool x.out,.int .i64 x.m.pl,.slice p1 x.m.on.length c1,.int .i64 x.cy],.agg #[.bool y.out,.int .i64 y.m.pl,.slice p2 y.m.on.length c2,.int .i64 y.cy]] w fun e w'=> ∃ β:Bool,e=.returned (.bool β)/\(β=true↔x=y)/\aA w w':=by
 have H1:=hid h1
 have H2:=hid h2
 clear h1 h2
 rcases x with ⟨xo,⟨xp,xs⟩,xc⟩
 rcases y with ⟨yo,⟨yp,ys⟩,yc⟩
 simp only at H1 H2 ⊢
 have HW:Hid (aA w ((w.alloc (.cells #[.bool xo,.int .i64 xp,.slice p1 xs.length c1,.int .i64 xc] 81)).alloc (.cells #[.bool yo,.int .i64 yp,.slice p2 ys.length c2,.int .i64 yc] 81))):=(aA.alloc _ _).alloc' _
 cases ho:(xo==yo)
 ·have HF:Hid (¬ (⟨xo,⟨xp,xs⟩,xc⟩:AC)=⟨yo,⟨yp,ys⟩,yc⟩):=fun e=>by cases e;simp at ho
  go_enter Tryz.func91,Tryz.ntmps91
  go_wp2_with fail
  go_ret
  exact ⟨false,rfl,⟨fun h=>Bool.noConfusion h,fun h=>absurd h HF.out⟩,HW.out⟩
 ·have hoe:xo=yo:=by simpa using ho
  cases hc:(xc==yc)
  ·have HF:Hid (¬ (⟨xo,⟨xp,xs⟩,xc⟩:AC)=⟨yo,⟨yp,ys⟩,yc⟩):=fun e=>by cases e;simp at hc
   clear hoe
   go_enter Tryz.func91,Tryz.ntmps91
   go_wp2_with fail
   go_ret
   exact ⟨false,rfl,⟨fun h=>Bool.noConfusion h,fun h=>absurd h HF.out⟩,HW.out⟩
  ·have hce:xc=yc:=by simpa using hc
   have HX:Hid ((⟨xp,xs⟩:MB)=⟨yp,ys⟩↔(⟨xo,⟨xp,xs⟩,xc⟩:AC)=⟨yo,⟨yp,ys⟩,yc⟩):=⟨fun h=>by rw [h,hoe,hce],fun h=>by cases h;rfl⟩
   clear hoe hce HW
   go_enter Tryz.func91,Tryz.ntmps91
   go_wp2_with fail
   refine cJ (fun W'=>aA w W') ((aA.alloc _ _).alloc' _) ?_
   intro W2 k2
   refine (uL S ⟨xp,xs⟩ ⟨yp,ys⟩ _ _ W2 (fun b hb=>Nat.lt_of_lt_of_le (hS b hb) k2.size) (H1.out.keep hS k2) (H2.out.keep hS k2)).mono ?_
   rintro e w3 ⟨β,rfl,hβ,k3⟩
   have K3:=hid (k2.trans k3)
   have HB:=hid (hβ.trans HX.out)
   clear k2 k3 hβ
   go_wp2_with fail
   go_ret
   exact ⟨β,rfl,HB.out,K3.out⟩
theorem qE (S:Nat->Prop) (xs ys:List AC) (v1 v2:Value) (w:World) (hS : ∀ b,S b->b<w.heap.size) (h1:cP S w xs v1) (h2:cP S w ys v2) :
  Calls Tryz.prog 90 #[v1,v2,.func (.func 91) #[] #[]] w fun e w'=> ∃ β:Bool,e=.returned (.bool β)/\(β=true↔xs=ys)/\aA w w':=by
 have H1:=hid h1
 have H2:=hid h2
 obtain ⟨p1,c1,rfl,⟨-,hl1⟩,-⟩:=h1
 obtain ⟨p2,c2,rfl,⟨-,hl2⟩,-⟩:=h2
 have hent:=tM
 by_cases hl:xs.length=ys.length
 ·have HL:=hid hl
  have HW:Hid (aA w w):=aA.refl _
  rw [← hl]
  clear hl
  go_enter Tryz.func90,Tryz.ntmps90
  go_wp2_with fail
  go_loopg [17] xs.length (fun gk i wr=> ∃ j:Nat,j+gk=xs.length/\i=.int .i64 j/\(∀ i,i<j->xs[i]? = ys[i]?)/\aA w wr)
  case atStart=>exact ⟨0,by simp,rfl,fun i hi=>absurd hi (Nat.not_lt_zero _),HW.out⟩
  case round=>
   obtain ⟨j,hj,rfl,hal,hkp⟩:=hrel
   have HKP:=hid hkp
   have HAL:=hid hal
   clear hkp hal
   by_cases hlt:j<xs.length
   ·obtain ⟨q1,d1,hv1,-,hr1⟩:=H1.out.keep hS HKP.out
    obtain ⟨q2,d2,hv2,-,hr2⟩:=H2.out.keep hS HKP.out
    rw [← HL.out] at hv2 hr2
    cases hv1
    cases hv2
    obtain ⟨b1,o1,rfl,hb1,hc1⟩:=hr1 (by omega)
    obtain ⟨b2,o2,rfl,hb2,hc2⟩:=hr2 (by omega)
    have hlt2:j<ys.length:=by rw [← HL.out];exact hlt
    have e1:xs[j]? = some xs[j]:=List.getElem?_eq_getElem hlt
    have e2:ys[j]? = some ys[j]:=List.getElem?_eq_getElem hlt2
    obtain ⟨ov1,g1,g1',g1a,g1b,hbo1⟩:=hc1 j _ e1
    obtain ⟨ov2,g2,g2',g2a,g2b,hbo2⟩:=hc2 j _ e2
    have E1:=hid e1
    have E2:=hid e2
    have hb1':b1<wr.heap.size:=Nat.lt_of_lt_of_le (hS _ hb1) HKP.out.size
    have hb2':b2<wr.heap.size:=Nat.lt_of_lt_of_le (hS _ hb2) HKP.out.size
    generalize xs[j]=x at g1 g1' g1b E1 hbo1
    generalize ys[j]=y at g2 g2' g2b E2 hbo2
    have HO1:=hid hbo1
    have HO2:=hid hbo2
    obtain ⟨r1,s1,rfl,-,-⟩:=hbo1
    obtain ⟨r2,s2,rfl,-,-⟩:=hbo2
    clear hc1 hc2 hr1 hr2 e1 e2
    go_wp2_with fail
    refine cJ (fun W'=>aA wr W') ((aA.alloc _ _).alloc' _) ?_
    intro W2 k2
    have hS2 : ∀ b,S b->b<wr.heap.size:=fun b hb=>Nat.lt_of_lt_of_le (hS b hb) HKP.out.size
    refine (sP S x y _ _ _ _ W2 (fun b hb=>Nat.lt_of_lt_of_le (hS2 b hb) k2.size) (HO1.out.keep hS2 k2) (HO2.out.keep hS2 k2)).mono ?_
    rintro e w3 ⟨β,rfl,hβ,k3⟩
    have K3:=hid (HKP.out.trans (k2.trans k3))
    clear k2 k3 hS2 g1 g1' g2 g2' g1a g1b g2a g2b
    cases β
    ·have HF:Hid (¬ xs=ys):=fun e=>Bool.noConfusion (hβ.2 (by have h1:=E1.out;rw [e,E2.out] at h1;exact (Option.some.inj h1).symm))
     clear hβ
     go_wp2_with fail
     go_ret
     exact ⟨false,rfl,⟨fun h=>Bool.noConfusion h,fun h=>absurd h HF.out⟩,K3.out⟩
    ·have HN:Hid (∀ i,i<j+1->xs[i]? = ys[i]?):=fun i hi=>by
      by_cases e:i=j
      ·subst e;rw [E1.out,E2.out,hβ.1 rfl]
      ·exact HAL.out i (by omega)
     clear hβ
     go_wp2_with fail
     go_roundg (xs.length-(j+1))
     case rel=>exact ⟨j+1,by omega,by go_num,HN.out,K3.out⟩
     case measure=>omega
   ·have HF:Hid (xs=ys):=mO HL.out fun i hi=>HAL.out i (by omega)
    go_wp2_with fail
    go_ret
    exact ⟨true,rfl,⟨fun _=>HF.out,fun _=>rfl⟩,HKP.out⟩
 ·have hz1:((xs.length:Int)==(ys.length:Int))=false:=beq_eq_false_iff_ne.2 fun e=>hl (by omega)
  have hz2:((xs.length:Int) != (ys.length:Int))=true:=bne_iff_ne.2 fun e=>hl (by omega)
  have HF:Hid (¬ xs=ys):=fun e=>hl (by rw [e])
  clear hl
  go_enter Tryz.func90,Tryz.ntmps90
  go_wp2_with fail
  go_ret
  exact ⟨false,rfl,⟨fun h=>Bool.noConfusion h,fun h=>absurd h HF.out⟩,aA.refl _⟩
theorem qR (S:Nat->Prop) (xs ys:List AC) (v1 v2:Value) (w:World) (hS : ∀ b,S b->b<w.heap.size) (h1:cP S w xs v1) (h2:cP S w ys v2) :
  Calls Tryz.prog 37 #[v1,v2] w fun e w'=> ∃ β:Bool,e=.returned (.bool β)/\(β=true↔xs=ys)/\aA w w':=by
 have H1:=hid h1
 have H2:=hid h2
 clear h1 h2
 go_enter Tryz.func37,Tryz.ntmps37
 go_wp2_with fail
 refine (qE S xs ys _ _ w hS H1.out H2.out).mono ?_
 rintro e w3 ⟨β,rfl,hβ,k3⟩
 have K3:=hid k3
 have HB:=hid hβ
 clear k3 hβ
 go_wp2_with fail
 go_ret
 exact ⟨β,rfl,HB.out,K3.out⟩
end Go.Proofs.YtonlloiemgdfkaaGreatDoor
namespace Go.Proofs.YtonlloiemgdfkaaGreatDoor
open Go.RowKit Go.Sort
end Go.Proofs.YtonlloiemgdfkaaGreatDoor
namespace Go.Proofs.YtonlloiemgdfkaaGreatDoor
def nB1:NT:= .node 3 At.zero ⟨#[]⟩ false [oK 98]
def tX:NT:= .node 2 ⟨⟨#[99]⟩,0,0,0,⟨#[]⟩,false⟩ ⟨#[]⟩ false []
def lR:NT:= .node 3 At.zero ⟨#[]⟩ false [tX]
def q0:PK:=⟨⟨#[97]⟩,1,1,[],nB1⟩
def q1:PK:=⟨⟨#[97]⟩,2,1,[⟨#[120]⟩],nI⟩
def q2:PK:=⟨⟨#[98]⟩,1,1,[],lR⟩
def q3:PK:=⟨⟨#[99]⟩,1,1,[],iD⟩
def aR:List PK:= [q0,q1,q2,q3]
def F3:List UInt8:= [97,32,49,32,49,32,32,40,32,98,32,41,10,97,32,50,32,49,32,120,32,40,32,120,63,32,40,32,98,32,41,32,41,10,98,32,49,32,49,32,32,40,32,33,99,32,41,10,99,32,49,32,49,32,32,40,32,41,10]
theorem aAt:tX.ok:=by
 unfold tX
 rw [NT.ok]
 have h:aI [99]=true:=by decide
 exact ⟨gQ 2 _ (Or.inr rfl) (by show chk [99] 0 0 0 [] false=0;unfold chk;rw [if_neg (by simp [h]),if_neg (by decide),if_neg (by decide)]),trivial⟩
theorem aCd:nB1.ok:=by
 unfold nB1
 rw [NT.ok,okL,okL]
 exact ⟨dJ 3 _ (Or.inl rfl),vE (by decide),trivial⟩
theorem aAx:lR.ok:=by
 unfold lR
 rw [NT.ok,okL,okL]
 exact ⟨dJ 3 _ (Or.inl rfl),aAt,trivial⟩
theorem kB:dE nB1=false/\dE lR=false:=by
 have i1:aH 1=2:=fR (by decide) (by decide)
 refine ⟨?_,?_⟩<;>simp [dE,nB1,lR,tX,oK,bD,bC,fN,i1]
theorem aAw:cS nB1=0:=cN.2 ⟨kB.1,aCd⟩
theorem zE:cS lR=0:=cN.2 ⟨kB.2,aAx⟩
theorem uW:iY aR=F3:=by
 simp [iY,hZ,aR,q0,q1,q2,q3,nB1,lR,tX,nI,nIf,iD,NT.text,oK,NT.words,aV,cZ,bE,aDf,aDg,F3,Lib.join]
theorem uN:nB1.sorted = []:=by
 have:nB1.flags = []:=by simp [nB1,oK,NT.flags,dV]
 unfold NT.sorted
 rw [this,List.map_nil,List.mergeSort_nil];exact fP
theorem sR:lR.sorted = []:=by
 have:lR.flags = []:=by simp [lR,tX,NT.flags,dV]
 unfold NT.sorted
 rw [this,List.map_nil,List.mergeSort_nil];exact fP
theorem yM:cK [(⟨#[120]⟩:ByteArray)]=0:=by
 have n1:aI [120]=true:=by decide
 simp [cK,bW,flE,n1]
theorem aBy:gP [(⟨#[120]⟩:ByteArray)] [120]=true:=by unfold gP;rw [Lib.containsS_iff];simp
theorem aCg:aI [99]=true:=by decide
theorem aBq:cY q0=0:=by
 have hk:nB1.kind=3:=rfl
 simp [cY,q0,zF,cK,bW,eK,hk,aAw,uN]
theorem aBr:cY q1=0:=by
 have hk:nI.kind=3:=rfl
 simp [cY,q1,zF,yM,eK,hk,zC,sQ,aBy]
theorem aBs:cY q2=0:=by
 have hk:lR.kind=3:=rfl
 simp [cY,q2,aCf,cK,bW,eK,hk,zE,sR]
theorem aBt:cY q3=0:=by
 have hk:iD.kind=3:=rfl
 simp [cY,q3,aCg,cK,bW,eK,hk,wO,qS]
theorem vR:cQ q1 q0=true:=by simp [cQ,q0,q1]
theorem vS:cQ q2 q1=true:=by
 have h1:leS ⟨#[98]⟩ ⟨#[97]⟩=false:=by unfold leS;rw [Lib.toList_data,Lib.toList_data];decide
 simp [cQ,q1,q2,h1]
theorem vT:cQ q3 q2=true:=by
 have h1:leS ⟨#[99]⟩ ⟨#[98]⟩=false:=by unfold leS;rw [Lib.toList_data,Lib.toList_data];decide
 simp [cQ,q3,q2,h1]
theorem jD:eH aR=0:=by
 have s1:dN aR 1=0:=rfl
 have s2:dN aR 2=1:=rfl
 have s3:dN aR 3=1:=rfl
 have s4:dN aR 4=1:=rfl
 have h8 : ¬ 8<aR.length:=by decide
 have hl:aR.length=4:=rfl
 unfold eH
 rw [if_neg h8]
 have e0:pkE aR 0=0:=by unfold pkE;rw [show aR.getD 0 PK.zero=q0 from rfl,aBq];simp [s1,hl]
 have e1:pkE aR 1=0:=by unfold pkE;rw [show aR.getD 1 PK.zero=q1 from rfl,show aR.getD (1-1) PK.zero=q0 from rfl,aBr,vR];simp [s2,hl]
 have e2:pkE aR 2=0:=by unfold pkE;rw [show aR.getD 2 PK.zero=q2 from rfl,show aR.getD (2-1) PK.zero=q1 from rfl,aBs,vS];simp [s3,hl]
 have e3:pkE aR 3=0:=by unfold pkE;rw [show aR.getD 3 PK.zero=q3 from rfl,show aR.getD (3-1) PK.zero=q2 from rfl,aBt,vT];simp [s4,hl]
 rw [hl]
 simp [bW,e0,e1,e2,e3]
theorem aAg:rdT F3=(0,0,aR):=by
 rw [← uW]
 exact zQ jD (by rw [uW];decide)
end Go.Proofs.YtonlloiemgdfkaaGreatDoor
namespace Go.Proofs.YtonlloiemgdfkaaGreatDoor
open Go.RowKit Go.Sort
theorem uM (w:World) (hE:Env w) (hM:fM w) :
  Calls Tryz.prog 66 #[] w fun e w'=> ∃ v,e=.returned (.tuple #[.agg #[v],.bool true])/\aY (fun b=>w.heap.size<=b/\b<w'.heap.size) w' aR v/\aA w w'/\uV v:=by
 have HE:=hid hE
 have HM:=hid hM
 clear hE hM
 go_enter Tryz.func66,Tryz.ntmps66
 go_wp2_with fail
 refine cJ (fun W'=>aA w W'/\aC w.heap.size 24 (.slice none 0 0) W') ⟨aA.alloc _ _,aC.new _ _ _⟩ ?_
 rintro W0 ⟨k0,v0⟩
 refine (nW _ W0 (HE.out.keep k0) (HM.out.keep k0)).mono ?_
 rintro e w1 ⟨v1,rfl,-,hp1,k1,hcap1⟩
 have hrd:rdT (ByteArray.mk #[97,32,49,32,49,32,32,40,32,98,32,41,10,97,32,50,32,49,32,120,32,40,32,120,63,32,40,32,98,32,41,32,41,10,98,32,49,32,49,32,32,40,32,33,99,32,41,10,99,32,49,32,49,32,32,40,32,41,10]).data.toList=(0,0,aR):=aAg
 rw [hrd] at hp1 ⊢
 simp only at hp1 ⊢
 obtain ⟨p1,c1,rfl,-⟩:=hp1.len
 have hlen:aR.length=4:=rfl
 rw [hlen] at hp1 hcap1 ⊢
 have HCAP:=hid hcap1
 clear hcap1
 have K0s:=k0.size
 have hW0:w.heap.size+1<=W0.heap.size:=v0.facts.2.2
 have HP1:Hid (aY (fun b=>w.heap.size+1<=b/\b<w1.heap.size) w1 aR (.slice p1 4 c1)):=aY.mono (fun _ _=>rfl) (fun b hb=>⟨Nat.le_trans hW0 hb.1,hb.2⟩) hp1
 have K1:=hid (k0.trans k1)
 have V1:=hid (v0.keep k1 v0.facts.2.2)
 have hsz1:w.heap.size+1<=w1.heap.size:=by have:=V1.out.facts.2.2;omega
 clear k0 v0 hp1 k1 hrd hlen
 go_upto_region 2 with fail
 refine bI (fun W'=>aA w W'/\aA w1 W'/\aC w.heap.size 24 (.slice none 0 0) W'/\aC w1.heap.size 24 (.slice p1 4 c1) W') ⟨K1.out.alloc' _,aA.alloc _ _,V1.out.keep (aA.alloc _ _) V1.out.facts.2.2,aC.new _ _ _⟩ ?_
 rintro W2 ⟨k2,k12,v2,t2⟩
 have K2:=hid k2
 have K12:=hid k12
 have V2:=hid v2
 obtain ⟨g1,z1,l1⟩:=v2.facts
 obtain ⟨g2,z2,l2⟩:=t2.facts
 clear k2 k12 v2 t2
 go_region
 have v3:=V2.out.set (.slice p1 4 c1)
 have HQ:Hid (aC w.heap.size 24 (.slice p1 4 c1) (W2.setCell ⟨w.heap.size,0,none⟩ (.slice p1 4 c1)).drew/\aA w (W2.setCell ⟨w.heap.size,0,none⟩ (.slice p1 4 c1)).drew/\aY (fun b=>w.heap.size<=b/\b<(W2.setCell ⟨w.heap.size,0,none⟩ (.slice p1 4 c1)).drew.heap.size) (W2.setCell ⟨w.heap.size,0,none⟩ (.slice p1 4 c1)).drew aR (.slice p1 4 c1)):=by
  have ap:=dR w.heap.size W2 (.slice p1 4 c1)
  have hz:W2.heap.size<=(W2.setCell ⟨w.heap.size,0,none⟩ (.slice p1 4 c1)).heap.size:=ap.size
  refine ⟨v3.keep (rY _) v3.facts.2.2,aA.trans (show aA w (W2.setCell ⟨w.heap.size,0,none⟩ (.slice p1 4 c1)) from Below.trans K2.out (ap.below K2.out.size fun b hb e=>by have:b=w.heap.size:=e;omega)) (rY _),?_⟩
  refine aY.mono (fun p hp=> ?_) (fun b hb=>⟨by omega,Nat.lt_of_lt_of_le hb.2 (Nat.le_trans K12.out.size hz)⟩) HP1.out
  exact (ap.cell p (Nat.lt_of_lt_of_le hp.2 K12.out.size) (fun e=>by have e':p.block=w.heap.size:=e;have:=hp.1;omega)).trans (K12.out.cell (p:=p) hp.2)
 clear v3 g1 z1 g2 z2
 go_wp2_with fail
 refine eG (v:= .tuple #[.agg #[.slice p1 4 c1],.bool true]) (fun W'=>aC w.heap.size 24 (.slice p1 4 c1) W'/\aA w W'/\aY (fun b=>w.heap.size<=b/\b<W'.heap.size) W' aR (.slice p1 4 c1)) ?_ rfl ?_
 ·exact HQ.out
 rintro W ⟨hb,hk,hp⟩
 obtain ⟨hcW,-,-⟩:=hb.facts
 exact ⟨by simp [results,Tryz.results66,go_sem,hcW],_,rfl,hp,hk,HCAP.out⟩
theorem xD (w:World) (hE:Env w) (hM:fM w) :
  Calls Tryz.prog 66 #[] w fun e w'=> ∃ v,e=.returned (.tuple #[.agg #[v],.bool true])/\aY (fun b=>w.heap.size<=b/\b<w'.heap.size) w' aR v/\aA w w':=
 (uM w hE hM).mono fun _ _ ⟨v,h1,h2,h3,_⟩=>⟨v,h1,h2,h3⟩
theorem rC {W:World} {n:Nat} (h:W.heap.size=n) (cs:Array Value) (T:TypeId):aJ n cs (W.alloc (.cells cs T)):=h ▸ aJ.new W cs T
def inW (W:World) (b:Nat):Prop:=b<W.heap.size
end Go.Proofs.YtonlloiemgdfkaaGreatDoor
namespace Go.Proofs.YtonlloiemgdfkaaGreatDoor
open Go.RowKit
def thO:List MB:= [⟨3,[]⟩]
def msO:List MB:= [⟨0,[]⟩,⟨2,[]⟩]
def acO:List AC:= [⟨true,⟨3,[]⟩,0⟩,⟨false,⟨2,[]⟩,0⟩,⟨false,⟨0,[]⟩,0⟩]
theorem mA:gX aR msO 0 0=false/\gX aR msO 0 1=true/\gX aR msO 1 0=false/\gX aR msO 1 1=false:=by
 refine ⟨?_,?_,?_,?_⟩<;>simp [gX,lM,bY,cW,aR,msO,q0,q1,q2,q3,nB1,lR,tX,oK,isB,dZ,jE]
theorem nF (k:Nat):bX aR msO k=if k=0 then [1] else []:=by
 match k with
 | 0=>unfold bX;rw [show msO.length=2 from rfl];simp [List.range_succ,mA.1,mA.2.1]
 | 1=>unfold bX;rw [show msO.length=2 from rfl];simp [List.range_succ,mA.2.2.1,mA.2.2.2]
 | n+2=>unfold bX;rw [if_neg (by simp [msO])];simp
theorem aBi:fW aR msO=fun k i=>decide (k=0)&&decide (i=1):=by
 funext k i
 rw [Bool.eq_iff_iff,gM]
 have hno : ∀ a b,a≠0->¬ Rch (bX aR msO) a b:=fun a b ha hr=>by
  cases hr with
  | one h=>rw [nF,if_neg ha] at h;simp at h
  | more h _=>rw [nF,if_neg ha] at h;simp at h
 simp only [Bool.and_eq_true,decide_eq_true_eq]
 constructor
 ·intro hr
  by_cases hk:k=0
  ·subst hk
   refine ⟨rfl,?_⟩
   cases hr with
   | one h=>rw [nF,if_pos rfl] at h;simpa using h
   | more h h2=>
    rw [nF,if_pos rfl] at h
    obtain rfl:=List.mem_singleton.1 h
    exact absurd h2 (hno 1 i (by decide))
  ·exact absurd hr (hno k i hk)
 ·rintro ⟨rfl,rfl⟩
  exact .one (by rw [nF,if_pos rfl];simp)
theorem aCj:bH aR thO msO=acO:=by
 have hg:goP aR thO msO = [1,0]:=by unfold goP;rw [aBi];decide
 have hc:eP aR thO msO = [0,0]:=by unfold eP;rw [hg,aBi];decide
 have ho:sH aR msO ⟨3,[]⟩=true:=by simp [sH,shB,dZ,aR,msO,q0,q1,q2,q3]
 unfold bH
 rw [hg,hc,show thO = [⟨3,[]⟩] from rfl,List.filter_cons,if_pos ho]
 rfl
theorem aAy:fG aR thO msO=0:=by
 have h1:bA aR msO=0:=by
  unfold bA;rw [jD]
  show yB aR msO=0
  decide
 have h2:bA aR thO=0:=by
  unfold bA;rw [jD]
  show yB aR thO=0
  decide
 unfold fG
 rw [h1,h2];rfl
theorem wL {c:Nat} {z:Int} {W:World} (hc:aJ c #[.int .i64 z,.slice none 0 0] W):cC (inW W) W [⟨z,[]⟩] (.slice (some ⟨c,0,none⟩) 1 1):=by
 refine ⟨_,_,rfl,by simp,fun _=>⟨c,0,rfl,hc.1,fun j m hm=> ?_⟩⟩
 match j,hm with
 | 0,hm=>cases hm;exact ⟨_,hc.2 0,hc.2 1,none,0,rfl,by simp,fun h=>absurd h (by simp)⟩
theorem wM {c:Nat} {z y:Int} {W:World} (hc:aJ c #[.int .i64 z,.slice none 0 0,.int .i64 y,.slice none 0 0] W):cC (inW W) W [⟨z,[]⟩,⟨y,[]⟩] (.slice (some ⟨c,0,none⟩) 2 2):=by
 refine ⟨_,_,rfl,by simp,fun _=>⟨c,0,rfl,hc.1,fun j m hm=> ?_⟩⟩
 match j,hm with
 | 0,hm=>cases hm;exact ⟨_,hc.2 0,hc.2 1,none,0,rfl,by simp,fun h=>absurd h (by simp)⟩
 | 1,hm=>cases hm;exact ⟨_,hc.2 2,hc.2 3,none,0,rfl,by simp,fun h=>absurd h (by simp)⟩
theorem aBo {c:Nat} {W:World} (hc:aJ c #[.bool true,.int .i64 3,.slice none 0 0,.int .i64 0,.bool false,.int .i64 2,.slice none 0 0,.int .i64 0,.bool false,.int .i64 0,.slice none 0 0,.int .i64 0] W):cP (inW W) W acO (.slice (some ⟨c,0,none⟩) 3 3):=by
 refine ⟨_,_,rfl,by simp [acO],fun _=>⟨c,0,rfl,hc.1,fun j m hm=> ?_⟩⟩
 match j,hm with
 | 0,hm=>cases hm;exact ⟨_,hc.2 0,hc.2 1,hc.2 2,hc.2 3,none,0,rfl,by simp,fun h=>absurd h (by simp)⟩
 | 1,hm=>cases hm;exact ⟨_,hc.2 4,hc.2 5,hc.2 6,hc.2 7,none,0,rfl,by simp,fun h=>absurd h (by simp)⟩
 | 2,hm=>cases hm;exact ⟨_,hc.2 8,hc.2 9,hc.2 10,hc.2 11,none,0,rfl,by simp,fun h=>absurd h (by simp)⟩
theorem lE (w:World) (hE:Env w) (hM:fM w) :
  Calls Tryz.prog 33 #[] w fun e w'=>e=.returned (.bool true)/\aA w w':=by
 go_enter Tryz.func33,Tryz.ntmps33
 go_wp2_with fail
 refine (xD w hE hM).mono ?_
 rintro e w1 ⟨v1,rfl,hp1,k1⟩
 obtain ⟨p1,c1,rfl,-⟩:=hp1.len
 have HP1:=hid (aY.mono (S':=inW w1) (fun _ _=>rfl) (fun b hb=>hb.2) hp1)
 have K1:=hid k1
 clear hp1 k1 hE hM
 go_wp2_with fail
 refine cJ (fun W'=>aA w1 W'/\aJ (w1.heap.size+1) #[.int .i64 3,.slice none 0 0] W'/\aJ (w1.heap.size+1+1) #[.int .i64 0,.slice none 0 0,.int .i64 2,.slice none 0 0] W')
  ⟨((aA.alloc _ _).alloc' _).alloc' _,(rC (by simp) _ _).keep (aA.alloc _ _) (by simp),rC (by simp) _ _⟩ ?_
 rintro W2 ⟨k2,b2,m2⟩
 refine (sK (inW W2) aR thO msO _ _ _ W2 (fun _ h=>h) (aY.mono (bG (fun _ h=>h) k2) (fun b hb=>Nat.lt_of_lt_of_le hb k2.size) HP1.out) (wL b2) (wM m2)).mono ?_
 rintro e w3 ⟨k3,hd⟩
 rcases hd with ⟨hz,-⟩ | ⟨-,v3,rfl,ha3⟩
 ·exact absurd aAy hz
 rw [aCj] at ha3
 obtain ⟨p3,c3,hv3,-⟩:=ha3.len
 subst hv3
 have A3:=hid (ha3.mono (S':=inW w3) (fun _ _=>rfl) fun b hb=>hb.2)
 have K3:=hid (K1.out.trans (k2.trans k3))
 clear k2 b2 m2 k3 ha3
 go_wp2_with fail
 refine cJ (fun W'=>aA w3 W'/\aJ w3.heap.size #[.bool true,.int .i64 3,.slice none 0 0,.int .i64 0,.bool false,.int .i64 2,.slice none 0 0,.int .i64 0,.bool false,.int .i64 0,.slice none 0 0,.int .i64 0] W') ⟨aA.alloc _ _,aJ.new _ _ _⟩ ?_
 rintro W4 ⟨k4,b4⟩
 refine (qR (inW W4) acO acO _ _ W4 (fun _ h=>h) (A3.out.mono (bG (fun _ h=>h) k4) (fun b hb=>Nat.lt_of_lt_of_le hb k4.size)) (aBo b4)).mono ?_
 rintro e w5 ⟨β,rfl,hβ,k5⟩
 obtain rfl:β=true:=hβ.2 rfl
 have K5:=hid (K3.out.trans (k4.trans k5))
 clear k4 k5 b4 hβ
 go_wp2_with fail
 go_ret
 exact ⟨rfl,K5.out⟩
end Go.Proofs.YtonlloiemgdfkaaGreatDoor
