/- Steps of the proof: OrdPlan, OrdSame, ValidValid, ValidSmall, ValidAllowed, OrdClosed, OrdMapS. -/
import Derived.Test.YtonlloiemgdfkaaGreatDoorOm16
import Derived.Test.YtonlloiemgdfkaaGreatDoorOm13
import Derived.Test.YtonlloiemgdfkaaGreatDoorOm10
import Derived.Test.YtonlloiemgdfkaaGreatDoorOm11
import Derived.BigRegion
import Derived.Test.YtonlloiemgdfkaaGreatDoorOm14
set_option maxHeartbeats 16000000
set_option maxRecDepth 100000
namespace Go.Proofs.YtonlloiemgdfkaaGreatDoor
open Go.RowKit Go.Sort Go.Lib
theorem aCw {ps:List PK} {ms:List MB} {C:List (List Bool)} (hq:SqB C ms.length) (h : ∀ k i,k<ms.length->(bH C k i=true↔Rch (dB ps ms) k i)):bH C=gL ps ms:=by
 funext k i
 by_cases hk:k<ms.length
 ·rw [Bool.eq_iff_iff,h k i hk,gU]
 ·have h1:bH C k i=false:=by
   unfold bH
   rw [show C.getD k [] = [] by rw [List.getD_eq_getElem?_getD,List.getElem?_eq_none (by rw [hq.1];omega)];rfl]
   rfl
  have h2:gL ps ms k i=false:=by
   cases hc:gL ps ms k i with
   | false=>rfl
   | true=>
    have hr:=gU.1 hc
    have : ∃ j,j∈dB ps ms k:=by cases hr with
     | one h=>exact ⟨_,h⟩
     | more h _=>exact ⟨_,h⟩
    obtain ⟨j,hj⟩:=this
    exact absurd (lG.1 hj).1 hk
  rw [h1,h2]
def gE (ps:List PK) (th ms:List MB):Int:=if bK ps ms≠0 then bK ps ms else bK ps th
noncomputable def fR (ps:List PK) (th ms:List MB) (j:Nat):List AC:=((goP ps th ms).take j).map fun k=>⟨false,ms.getD k MB.zero,(fQ ps th ms).getD k 0⟩
theorem xE {ps:List PK} {th ms:List MB} {j:Nat} (h:j<(goP ps th ms).length):fR ps th ms (j+1)=fR ps th ms j ++ [⟨false,ms.getD (goP ps th ms)[j] MB.zero,(fQ ps th ms).getD (goP ps th ms)[j] 0⟩]:=by
 unfold fR
 rw [List.take_succ_eq_append_getElem h,List.map_append];rfl
theorem zZ (ps:List PK) (th ms:List MB) (j:Nat):(fR ps th ms j).length<=j:=by
 unfold fR;rw [List.length_map];exact List.length_take_le _ _
theorem mP (ps:List PK) (th ms:List MB):cN ps th ms th.length++fR ps th ms (goP ps th ms).length=aQ ps th ms:=by
 unfold cN fR aQ
 rw [List.take_length,List.take_length]
theorem rB (ps:List PK) (th ms:List MB):(goP ps th ms).length<=ms.length:=by
 have h1 : ∀ x∈goP ps th ms,x∈List.range ms.length:=fun x hx=>List.mem_range.2 (cL.1 hx).1
 have:=List.Nodup.length_le_of_subset (eX ps th ms) h1
 simpa using this
def yX (ps:List PK) (th ms:List MB) (w:World) (e:Ending) (w':World):Prop:=aA w w'/\((gE ps th ms≠0/\e=.returned (.tuple #[.slice none 0 0,.int .i64 (gE ps th ms)]))∨(gE ps th ms=0/\∃ v,e=.returned (.tuple #[v,.int .i64 0])/\cZ (fun b=>w.heap.size<=b/\b<w'.heap.size) w' (aQ ps th ms) v))
theorem tH (S:Nat->Prop) (ps:List PK) (th ms:List MB) (tv hv lv:Value) (w:World) (hS : ∀ b,S b->b<w.heap.size) (hp:bA S w ps tv) (ht:cE S w th hv) (hm:cE S w ms lv) :
  Calls Tryz.prog 30 #[.agg #[tv],hv,lv] w (yX ps th ms w):=by
 have HP:=hid hp
 have HT:=hid ht
 have HM:=hid hm
 obtain ⟨tp,tc,rfl,hlen⟩:=hp.len
 obtain ⟨hp',hc',rfl,hhl⟩:=ht.len
 obtain ⟨lp,lc,rfl,hll⟩:=hm.len
 obtain ⟨i0,hi,hz0,hz1,hz2⟩:=info_parts vX
 clear hp ht hm
 go_enter Tryz.func30,Tryz.ntmps30
 go_upto_region 1 with fail
 refine aY (fun W'=>aA w W'/\aC w.heap.size 24 (.slice tp ps.length tc) W') ⟨aA.alloc _ _,aC.new _ _ _⟩ ?_
 rintro W0 ⟨k0,v0⟩
 have K0:=hid k0
 have V0:=hid v0
 obtain ⟨g0,-,l0⟩:=v0.facts
 clear k0 v0
 generalize hct:w.heap.size=ct at V0 g0 l0 ⊢
 have HCT:=hid hct
 clear hct
 go_wp2_with fail
 refine (xH S ps ms _ _ W0 (fun b hb=>Nat.lt_of_lt_of_le (hS b hb) K0.out.size) (HP.out.keep hS K0.out) (HM.out.keep hS K0.out)).mono ?_
 rintro e W1 ⟨k1,hd⟩
 have K1:=hid (K0.out.trans k1)
 have V1:=hid (V0.out.keep k1 V0.out.facts.2.2)
 have HW01:Hid (W0.heap.size<=W1.heap.size):=k1.size
 clear k1 g0 l0 V0
 rcases hd with ⟨hz,rfl⟩ | ⟨hz,v1,rfl,hr1⟩
 ·have hc1:(bK ps ms != 0)=true:=by simp [hz]
  have HE:Hid (gE ps th ms=bK ps ms):=by show _=_;unfold gE;rw [if_pos hz]
  have HZ:=hid hz
  generalize bK ps ms=cz at hc1 HE HZ ⊢
  clear hz
  go_wp2_with fail
  refine bodyPost_ret (v:= .tuple #[.slice none 0 0,.int .i64 cz]) ?_ rfl ?_
  ·simp [results,Tryz.results30,go_sem]
  ·exact ⟨K1.out,.inl ⟨by rw [HE.out];exact HZ.out,by rw [HE.out]⟩⟩
 ·obtain ⟨rp,rc,hrv,-⟩:=hr1.len
  subst hrv
  rw [eY]
  have R1:=hid hr1
  rw [eY] at R1
  have HPE:Hid (gE ps th ms=bK ps th):=by show _=_;unfold gE;rw [if_neg (by simp [hz])]
  obtain ⟨-,-,-,-,h8,hok⟩:=fA hz
  have HOK:=hid hok
  have HZ:=hid hz
  obtain ⟨g0,-,l0⟩:=V1.out.facts
  clear hz hr1 hok
  go_wp2_with fail
  refine (kC S ps th _ _ W1 (fun b hb=>Nat.lt_of_lt_of_le (hS b hb) K1.out.size) (HP.out.keep hS K1.out) (HT.out.keep hS K1.out)).mono ?_
  rintro e W2 ⟨rfl,k2⟩
  have K2:=hid (K1.out.trans k2)
  have V2:=hid (V1.out.keep k2 V1.out.facts.2.2)
  have R2:=hid (R1.out.mono (S':=fun b=>b<W2.heap.size) (fun p hp=>k2.cell (p:=p) hp.2) fun b hb=>Nat.lt_of_lt_of_le hb.2 k2.size)
  clear k2 g0 l0 V1 R1
  by_cases hzt:bK ps th=0
  ·obtain ⟨-,hfl2,-,-,h8t,hokt⟩:=fA hzt
   have HOKT:=hid hokt
   have HPZ:Hid (gE ps th ms=0):=HPE.out.trans hzt
   have HONT:Hid (∀ m∈th,m.on.length<=1000):=fun m hm=>by
    obtain ⟨i,hi⟩:=List.mem_iff_getElem?.1 hm
    obtain ⟨x1,x2,x3⟩:=hokt i m hi
    rw [x3]
    have hq:m.pl.toNat<ps.length:=by omega
    have:aV ps m∈ps:=by unfold aV;rw [eU ps _ hq];exact List.getElem_mem hq
    have:=hfl2 _ this
    omega
   have HONM:Hid (∀ m∈ms,m.on.length<=1000):=fun m hm=>by
    obtain ⟨i,hi⟩:=List.mem_iff_getElem?.1 hm
    obtain ⟨x1,x2,x3⟩:=HOK.out i m hi
    rw [x3]
    have hq:m.pl.toNat<ps.length:=by omega
    have:aV ps m∈ps:=by unfold aV;rw [eU ps _ hq];exact List.getElem_mem hq
    have:=hfl2 _ this
    omega
   rw [hzt]
   clear hzt hokt hfl2
   go_wp2_with fail
   refine (uE (fun b=>b<W2.heap.size) (dB ps ms) (nR ps ms) _ ms.length W2 (fun _ h=>h) (by omega) (eY ps ms) (fun i hi=>pU hi) (fun i j hj=>(lG.1 hj).2.1) R2.out).mono ?_
   rintro e W3 ⟨cv,C,rfl,hcr,hsq,hci,k3⟩
   have HCE:=hid (aCw hsq hci)
   have HSQ:=hid hsq
   obtain ⟨cp,ccap,hcv,-⟩:=hcr.len
   subst hcv
   have C3:=hid (hcr.mono (S':=fun b=>b<W3.heap.size) (fun _ _=>rfl) fun b hb=>hb.2)
   have K3:=hid (K2.out.trans k3)
   have V3:=hid (V2.out.keep k3 V2.out.facts.2.2)
   clear k3 hcr hci V2 R2 hsq
   go_wp2_with fail
   refine (sY S th ms _ _ W3 (fun b hb=>Nat.lt_of_lt_of_le (hS b hb) K3.out.size) (HT.out.keep hS K3.out) (HM.out.keep hS K3.out) (by omega)).mono ?_
   rintro e W4 ⟨nv,rfl,hnv,k4⟩
   obtain ⟨np,ncap,hnvv,-⟩:=id hnv
   subst hnvv
   have N4:=hid (hnv.mono (S':=fun b=>b<W4.heap.size) (fun _ _=>rfl) fun b hb=>hb.2)
   have C4:=hid (C3.out.mono (S':=fun b=>b<W4.heap.size) (fun p hp=>k4.cell (p:=p) hp) fun b hb=>Nat.lt_of_lt_of_le hb k4.size)
   have K4:=hid (K3.out.trans k4)
   have V4:=hid (V3.out.keep k4 V3.out.facts.2.2)
   clear k4 hnv V3 C3
   go_wp2_with fail
   refine (uX (fun b=>b<W4.heap.size) C (pC th ms) ms.length _ _ W4 (fun _ h=>h) (by omega) N4.out (nY th ms) C4.out HSQ.out).mono ?_
   rintro e W5 ⟨liv,rfl,oli,k5⟩
   have e5:inL (bH C) (pC th ms)=goP ps th ms:=by rw [HCE.out];rfl
   rw [e5] at oli
   have O5:=hid oli
   obtain ⟨lip,lic,hliv,-⟩:=iR oli
   subst hliv
   rw [bQ]
   rw [bQ] at O5
   have hcap5:(goP ps th ms).length<=lic/\lic<=9223372036854775807:=by
    obtain ⟨-,⟨e,h0⟩ | ⟨g,cap,cur,e,-,-,h2,h3,-⟩⟩:=O5.out
    ·simp only [Value.slice.injEq] at e;rw [bQ] at h0;omega
    ·simp only [Value.slice.injEq] at e;rw [bQ] at h2;unfold maxLen at h3;omega
   have L5:=hid (show dU (fun b=>b<W5.heap.size) W5 (bU (goP ps th ms)) (.slice lip (goP ps th ms).length lic) from (iR O5.out).mono (fun _ _=>rfl) fun b hb=>hb.2)
   have C5:=hid (C4.out.mono (S':=fun b=>b<W5.heap.size) (fun p hp=>k5.cell (p:=p) hp) fun b hb=>Nat.lt_of_lt_of_le hb k5.size)
   have K5:=hid (K4.out.trans k5)
   have V5:=hid (V4.out.keep k5 V4.out.facts.2.2)
   clear k5 oli V4 C4 N4 e5
   go_wp2_with fail
   refine (vB (fun b=>b<W5.heap.size) C (goP ps th ms) ms.length _ _ _ W5 (fun _ h=>h) (by omega) L5.out hcap5.1 hcap5.2 C5.out HSQ.out (fun x hx=>(cL.1 hx).1) (rB ps th ms)).mono ?_
   rintro e W6 ⟨rfl,hcy,k6⟩
   have e6:xX (bH C) ms.length (goP ps th ms)=fQ ps th ms:=by rw [HCE.out];rfl
   rw [e6] at hcy
   have CY6:=hid hcy
   have L6:=hid (L5.out.mono (S':=fun b=>b<W6.heap.size) (fun p hp=>k6.cell (p:=p) hp) fun b hb=>Nat.lt_of_lt_of_le hb k6.size)
   have K6:=hid (K5.out.trans k6)
   have V6:=hid (V5.out.keep k6 V5.out.facts.2.2)
   clear k6 hcy V5 C5 L5 e6 O5
   generalize W5.heap.size=cg at CY6 ⊢
   obtain ⟨g0,-,l0⟩:=V6.out.facts
   go_wp2_with fail
   refine (tQ S ps th ms _ _ _ W6 (fun b hb=>Nat.lt_of_lt_of_le (hS b hb) K6.out.size) (HP.out.keep hS K6.out) (HT.out.keep hS K6.out) (HM.out.keep hS K6.out) HOKT.out HOK.out (by omega) HONT.out).mono ?_
   rintro e W7 ⟨av,rfl,har,k7,HSZ7⟩
   obtain ⟨ap,acap,hav⟩:=har.shape
   subst hav
   have A7:=hid har
   have K67:=hid k7
   have K7:=hid (K6.out.trans k7)
   have CY7:=hid (CY6.out.keep k7)
   have L7:=hid (L6.out.mono (S':=fun b=>b<W6.heap.size) (fun p hp=>k7.cell (p:=p) hp) fun b hb=>hb)
   clear k7 har g0 l0 V6
   have hgl:=rB ps th ms
   have HPL:=hid (mP ps th ms)
   have HOL:=hid (oB ps th ms th.length)
   have HBS:Hid (W6.heap.size+1<=W7.heap.size):=HSZ7
   have HAC:Hid (cN ps th ms th.length=cN ps th ms th.length++fR ps th ms 0):=by show _=_;unfold fR;simp
   have HB:Hid (w.heap.size<=W6.heap.size+1/\W6.heap.size<=W7.heap.size/\cg<W6.heap.size):=⟨by have:=K6.out.size;omega,K67.out.size,CY6.out.1.facts.2.2⟩
   rw [HAC.out] at A7
   rw [HAC.out]
   generalize cN ps th ms th.length=outs at A7 HOL HPL ⊢
   go_wp2_with fail
   go_loopg [48,14] (goP ps th ms).length (fun gk iv av wr=> ∃ j:Nat,j+gk=(goP ps th ms).length/\iv=.int .i64 j/\bR (W6.heap.size+1) av (outs++fR ps th ms j) wr/\Below (W6.heap.size+1) W7 wr)
   case atStart=>exact ⟨0,by omega,rfl,by have:=A7.out;rw [List.length_append] at this;exact this,Below.refl _ _⟩
   case round=>
    obtain ⟨j,hjg,rfl,har,hkb⟩:=hrel
    have AR:=hid har
    have KB:=hid hkb
    have KR:=hid (show aA w wr from Below.trans K7.out (hkb.mono HB.out.1))
    clear har hkb
    by_cases hlt:j<(goP ps th ms).length
    ·have hkm:=(cL.1 (List.getElem_mem hlt)).1
     have HSU:=hid (xE hlt)
     have hSr : ∀ b,S b->b<wr.heap.size:=fun b hb=>Nat.lt_of_lt_of_le (hS b hb) KR.out.size
     obtain ⟨p',c',e',-,h3⟩:=(L7.out.mono (S':=fun b=>b<W6.heap.size) (fun p hp=>KB.out.cell (p:=p) (by have:p.block<W6.heap.size:=hp;omega)) fun _ h=>h)
     rw [bQ] at e' h3
     cases e'
     obtain ⟨lb,loff,rfl,hlb,hcell⟩:=h3 (by omega)
     have hcj:=hcell j _ (iX hlt)
     have hlbl:lb<wr.heap.size:=by have:=KB.out.size;have:=HB.out;omega
     clear h3 hcell
     generalize (goP ps th ms)[j]=k at hkm HSU hcj
     obtain ⟨mb,moff,mcap,hmv,hmS,-,hrow⟩:=(HM.out.keep hS KR.out).get hkm
     cases hmv
     obtain ⟨op,oc,hc0,hc1,hol,hbl⟩:=hrow k _ (List.getElem?_eq_getElem hkm)
     have ho1:=HONM.out _ (List.getElem_mem hkm)
     rw [cJ ms k hkm] at HSU
     have HBL:=hid hbl
     generalize ms[k]=m at hc0 hc1 hol HBL HSU ho1
     rcases m with ⟨pl,on⟩
     simp only at hc0 hc1 hol HBL HSU ho1
     have hcy:=(jX.cell ⟨CY7.out.1.keep KB.out (by have:=HB.out.2.2;omega),CY7.out.2⟩ hkm:wr.cell? ⟨cg,k,none⟩=_/\_)
     obtain ⟨y1,-,y3⟩:=hcy
     generalize (fQ ps th ms).getD k 0=ck at HSU y1
     have hml:=hSr mb hmS
     have HS:=hid (show wr.cell? ⟨mb,moff+k*2,none⟩=some (.int .i64 pl)/\wr.cell? ⟨mb,moff+k*2+1,none⟩=some (.slice op on.length oc)/\wr.cell? ⟨cg,k,none⟩=some (.int .i64 ck) from ⟨hc0,hc1,y1⟩)
     have HSd:=hid (show wr.drew.cell? ⟨mb,moff+k*2,none⟩=some (.int .i64 pl)/\wr.drew.cell? ⟨mb,moff+k*2+1,none⟩=some (.slice op on.length oc)/\wr.drew.cell? ⟨cg,k,none⟩=some (.int .i64 ck) from ⟨hc0,hc1,y1⟩)
     have HCW:=hid (show ∀ W,aA wr W->Calls Tryz.prog 82 #[.agg #[.int .i64 pl,.slice op on.length oc]] W fun e w'=> ∃ v,e=.returned (.agg #[.int .i64 pl,v])/\aJ (fun b=>W.heap.size<=b/\b<w'.heap.size) w' on v/\aA W w' from fun W kW=>qI S ⟨pl,on⟩ op oc W (fun b hb=>Nat.lt_of_lt_of_le (hSr b hb) kW.size) (HBL.out.keep hSr kW) ho1)
     obtain ⟨xp,xc,hxv⟩:=AR.out.shape
     subst hxv
     have HIL:=hid (zZ ps th ms j)
     have hol2:=HOL.out
     have hil2:=HIL.out
     have HAPP:Hid ((outs++fR ps th ms j).length=outs.length+(fR ps th ms j).length):=List.length_append
     have hacl:(outs++fR ps th ms j).length<=100:=by rw [HAPP.out];omega
     have HSU2:Hid (outs++fR ps th ms (j+1)=(outs++fR ps th ms j) ++ [⟨false,⟨pl,on⟩,ck⟩]):=by show _=_;rw [HSU.out,List.append_assoc]
     generalize outs++fR ps th ms j=acc at AR hacl HSU2 HAPP ⊢
     have HOW:=hid (show ∀ g,(Value.slice xp acc.length xc).ownBlock=some g->W6.heap.size+1<=g/\g<wr.heap.size from AR.out.own)
     clear hc0 hc1 y1 hrow hbl HSU
     have hwB:W6.heap.size+1<=wr.heap.size:=by have:=KB.out.size;have:=HBS.out;omega
     have HAP:=hid (show ∀ (w8 w6':World) (vp:Option Addr) (vc:Nat) (v5:Value) (o:Obj),aA wr w8->aJ (fun b=>wr.heap.size<=b/\b<w8.heap.size) w8 on (.slice vp on.length vc)->(w8.cell? ⟨mb,moff+k*2,none⟩=some (.int .i64 pl)/\w8.cell? ⟨mb,moff+k*2+1,none⟩=some (.slice op on.length oc)/\w8.cell? ⟨cg,k,none⟩=some (.int .i64 ck))->∀ csl:List (List Value),csl.length=acc.length->(∀ cs∈csl,cs.length=4)->(∀ (i:Nat) t cs,acc[i]? = some t->csl[i]? = some cs->hZ (fun b=>W6.heap.size+1<=b/\b<w8.heap.size/\(Value.slice xp acc.length xc).ownBlock≠some b) w8 t cs)->w6'.ownsRow (W6.heap.size+1) 81 4 v5 (acc.length+1) (csl.flatten ++ [.bool false,.int .i64 pl,.slice vp on.length vc,.int .i64 ck])->(w8.alloc o).grownBy w6' (Value.slice xp acc.length xc).ownBlock->(v5.ownBlock=(Value.slice xp acc.length xc).ownBlock∨v5.ownBlock=some (w8.alloc o).heap.size)->(bR (W6.heap.size+1) v5 (acc ++ [⟨false,⟨pl,on⟩,ck⟩]) w6'/\Below (W6.heap.size+1) wr w6')/\(w6'.cell? ⟨mb,moff+k*2,none⟩=some (.int .i64 pl)/\w6'.cell? ⟨mb,moff+k*2+1,none⟩=some (.slice op on.length oc)/\w6'.cell? ⟨cg,k,none⟩=some (.int .i64 ck)) from by
      intro w8 w6' vp vc v5 o k8 hb8 hs csl e1 e2 e4 h1 h2 h4
      have hlow:Below (W6.heap.size+1) wr w6':=Below.trans (k8.mono hwB) (((Below.refl _ w8).alloc (Nat.le_trans hwB k8.size) o).grown h2 (by rw [aE];have:=k8.size;omega) (fun g hg=>(HOW.out g hg).1))
      refine ⟨⟨bR.push (B':=wr.heap.size) e1 e2 e4 hwB (fun g hg=>(HOW.out g hg).2) ⟨_,rfl,hb8⟩ rfl h1 h2 h4,hlow⟩,?_⟩
      have hmb:mb<W6.heap.size+1:=by have:=hS mb hmS;have:=HB.out.1;omega
      have hcg:cg<W6.heap.size+1:=by have:=HB.out.2.2;omega
      exact ⟨(hlow.cell (p:=⟨mb,moff+k*2,none⟩) hmb).trans HS.out.1,(hlow.cell (p:=⟨mb,moff+k*2+1,none⟩) hmb).trans HS.out.2.1,(hlow.cell (p:=⟨cg,k,none⟩) hcg).trans HS.out.2.2⟩)
     go_upto_region 14 with fail
     go_region_held3 (fun W'=>W'.cell? ⟨mb,moff+k*2,none⟩=some (.int .i64 pl)/\W'.cell? ⟨mb,moff+k*2+1,none⟩=some (.slice op on.length oc)/\W'.cell? ⟨cg,k,none⟩=some (.int .i64 ck))
      (first | with_reducible exact HS.out | with_reducible exact HSd.out | with_reducible exact HS8.out | with_reducible exact HS9.out | with_reducible exact HS6.out | go_keep)
      (first
       | (go_at_call 82;refine (HCW.out _ (aA.drew (aA.refl _))).mono ?_;rintro e w8 ⟨v8,rfl,hb8,k8⟩;obtain ⟨vp,vc,hv8,-⟩:=id hb8;subst hv8;have K8:=hid (cI k8);have B8:=hid (show aJ (fun b=>wr.heap.size<=b/\b<w8.heap.size) w8 on (.slice vp on.length vc) from hb8);have HS8:=hid (show w8.cell? ⟨mb,moff+k*2,none⟩=some (.int .i64 pl)/\w8.cell? ⟨mb,moff+k*2+1,none⟩=some (.slice op on.length oc)/\w8.cell? ⟨cg,k,none⟩=some (.int .i64 ck) from ⟨(K8.out.cell (p:=⟨mb,moff+k*2,none⟩) hml).trans HS.out.1,(K8.out.cell (p:=⟨mb,moff+k*2+1,none⟩) hml).trans HS.out.2.1,(K8.out.cell (p:=⟨cg,k,none⟩) y3).trans HS.out.2.2⟩);have A8:=hid (AR.out.keep K8.out);obtain ⟨csl,e1,e2,e3,e4⟩:=A8.out;have OW8:=hid e3;have E4:=hid e4;clear k8 hb8 e3 e4)
       | (refine Cn.eO rfl _ _ 56 rfl (W6.heap.size+1) 81 i0 (.agg #[.bool false,.int .i64 0,.slice none 0 0,.int .i64 0]) 4 48 Tryz.underlying56 hi hz0 hz1 hz2 rfl (by decide) (.slice xp acc.length xc) acc.length csl.flatten rfl (World.ownsRow.alloc OW8.out _) ⟨w8.heap.size,0,none⟩ 1 1 [.bool false,.int .i64 pl,.slice vp on.length vc,.int .i64 ck] rfl rfl eG (by intro u hu;simp at hu;rcases hu with rfl | rfl | rfl | rfl<;>rfl) (by unfold maxLen;omega) (by omega) (by rw [aE];have:=K8.out.size;omega) ?_;intro v5 w6' h1 h2 h4;have PP:=hid (HAP.out w8 w6' vp vc v5 _ K8.out B8.out HS8.out csl e1 e2 E4.out h1 h2 h4);have P6:=hid PP.out.1;have HS6:=hid PP.out.2;clear h1 h2 h4 PP))
     obtain ⟨g6,cap6,hv6⟩:=P6.out.1.shape
     subst hv6
     go_wp2_with fail
     go_roundg ((goP ps th ms).length-(j+1))
     case rel=>exact ⟨j+1,by omega,by go_num,by rw [HSU2.out];exact P6.out.1,Below.trans KB.out P6.out.2⟩
     case measure=>omega
    ·obtain rfl:j=(goP ps th ms).length:=by omega
     have HF:=hid AR.out.final
     rw [show outs++fR ps th ms (goP ps th ms).length=aQ ps th ms from HPL.out] at HF
     obtain ⟨xp,xc,hxv⟩:=AR.out.shape
     subst hxv
     go_wp2_with fail
     refine bodyPost_ret (v:= .tuple #[.slice xp (outs++fR ps th ms (goP ps th ms).length).length xc,.int .i64 0]) ?_ rfl ?_
     ·simp [results,Tryz.results30,go_sem]
     ·exact ⟨KR.out,.inr ⟨HPZ.out,_,rfl,HF.out.mono (fun _ _=>rfl) fun b hb=>⟨by have:=HB.out.1;omega,hb.2⟩⟩⟩
  ·have hc1:(bK ps th != 0)=true:=by simp [hzt]
   have HZT:=hid hzt
   generalize bK ps th=cz at hc1 HPE HZT ⊢
   clear hzt
   go_wp2_with fail
   refine bodyPost_ret (v:= .tuple #[.slice none 0 0,.int .i64 cz]) ?_ rfl ?_
   ·simp [results,Tryz.results30,go_sem]
   ·exact ⟨K2.out,.inl ⟨by rw [HPE.out];exact HZT.out,by rw [HPE.out]⟩⟩
end Go.Proofs.YtonlloiemgdfkaaGreatDoor
namespace Go.Proofs.YtonlloiemgdfkaaGreatDoor
open Go.RowKit
theorem uI (args:Array Value) (w:World):(callFunc 91 args).run Tryz.prog w=.ok (.enter 91 args) w:=enters_of Tryz.func91 (by kernel_rfl) rfl args w
theorem tL (S:Nat->Prop) (x y:AC) (p1 p2:Option Addr) (c1 c2:Nat) (w:World) (hS : ∀ b,S b->b<w.heap.size) (h1:aJ S w x.m.on (.slice p1 x.m.on.length c1)) (h2:aJ S w y.m.on (.slice p2 y.m.on.length c2)) :
  Calls Tryz.prog 91 #[.agg #[.bool x.out,.int .i64 x.m.pl,.slice p1 x.m.on.length c1,.int .i64 x.cy],.agg #[.bool y.out,.int .i64 y.m.pl,.slice p2 y.m.on.length c2,.int .i64 y.cy]] w fun e w'=> ∃ β:Bool,e=.returned (.bool β)/\(β=true↔x=y)/\aA w w':=by
 have H1:=hid h1
 have H2:=hid h2
 clear h1 h2
 rcases x with ⟨xo,⟨xp,xs⟩,xc⟩
 rcases y with ⟨yo,⟨yp,ys⟩,yc⟩
 simp only at H1 H2 ⊢
 have HW:Hid (aA w ((w.alloc (.cells #[.bool xo,.int .i64 xp,.slice p1 xs.length c1,.int .i64 xc] 81)).alloc (.cells #[.bool yo,.int .i64 yp,.slice p2 ys.length c2,.int .i64 yc] 81))):=(aA.alloc _ _).alloc' _
 cases ho:(xo==yo)
 ·have HF:Hid (¬ (⟨xo,⟨xp,xs⟩,xc⟩:AC)=⟨yo,⟨yp,ys⟩,yc⟩):=fun e=>by cases e;simp at ho
  go_enter Tryz.func91,Tryz.ntmps91
  go_wp2_with fail
  go_ret
  exact ⟨false,rfl,⟨fun h=>Bool.noConfusion h,fun h=>absurd h HF.out⟩,HW.out⟩
 ·have hoe:xo=yo:=by simpa using ho
  cases hc:(xc==yc)
  ·have HF:Hid (¬ (⟨xo,⟨xp,xs⟩,xc⟩:AC)=⟨yo,⟨yp,ys⟩,yc⟩):=fun e=>by cases e;simp at hc
   clear hoe
   go_enter Tryz.func91,Tryz.ntmps91
   go_wp2_with fail
   go_ret
   exact ⟨false,rfl,⟨fun h=>Bool.noConfusion h,fun h=>absurd h HF.out⟩,HW.out⟩
  ·have hce:xc=yc:=by simpa using hc
   have HX:Hid ((⟨xp,xs⟩:MB)=⟨yp,ys⟩↔(⟨xo,⟨xp,xs⟩,xc⟩:AC)=⟨yo,⟨yp,ys⟩,yc⟩):=⟨fun h=>by rw [h,hoe,hce],fun h=>by cases h;rfl⟩
   clear hoe hce HW
   go_enter Tryz.func91,Tryz.ntmps91
   go_wp2_with fail
   refine cQ (fun W'=>aA w W') ((aA.alloc _ _).alloc' _) ?_
   intro W2 k2
   refine (hN S ⟨xp,xs⟩ ⟨yp,ys⟩ _ _ W2 (fun b hb=>Nat.lt_of_lt_of_le (hS b hb) k2.size) (H1.out.keep hS k2) (H2.out.keep hS k2)).mono ?_
   rintro e w3 ⟨β,rfl,hβ,k3⟩
   have K3:=hid (k2.trans k3)
   have HB:=hid (hβ.trans HX.out)
   clear k2 k3 hβ
   go_wp2_with fail
   go_ret
   exact ⟨β,rfl,HB.out,K3.out⟩
theorem qY (S:Nat->Prop) (xs ys:List AC) (v1 v2:Value) (w:World) (hS : ∀ b,S b->b<w.heap.size) (h1:cZ S w xs v1) (h2:cZ S w ys v2) :
  Calls Tryz.prog 90 #[v1,v2,.func (.func 91) #[] #[]] w fun e w'=> ∃ β:Bool,e=.returned (.bool β)/\(β=true↔xs=ys)/\aA w w':=by
 have H1:=hid h1
 have H2:=hid h2
 obtain ⟨p1,c1,rfl,⟨-,hl1⟩,-⟩:=h1
 obtain ⟨p2,c2,rfl,⟨-,hl2⟩,-⟩:=h2
 have hent:=uI
 by_cases hl:xs.length=ys.length
 ·have HL:=hid hl
  have HW:Hid (aA w w):=aA.refl _
  rw [← hl]
  clear hl
  go_enter Tryz.func90,Tryz.ntmps90
  go_wp2_with fail
  go_loopg [17] xs.length (fun gk i wr=> ∃ j:Nat,j+gk=xs.length/\i=.int .i64 j/\(∀ i,i<j->xs[i]? = ys[i]?)/\aA w wr)
  case atStart=>exact ⟨0,by simp,rfl,fun i hi=>absurd hi (Nat.not_lt_zero _),HW.out⟩
  case round=>
   obtain ⟨j,hj,rfl,hal,hkp⟩:=hrel
   have HKP:=hid hkp
   have HAL:=hid hal
   clear hkp hal
   by_cases hlt:j<xs.length
   ·obtain ⟨q1,d1,hv1,-,hr1⟩:=H1.out.keep hS HKP.out
    obtain ⟨q2,d2,hv2,-,hr2⟩:=H2.out.keep hS HKP.out
    rw [← HL.out] at hv2 hr2
    cases hv1
    cases hv2
    obtain ⟨b1,o1,rfl,hb1,hc1⟩:=hr1 (by omega)
    obtain ⟨b2,o2,rfl,hb2,hc2⟩:=hr2 (by omega)
    have hlt2:j<ys.length:=by rw [← HL.out];exact hlt
    have e1:xs[j]? = some xs[j]:=List.getElem?_eq_getElem hlt
    have e2:ys[j]? = some ys[j]:=List.getElem?_eq_getElem hlt2
    obtain ⟨ov1,g1,g1',g1a,g1b,hbo1⟩:=hc1 j _ e1
    obtain ⟨ov2,g2,g2',g2a,g2b,hbo2⟩:=hc2 j _ e2
    have E1:=hid e1
    have E2:=hid e2
    have hb1':b1<wr.heap.size:=Nat.lt_of_lt_of_le (hS _ hb1) HKP.out.size
    have hb2':b2<wr.heap.size:=Nat.lt_of_lt_of_le (hS _ hb2) HKP.out.size
    generalize xs[j]=x at g1 g1' g1b E1 hbo1
    generalize ys[j]=y at g2 g2' g2b E2 hbo2
    have HO1:=hid hbo1
    have HO2:=hid hbo2
    obtain ⟨r1,s1,rfl,-,-⟩:=hbo1
    obtain ⟨r2,s2,rfl,-,-⟩:=hbo2
    clear hc1 hc2 hr1 hr2 e1 e2
    go_wp2_with fail
    refine cQ (fun W'=>aA wr W') ((aA.alloc _ _).alloc' _) ?_
    intro W2 k2
    have hS2 : ∀ b,S b->b<wr.heap.size:=fun b hb=>Nat.lt_of_lt_of_le (hS b hb) HKP.out.size
    refine (tL S x y _ _ _ _ W2 (fun b hb=>Nat.lt_of_lt_of_le (hS2 b hb) k2.size) (HO1.out.keep hS2 k2) (HO2.out.keep hS2 k2)).mono ?_
    rintro e w3 ⟨β,rfl,hβ,k3⟩
    have K3:=hid (HKP.out.trans (k2.trans k3))
    clear k2 k3 hS2 g1 g1' g2 g2' g1a g1b g2a g2b
    cases β
    ·have HF:Hid (¬ xs=ys):=fun e=>Bool.noConfusion (hβ.2 (by have h1:=E1.out;rw [e,E2.out] at h1;exact (Option.some.inj h1).symm))
     clear hβ
     go_wp2_with fail
     go_ret
     exact ⟨false,rfl,⟨fun h=>Bool.noConfusion h,fun h=>absurd h HF.out⟩,K3.out⟩
    ·have HN:Hid (∀ i,i<j+1->xs[i]? = ys[i]?):=fun i hi=>by
      by_cases e:i=j
      ·subst e;rw [E1.out,E2.out,hβ.1 rfl]
      ·exact HAL.out i (by omega)
     clear hβ
     go_wp2_with fail
     go_roundg (xs.length-(j+1))
     case rel=>exact ⟨j+1,by omega,by go_num,HN.out,K3.out⟩
     case measure=>omega
   ·have HF:Hid (xs=ys):=nA HL.out fun i hi=>HAL.out i (by omega)
    go_wp2_with fail
    go_ret
    exact ⟨true,rfl,⟨fun _=>HF.out,fun _=>rfl⟩,HKP.out⟩
 ·have hz1:((xs.length:Int)==(ys.length:Int))=false:=beq_eq_false_iff_ne.2 fun e=>hl (by omega)
  have hz2:((xs.length:Int) != (ys.length:Int))=true:=bne_iff_ne.2 fun e=>hl (by omega)
  have HF:Hid (¬ xs=ys):=fun e=>hl (by rw [e])
  clear hl
  go_enter Tryz.func90,Tryz.ntmps90
  go_wp2_with fail
  go_ret
  exact ⟨false,rfl,⟨fun h=>Bool.noConfusion h,fun h=>absurd h HF.out⟩,aA.refl _⟩
theorem rM (S:Nat->Prop) (xs ys:List AC) (v1 v2:Value) (w:World) (hS : ∀ b,S b->b<w.heap.size) (h1:cZ S w xs v1) (h2:cZ S w ys v2) :
  Calls Tryz.prog 37 #[v1,v2] w fun e w'=> ∃ β:Bool,e=.returned (.bool β)/\(β=true↔xs=ys)/\aA w w':=by
 have H1:=hid h1
 have H2:=hid h2
 clear h1 h2
 go_enter Tryz.func37,Tryz.ntmps37
 go_wp2_with fail
 refine (qY S xs ys _ _ w hS H1.out H2.out).mono ?_
 rintro e w3 ⟨β,rfl,hβ,k3⟩
 have K3:=hid k3
 have HB:=hid hβ
 clear k3 hβ
 go_wp2_with fail
 go_ret
 exact ⟨β,rfl,HB.out,K3.out⟩
end Go.Proofs.YtonlloiemgdfkaaGreatDoor
namespace Go.Proofs.YtonlloiemgdfkaaGreatDoor
open Go.RowKit Go.Sort
end Go.Proofs.YtonlloiemgdfkaaGreatDoor
namespace Go.Proofs.YtonlloiemgdfkaaGreatDoor
def nB1:NT:= .node 3 At.zero ⟨#[]⟩ false [oZ 98]
def uT:NT:= .node 2 ⟨⟨#[99]⟩,0,0,0,⟨#[]⟩,false⟩ ⟨#[]⟩ false []
def mG:NT:= .node 3 At.zero ⟨#[]⟩ false [uT]
def q0:PK:=⟨⟨#[97]⟩,1,1,[],nB1⟩
def q1:PK:=⟨⟨#[97]⟩,2,1,[⟨#[120]⟩],nV⟩
def q2:PK:=⟨⟨#[98]⟩,1,1,[],mG⟩
def q3:PK:=⟨⟨#[99]⟩,1,1,[],iN⟩
def aS:List PK:= [q0,q1,q2,q3]
def F3:List UInt8:= [97,32,49,32,49,32,32,40,32,98,32,41,10,97,32,50,32,49,32,120,32,40,32,120,63,32,40,32,98,32,41,32,41,10,98,32,49,32,49,32,32,40,32,33,99,32,41,10,99,32,49,32,49,32,32,40,32,41,10]
theorem aBw:uT.ok:=by
 unfold uT
 rw [NT.ok]
 have h:aK [99]=true:=by decide
 exact ⟨gY 2 _ (Or.inr rfl) (by show chk [99] 0 0 0 [] false=0;unfold chk;rw [if_neg (by simp [h]),if_neg (by decide),if_neg (by decide)]),trivial⟩
theorem aDe:nB1.ok:=by
 unfold nB1
 rw [NT.ok,okL,okL]
 exact ⟨dP 3 _ (Or.inl rfl),vZ (by decide),trivial⟩
theorem aCa:mG.ok:=by
 unfold mG
 rw [NT.ok,okL,okL]
 exact ⟨dP 3 _ (Or.inl rfl),aBw,trivial⟩
theorem kR:dK nB1=false/\dK mG=false:=by
 have i1:aI 1=2:=gA (by decide) (by decide)
 refine ⟨?_,?_⟩<;>simp [dK,nB1,mG,uT,oZ,bF,bE,fN,i1]
theorem aBz:cY nB1=0:=cU.2 ⟨kR.1,aDe⟩
theorem aAk:cY mG=0:=cU.2 ⟨kR.2,aCa⟩
theorem vR:jL aS=F3:=by
 simp [jL,iJ,aS,q0,q1,q2,q3,nB1,mG,uT,nV,nIf,iN,NT.text,oZ,NT.words,aX,dH,bG,aEg,aEh,F3,Lib.join]
theorem vI:nB1.sorted = []:=by
 have:nB1.flags = []:=by simp [nB1,oZ,NT.flags,eD]
 unfold NT.sorted
 rw [this,List.map_nil,List.mergeSort_nil];exact fY
theorem tN:mG.sorted = []:=by
 have:mG.flags = []:=by simp [mG,uT,NT.flags,eD]
 unfold NT.sorted
 rw [this,List.map_nil,List.mergeSort_nil];exact fY
theorem zR:cR [(⟨#[120]⟩:ByteArray)]=0:=by
 have n1:aK [120]=true:=by decide
 simp [cR,bY,flE,n1]
theorem aCz:gW [(⟨#[120]⟩:ByteArray)] [120]=true:=by unfold gW;rw [Lib.containsS_iff];simp
theorem aDh:aK [99]=true:=by decide
theorem aCs:dG q0=0:=by
 have hk:nB1.kind=3:=rfl
 simp [dG,q0,aAl,cR,bY,eQ,hk,aBz,vI]
theorem aCt:dG q1=0:=by
 have hk:nV.kind=3:=rfl
 simp [dG,q1,aAl,zR,eQ,hk,aAi,tM,aCz]
theorem aCu:dG q2=0:=by
 have hk:mG.kind=3:=rfl
 simp [dG,q2,aDg,cR,bY,eQ,hk,aAk,tN]
theorem aCv:dG q3=0:=by
 have hk:iN.kind=3:=rfl
 simp [dG,q3,aDh,cR,bY,eQ,hk,xP,rN]
theorem wP:cW q1 q0=true:=by simp [cW,q0,q1]
theorem wQ:cW q2 q1=true:=by
 have h1:leS ⟨#[98]⟩ ⟨#[97]⟩=false:=by unfold leS;rw [Lib.toList_data,Lib.toList_data];decide
 simp [cW,q1,q2,h1]
theorem wR:cW q3 q2=true:=by
 have h1:leS ⟨#[99]⟩ ⟨#[98]⟩=false:=by unfold leS;rw [Lib.toList_data,Lib.toList_data];decide
 simp [cW,q3,q2,h1]
theorem jR:eK aS=0:=by
 have s1:dS aS 1=0:=rfl
 have s2:dS aS 2=1:=rfl
 have s3:dS aS 3=1:=rfl
 have s4:dS aS 4=1:=rfl
 have h8 : ¬ 8<aS.length:=by decide
 have hl:aS.length=4:=rfl
 unfold eK
 rw [if_neg h8]
 have e0:pkE aS 0=0:=by unfold pkE;rw [show aS.getD 0 PK.zero=q0 from rfl,aCs];simp [s1,hl]
 have e1:pkE aS 1=0:=by unfold pkE;rw [show aS.getD 1 PK.zero=q1 from rfl,show aS.getD (1-1) PK.zero=q0 from rfl,aCt,wP];simp [s2,hl]
 have e2:pkE aS 2=0:=by unfold pkE;rw [show aS.getD 2 PK.zero=q2 from rfl,show aS.getD (2-1) PK.zero=q1 from rfl,aCu,wQ];simp [s3,hl]
 have e3:pkE aS 3=0:=by unfold pkE;rw [show aS.getD 3 PK.zero=q3 from rfl,show aS.getD (3-1) PK.zero=q2 from rfl,aCv,wR];simp [s4,hl]
 rw [hl]
 simp [bY,e0,e1,e2,e3]
theorem aBk:rdT F3=(0,0,aS):=by
 rw [← vR]
 exact aAv jR (by rw [vR];decide)
end Go.Proofs.YtonlloiemgdfkaaGreatDoor
namespace Go.Proofs.YtonlloiemgdfkaaGreatDoor
open Go.RowKit Go.Sort
theorem vH (w:World) (hE:Env w) (hM:fV w) :
  Calls Tryz.prog 66 #[] w fun e w'=> ∃ v,e=.returned (.tuple #[.agg #[v],.bool true])/\bA (fun b=>w.heap.size<=b/\b<w'.heap.size) w' aS v/\aA w w'/\vQ v:=by
 have HE:=hid hE
 have HM:=hid hM
 clear hE hM
 go_enter Tryz.func66,Tryz.ntmps66
 go_wp2_with fail
 refine cQ (fun W'=>aA w W'/\aC w.heap.size 24 (.slice none 0 0) W') ⟨aA.alloc _ _,aC.new _ _ _⟩ ?_
 rintro W0 ⟨k0,v0⟩
 refine (oK _ W0 (HE.out.keep k0) (HM.out.keep k0)).mono ?_
 rintro e w1 ⟨v1,rfl,-,hp1,k1,hcap1⟩
 have hrd:rdT (ByteArray.mk #[97,32,49,32,49,32,32,40,32,98,32,41,10,97,32,50,32,49,32,120,32,40,32,120,63,32,40,32,98,32,41,32,41,10,98,32,49,32,49,32,32,40,32,33,99,32,41,10,99,32,49,32,49,32,32,40,32,41,10]).data.toList=(0,0,aS):=aBk
 rw [hrd] at hp1 ⊢
 simp only at hp1 ⊢
 obtain ⟨p1,c1,rfl,-⟩:=hp1.len
 have hlen:aS.length=4:=rfl
 rw [hlen] at hp1 hcap1 ⊢
 have HCAP:=hid hcap1
 clear hcap1
 have K0s:=k0.size
 have hW0:w.heap.size+1<=W0.heap.size:=v0.facts.2.2
 have HP1:Hid (bA (fun b=>w.heap.size+1<=b/\b<w1.heap.size) w1 aS (.slice p1 4 c1)):=bA.mono (fun _ _=>rfl) (fun b hb=>⟨Nat.le_trans hW0 hb.1,hb.2⟩) hp1
 have K1:=hid (k0.trans k1)
 have V1:=hid (v0.keep k1 v0.facts.2.2)
 have hsz1:w.heap.size+1<=w1.heap.size:=by have:=V1.out.facts.2.2;omega
 clear k0 v0 hp1 k1 hrd hlen
 go_upto_region 2 with fail
 refine aY (fun W'=>aA w W'/\aA w1 W'/\aC w.heap.size 24 (.slice none 0 0) W'/\aC w1.heap.size 24 (.slice p1 4 c1) W') ⟨K1.out.alloc' _,aA.alloc _ _,V1.out.keep (aA.alloc _ _) V1.out.facts.2.2,aC.new _ _ _⟩ ?_
 rintro W2 ⟨k2,k12,v2,t2⟩
 have K2:=hid k2
 have K12:=hid k12
 have V2:=hid v2
 obtain ⟨g1,z1,l1⟩:=v2.facts
 obtain ⟨g2,z2,l2⟩:=t2.facts
 clear k2 k12 v2 t2
 go_region
 have v3:=V2.out.set (.slice p1 4 c1)
 have HQ:Hid (aC w.heap.size 24 (.slice p1 4 c1) (W2.setCell ⟨w.heap.size,0,none⟩ (.slice p1 4 c1)).drew/\aA w (W2.setCell ⟨w.heap.size,0,none⟩ (.slice p1 4 c1)).drew/\bA (fun b=>w.heap.size<=b/\b<(W2.setCell ⟨w.heap.size,0,none⟩ (.slice p1 4 c1)).drew.heap.size) (W2.setCell ⟨w.heap.size,0,none⟩ (.slice p1 4 c1)).drew aS (.slice p1 4 c1)):=by
  have ap:=dX w.heap.size W2 (.slice p1 4 c1)
  have hz:W2.heap.size<=(W2.setCell ⟨w.heap.size,0,none⟩ (.slice p1 4 c1)).heap.size:=ap.size
  refine ⟨v3.keep (sW _) v3.facts.2.2,aA.trans (show aA w (W2.setCell ⟨w.heap.size,0,none⟩ (.slice p1 4 c1)) from Below.trans K2.out (ap.below K2.out.size fun b hb e=>by have:b=w.heap.size:=e;omega)) (sW _),?_⟩
  refine bA.mono (fun p hp=> ?_) (fun b hb=>⟨by omega,Nat.lt_of_lt_of_le hb.2 (Nat.le_trans K12.out.size hz)⟩) HP1.out
  exact (ap.cell p (Nat.lt_of_lt_of_le hp.2 K12.out.size) (fun e=>by have e':p.block=w.heap.size:=e;have:=hp.1;omega)).trans (K12.out.cell (p:=p) hp.2)
 clear v3 g1 z1 g2 z2
 go_wp2_with fail
 refine cA (v:= .tuple #[.agg #[.slice p1 4 c1],.bool true]) (fun W'=>aC w.heap.size 24 (.slice p1 4 c1) W'/\aA w W'/\bA (fun b=>w.heap.size<=b/\b<W'.heap.size) W' aS (.slice p1 4 c1)) ?_ rfl ?_
 ·exact HQ.out
 rintro W ⟨hb,hk,hp⟩
 obtain ⟨hcW,-,-⟩:=hb.facts
 exact ⟨by simp [results,Tryz.results66,go_sem,hcW],_,rfl,hp,hk,HCAP.out⟩
theorem yI (w:World) (hE:Env w) (hM:fV w) :
  Calls Tryz.prog 66 #[] w fun e w'=> ∃ v,e=.returned (.tuple #[.agg #[v],.bool true])/\bA (fun b=>w.heap.size<=b/\b<w'.heap.size) w' aS v/\aA w w':=
 (vH w hE hM).mono fun _ _ ⟨v,h1,h2,h3,_⟩=>⟨v,h1,h2,h3⟩
theorem sA {W:World} {n:Nat} (h:W.heap.size=n) (cs:Array Value) (T:TypeId):aF n cs (W.alloc (.cells cs T)):=h ▸ aF.new W cs T
def inW (W:World) (b:Nat):Prop:=b<W.heap.size
end Go.Proofs.YtonlloiemgdfkaaGreatDoor
namespace Go.Proofs.YtonlloiemgdfkaaGreatDoor
open Go.RowKit
def thO:List MB:= [⟨3,[]⟩]
def msO:List MB:= [⟨0,[]⟩,⟨2,[]⟩]
def acO:List AC:= [⟨true,⟨3,[]⟩,0⟩,⟨false,⟨2,[]⟩,0⟩,⟨false,⟨0,[]⟩,0⟩]
theorem mN:hY aS msO 0 0=false/\hY aS msO 0 1=true/\hY aS msO 1 0=false/\hY aS msO 1 1=false:=by
 refine ⟨?_,?_,?_,?_⟩<;>simp [hY,mA,bZ,dD,aS,msO,q0,q1,q2,q3,nB1,mG,uT,oZ,isB,aV,jS]
theorem nS (k:Nat):dB aS msO k=if k=0 then [1] else []:=by
 match k with
 | 0=>unfold dB;rw [show msO.length=2 from rfl];simp [List.range_succ,mN.1,mN.2.1]
 | 1=>unfold dB;rw [show msO.length=2 from rfl];simp [List.range_succ,mN.2.2.1,mN.2.2.2]
 | n+2=>unfold dB;rw [if_neg (by simp [msO])];simp
theorem aCk:gL aS msO=fun k i=>decide (k=0)&&decide (i=1):=by
 funext k i
 rw [Bool.eq_iff_iff,gU]
 have hno : ∀ a b,a≠0->¬ Rch (dB aS msO) a b:=fun a b ha hr=>by
  cases hr with
  | one h=>rw [nS,if_neg ha] at h;simp at h
  | more h _=>rw [nS,if_neg ha] at h;simp at h
 simp only [Bool.and_eq_true,decide_eq_true_eq]
 constructor
 ·intro hr
  by_cases hk:k=0
  ·subst hk
   refine ⟨rfl,?_⟩
   cases hr with
   | one h=>rw [nS,if_pos rfl] at h;simpa using h
   | more h h2=>
    rw [nS,if_pos rfl] at h
    obtain rfl:=List.mem_singleton.1 h
    exact absurd h2 (hno 1 i (by decide))
  ·exact absurd hr (hno k i hk)
 ·rintro ⟨rfl,rfl⟩
  exact .one (by rw [nS,if_pos rfl];simp)
theorem aDj:aQ aS thO msO=acO:=by
 have hg:goP aS thO msO = [1,0]:=by unfold goP;rw [aCk];decide
 have hc:fQ aS thO msO = [0,0]:=by unfold fQ;rw [hg,aCk];decide
 have ho:mI aS msO ⟨3,[]⟩=true:=by simp [mI,shB,aV,aS,msO,q0,q1,q2,q3]
 unfold aQ
 rw [hg,hc,show thO = [⟨3,[]⟩] from rfl,List.filter_cons,if_pos ho]
 rfl
theorem aCb:gE aS thO msO=0:=by
 have h1:bK aS msO=0:=by
  unfold bK;rw [jR]
  show zH aS msO=0
  decide
 have h2:bK aS thO=0:=by
  unfold bK;rw [jR]
  show zH aS thO=0
  decide
 unfold gE
 rw [h1,h2];rfl
theorem xL {c:Nat} {z:Int} {W:World} (hc:aF c #[.int .i64 z,.slice none 0 0] W):cE (inW W) W [⟨z,[]⟩] (.slice (some ⟨c,0,none⟩) 1 1):=by
 refine ⟨_,_,rfl,by simp,fun _=>⟨c,0,rfl,hc.1,fun j m hm=> ?_⟩⟩
 match j,hm with
 | 0,hm=>cases hm;exact ⟨_,hc.2 0,hc.2 1,none,0,rfl,by simp,fun h=>absurd h (by simp)⟩
theorem xM {c:Nat} {z y:Int} {W:World} (hc:aF c #[.int .i64 z,.slice none 0 0,.int .i64 y,.slice none 0 0] W):cE (inW W) W [⟨z,[]⟩,⟨y,[]⟩] (.slice (some ⟨c,0,none⟩) 2 2):=by
 refine ⟨_,_,rfl,by simp,fun _=>⟨c,0,rfl,hc.1,fun j m hm=> ?_⟩⟩
 match j,hm with
 | 0,hm=>cases hm;exact ⟨_,hc.2 0,hc.2 1,none,0,rfl,by simp,fun h=>absurd h (by simp)⟩
 | 1,hm=>cases hm;exact ⟨_,hc.2 2,hc.2 3,none,0,rfl,by simp,fun h=>absurd h (by simp)⟩
theorem aCq {c:Nat} {W:World} (hc:aF c #[.bool true,.int .i64 3,.slice none 0 0,.int .i64 0,.bool false,.int .i64 2,.slice none 0 0,.int .i64 0,.bool false,.int .i64 0,.slice none 0 0,.int .i64 0] W):cZ (inW W) W acO (.slice (some ⟨c,0,none⟩) 3 3):=by
 refine ⟨_,_,rfl,by simp [acO],fun _=>⟨c,0,rfl,hc.1,fun j m hm=> ?_⟩⟩
 match j,hm with
 | 0,hm=>cases hm;exact ⟨_,hc.2 0,hc.2 1,hc.2 2,hc.2 3,none,0,rfl,by simp,fun h=>absurd h (by simp)⟩
 | 1,hm=>cases hm;exact ⟨_,hc.2 4,hc.2 5,hc.2 6,hc.2 7,none,0,rfl,by simp,fun h=>absurd h (by simp)⟩
 | 2,hm=>cases hm;exact ⟨_,hc.2 8,hc.2 9,hc.2 10,hc.2 11,none,0,rfl,by simp,fun h=>absurd h (by simp)⟩
theorem iQ (w:World) (hE:Env w) (hM:fV w) :
  Calls Tryz.prog 33 #[] w fun e w'=>e=.returned (.bool true)/\aA w w':=by
 go_enter Tryz.func33,Tryz.ntmps33
 go_wp2_with fail
 refine (yI w hE hM).mono ?_
 rintro e w1 ⟨v1,rfl,hp1,k1⟩
 obtain ⟨p1,c1,rfl,-⟩:=hp1.len
 have HP1:=hid (bA.mono (S':=inW w1) (fun _ _=>rfl) (fun b hb=>hb.2) hp1)
 have K1:=hid k1
 clear hp1 k1 hE hM
 go_wp2_with fail
 refine cQ (fun W'=>aA w1 W'/\aF (w1.heap.size+1) #[.int .i64 3,.slice none 0 0] W'/\aF (w1.heap.size+1+1) #[.int .i64 0,.slice none 0 0,.int .i64 2,.slice none 0 0] W')
  ⟨((aA.alloc _ _).alloc' _).alloc' _,(sA (by simp) _ _).keep (aA.alloc _ _) (by simp),sA (by simp) _ _⟩ ?_
 rintro W2 ⟨k2,b2,m2⟩
 refine (tH (inW W2) aS thO msO _ _ _ W2 (fun _ h=>h) (bA.mono (bJ (fun _ h=>h) k2) (fun b hb=>Nat.lt_of_lt_of_le hb k2.size) HP1.out) (xL b2) (xM m2)).mono ?_
 rintro e w3 ⟨k3,hd⟩
 rcases hd with ⟨hz,-⟩ | ⟨-,v3,rfl,ha3⟩
 ·exact absurd aCb hz
 rw [aDj] at ha3
 obtain ⟨p3,c3,hv3,-⟩:=ha3.len
 subst hv3
 have A3:=hid (ha3.mono (S':=inW w3) (fun _ _=>rfl) fun b hb=>hb.2)
 have K3:=hid (K1.out.trans (k2.trans k3))
 clear k2 b2 m2 k3 ha3
 go_wp2_with fail
 refine cQ (fun W'=>aA w3 W'/\aF w3.heap.size #[.bool true,.int .i64 3,.slice none 0 0,.int .i64 0,.bool false,.int .i64 2,.slice none 0 0,.int .i64 0,.bool false,.int .i64 0,.slice none 0 0,.int .i64 0] W') ⟨aA.alloc _ _,aF.new _ _ _⟩ ?_
 rintro W4 ⟨k4,b4⟩
 refine (rM (inW W4) acO acO _ _ W4 (fun _ h=>h) (A3.out.mono (bJ (fun _ h=>h) k4) (fun b hb=>Nat.lt_of_lt_of_le hb k4.size)) (aCq b4)).mono ?_
 rintro e w5 ⟨β,rfl,hβ,k5⟩
 obtain rfl:β=true:=hβ.2 rfl
 have K5:=hid (K3.out.trans (k4.trans k5))
 clear k4 k5 b4 hβ
 go_wp2_with fail
 go_ret
 exact ⟨rfl,K5.out⟩
end Go.Proofs.YtonlloiemgdfkaaGreatDoor
namespace Go.Proofs.YtonlloiemgdfkaaGreatDoor
open Go.RowKit Go.Lib Go.WideMaps
theorem rY:WideMaps.ArrKey Tryz.prog 69 9 2:=⟨Tryz.underlying69,by kernel_rfl,by kernel_rfl,by kernel_rfl⟩
theorem iH:Maps.Keyed Tryz.prog 69:=Maps.Keyed.of_law rY.law
theorem oL : ∃ m,Tryz.prog.types.size=m+1:=⟨Tryz.prog.types.size-1,by kernel_rfl⟩
def eE (n s:ByteArray):Go.Lit:= .string (keyBytes [.string n.data.toList,.string s.data.toList])
theorem jI {n s:ByteArray} (hn:n.size<=maxLen) (hs:s.size<=maxLen):keyOf Tryz.prog 69 (.agg #[.string n,.string s])=some (eE n s):=by
 have hkt:=rY.keyType oL
 obtain ⟨m,hm⟩:=oL
 unfold keyOf
 simp only [rY.hu]
 rw [if_pos (by simp [hkt,Value.formed,rY.hu,rY.size]),hm]
 unfold Program.keyLits
 simp only [rY.hu,Value.cells]
 rw [if_pos (by rw [rY.size];rfl),show List.range 2 = [0,1] from rfl,List.mapM_cons,List.mapM_cons,List.mapM_nil]
 simp [rY.one,Program.keyLits,Tryz.underlying9,hn,hs,eE]
theorem aAb {n s n' s':ByteArray} (hn:n.size<=maxLen) (hs:s.size<=maxLen) (hn':n'.size<=maxLen) (hs':s'.size<=maxLen) (h:eE n s=eE n' s'):n=n'/\s=s':=by
 have h1:=jI hn hs
 have h2:=jI hn' hs'
 rw [h] at h1
 have:=iH.inj h1 h2
 simp only [Value.agg.injEq,Array.mk.injEq,List.cons.injEq,Value.string.injEq,and_true] at this
 exact this
open Classical in
noncomputable def upL {α:Type} (f:Go.Lit->α) (k:Go.Lit) (v:α):Go.Lit->α:=fun kl=>if kl=k then v else f kl
open Classical in
theorem eA {α:Type} (f:Go.Lit->α) (k:Go.Lit) (v:α):upL f k v k=v:=by unfold upL;exact if_pos rfl
open Classical in
theorem dF {α:Type} (f:Go.Lit->α) {k kl:Go.Lit} (v:α) (h:kl≠k):upL f k v kl=f kl:=by unfold upL;exact if_neg h
def jO (g n:Nat) (f:Go.Lit->Bool) (w:World):Prop:= ∃ D:DataW Unit,w.ownsMap Tryz.prog 69 (plainElem Tryz.prog 4) g n D/\∀ kl,D.atKey kl (.lit (.bool false))=.lit (.bool (f kl))
theorem jO.lt {g n:Nat} {f:Go.Lit->Bool} {w:World} (h:jO g n f w):g<w.heap.size:=by obtain ⟨D,h,-⟩:=h;exact h.lt
theorem jO.keep {g n:Nat} {f:Go.Lit->Bool} {w w':World} (h:jO g n f w) (k:aA w w'):jO g n f w':=by
 obtain ⟨D,h1,h2⟩:=h
 exact ⟨D,h1.kept (row:=none) ⟨k.os,k.tape,k.output,k.size,fun b hb _=>k.block b hb⟩ (by simp),h2⟩
theorem qE (w:World):jO w.heap.size 0 (fun _=>false) (w.alloc (.map #[] 0)):=⟨.map [],World.ownsMap_made w _ _ _,fun kl=>by simp [DataW.atKey]⟩
theorem jO.look {g n:Nat} {f:Go.Lit->Bool} {w:World} {t:TypeId} (h:jO g n f w) (ht:Tryz.prog.underlying t=some (.map 69 4)) {x s:ByteArray} (hx:x.size<=maxLen) (hs:s.size<=maxLen):(Instr.lookup t (.map (some g)) (.agg #[.string x,.string s]) false).run Tryz.prog w=.ok (.bool (f (eE x s))) w:=by
 obtain ⟨D,h1,h2⟩:=h
 obtain ⟨v,ps,hrun,hv⟩:=h1.lookup iH ht (z:= .bool false) (by kernel_rfl) (plainElem_bool Tryz.underlying4 false) (jI hx hs)
 rw [h2] at hv
 obtain ⟨c,rfl,hc⟩:=Cn.tG hv
 have e:f (eE x s)=c:=by simpa using congrArg Prod.fst hc
 rw [hrun,e]
theorem jO.put {g n:Nat} {f:Go.Lit->Bool} {w:World} {t:TypeId} (h:jO g n f w) (ht:Tryz.prog.underlying t=some (.map 69 4)) {x s:ByteArray} (hx:x.size<=maxLen) (hs:s.size<=maxLen) (hl:n<1000000) : ∃ w',(Instr.mapUpdate t (.map (some g)) (.agg #[.string x,.string s]) (.bool true)).run Tryz.prog w=.ok () w'/\jO g (n+1) (upL f (eE x s) true) w'/\w.grownBy w' (some g):=by
 obtain ⟨D,h1,h2⟩:=h
 obtain ⟨w',hrun,hown,hgr⟩:=h1.update iH ht (by unfold maxLen;omega) (jI hx hs) (plainElem_bool Tryz.underlying4 true)
 refine ⟨w',hrun,⟨_,hown,fun kl=> ?_⟩,hgr⟩
 by_cases e:kl=eE x s
 ·subst e
  rw [Maps.atKey_put_same h1.isMap (iH.key (jI hx hs)),eA]
 ·rw [Maps.atKey_put_other e,h2,dF _ _ e]
def MbV (B:Nat) (w:World) (m:MB) (v:Value):Prop:= ∃ (p:Option Addr) (c:Nat),v=.agg #[.int .i64 m.pl,.slice p m.on.length c]/\aJ (fun b=>b<B) w m.on (.slice p m.on.length c)
def aEm (v:Value):Option (DataW Value × List MemPlace):=some (.held v,[])
def eB (B g n:Nat) (f:Go.Lit->Option MB) (sz:Nat) (w:World):Prop:= ∃ D:DataW Value,w.ownsMap Tryz.prog 69 aEm g n D/\Maps.size D=sz/\∀ kl,match f kl with
 | none=>Maps.has D kl=false
 | some m=>Maps.has D kl=true/\∃ v,(∀ zd,D.atKey kl zd=.held v)/\MbV B w m v
theorem eB.lt {B g n:Nat} {f:Go.Lit->Option MB} {sz:Nat} {w:World} (h:eB B g n f sz w):g<w.heap.size:=by obtain ⟨D,h,-⟩:=h;exact h.lt
theorem MbV.keep {B:Nat} {w w':World} {m:MB} {v:Value} (h:MbV B w m v) (k:Below B w w'):MbV B w' m v:=by
 obtain ⟨p,c,e,hb⟩:=h
 exact ⟨p,c,e,hb.keep (fun _ h=>h) k⟩
theorem eB.keep {B g n:Nat} {f:Go.Lit->Option MB} {sz:Nat} {w w':World} (h:eB B g n f sz w) (k:aA w w') (hB:B<=w.heap.size):eB B g n f sz w':=by
 obtain ⟨D,h1,h2,h3⟩:=h
 refine ⟨D,h1.kept (row:=none) ⟨k.os,k.tape,k.output,k.size,fun b hb _=>k.block b hb⟩ (by simp),h2,fun kl=> ?_⟩
 have:=h3 kl
 cases hf:f kl with
 | none=>rw [hf] at this;exact this
 | some m=>
  rw [hf] at this
  obtain ⟨a,v,b,c⟩:=this
  exact ⟨a,v,b,c.keep (k.mono hB)⟩
theorem xN (B:Nat) (w:World):eB B w.heap.size 0 (fun _=>none) 0 (w.alloc (.map #[] 0)):=⟨.map [],World.ownsMap_made w _ _ _,by simp [Maps.size],fun kl=>by simp [Maps.has]⟩
theorem eB.lookOk {B g n:Nat} {f:Go.Lit->Option MB} {sz:Nat} {w:World} {t:TypeId} (h:eB B g n f sz w) (ht:Tryz.prog.underlying t=some (.map 69 68)) {x s:ByteArray} (hx:x.size<=maxLen) (hs:s.size<=maxLen) :
  (f (eE x s)=none/\∃ p c k,(Instr.lookup t (.map (some g)) (.agg #[.string x,.string s]) true).run Tryz.prog w=.ok (.tuple #[.agg #[.int .i64 k,.slice p 0 c],.bool false]) w)∨(∃ m,f (eE x s)=some m/\∃ p c,(Instr.lookup t (.map (some g)) (.agg #[.string x,.string s]) true).run Tryz.prog w=.ok (.tuple #[.agg #[.int .i64 m.pl,.slice p m.on.length c],.bool true]) w/\aJ (fun b=>b<B) w m.on (.slice p m.on.length c)):=by
 obtain ⟨D,h1,-,h3⟩:=h
 obtain ⟨v,ps,hrun,hv⟩:=h1.look_ok iH ht (z:= .agg #[.int .i64 0,.slice none 0 0]) (by kernel_rfl) (zd:= .held (.agg #[.int .i64 0,.slice none 0 0])) (zp:= []) rfl (jI hx hs)
 have hk:=h3 (eE x s)
 have hv2:DataW.held v=D.atKey (eE x s) (.held (.agg #[.int .i64 0,.slice none 0 0])):=by
  have:=congrArg (Option.map Prod.fst) hv
  simpa [aEm] using this
 cases hf:f (eE x s) with
 | none=>
  rw [hf] at hk
  rw [hk] at hrun
  have hne:D.atKey (eE x s) (.held (.agg #[.int .i64 0,.slice none 0 0]))=.held (.agg #[.int .i64 0,.slice none 0 0]):=Maps.atKey_of_not_has hk _
  rw [hne] at hv2
  cases hv2
  exact .inl ⟨rfl,_,_,_,hrun⟩
 | some m=>
  rw [hf] at hk
  obtain ⟨ha,u,hu,p,c,rfl,hb⟩:=hk
  rw [hu] at hv2
  cases hv2
  rw [ha] at hrun
  exact .inr ⟨m,rfl,p,c,hrun,hb⟩
theorem eB.has {B:Nat} {f:Go.Lit->Option MB} {w:World} {D:DataW Value} (h : ∀ kl,match f kl with | none=>Maps.has D kl=false | some m=>Maps.has D kl=true/\∃ v,(∀ zd,D.atKey kl zd=.held v)/\MbV B w m v) (kl:Go.Lit):Maps.has D kl=(f kl).isSome:=by
 have:=h kl
 cases hf:f kl with
 | none=>rw [hf] at this;exact this
 | some m=>rw [hf] at this;exact this.1
theorem eB.put {B g n:Nat} {f:Go.Lit->Option MB} {sz:Nat} {w:World} {t:TypeId} (h:eB B g n f sz w) (ht:Tryz.prog.underlying t=some (.map 69 68)) {x s:ByteArray} (hx:x.size<=maxLen) (hs:s.size<=maxLen) (hl:n<1000000) (hBg:B<=g) {m:MB} {v:Value} (hv:MbV B w m v) : ∃ w',(Instr.mapUpdate t (.map (some g)) (.agg #[.string x,.string s]) v).run Tryz.prog w=.ok () w'/\eB B g (n+1) (upL f (eE x s) (some m)) (if (f (eE x s)).isSome=true then sz else sz+1) w'/\w.grownBy w' (some g):=by
 have hlt:=h.lt
 obtain ⟨D,h1,h2,h3⟩:=h
 obtain ⟨w',hrun,hown,hgr⟩:=h1.update iH ht (by unfold maxLen;omega) (jI hx hs) (d:= .held v) (ps:= []) (val:=v) rfl
 have hlow:Below B w w':=⟨hgr.os,hgr.tape,hgr.output,hgr.size,fun c hc=>hgr.block c (by omega) (fun e=>by have:=Option.some.inj e;omega)⟩
 refine ⟨w',hrun,⟨_,hown,?_,fun kl=> ?_⟩,hgr⟩
 ·rw [Maps.size_put (h1.tidy iH),eB.has h3,h2]
 ·by_cases e:kl=eE x s
  ·subst e
   rw [eA]
   exact ⟨Maps.has_put_same h1.isMap (iH.key (jI hx hs)) _,v,fun zd=>Maps.atKey_put_same h1.isMap (iH.key (jI hx hs)) _ _,hv.keep hlow⟩
  ·rw [dF _ _ e]
   have:=h3 kl
   cases hf:f kl with
   | none=>rw [hf] at this;exact (Maps.has_put_other e _).trans this
   | some m'=>
    rw [hf] at this
    obtain ⟨a,u,b,c⟩:=this
    exact ⟨(Maps.has_put_other e _).trans a,u,fun zd=>(Maps.atKey_put_other e _ _).trans (b zd),c.keep hlow⟩
open Go.ChangeMaps in
theorem rT {w w':World} {b:Nat} (h:w.mapTurned w' b):w.grownBy w' (some b):=by
 obtain ⟨es,clock,es',clock',hb,rfl⟩:=h
 exact ⟨rfl,rfl,rfl,by simp [setBlock],fun i _ hi=>heap_setBlock_other hb _ (fun e=>hi (by rw [e]))⟩
theorem eB.del {B g n:Nat} {f:Go.Lit->Option MB} {sz:Nat} {w:World} {t:TypeId} (h:eB B g n f sz w) (ht:Tryz.prog.underlying t=some (.map 69 68)) {x s:ByteArray} (hx:x.size<=maxLen) (hs:s.size<=maxLen) (hBg:B<=g) (hf:(f (eE x s)).isSome=true) (ty:TypeId) : ∃ w',(Builtin.delete_ #[t,69] ty #[.map (some g),.agg #[.string x,.string s]]).run Tryz.prog w=.ok (.tuple #[]) w'/\eB B g n (upL f (eE x s) none) (sz-1) w'/\w.grownBy w' (some g):=by
 have hlt:=h.lt
 obtain ⟨D,h1,h2,h3⟩:=h
 obtain ⟨w',hrun,hown,htu⟩:=h1.drop iH ht (jI hx hs) ty
 have hgr:=rT htu
 have hlow:Below B w w':=⟨hgr.os,hgr.tape,hgr.output,hgr.size,fun c hc=>hgr.block c (by omega) (fun e=>by have:=Option.some.inj e;omega)⟩
 refine ⟨w',hrun,⟨_,hown,?_,fun kl=> ?_⟩,hgr⟩
 ·have:=Maps.size_del (k:=eE x s) (h1.tidy iH)
  rw [eB.has h3,hf,if_pos rfl,h2] at this
  omega
 ·by_cases e:kl=eE x s
  ·subst e
   rw [eA]
   exact Maps.has_del_same
  ·rw [dF _ _ e]
   have:=h3 kl
   cases hf':f kl with
   | none=>rw [hf'] at this;exact (Maps.has_del_other e).trans this
   | some m'=>
    rw [hf'] at this
    obtain ⟨a,u,b,c⟩:=this
    exact ⟨(Maps.has_del_other e).trans a,u,fun zd=>(Maps.atKey_del_other e _).trans (b zd),c.keep hlow⟩
theorem eB.len {B g n:Nat} {f:Go.Lit->Option MB} {sz:Nat} {w:World} {t:TypeId} (h:eB B g n f sz w) (ht:Tryz.prog.underlying t=some (.map 69 68)) (ty:TypeId):(Builtin.len_ #[t] ty #[.map (some g)]).run Tryz.prog w=.ok (.int .i64 sz) w:=by
 obtain ⟨D,h1,h2,-⟩:=h
 rw [← h2];exact h1.len ht ty
def slS (sl:Int):ByteArray:=⟨#[(48+sl.toNat).toUInt8]⟩
theorem aCi {a b:Int} (ha:1<=a/\a<=9) (hb:1<=b/\b<=9) (h:slS a=slS b):a=b:=by
 have:(48+a.toNat).toUInt8=(48+b.toNat).toUInt8:=by
  unfold slS at h
  simpa using h
 have h2:=congrArg UInt8.toNat this
 simp at h2
 omega
def bI (ps:List PK) (m:MB):Go.Lit:=eE (aV ps m).n (slS (aV ps m).sl)
theorem wV (args:Array Value) (w:World):(callFunc 39 args).run Tryz.prog w=.ok (.enter 39 args) w:=enters_of Tryz.func39 (by kernel_rfl) rfl args w
theorem gX (S:Nat->Prop) (ps:List PK) (m:MB) (op tp:Option Addr) (oc tc ct:Nat) (w:World) (hS : ∀ b,S b->b<w.heap.size) (hp:bA S w ps (.slice tp ps.length tc)) (ht:aC ct 24 (.slice tp ps.length tc) w) (h0:0<=m.pl) (h1:m.pl<ps.length) (hsl:1<=(aV ps m).sl/\(aV ps m).sl<=9) (hon:m.on.length<=9223372036854775807) :
  Calls Tryz.prog 39 #[.agg #[.int .i64 m.pl,.slice op m.on.length oc],.pointer (some ⟨ct,0,none⟩)] w fun e w'=>e=.returned (.agg #[.string (aV ps m).n,.string (slS (aV ps m).sl)])/\aA w w':=by
 obtain ⟨q,hq⟩ : ∃ q:Nat,m.pl=q:=⟨m.pl.toNat,by omega⟩
 have hqp:q<ps.length:=by omega
 have hpk:aV ps m=ps[q]:=by unfold aV;rw [hq,Int.toNat_natCast,eU ps q hqp]
 rw [hpk] at hsl ⊢
 obtain ⟨tb,toff,tcap,htv,htb,hlen,htrow⟩:=hp.get hqp
 cases htv
 obtain ⟨cs,hcs,hpj⟩:=htrow q hqp
 generalize ps[q]=p at hpj hsl ⊢
 obtain ⟨kk,a,fl,nt,kids,kp,fp,kc,fc,hnd,hfl,rfl,-,-⟩:=hpj.spelt
 obtain ⟨c0,c1,c2,c3,c4,c5,c6,c7,c8,c9,c10,c11,c12,c13⟩:=fX hcs
 have htl:=hS tb htb
 obtain ⟨g0,-,l0⟩:=ht.facts
 clear hcs hpj htrow hnd hp h0 h1 hpk
 rcases p with ⟨n,v,sl,fs,nd⟩
 rcases m with ⟨pl,on⟩
 simp only at hq hon hsl c0 c1 c2 c3 hfl ⊢
 subst hq
 go_enter Tryz.func39,Tryz.ntmps39
 go_upto_region 1 with fail
 refine aY (fun W'=>aA w W'/\aF w.heap.size #[.int .i64 q,.slice op on.length oc] W'/\aO (w.heap.size+1) 69 #[.string ⟨#[]⟩,.string ⟨#[]⟩] W') ⟨(aA.alloc _ _).alloc' _,(aF.new _ _ _).keep (aA.alloc _ _) (by simp),?_⟩ ?_
 ·have:=aO.new (w.alloc (.cells #[.int .i64 q,.slice op on.length oc] 68)) 69 #[.string ⟨#[]⟩,.string ⟨#[]⟩]
  rw [aE] at this;exact this
 rintro W1 ⟨k1,b1,r1⟩
 have K1:=hid k1
 have R1:=hid r1
 have gm:=b1.2
 have gl:=b1.1
 have g01:=(k1.cell (p:=⟨ct,0,none⟩) l0).trans g0
 have l01:ct<W1.heap.size:=Nat.lt_of_lt_of_le l0 k1.size
 have cb : ∀ (o:Nat) (x:Value),w.cell? ⟨tb,o,none⟩=some x->W1.cell? ⟨tb,o,none⟩=some x:=fun o x hx=>(k1.cell (p:=⟨tb,o,none⟩) htl).trans hx
 have d0:=cb _ _ c0
 have d1:=cb _ _ c1
 have d2:=cb _ _ c2
 have d3:=cb _ _ c3
 have d4:=cb _ _ c4
 have d5:=cb _ _ c5
 have d6:=cb _ _ c6
 have d7:=cb _ _ c7
 have d8:=cb _ _ c8
 have d9:=cb _ _ c9
 have d10:=cb _ _ c10
 have d11:=cb _ _ c11
 have d12:=cb _ _ c12
 have d13:=cb _ _ c13
 have htl1:tb<W1.heap.size:=Nat.lt_of_lt_of_le htl k1.size
 clear c0 c1 c2 c3 c4 c5 c6 c7 c8 c9 c10 c11 c12 c13 cb k1 b1 r1 g0 l0
 go_upto_region 2 with fail
 refine aY (fun W'=>aA W1 W'/\aF W1.heap.size #[.string n,.int .i64 v,.int .i64 sl,.slice fp fs.length fc,.int .i64 kk,.string a.n,.int .i64 a.op,.int .i64 a.v,.int .i64 a.sl,.string a.f,.bool a.on,.string fl,.bool nt,.slice kp kids.length kc] W') ⟨aA.alloc _ _,aF.new _ _ _⟩ ?_
 rintro W2 ⟨k2,b2⟩
 have K2:=hid (K1.out.trans k2)
 have R2:=hid (R1.out.keep k2 R1.out.facts.2.2)
 have hp:=b2.2
 have hpl:=b2.1
 have hr0:W2.cell? ⟨w.heap.size+1,0,none⟩=some (.string ⟨#[]⟩):=R2.out.facts.1 0
 have hr1:W2.cell? ⟨w.heap.size+1,1,none⟩=some (.string ⟨#[]⟩):=R2.out.facts.1 1
 have hrf:=R2.out.facts.2.1
 have hrl:=R2.out.facts.2.2
 clear k2 b2 d0 d1 d2 d3 d4 d5 d6 d7 d8 d9 d10 d11 d12 d13 gm gl g01
 obtain ⟨sn,rfl⟩ : ∃ sn:Nat,sl=sn:=⟨sl.toNat,by omega⟩
 have hs1:1<=sn/\sn<=9:=by omega
 generalize hbb:w.heap.size=b at R2 hr0 hr1 hrl hrf ⊢
 have HBB:=hid hbb
 clear hbb
 have HSL:Hid (slS (sn:Int)=⟨#[(48+sn).toUInt8]⟩):=by show _=_;unfold slS;rw [Int.toNat_natCast]
 clear HSL
 have hcs:sn=1∨sn=2∨sn=3∨sn=4∨sn=5∨sn=6∨sn=7∨sn=8∨sn=9:=by omega
 clear hs1 hsl
 rcases hcs with rfl | rfl | rfl | rfl | rfl | rfl | rfl | rfl | rfl
 ·have e0:slS ((1:Nat):Int)=Utf8.encode 49:=by decide
  go_wp2_with fail
  refine cA (v:= .agg #[.string n,.string (Utf8.encode 49)]) (fun W'=>aO (b+1) 69 #[.string n,.string (Utf8.encode 49)] W'/\aA w W') ⟨(R2.out.set 0 (.string n)).set 1 (.string (Utf8.encode 49)),aA.set (aA.set K2.out (p:=⟨b+1,0,none⟩) (by have:=HBB.out;show _<=b+1;omega) _) (p:=⟨b+1,1,none⟩) (by have:=HBB.out;show _<=b+1;omega) _⟩ rfl ?_
  rintro W ⟨hbW,hkW⟩
  have hW0:W.cell? ⟨b+1,0,none⟩=some (.string n):=hbW.facts.1 0
  have hW1:W.cell? ⟨b+1,1,none⟩=some (.string (Utf8.encode 49)):=hbW.facts.1 1
  exact ⟨by simp [results,Tryz.results39,go_sem,hW0,hW1],by rw [e0],hkW⟩
 ·have e0:slS ((2:Nat):Int)=Utf8.encode 50:=by decide
  go_wp2_with fail
  refine cA (v:= .agg #[.string n,.string (Utf8.encode 50)]) (fun W'=>aO (b+1) 69 #[.string n,.string (Utf8.encode 50)] W'/\aA w W') ⟨(R2.out.set 0 (.string n)).set 1 (.string (Utf8.encode 50)),aA.set (aA.set K2.out (p:=⟨b+1,0,none⟩) (by have:=HBB.out;show _<=b+1;omega) _) (p:=⟨b+1,1,none⟩) (by have:=HBB.out;show _<=b+1;omega) _⟩ rfl ?_
  rintro W ⟨hbW,hkW⟩
  have hW0:W.cell? ⟨b+1,0,none⟩=some (.string n):=hbW.facts.1 0
  have hW1:W.cell? ⟨b+1,1,none⟩=some (.string (Utf8.encode 50)):=hbW.facts.1 1
  exact ⟨by simp [results,Tryz.results39,go_sem,hW0,hW1],by rw [e0],hkW⟩
 ·have e0:slS ((3:Nat):Int)=Utf8.encode 51:=by decide
  go_wp2_with fail
  refine cA (v:= .agg #[.string n,.string (Utf8.encode 51)]) (fun W'=>aO (b+1) 69 #[.string n,.string (Utf8.encode 51)] W'/\aA w W') ⟨(R2.out.set 0 (.string n)).set 1 (.string (Utf8.encode 51)),aA.set (aA.set K2.out (p:=⟨b+1,0,none⟩) (by have:=HBB.out;show _<=b+1;omega) _) (p:=⟨b+1,1,none⟩) (by have:=HBB.out;show _<=b+1;omega) _⟩ rfl ?_
  rintro W ⟨hbW,hkW⟩
  have hW0:W.cell? ⟨b+1,0,none⟩=some (.string n):=hbW.facts.1 0
  have hW1:W.cell? ⟨b+1,1,none⟩=some (.string (Utf8.encode 51)):=hbW.facts.1 1
  exact ⟨by simp [results,Tryz.results39,go_sem,hW0,hW1],by rw [e0],hkW⟩
 ·have e0:slS ((4:Nat):Int)=Utf8.encode 52:=by decide
  go_wp2_with fail
  refine cA (v:= .agg #[.string n,.string (Utf8.encode 52)]) (fun W'=>aO (b+1) 69 #[.string n,.string (Utf8.encode 52)] W'/\aA w W') ⟨(R2.out.set 0 (.string n)).set 1 (.string (Utf8.encode 52)),aA.set (aA.set K2.out (p:=⟨b+1,0,none⟩) (by have:=HBB.out;show _<=b+1;omega) _) (p:=⟨b+1,1,none⟩) (by have:=HBB.out;show _<=b+1;omega) _⟩ rfl ?_
  rintro W ⟨hbW,hkW⟩
  have hW0:W.cell? ⟨b+1,0,none⟩=some (.string n):=hbW.facts.1 0
  have hW1:W.cell? ⟨b+1,1,none⟩=some (.string (Utf8.encode 52)):=hbW.facts.1 1
  exact ⟨by simp [results,Tryz.results39,go_sem,hW0,hW1],by rw [e0],hkW⟩
 ·have e0:slS ((5:Nat):Int)=Utf8.encode 53:=by decide
  go_wp2_with fail
  refine cA (v:= .agg #[.string n,.string (Utf8.encode 53)]) (fun W'=>aO (b+1) 69 #[.string n,.string (Utf8.encode 53)] W'/\aA w W') ⟨(R2.out.set 0 (.string n)).set 1 (.string (Utf8.encode 53)),aA.set (aA.set K2.out (p:=⟨b+1,0,none⟩) (by have:=HBB.out;show _<=b+1;omega) _) (p:=⟨b+1,1,none⟩) (by have:=HBB.out;show _<=b+1;omega) _⟩ rfl ?_
  rintro W ⟨hbW,hkW⟩
  have hW0:W.cell? ⟨b+1,0,none⟩=some (.string n):=hbW.facts.1 0
  have hW1:W.cell? ⟨b+1,1,none⟩=some (.string (Utf8.encode 53)):=hbW.facts.1 1
  exact ⟨by simp [results,Tryz.results39,go_sem,hW0,hW1],by rw [e0],hkW⟩
 ·have e0:slS ((6:Nat):Int)=Utf8.encode 54:=by decide
  go_wp2_with fail
  refine cA (v:= .agg #[.string n,.string (Utf8.encode 54)]) (fun W'=>aO (b+1) 69 #[.string n,.string (Utf8.encode 54)] W'/\aA w W') ⟨(R2.out.set 0 (.string n)).set 1 (.string (Utf8.encode 54)),aA.set (aA.set K2.out (p:=⟨b+1,0,none⟩) (by have:=HBB.out;show _<=b+1;omega) _) (p:=⟨b+1,1,none⟩) (by have:=HBB.out;show _<=b+1;omega) _⟩ rfl ?_
  rintro W ⟨hbW,hkW⟩
  have hW0:W.cell? ⟨b+1,0,none⟩=some (.string n):=hbW.facts.1 0
  have hW1:W.cell? ⟨b+1,1,none⟩=some (.string (Utf8.encode 54)):=hbW.facts.1 1
  exact ⟨by simp [results,Tryz.results39,go_sem,hW0,hW1],by rw [e0],hkW⟩
 ·have e0:slS ((7:Nat):Int)=Utf8.encode 55:=by decide
  go_wp2_with fail
  refine cA (v:= .agg #[.string n,.string (Utf8.encode 55)]) (fun W'=>aO (b+1) 69 #[.string n,.string (Utf8.encode 55)] W'/\aA w W') ⟨(R2.out.set 0 (.string n)).set 1 (.string (Utf8.encode 55)),aA.set (aA.set K2.out (p:=⟨b+1,0,none⟩) (by have:=HBB.out;show _<=b+1;omega) _) (p:=⟨b+1,1,none⟩) (by have:=HBB.out;show _<=b+1;omega) _⟩ rfl ?_
  rintro W ⟨hbW,hkW⟩
  have hW0:W.cell? ⟨b+1,0,none⟩=some (.string n):=hbW.facts.1 0
  have hW1:W.cell? ⟨b+1,1,none⟩=some (.string (Utf8.encode 55)):=hbW.facts.1 1
  exact ⟨by simp [results,Tryz.results39,go_sem,hW0,hW1],by rw [e0],hkW⟩
 ·have e0:slS ((8:Nat):Int)=Utf8.encode 56:=by decide
  go_wp2_with fail
  refine cA (v:= .agg #[.string n,.string (Utf8.encode 56)]) (fun W'=>aO (b+1) 69 #[.string n,.string (Utf8.encode 56)] W'/\aA w W') ⟨(R2.out.set 0 (.string n)).set 1 (.string (Utf8.encode 56)),aA.set (aA.set K2.out (p:=⟨b+1,0,none⟩) (by have:=HBB.out;show _<=b+1;omega) _) (p:=⟨b+1,1,none⟩) (by have:=HBB.out;show _<=b+1;omega) _⟩ rfl ?_
  rintro W ⟨hbW,hkW⟩
  have hW0:W.cell? ⟨b+1,0,none⟩=some (.string n):=hbW.facts.1 0
  have hW1:W.cell? ⟨b+1,1,none⟩=some (.string (Utf8.encode 56)):=hbW.facts.1 1
  exact ⟨by simp [results,Tryz.results39,go_sem,hW0,hW1],by rw [e0],hkW⟩
 ·have e0:slS ((9:Nat):Int)=Utf8.encode 57:=by decide
  go_wp2_with fail
  refine cA (v:= .agg #[.string n,.string (Utf8.encode 57)]) (fun W'=>aO (b+1) 69 #[.string n,.string (Utf8.encode 57)] W'/\aA w W') ⟨(R2.out.set 0 (.string n)).set 1 (.string (Utf8.encode 57)),aA.set (aA.set K2.out (p:=⟨b+1,0,none⟩) (by have:=HBB.out;show _<=b+1;omega) _) (p:=⟨b+1,1,none⟩) (by have:=HBB.out;show _<=b+1;omega) _⟩ rfl ?_
  rintro W ⟨hbW,hkW⟩
  have hW0:W.cell? ⟨b+1,0,none⟩=some (.string n):=hbW.facts.1 0
  have hW1:W.cell? ⟨b+1,1,none⟩=some (.string (Utf8.encode 57)):=hbW.facts.1 1
  exact ⟨by simp [results,Tryz.results39,go_sem,hW0,hW1],by rw [e0],hkW⟩
end Go.Proofs.YtonlloiemgdfkaaGreatDoor
