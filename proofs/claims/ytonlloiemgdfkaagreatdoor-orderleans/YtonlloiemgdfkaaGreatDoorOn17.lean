/- Steps of the proof: OrdPlan, OrdSame, ValidValid, ValidSmall, ValidAllowed, OrdClosed, AtomOpen, NeedOpen, TreeOpen. -/
import Derived.Test.YtonlloiemgdfkaaGreatDoorOn16
import Derived.Test.YtonlloiemgdfkaaGreatDoorOn13
import Derived.Test.YtonlloiemgdfkaaGreatDoorOn11
import Derived.BigRegion
import Derived.Test.YtonlloiemgdfkaaGreatDoorOn03
import Derived.Lib.LaidTab
import Derived.Stop.LaidErr
import Derived.OpenShut
import Derived.Lib.SmallJoins
import Derived.Deep.DeepWitnessRowRef
import Derived.LaidMore
import Derived.Stop.Joined
import Derived.ChangeOld
import Derived.Shelf.Vars
import Derived.HandedShaped
import Derived.Test.YtonlloiemgdfkaaGreatDoorOn08
set_option maxHeartbeats 16000000
set_option maxRecDepth 100000
namespace Go.Proofs.YtonlloiemgdfkaaGreatDoor
open Go.RowKit Go.Sort Go.Lib
theorem aCx {ps:List PK} {ms:List MB} {C:List (List Bool)} (hq:SqB C ms.length) (h : ∀ k i,k<ms.length->(bK C k i=true↔Rch (bQ ps ms) k i)):bK C=mT ps ms:=by
 funext k i
 by_cases hk:k<ms.length
 ·rw [Bool.eq_iff_iff,h k i hk,iS]
 ·have h1:bK C k i=false:=by
   unfold bK
   rw [show C.getD k [] = [] by rw [List.getD_eq_getElem?_getD,List.getElem?_eq_none (by rw [hq.1];omega)];rfl]
   rfl
  have h2:mT ps ms k i=false:=by
   cases hc:mT ps ms k i with
   | false=>rfl
   | true=>
    have hr:=iS.1 hc
    have : ∃ j,j∈bQ ps ms k:=by cases hr with
     | one h=>exact ⟨_,h⟩
     | more h _=>exact ⟨_,h⟩
    obtain ⟨j,hj⟩:=this
    exact absurd (iV.1 hj).1 hk
  rw [h1,h2]
def eM (ps:List PK) (th ms:List MB):Int:=if aZ ps ms≠0 then aZ ps ms else aZ ps th
noncomputable def gT (ps:List PK) (th ms:List MB) (j:Nat):List AC:=((goP ps th ms).take j).map fun k=>⟨false,ms.getD k MB.zero,(tV ps th ms).getD k 0⟩
theorem wY {ps:List PK} {th ms:List MB} {j:Nat} (h:j<(goP ps th ms).length):gT ps th ms (j+1)=gT ps th ms j ++ [⟨false,ms.getD (goP ps th ms)[j] MB.zero,(tV ps th ms).getD (goP ps th ms)[j] 0⟩]:=by
 unfold gT
 rw [List.take_succ_eq_append_getElem h,List.map_append];rfl
theorem aAb (ps:List PK) (th ms:List MB) (j:Nat):(gT ps th ms j).length<=j:=by
 unfold gT;rw [List.length_map];exact List.length_take_le _ _
theorem aCe (ps:List PK) (th ms:List MB):gV ps th ms th.length++gT ps th ms (goP ps th ms).length=fU ps th ms:=by
 unfold gV gT fU
 rw [List.take_length,List.take_length]
theorem vP (ps:List PK) (th ms:List MB):(goP ps th ms).length<=ms.length:=by
 have h1 : ∀ x∈goP ps th ms,x∈List.range ms.length:=fun x hx=>List.mem_range.2 (kE.1 hx).1
 have:=List.Nodup.length_le_of_subset (wW ps th ms) h1
 simpa using this
def yK (ps:List PK) (th ms:List MB) (w:World) (e:Ending) (w':World):Prop:=aA w w'/\((eM ps th ms≠0/\e=.returned (.tuple #[.slice none 0 0,.int .i64 (eM ps th ms)]))∨(eM ps th ms=0/\∃ v,e=.returned (.tuple #[v,.int .i64 0])/\cI (fun b=>w.heap.size<=b/\b<w'.heap.size) w' (fU ps th ms) v))
theorem kK (S:Nat->Prop) (ps:List PK) (th ms:List MB) (tv hv lv:Value) (w:World) (hS : ∀ b,S b->b<w.heap.size) (hp:aV S w ps tv) (ht:bU S w th hv) (hm:bU S w ms lv) :
  Calls Tryz.prog 30 #[.agg #[tv],hv,lv] w (yK ps th ms w):=by
 have HP:=hid hp
 have HT:=hid ht
 have HM:=hid hm
 obtain ⟨tp,tc,rfl,hlen⟩:=hp.len
 obtain ⟨hp',hc',rfl,hhl⟩:=ht.len
 obtain ⟨lp,lc,rfl,hll⟩:=hm.len
 obtain ⟨i0,hi,hz0,hz1,hz2⟩:=info_parts vQ
 clear hp ht hm
 go_enter Tryz.func30,Tryz.ntmps30
 go_upto_region 1 with fail
 refine bE (fun W'=>aA w W'/\aB w.heap.size 24 (.slice tp ps.length tc) W') ⟨aA.alloc _ _,aB.new _ _ _⟩ ?_
 rintro W0 ⟨k0,v0⟩
 have K0:=hid k0
 have V0:=hid v0
 obtain ⟨g0,-,l0⟩:=v0.facts
 clear k0 v0
 generalize hct:w.heap.size=ct at V0 g0 l0 ⊢
 have HCT:=hid hct
 clear hct
 go_wp2_with fail
 refine (pF S ps ms _ _ W0 (fun b hb=>Nat.lt_of_lt_of_le (hS b hb) K0.out.size) (HP.out.keep hS K0.out) (HM.out.keep hS K0.out)).mono ?_
 rintro e W1 ⟨k1,hd⟩
 have K1:=hid (K0.out.trans k1)
 have V1:=hid (V0.out.keep k1 V0.out.facts.2.2)
 have HW01:Hid (W0.heap.size<=W1.heap.size):=k1.size
 clear k1 g0 l0 V0
 rcases hd with ⟨hz,rfl⟩ | ⟨hz,v1,rfl,hr1⟩
 ·have hc1:(aZ ps ms != 0)=true:=by simp [hz]
  have HE:Hid (eM ps th ms=aZ ps ms):=by show _=_;unfold eM;rw [if_pos hz]
  have HZ:=hid hz
  generalize aZ ps ms=cz at hc1 HE HZ ⊢
  clear hz
  go_wp2_with fail
  refine bodyPost_ret (v:= .tuple #[.slice none 0 0,.int .i64 cz]) ?_ rfl ?_
  ·simp [results,Tryz.results30,go_sem]
  ·exact ⟨K1.out,.inl ⟨by rw [HE.out];exact HZ.out,by rw [HE.out]⟩⟩
 ·obtain ⟨rp,rc,hrv,-⟩:=hr1.len
  subst hrv
  rw [dH]
  have R1:=hid hr1
  rw [dH] at R1
  have HPE:Hid (eM ps th ms=aZ ps th):=by show _=_;unfold eM;rw [if_neg (by simp [hz])]
  obtain ⟨-,-,-,-,h8,hok⟩:=iZ hz
  have HOK:=hid hok
  have HZ:=hid hz
  obtain ⟨g0,-,l0⟩:=V1.out.facts
  clear hz hr1 hok
  go_wp2_with fail
  refine (gK S ps th _ _ W1 (fun b hb=>Nat.lt_of_lt_of_le (hS b hb) K1.out.size) (HP.out.keep hS K1.out) (HT.out.keep hS K1.out)).mono ?_
  rintro e W2 ⟨rfl,k2⟩
  have K2:=hid (K1.out.trans k2)
  have V2:=hid (V1.out.keep k2 V1.out.facts.2.2)
  have R2:=hid (R1.out.mono (S':=fun b=>b<W2.heap.size) (fun p hp=>k2.cell (p:=p) hp.2) fun b hb=>Nat.lt_of_lt_of_le hb.2 k2.size)
  clear k2 g0 l0 V1 R1
  by_cases hzt:aZ ps th=0
  ·obtain ⟨-,hfl2,-,-,h8t,hokt⟩:=iZ hzt
   have HOKT:=hid hokt
   have HPZ:Hid (eM ps th ms=0):=HPE.out.trans hzt
   have HONT:Hid (∀ m∈th,m.on.length<=1000):=fun m hm=>by
    obtain ⟨i,hi⟩:=List.mem_iff_getElem?.1 hm
    obtain ⟨x1,x2,x3⟩:=hokt i m hi
    rw [x3]
    have hq:m.pl.toNat<ps.length:=by omega
    have:bO ps m∈ps:=by unfold bO;rw [eB ps _ hq];exact List.getElem_mem hq
    have:=hfl2 _ this
    omega
   have HONM:Hid (∀ m∈ms,m.on.length<=1000):=fun m hm=>by
    obtain ⟨i,hi⟩:=List.mem_iff_getElem?.1 hm
    obtain ⟨x1,x2,x3⟩:=HOK.out i m hi
    rw [x3]
    have hq:m.pl.toNat<ps.length:=by omega
    have:bO ps m∈ps:=by unfold bO;rw [eB ps _ hq];exact List.getElem_mem hq
    have:=hfl2 _ this
    omega
   rw [hzt]
   clear hzt hokt hfl2
   go_wp2_with fail
   refine (tT (fun b=>b<W2.heap.size) (bQ ps ms) (lQ ps ms) _ ms.length W2 (fun _ h=>h) (by omega) (dH ps ms) (fun i hi=>lC hi) (fun i j hj=>(iV.1 hj).2.1) R2.out).mono ?_
   rintro e W3 ⟨cv,C,rfl,hcr,hsq,hci,k3⟩
   have HCE:=hid (aCx hsq hci)
   have HSQ:=hid hsq
   obtain ⟨cp,ccap,hcv,-⟩:=hcr.len
   subst hcv
   have C3:=hid (hcr.mono (S':=fun b=>b<W3.heap.size) (fun _ _=>rfl) fun b hb=>hb.2)
   have K3:=hid (K2.out.trans k3)
   have V3:=hid (V2.out.keep k3 V2.out.facts.2.2)
   clear k3 hcr hci V2 R2 hsq
   go_wp2_with fail
   refine (sK S th ms _ _ W3 (fun b hb=>Nat.lt_of_lt_of_le (hS b hb) K3.out.size) (HT.out.keep hS K3.out) (HM.out.keep hS K3.out) (by omega)).mono ?_
   rintro e W4 ⟨nv,rfl,hnv,k4⟩
   obtain ⟨np,ncap,hnvv,-⟩:=id hnv
   subst hnvv
   have N4:=hid (hnv.mono (S':=fun b=>b<W4.heap.size) (fun _ _=>rfl) fun b hb=>hb.2)
   have C4:=hid (C3.out.mono (S':=fun b=>b<W4.heap.size) (fun p hp=>k4.cell (p:=p) hp) fun b hb=>Nat.lt_of_lt_of_le hb k4.size)
   have K4:=hid (K3.out.trans k4)
   have V4:=hid (V3.out.keep k4 V3.out.facts.2.2)
   clear k4 hnv V3 C3
   go_wp2_with fail
   refine (uR (fun b=>b<W4.heap.size) C (nS th ms) ms.length _ _ W4 (fun _ h=>h) (by omega) N4.out (kI th ms) C4.out HSQ.out).mono ?_
   rintro e W5 ⟨liv,rfl,oli,k5⟩
   have e5:inL (bK C) (nS th ms)=goP ps th ms:=by rw [HCE.out];rfl
   rw [e5] at oli
   have O5:=hid oli
   obtain ⟨lip,lic,hliv,-⟩:=iG oli
   subst hliv
   rw [bH]
   rw [bH] at O5
   have hcap5:(goP ps th ms).length<=lic/\lic<=9223372036854775807:=by
    obtain ⟨-,⟨e,h0⟩ | ⟨g,cap,cur,e,-,-,h2,h3,-⟩⟩:=O5.out
    ·simp only [Value.slice.injEq] at e;rw [bH] at h0;omega
    ·simp only [Value.slice.injEq] at e;rw [bH] at h2;unfold maxLen at h3;omega
   have L5:=hid (show bP (fun b=>b<W5.heap.size) W5 (bM (goP ps th ms)) (.slice lip (goP ps th ms).length lic) from (iG O5.out).mono (fun _ _=>rfl) fun b hb=>hb.2)
   have C5:=hid (C4.out.mono (S':=fun b=>b<W5.heap.size) (fun p hp=>k5.cell (p:=p) hp) fun b hb=>Nat.lt_of_lt_of_le hb k5.size)
   have K5:=hid (K4.out.trans k5)
   have V5:=hid (V4.out.keep k5 V4.out.facts.2.2)
   clear k5 oli V4 C4 N4 e5
   go_wp2_with fail
   refine (uV (fun b=>b<W5.heap.size) C (goP ps th ms) ms.length _ _ _ W5 (fun _ h=>h) (by omega) L5.out hcap5.1 hcap5.2 C5.out HSQ.out (fun x hx=>(kE.1 hx).1) (vP ps th ms)).mono ?_
   rintro e W6 ⟨rfl,hcy,k6⟩
   have e6:aAq (bK C) ms.length (goP ps th ms)=tV ps th ms:=by rw [HCE.out];rfl
   rw [e6] at hcy
   have CY6:=hid hcy
   have L6:=hid (L5.out.mono (S':=fun b=>b<W6.heap.size) (fun p hp=>k6.cell (p:=p) hp) fun b hb=>Nat.lt_of_lt_of_le hb k6.size)
   have K6:=hid (K5.out.trans k6)
   have V6:=hid (V5.out.keep k6 V5.out.facts.2.2)
   clear k6 hcy V5 C5 L5 e6 O5
   generalize W5.heap.size=cg at CY6 ⊢
   obtain ⟨g0,-,l0⟩:=V6.out.facts
   go_wp2_with fail
   refine (tF S ps th ms _ _ _ W6 (fun b hb=>Nat.lt_of_lt_of_le (hS b hb) K6.out.size) (HP.out.keep hS K6.out) (HT.out.keep hS K6.out) (HM.out.keep hS K6.out) HOKT.out HOK.out (by omega) HONT.out).mono ?_
   rintro e W7 ⟨av,rfl,har,k7,HSZ7⟩
   obtain ⟨ap,acap,hav⟩:=har.shape
   subst hav
   have A7:=hid har
   have K67:=hid k7
   have K7:=hid (K6.out.trans k7)
   have CY7:=hid (CY6.out.keep k7)
   have L7:=hid (L6.out.mono (S':=fun b=>b<W6.heap.size) (fun p hp=>k7.cell (p:=p) hp) fun b hb=>hb)
   clear k7 har g0 l0 V6
   have hgl:=vP ps th ms
   have HPL:=hid (aCe ps th ms)
   have HOL:=hid (sQ ps th ms th.length)
   have HBS:Hid (W6.heap.size+1<=W7.heap.size):=HSZ7
   have HAC:Hid (gV ps th ms th.length=gV ps th ms th.length++gT ps th ms 0):=by show _=_;unfold gT;simp
   have HB:Hid (w.heap.size<=W6.heap.size+1/\W6.heap.size<=W7.heap.size/\cg<W6.heap.size):=⟨by have:=K6.out.size;omega,K67.out.size,CY6.out.1.facts.2.2⟩
   rw [HAC.out] at A7
   rw [HAC.out]
   generalize gV ps th ms th.length=outs at A7 HOL HPL ⊢
   go_wp2_with fail
   go_loopg [48,14] (goP ps th ms).length (fun gk iv av wr=> ∃ j:Nat,j+gk=(goP ps th ms).length/\iv=.int .i64 j/\bW (W6.heap.size+1) av (outs++gT ps th ms j) wr/\Below (W6.heap.size+1) W7 wr)
   case atStart=>exact ⟨0,by omega,rfl,by have:=A7.out;rw [List.length_append] at this;exact this,Below.refl _ _⟩
   case round=>
    obtain ⟨j,hjg,rfl,har,hkb⟩:=hrel
    have AR:=hid har
    have KB:=hid hkb
    have KR:=hid (show aA w wr from Below.trans K7.out (hkb.mono HB.out.1))
    clear har hkb
    by_cases hlt:j<(goP ps th ms).length
    ·have hkm:=(kE.1 (List.getElem_mem hlt)).1
     have HSU:=hid (wY hlt)
     have hSr : ∀ b,S b->b<wr.heap.size:=fun b hb=>Nat.lt_of_lt_of_le (hS b hb) KR.out.size
     obtain ⟨p',c',e',-,h3⟩:=(L7.out.mono (S':=fun b=>b<W6.heap.size) (fun p hp=>KB.out.cell (p:=p) (by have:p.block<W6.heap.size:=hp;omega)) fun _ h=>h)
     rw [bH] at e' h3
     cases e'
     obtain ⟨lb,loff,rfl,hlb,hcell⟩:=h3 (by omega)
     have hcj:=hcell j _ (iN hlt)
     have hlbl:lb<wr.heap.size:=by have:=KB.out.size;have:=HB.out;omega
     clear h3 hcell
     generalize (goP ps th ms)[j]=k at hkm HSU hcj
     obtain ⟨mb,moff,mcap,hmv,hmS,-,hrow⟩:=(HM.out.keep hS KR.out).get hkm
     cases hmv
     obtain ⟨op,oc,hc0,hc1,hol,hbl⟩:=hrow k _ (List.getElem?_eq_getElem hkm)
     have ho1:=HONM.out _ (List.getElem_mem hkm)
     rw [dP ms k hkm] at HSU
     have HBL:=hid hbl
     generalize ms[k]=m at hc0 hc1 hol HBL HSU ho1
     rcases m with ⟨pl,on⟩
     simp only at hc0 hc1 hol HBL HSU ho1
     have hcy:=(jR.cell ⟨CY7.out.1.keep KB.out (by have:=HB.out.2.2;omega),CY7.out.2⟩ hkm:wr.cell? ⟨cg,k,none⟩=_/\_)
     obtain ⟨y1,-,y3⟩:=hcy
     generalize (tV ps th ms).getD k 0=ck at HSU y1
     have hml:=hSr mb hmS
     have HS:=hid (show wr.cell? ⟨mb,moff+k*2,none⟩=some (.int .i64 pl)/\wr.cell? ⟨mb,moff+k*2+1,none⟩=some (.slice op on.length oc)/\wr.cell? ⟨cg,k,none⟩=some (.int .i64 ck) from ⟨hc0,hc1,y1⟩)
     have HSd:=hid (show wr.drew.cell? ⟨mb,moff+k*2,none⟩=some (.int .i64 pl)/\wr.drew.cell? ⟨mb,moff+k*2+1,none⟩=some (.slice op on.length oc)/\wr.drew.cell? ⟨cg,k,none⟩=some (.int .i64 ck) from ⟨hc0,hc1,y1⟩)
     have HCW:=hid (show ∀ W,aA wr W->Calls Tryz.prog 82 #[.agg #[.int .i64 pl,.slice op on.length oc]] W fun e w'=> ∃ v,e=.returned (.agg #[.int .i64 pl,v])/\aK (fun b=>W.heap.size<=b/\b<w'.heap.size) w' on v/\aA W w' from fun W kW=>pU S ⟨pl,on⟩ op oc W (fun b hb=>Nat.lt_of_lt_of_le (hSr b hb) kW.size) (HBL.out.keep hSr kW) ho1)
     obtain ⟨xp,xc,hxv⟩:=AR.out.shape
     subst hxv
     have HIL:=hid (aAb ps th ms j)
     have hol2:=HOL.out
     have hil2:=HIL.out
     have HAPP:Hid ((outs++gT ps th ms j).length=outs.length+(gT ps th ms j).length):=List.length_append
     have hacl:(outs++gT ps th ms j).length<=100:=by rw [HAPP.out];omega
     have HSU2:Hid (outs++gT ps th ms (j+1)=(outs++gT ps th ms j) ++ [⟨false,⟨pl,on⟩,ck⟩]):=by show _=_;rw [HSU.out,List.append_assoc]
     generalize outs++gT ps th ms j=acc at AR hacl HSU2 HAPP ⊢
     have HOW:=hid (show ∀ g,(Value.slice xp acc.length xc).ownBlock=some g->W6.heap.size+1<=g/\g<wr.heap.size from AR.out.own)
     clear hc0 hc1 y1 hrow hbl HSU
     have hwB:W6.heap.size+1<=wr.heap.size:=by have:=KB.out.size;have:=HBS.out;omega
     have HAP:=hid (show ∀ (w8 w6':World) (vp:Option Addr) (vc:Nat) (v5:Value) (o:Obj),aA wr w8->aK (fun b=>wr.heap.size<=b/\b<w8.heap.size) w8 on (.slice vp on.length vc)->(w8.cell? ⟨mb,moff+k*2,none⟩=some (.int .i64 pl)/\w8.cell? ⟨mb,moff+k*2+1,none⟩=some (.slice op on.length oc)/\w8.cell? ⟨cg,k,none⟩=some (.int .i64 ck))->∀ csl:List (List Value),csl.length=acc.length->(∀ cs∈csl,cs.length=4)->(∀ (i:Nat) t cs,acc[i]? = some t->csl[i]? = some cs->gW (fun b=>W6.heap.size+1<=b/\b<w8.heap.size/\(Value.slice xp acc.length xc).ownBlock≠some b) w8 t cs)->w6'.ownsRow (W6.heap.size+1) 81 4 v5 (acc.length+1) (csl.flatten ++ [.bool false,.int .i64 pl,.slice vp on.length vc,.int .i64 ck])->(w8.alloc o).grownBy w6' (Value.slice xp acc.length xc).ownBlock->(v5.ownBlock=(Value.slice xp acc.length xc).ownBlock∨v5.ownBlock=some (w8.alloc o).heap.size)->(bW (W6.heap.size+1) v5 (acc ++ [⟨false,⟨pl,on⟩,ck⟩]) w6'/\Below (W6.heap.size+1) wr w6')/\(w6'.cell? ⟨mb,moff+k*2,none⟩=some (.int .i64 pl)/\w6'.cell? ⟨mb,moff+k*2+1,none⟩=some (.slice op on.length oc)/\w6'.cell? ⟨cg,k,none⟩=some (.int .i64 ck)) from by
      intro w8 w6' vp vc v5 o k8 hb8 hs csl e1 e2 e4 h1 h2 h4
      have hlow:Below (W6.heap.size+1) wr w6':=Below.trans (k8.mono hwB) (((Below.refl _ w8).alloc (Nat.le_trans hwB k8.size) o).grown h2 (by rw [aE];have:=k8.size;omega) (fun g hg=>(HOW.out g hg).1))
      refine ⟨⟨bW.push (B':=wr.heap.size) e1 e2 e4 hwB (fun g hg=>(HOW.out g hg).2) ⟨_,rfl,hb8⟩ rfl h1 h2 h4,hlow⟩,?_⟩
      have hmb:mb<W6.heap.size+1:=by have:=hS mb hmS;have:=HB.out.1;omega
      have hcg:cg<W6.heap.size+1:=by have:=HB.out.2.2;omega
      exact ⟨(hlow.cell (p:=⟨mb,moff+k*2,none⟩) hmb).trans HS.out.1,(hlow.cell (p:=⟨mb,moff+k*2+1,none⟩) hmb).trans HS.out.2.1,(hlow.cell (p:=⟨cg,k,none⟩) hcg).trans HS.out.2.2⟩)
     go_upto_region 14 with fail
     go_region_held3 (fun W'=>W'.cell? ⟨mb,moff+k*2,none⟩=some (.int .i64 pl)/\W'.cell? ⟨mb,moff+k*2+1,none⟩=some (.slice op on.length oc)/\W'.cell? ⟨cg,k,none⟩=some (.int .i64 ck))
      (first | with_reducible exact HS.out | with_reducible exact HSd.out | with_reducible exact HS8.out | with_reducible exact HS9.out | with_reducible exact HS6.out | go_keep)
      (first
       | (go_at_call 82;refine (HCW.out _ (aA.drew (aA.refl _))).mono ?_;rintro e w8 ⟨v8,rfl,hb8,k8⟩;obtain ⟨vp,vc,hv8,-⟩:=id hb8;subst hv8;have K8:=hid (eD k8);have B8:=hid (show aK (fun b=>wr.heap.size<=b/\b<w8.heap.size) w8 on (.slice vp on.length vc) from hb8);have HS8:=hid (show w8.cell? ⟨mb,moff+k*2,none⟩=some (.int .i64 pl)/\w8.cell? ⟨mb,moff+k*2+1,none⟩=some (.slice op on.length oc)/\w8.cell? ⟨cg,k,none⟩=some (.int .i64 ck) from ⟨(K8.out.cell (p:=⟨mb,moff+k*2,none⟩) hml).trans HS.out.1,(K8.out.cell (p:=⟨mb,moff+k*2+1,none⟩) hml).trans HS.out.2.1,(K8.out.cell (p:=⟨cg,k,none⟩) y3).trans HS.out.2.2⟩);have A8:=hid (AR.out.keep K8.out);obtain ⟨csl,e1,e2,e3,e4⟩:=A8.out;have OW8:=hid e3;have E4:=hid e4;clear k8 hb8 e3 e4)
       | (refine Cn.eI rfl _ _ 56 rfl (W6.heap.size+1) 81 i0 (.agg #[.bool false,.int .i64 0,.slice none 0 0,.int .i64 0]) 4 48 Tryz.underlying56 hi hz0 hz1 hz2 rfl (by decide) (.slice xp acc.length xc) acc.length csl.flatten rfl (World.ownsRow.alloc OW8.out _) ⟨w8.heap.size,0,none⟩ 1 1 [.bool false,.int .i64 pl,.slice vp on.length vc,.int .i64 ck] rfl rfl dV (by intro u hu;simp at hu;rcases hu with rfl | rfl | rfl | rfl<;>rfl) (by unfold maxLen;omega) (by omega) (by rw [aE];have:=K8.out.size;omega) ?_;intro v5 w6' h1 h2 h4;have PP:=hid (HAP.out w8 w6' vp vc v5 _ K8.out B8.out HS8.out csl e1 e2 E4.out h1 h2 h4);have P6:=hid PP.out.1;have HS6:=hid PP.out.2;clear h1 h2 h4 PP))
     obtain ⟨g6,cap6,hv6⟩:=P6.out.1.shape
     subst hv6
     go_wp2_with fail
     go_roundg ((goP ps th ms).length-(j+1))
     case rel=>exact ⟨j+1,by omega,by go_num,by rw [HSU2.out];exact P6.out.1,Below.trans KB.out P6.out.2⟩
     case measure=>omega
    ·obtain rfl:j=(goP ps th ms).length:=by omega
     have HF:=hid AR.out.final
     rw [show outs++gT ps th ms (goP ps th ms).length=fU ps th ms from HPL.out] at HF
     obtain ⟨xp,xc,hxv⟩:=AR.out.shape
     subst hxv
     go_wp2_with fail
     refine bodyPost_ret (v:= .tuple #[.slice xp (outs++gT ps th ms (goP ps th ms).length).length xc,.int .i64 0]) ?_ rfl ?_
     ·simp [results,Tryz.results30,go_sem]
     ·exact ⟨KR.out,.inr ⟨HPZ.out,_,rfl,HF.out.mono (fun _ _=>rfl) fun b hb=>⟨by have:=HB.out.1;omega,hb.2⟩⟩⟩
  ·have hc1:(aZ ps th != 0)=true:=by simp [hzt]
   have HZT:=hid hzt
   generalize aZ ps th=cz at hc1 HPE HZT ⊢
   clear hzt
   go_wp2_with fail
   refine bodyPost_ret (v:= .tuple #[.slice none 0 0,.int .i64 cz]) ?_ rfl ?_
   ·simp [results,Tryz.results30,go_sem]
   ·exact ⟨K2.out,.inl ⟨by rw [HPE.out];exact HZT.out,by rw [HPE.out]⟩⟩
end Go.Proofs.YtonlloiemgdfkaaGreatDoor
namespace Go.Proofs.YtonlloiemgdfkaaGreatDoor
open Go.RowKit
theorem tY (args:Array Value) (w:World):(callFunc 91 args).run Tryz.prog w=.ok (.enter 91 args) w:=enters_of Tryz.func91 (by kernel_rfl) rfl args w
theorem sX (S:Nat->Prop) (x y:AC) (p1 p2:Option Addr) (c1 c2:Nat) (w:World) (hS : ∀ b,S b->b<w.heap.size) (h1:aK S w x.m.on (.slice p1 x.m.on.length c1)) (h2:aK S w y.m.on (.slice p2 y.m.on.length c2)) :
  Calls Tryz.prog 91 #[.agg #[.bool x.out,.int .i64 x.m.pl,.slice p1 x.m.on.length c1,.int .i64 x.cy],.agg #[.bool y.out,.int .i64 y.m.pl,.slice p2 y.m.on.length c2,.int .i64 y.cy]] w fun e w'=> ∃ β:Bool,e=.returned (.bool β)/\(β=true↔x=y)/\aA w w':=by
 have H1:=hid h1
 have H2:=hid h2
 clear h1 h2
 rcases x with ⟨xo,⟨xp,xs⟩,xc⟩
 rcases y with ⟨yo,⟨yp,ys⟩,yc⟩
 simp only at H1 H2 ⊢
 have HW:Hid (aA w ((w.alloc (.cells #[.bool xo,.int .i64 xp,.slice p1 xs.length c1,.int .i64 xc] 81)).alloc (.cells #[.bool yo,.int .i64 yp,.slice p2 ys.length c2,.int .i64 yc] 81))):=(aA.alloc _ _).alloc' _
 cases ho:(xo==yo)
 ·have HF:Hid (¬ (⟨xo,⟨xp,xs⟩,xc⟩:AC)=⟨yo,⟨yp,ys⟩,yc⟩):=fun e=>by cases e;simp at ho
  go_enter Tryz.func91,Tryz.ntmps91
  go_wp2_with fail
  go_ret
  exact ⟨false,rfl,⟨fun h=>Bool.noConfusion h,fun h=>absurd h HF.out⟩,HW.out⟩
 ·have hoe:xo=yo:=by simpa using ho
  cases hc:(xc==yc)
  ·have HF:Hid (¬ (⟨xo,⟨xp,xs⟩,xc⟩:AC)=⟨yo,⟨yp,ys⟩,yc⟩):=fun e=>by cases e;simp at hc
   clear hoe
   go_enter Tryz.func91,Tryz.ntmps91
   go_wp2_with fail
   go_ret
   exact ⟨false,rfl,⟨fun h=>Bool.noConfusion h,fun h=>absurd h HF.out⟩,HW.out⟩
  ·have hce:xc=yc:=by simpa using hc
   have HX:Hid ((⟨xp,xs⟩:MB)=⟨yp,ys⟩↔(⟨xo,⟨xp,xs⟩,xc⟩:AC)=⟨yo,⟨yp,ys⟩,yc⟩):=⟨fun h=>by rw [h,hoe,hce],fun h=>by cases h;rfl⟩
   clear hoe hce HW
   go_enter Tryz.func91,Tryz.ntmps91
   go_wp2_with fail
   refine bL (fun W'=>aA w W') ((aA.alloc _ _).alloc' _) ?_
   intro W2 k2
   refine (jO S ⟨xp,xs⟩ ⟨yp,ys⟩ _ _ W2 (fun b hb=>Nat.lt_of_lt_of_le (hS b hb) k2.size) (H1.out.keep hS k2) (H2.out.keep hS k2)).mono ?_
   rintro e w3 ⟨β,rfl,hβ,k3⟩
   have K3:=hid (k2.trans k3)
   have HB:=hid (hβ.trans HX.out)
   clear k2 k3 hβ
   go_wp2_with fail
   go_ret
   exact ⟨β,rfl,HB.out,K3.out⟩
theorem qI (S:Nat->Prop) (xs ys:List AC) (v1 v2:Value) (w:World) (hS : ∀ b,S b->b<w.heap.size) (h1:cI S w xs v1) (h2:cI S w ys v2) :
  Calls Tryz.prog 90 #[v1,v2,.func (.func 91) #[] #[]] w fun e w'=> ∃ β:Bool,e=.returned (.bool β)/\(β=true↔xs=ys)/\aA w w':=by
 have H1:=hid h1
 have H2:=hid h2
 obtain ⟨p1,c1,rfl,⟨-,hl1⟩,-⟩:=h1
 obtain ⟨p2,c2,rfl,⟨-,hl2⟩,-⟩:=h2
 have hent:=tY
 by_cases hl:xs.length=ys.length
 ·have HL:=hid hl
  have HW:Hid (aA w w):=aA.refl _
  rw [← hl]
  clear hl
  go_enter Tryz.func90,Tryz.ntmps90
  go_wp2_with fail
  go_loopg [17] xs.length (fun gk i wr=> ∃ j:Nat,j+gk=xs.length/\i=.int .i64 j/\(∀ i,i<j->xs[i]? = ys[i]?)/\aA w wr)
  case atStart=>exact ⟨0,by simp,rfl,fun i hi=>absurd hi (Nat.not_lt_zero _),HW.out⟩
  case round=>
   obtain ⟨j,hj,rfl,hal,hkp⟩:=hrel
   have HKP:=hid hkp
   have HAL:=hid hal
   clear hkp hal
   by_cases hlt:j<xs.length
   ·obtain ⟨q1,d1,hv1,-,hr1⟩:=H1.out.keep hS HKP.out
    obtain ⟨q2,d2,hv2,-,hr2⟩:=H2.out.keep hS HKP.out
    rw [← HL.out] at hv2 hr2
    cases hv1
    cases hv2
    obtain ⟨b1,o1,rfl,hb1,hc1⟩:=hr1 (by omega)
    obtain ⟨b2,o2,rfl,hb2,hc2⟩:=hr2 (by omega)
    have hlt2:j<ys.length:=by rw [← HL.out];exact hlt
    have e1:xs[j]? = some xs[j]:=List.getElem?_eq_getElem hlt
    have e2:ys[j]? = some ys[j]:=List.getElem?_eq_getElem hlt2
    obtain ⟨ov1,g1,g1',g1a,g1b,hbo1⟩:=hc1 j _ e1
    obtain ⟨ov2,g2,g2',g2a,g2b,hbo2⟩:=hc2 j _ e2
    have E1:=hid e1
    have E2:=hid e2
    have hb1':b1<wr.heap.size:=Nat.lt_of_lt_of_le (hS _ hb1) HKP.out.size
    have hb2':b2<wr.heap.size:=Nat.lt_of_lt_of_le (hS _ hb2) HKP.out.size
    generalize xs[j]=x at g1 g1' g1b E1 hbo1
    generalize ys[j]=y at g2 g2' g2b E2 hbo2
    have HO1:=hid hbo1
    have HO2:=hid hbo2
    obtain ⟨r1,s1,rfl,-,-⟩:=hbo1
    obtain ⟨r2,s2,rfl,-,-⟩:=hbo2
    clear hc1 hc2 hr1 hr2 e1 e2
    go_wp2_with fail
    refine bL (fun W'=>aA wr W') ((aA.alloc _ _).alloc' _) ?_
    intro W2 k2
    have hS2 : ∀ b,S b->b<wr.heap.size:=fun b hb=>Nat.lt_of_lt_of_le (hS b hb) HKP.out.size
    refine (sX S x y _ _ _ _ W2 (fun b hb=>Nat.lt_of_lt_of_le (hS2 b hb) k2.size) (HO1.out.keep hS2 k2) (HO2.out.keep hS2 k2)).mono ?_
    rintro e w3 ⟨β,rfl,hβ,k3⟩
    have K3:=hid (HKP.out.trans (k2.trans k3))
    clear k2 k3 hS2 g1 g1' g2 g2' g1a g1b g2a g2b
    cases β
    ·have HF:Hid (¬ xs=ys):=fun e=>Bool.noConfusion (hβ.2 (by have h1:=E1.out;rw [e,E2.out] at h1;exact (Option.some.inj h1).symm))
     clear hβ
     go_wp2_with fail
     go_ret
     exact ⟨false,rfl,⟨fun h=>Bool.noConfusion h,fun h=>absurd h HF.out⟩,K3.out⟩
    ·have HN:Hid (∀ i,i<j+1->xs[i]? = ys[i]?):=fun i hi=>by
      by_cases e:i=j
      ·subst e;rw [E1.out,E2.out,hβ.1 rfl]
      ·exact HAL.out i (by omega)
     clear hβ
     go_wp2_with fail
     go_roundg (xs.length-(j+1))
     case rel=>exact ⟨j+1,by omega,by go_num,HN.out,K3.out⟩
     case measure=>omega
   ·have HF:Hid (xs=ys):=mV HL.out fun i hi=>HAL.out i (by omega)
    go_wp2_with fail
    go_ret
    exact ⟨true,rfl,⟨fun _=>HF.out,fun _=>rfl⟩,HKP.out⟩
 ·have hz1:((xs.length:Int)==(ys.length:Int))=false:=beq_eq_false_iff_ne.2 fun e=>hl (by omega)
  have hz2:((xs.length:Int) != (ys.length:Int))=true:=bne_iff_ne.2 fun e=>hl (by omega)
  have HF:Hid (¬ xs=ys):=fun e=>hl (by rw [e])
  clear hl
  go_enter Tryz.func90,Tryz.ntmps90
  go_wp2_with fail
  go_ret
  exact ⟨false,rfl,⟨fun h=>Bool.noConfusion h,fun h=>absurd h HF.out⟩,aA.refl _⟩
theorem qX (S:Nat->Prop) (xs ys:List AC) (v1 v2:Value) (w:World) (hS : ∀ b,S b->b<w.heap.size) (h1:cI S w xs v1) (h2:cI S w ys v2) :
  Calls Tryz.prog 37 #[v1,v2] w fun e w'=> ∃ β:Bool,e=.returned (.bool β)/\(β=true↔xs=ys)/\aA w w':=by
 have H1:=hid h1
 have H2:=hid h2
 clear h1 h2
 go_enter Tryz.func37,Tryz.ntmps37
 go_wp2_with fail
 refine (qI S xs ys _ _ w hS H1.out H2.out).mono ?_
 rintro e w3 ⟨β,rfl,hβ,k3⟩
 have K3:=hid k3
 have HB:=hid hβ
 clear k3 hβ
 go_wp2_with fail
 go_ret
 exact ⟨β,rfl,HB.out,K3.out⟩
end Go.Proofs.YtonlloiemgdfkaaGreatDoor
namespace Go.Proofs.YtonlloiemgdfkaaGreatDoor
open Go.RowKit Go.Sort
def hQ (ps:List PK) (ms:List MB) (k:Int):Bool:=decide (fA ps ms k=0)&&jD ps ms k.toNat
theorem qM (S:Nat->Prop) (ps:List PK) (ms:List MB) (tv lv:Value) (k:Int) (w:World) (hS : ∀ b,S b->b<w.heap.size) (hp:aV S w ps tv) (hm:bU S w ms lv) :
  Calls Tryz.prog 46 #[.agg #[tv],lv,.int .i64 k] w fun e w'=>e=.returned (.tuple #[.bool (hQ ps ms k),.int .i64 (fA ps ms k)])/\aA w w':=by
 have HP:=hid hp
 have HMS:=hid hm
 obtain ⟨tp,tc,rfl,hlen⟩:=hp.len
 obtain ⟨lp,lc,rfl,hllen⟩:=hm.len
 have HX:Hid (fA ps ms k=if aZ ps ms≠0 then aZ ps ms else if k<0∨(ms.length:Int)<=k then 5 else 0):=rfl
 have HR:Hid (hQ ps ms k=(decide (fA ps ms k=0)&&jD ps ms k.toNat)):=rfl
 clear hp hm
 go_enter Tryz.func46,Tryz.ntmps46
 go_wp2_with fail
 refine bL (fun W'=>aA w W'/\aB w.heap.size 24 (.slice tp ps.length tc) W') ⟨aA.alloc _ _,aB.new _ _ _⟩ ?_
 rintro W0 ⟨k0,v0⟩
 refine (gK S ps ms _ _ W0 (fun b hb=>Nat.lt_of_lt_of_le (hS b hb) k0.size) (HP.out.keep hS k0) (HMS.out.keep hS k0)).mono ?_
 rintro e w1 ⟨rfl,k1⟩
 have K1:=hid (k0.trans k1)
 have V1:=hid (v0.keep k1 v0.facts.2.2)
 clear k0 v0 k1
 by_cases hz:aZ ps ms=0
 ·have HOK:=hid (sY hz)
  have HCT:=hid (mM hz)
  have HX1:Hid (fA ps ms k=if k<0∨(ms.length:Int)<=k then 5 else 0):=by show _=_;rw [HX.out,if_neg (fun h=>h hz)]
  rw [hz]
  clear hz HX
  by_cases h0:k<0
  ·have HY:Hid (fA ps ms k=5):=by show _=_;rw [HX1.out,if_pos (Or.inl h0)]
   have HZ:Hid (hQ ps ms k=false):=by show _=_;rw [HR.out,HY.out];rfl
   clear HX1 HR
   go_wp2_with fail
   go_ret2
   exact ⟨by rw [HY.out,HZ.out];rfl,K1.out⟩
  by_cases h1:(ms.length:Int)<=k
  ·have HY:Hid (fA ps ms k=5):=by show _=_;rw [HX1.out,if_pos (Or.inr h1)]
   have HZ:Hid (hQ ps ms k=false):=by show _=_;rw [HR.out,HY.out];rfl
   clear HX1 HR
   go_wp2_with fail
   go_ret2
   exact ⟨by rw [HY.out,HZ.out];rfl,K1.out⟩
  obtain ⟨q,rfl⟩ : ∃ q:Nat,k=q:=⟨k.toNat,by omega⟩
  have hq:q<ms.length:=by omega
  have HY:Hid (fA ps ms (q:Int)=0):=by show _=_;rw [HX1.out,if_neg (by omega)]
  have HZ:Hid (hQ ps ms (q:Int)=jD ps ms q):=by show _=_;rw [HR.out,HY.out];simp
  obtain ⟨hct,-,hlt⟩:=V1.out.facts
  clear HX1 HR
  go_wp2_with fail
  refine (wX S ps ms _ _ q w1 (fun b hb=>Nat.lt_of_lt_of_le (hS b hb) K1.out.size) (HP.out.keep hS K1.out) (HMS.out.keep hS K1.out) hq HOK.out HCT.out).mono ?_
  rintro e w2 ⟨rfl,k2⟩
  have K2:=hid (K1.out.trans k2)
  clear k2 hct
  go_wp2_with fail
  go_ret2
  exact ⟨by rw [HY.out,HZ.out];rfl,K2.out⟩
 ·have HY:Hid (fA ps ms k=aZ ps ms):=by show _=_;rw [HX.out,if_pos hz]
  have HZ:Hid (hQ ps ms k=false):=by show _=_;rw [HR.out,HY.out,decide_eq_false hz];rfl
  generalize aZ ps ms=ct at HY hz ⊢
  have hz1:(ct==0)=false:=by simp [hz]
  have hz2:(ct != 0)=true:=by simp [hz]
  clear hz HX HR
  go_wp2_with fail
  go_ret2
  exact ⟨by rw [HY.out,HZ.out];rfl,K1.out⟩
end Go.Proofs.YtonlloiemgdfkaaGreatDoor
namespace Go.Proofs.YtonlloiemgdfkaaGreatDoor
def nB1:NT:= .node 3 At.zero ⟨#[]⟩ false [oM 98]
def uN:NT:= .node 2 ⟨⟨#[99]⟩,0,0,0,⟨#[]⟩,false⟩ ⟨#[]⟩ false []
def mD:NT:= .node 3 At.zero ⟨#[]⟩ false [uN]
def q0:PK:=⟨⟨#[97]⟩,1,1,[],nB1⟩
def q1:PK:=⟨⟨#[97]⟩,2,1,[⟨#[120]⟩],nP⟩
def q2:PK:=⟨⟨#[98]⟩,1,1,[],mD⟩
def q3:PK:=⟨⟨#[99]⟩,1,1,[],iE⟩
def aR:List PK:= [q0,q1,q2,q3]
def F3:List UInt8:= [97,32,49,32,49,32,32,40,32,98,32,41,10,97,32,50,32,49,32,120,32,40,32,120,63,32,40,32,98,32,41,32,41,10,98,32,49,32,49,32,32,40,32,33,99,32,41,10,99,32,49,32,49,32,32,40,32,41,10]
theorem aBv:uN.ok:=by
 unfold uN
 rw [NT.ok]
 have h:aJ [99]=true:=by decide
 exact ⟨gM 2 _ (Or.inr rfl) (by show chk [99] 0 0 0 [] false=0;unfold chk;rw [if_neg (by simp [h]),if_neg (by decide),if_neg (by decide)]),trivial⟩
theorem aDc:nB1.ok:=by
 unfold nB1
 rw [NT.ok,okL,okL]
 exact ⟨dI 3 _ (Or.inl rfl),vS (by decide),trivial⟩
theorem aBz:mD.ok:=by
 unfold mD
 rw [NT.ok,okL,okL]
 exact ⟨dI 3 _ (Or.inl rfl),aBv,trivial⟩
theorem kL:dD nB1=false/\dD mD=false:=by
 have i1:aI 1=2:=fQ (by decide) (by decide)
 refine ⟨?_,?_⟩<;>simp [dD,nB1,mD,uN,oM,bI,bG,fN,i1]
theorem aBy:cT nB1=0:=cQ.2 ⟨kL.1,aDc⟩
theorem aAl:cT mD=0:=cQ.2 ⟨kL.2,aBz⟩
theorem vL:jG aR=F3:=by
 simp [jG,iA,aR,q0,q1,q2,q3,nB1,mD,uN,nP,nIf,iE,NT.text,oM,NT.words,aY,cZ,bJ,aDs,aDt,F3,Lib.join]
theorem vC:nB1.sorted = []:=by
 have:nB1.flags = []:=by simp [nB1,oM,NT.flags,dU]
 unfold NT.sorted
 rw [this,List.map_nil,List.mergeSort_nil];exact fM
theorem tC:mD.sorted = []:=by
 have:mD.flags = []:=by simp [mD,uN,NT.flags,dU]
 unfold NT.sorted
 rw [this,List.map_nil,List.mergeSort_nil];exact fM
theorem zR:cM [(⟨#[120]⟩:ByteArray)]=0:=by
 have n1:aJ [120]=true:=by decide
 simp [cM,cC,flE,n1]
theorem aCy:eZ [(⟨#[120]⟩:ByteArray)] [120]=true:=by unfold eZ;rw [Lib.containsS_iff];simp
theorem aDf:aJ [99]=true:=by decide
theorem aCt:cY q0=0:=by
 have hk:nB1.kind=3:=rfl
 simp [cY,q0,aAm,cM,cC,eL,hk,aBy,vC]
theorem aCu:cY q1=0:=by
 have hk:nP.kind=3:=rfl
 simp [cY,q1,aAm,zR,eL,hk,aAj,tB,aCy]
theorem aCv:cY q2=0:=by
 have hk:mD.kind=3:=rfl
 simp [cY,q2,aDe,cM,cC,eL,hk,aAl,tC]
theorem aCw:cY q3=0:=by
 have hk:iE.kind=3:=rfl
 simp [cY,q3,aDf,cM,cC,eL,hk,xH,qY]
theorem wF:cR q1 q0=true:=by simp [cR,q0,q1]
theorem wG:cR q2 q1=true:=by
 have h1:leS ⟨#[98]⟩ ⟨#[97]⟩=false:=by unfold leS;rw [Lib.toList_data,Lib.toList_data];decide
 simp [cR,q1,q2,h1]
theorem wH:cR q3 q2=true:=by
 have h1:leS ⟨#[99]⟩ ⟨#[98]⟩=false:=by unfold leS;rw [Lib.toList_data,Lib.toList_data];decide
 simp [cR,q3,q2,h1]
theorem jL:dT aR=0:=by
 have s1:dK aR 1=0:=rfl
 have s2:dK aR 2=1:=rfl
 have s3:dK aR 3=1:=rfl
 have s4:dK aR 4=1:=rfl
 have h8 : ¬ 8<aR.length:=by decide
 have hl:aR.length=4:=rfl
 unfold dT
 rw [if_neg h8]
 have e0:pkE aR 0=0:=by unfold pkE;rw [show aR.getD 0 PK.zero=q0 from rfl,aCt];simp [s1,hl]
 have e1:pkE aR 1=0:=by unfold pkE;rw [show aR.getD 1 PK.zero=q1 from rfl,show aR.getD (1-1) PK.zero=q0 from rfl,aCu,wF];simp [s2,hl]
 have e2:pkE aR 2=0:=by unfold pkE;rw [show aR.getD 2 PK.zero=q2 from rfl,show aR.getD (2-1) PK.zero=q1 from rfl,aCv,wG];simp [s3,hl]
 have e3:pkE aR 3=0:=by unfold pkE;rw [show aR.getD 3 PK.zero=q3 from rfl,show aR.getD (3-1) PK.zero=q2 from rfl,aCw,wH];simp [s4,hl]
 rw [hl]
 simp [cC,e0,e1,e2,e3]
theorem aBk:rdT F3=(0,0,aR):=by
 rw [← vL]
 exact aAv jL (by rw [vL];decide)
end Go.Proofs.YtonlloiemgdfkaaGreatDoor
namespace Go.Proofs.YtonlloiemgdfkaaGreatDoor
open Go.RowKit Go.Sort
theorem vB (w:World) (hE:Env w) (hM:eK w) :
  Calls Tryz.prog 66 #[] w fun e w'=> ∃ v,e=.returned (.tuple #[.agg #[v],.bool true])/\aV (fun b=>w.heap.size<=b/\b<w'.heap.size) w' aR v/\aA w w'/\vK v:=by
 have HE:=hid hE
 have HM:=hid hM
 clear hE hM
 go_enter Tryz.func66,Tryz.ntmps66
 go_wp2_with fail
 refine bL (fun W'=>aA w W'/\aB w.heap.size 24 (.slice none 0 0) W') ⟨aA.alloc _ _,aB.new _ _ _⟩ ?_
 rintro W0 ⟨k0,v0⟩
 refine (nY _ W0 (HE.out.keep k0) (HM.out.keep k0)).mono ?_
 rintro e w1 ⟨v1,rfl,-,hp1,k1,hcap1⟩
 have hrd:rdT (ByteArray.mk #[97,32,49,32,49,32,32,40,32,98,32,41,10,97,32,50,32,49,32,120,32,40,32,120,63,32,40,32,98,32,41,32,41,10,98,32,49,32,49,32,32,40,32,33,99,32,41,10,99,32,49,32,49,32,32,40,32,41,10]).data.toList=(0,0,aR):=aBk
 rw [hrd] at hp1 ⊢
 simp only at hp1 ⊢
 obtain ⟨p1,c1,rfl,-⟩:=hp1.len
 have hlen:aR.length=4:=rfl
 rw [hlen] at hp1 hcap1 ⊢
 have HCAP:=hid hcap1
 clear hcap1
 have K0s:=k0.size
 have hW0:w.heap.size+1<=W0.heap.size:=v0.facts.2.2
 have HP1:Hid (aV (fun b=>w.heap.size+1<=b/\b<w1.heap.size) w1 aR (.slice p1 4 c1)):=aV.mono (fun _ _=>rfl) (fun b hb=>⟨Nat.le_trans hW0 hb.1,hb.2⟩) hp1
 have K1:=hid (k0.trans k1)
 have V1:=hid (v0.keep k1 v0.facts.2.2)
 have hsz1:w.heap.size+1<=w1.heap.size:=by have:=V1.out.facts.2.2;omega
 clear k0 v0 hp1 k1 hrd hlen
 go_upto_region 2 with fail
 refine bE (fun W'=>aA w W'/\aA w1 W'/\aB w.heap.size 24 (.slice none 0 0) W'/\aB w1.heap.size 24 (.slice p1 4 c1) W') ⟨K1.out.alloc' _,aA.alloc _ _,V1.out.keep (aA.alloc _ _) V1.out.facts.2.2,aB.new _ _ _⟩ ?_
 rintro W2 ⟨k2,k12,v2,t2⟩
 have K2:=hid k2
 have K12:=hid k12
 have V2:=hid v2
 obtain ⟨g1,z1,l1⟩:=v2.facts
 obtain ⟨g2,z2,l2⟩:=t2.facts
 clear k2 k12 v2 t2
 go_region
 have v3:=V2.out.set (.slice p1 4 c1)
 have HQ:Hid (aB w.heap.size 24 (.slice p1 4 c1) (W2.setCell ⟨w.heap.size,0,none⟩ (.slice p1 4 c1)).drew/\aA w (W2.setCell ⟨w.heap.size,0,none⟩ (.slice p1 4 c1)).drew/\aV (fun b=>w.heap.size<=b/\b<(W2.setCell ⟨w.heap.size,0,none⟩ (.slice p1 4 c1)).drew.heap.size) (W2.setCell ⟨w.heap.size,0,none⟩ (.slice p1 4 c1)).drew aR (.slice p1 4 c1)):=by
  have ap:=cX w.heap.size W2 (.slice p1 4 c1)
  have hz:W2.heap.size<=(W2.setCell ⟨w.heap.size,0,none⟩ (.slice p1 4 c1)).heap.size:=ap.size
  refine ⟨v3.keep (kC _) v3.facts.2.2,aA.trans (show aA w (W2.setCell ⟨w.heap.size,0,none⟩ (.slice p1 4 c1)) from Below.trans K2.out (ap.below K2.out.size fun b hb e=>by have:b=w.heap.size:=e;omega)) (kC _),?_⟩
  refine aV.mono (fun p hp=> ?_) (fun b hb=>⟨by omega,Nat.lt_of_lt_of_le hb.2 (Nat.le_trans K12.out.size hz)⟩) HP1.out
  exact (ap.cell p (Nat.lt_of_lt_of_le hp.2 K12.out.size) (fun e=>by have e':p.block=w.heap.size:=e;have:=hp.1;omega)).trans (K12.out.cell (p:=p) hp.2)
 clear v3 g1 z1 g2 z2
 go_wp2_with fail
 refine eH (v:= .tuple #[.agg #[.slice p1 4 c1],.bool true]) (fun W'=>aB w.heap.size 24 (.slice p1 4 c1) W'/\aA w W'/\aV (fun b=>w.heap.size<=b/\b<W'.heap.size) W' aR (.slice p1 4 c1)) ?_ rfl ?_
 ·exact HQ.out
 rintro W ⟨hb,hk,hp⟩
 obtain ⟨hcW,-,-⟩:=hb.facts
 exact ⟨by simp [results,Tryz.results66,go_sem,hcW],_,rfl,hp,hk,HCAP.out⟩
theorem xW (w:World) (hE:Env w) (hM:eK w) :
  Calls Tryz.prog 66 #[] w fun e w'=> ∃ v,e=.returned (.tuple #[.agg #[v],.bool true])/\aV (fun b=>w.heap.size<=b/\b<w'.heap.size) w' aR v/\aA w w':=
 (vB w hE hM).mono fun _ _ ⟨v,h1,h2,h3,_⟩=>⟨v,h1,h2,h3⟩
theorem rJ {W:World} {n:Nat} (h:W.heap.size=n) (cs:Array Value) (T:TypeId):aH n cs (W.alloc (.cells cs T)):=h ▸ aH.new W cs T
def inW (W:World) (b:Nat):Prop:=b<W.heap.size
end Go.Proofs.YtonlloiemgdfkaaGreatDoor
namespace Go.Proofs.YtonlloiemgdfkaaGreatDoor
open Go.RowKit
def thO:List MB:= [⟨3,[]⟩]
def msO:List MB:= [⟨0,[]⟩,⟨2,[]⟩]
def acO:List AC:= [⟨true,⟨3,[]⟩,0⟩,⟨false,⟨2,[]⟩,0⟩,⟨false,⟨0,[]⟩,0⟩]
theorem mK:gD aR msO 0 0=false/\gD aR msO 0 1=true/\gD aR msO 1 0=false/\gD aR msO 1 1=false:=by
 refine ⟨?_,?_,?_,?_⟩<;>simp [gD,kQ,bV,cN,aR,msO,q0,q1,q2,q3,nB1,mD,uN,oM,isB,bO,jM]
theorem nN (k:Nat):bQ aR msO k=if k=0 then [1] else []:=by
 match k with
 | 0=>unfold bQ;rw [show msO.length=2 from rfl];simp [List.range_succ,mK.1,mK.2.1]
 | 1=>unfold bQ;rw [show msO.length=2 from rfl];simp [List.range_succ,mK.2.2.1,mK.2.2.2]
 | n+2=>unfold bQ;rw [if_neg (by simp [msO])];simp
theorem aCn:mT aR msO=fun k i=>decide (k=0)&&decide (i=1):=by
 funext k i
 rw [Bool.eq_iff_iff,iS]
 have hno : ∀ a b,a≠0->¬ Rch (bQ aR msO) a b:=fun a b ha hr=>by
  cases hr with
  | one h=>rw [nN,if_neg ha] at h;simp at h
  | more h _=>rw [nN,if_neg ha] at h;simp at h
 simp only [Bool.and_eq_true,decide_eq_true_eq]
 constructor
 ·intro hr
  by_cases hk:k=0
  ·subst hk
   refine ⟨rfl,?_⟩
   cases hr with
   | one h=>rw [nN,if_pos rfl] at h;simpa using h
   | more h h2=>
    rw [nN,if_pos rfl] at h
    obtain rfl:=List.mem_singleton.1 h
    exact absurd h2 (hno 1 i (by decide))
  ·exact absurd hr (hno k i hk)
 ·rintro ⟨rfl,rfl⟩
  exact .one (by rw [nN,if_pos rfl];simp)
theorem aDh:fU aR thO msO=acO:=by
 have hg:goP aR thO msO = [1,0]:=by unfold goP;rw [aCn];decide
 have hc:tV aR thO msO = [0,0]:=by unfold tV;rw [hg,aCn];decide
 have ho:qT aR msO ⟨3,[]⟩=true:=by simp [qT,shB,bO,aR,msO,q0,q1,q2,q3]
 unfold fU
 rw [hg,hc,show thO = [⟨3,[]⟩] from rfl,List.filter_cons,if_pos ho]
 rfl
theorem aCc:eM aR thO msO=0:=by
 have h1:aZ aR msO=0:=by
  unfold aZ;rw [jL]
  show yY aR msO=0
  decide
 have h2:aZ aR thO=0:=by
  unfold aZ;rw [jL]
  show yY aR thO=0
  decide
 unfold eM
 rw [h1,h2];rfl
theorem xF {c:Nat} {z:Int} {W:World} (hc:aH c #[.int .i64 z,.slice none 0 0] W):bU (inW W) W [⟨z,[]⟩] (.slice (some ⟨c,0,none⟩) 1 1):=by
 refine ⟨_,_,rfl,by simp,fun _=>⟨c,0,rfl,hc.1,fun j m hm=> ?_⟩⟩
 match j,hm with
 | 0,hm=>cases hm;exact ⟨_,hc.2 0,hc.2 1,none,0,rfl,by simp,fun h=>absurd h (by simp)⟩
theorem xG {c:Nat} {z y:Int} {W:World} (hc:aH c #[.int .i64 z,.slice none 0 0,.int .i64 y,.slice none 0 0] W):bU (inW W) W [⟨z,[]⟩,⟨y,[]⟩] (.slice (some ⟨c,0,none⟩) 2 2):=by
 refine ⟨_,_,rfl,by simp,fun _=>⟨c,0,rfl,hc.1,fun j m hm=> ?_⟩⟩
 match j,hm with
 | 0,hm=>cases hm;exact ⟨_,hc.2 0,hc.2 1,none,0,rfl,by simp,fun h=>absurd h (by simp)⟩
 | 1,hm=>cases hm;exact ⟨_,hc.2 2,hc.2 3,none,0,rfl,by simp,fun h=>absurd h (by simp)⟩
theorem aCr {c:Nat} {W:World} (hc:aH c #[.bool true,.int .i64 3,.slice none 0 0,.int .i64 0,.bool false,.int .i64 2,.slice none 0 0,.int .i64 0,.bool false,.int .i64 0,.slice none 0 0,.int .i64 0] W):cI (inW W) W acO (.slice (some ⟨c,0,none⟩) 3 3):=by
 refine ⟨_,_,rfl,by simp [acO],fun _=>⟨c,0,rfl,hc.1,fun j m hm=> ?_⟩⟩
 match j,hm with
 | 0,hm=>cases hm;exact ⟨_,hc.2 0,hc.2 1,hc.2 2,hc.2 3,none,0,rfl,by simp,fun h=>absurd h (by simp)⟩
 | 1,hm=>cases hm;exact ⟨_,hc.2 4,hc.2 5,hc.2 6,hc.2 7,none,0,rfl,by simp,fun h=>absurd h (by simp)⟩
 | 2,hm=>cases hm;exact ⟨_,hc.2 8,hc.2 9,hc.2 10,hc.2 11,none,0,rfl,by simp,fun h=>absurd h (by simp)⟩
theorem eE (w:World) (hE:Env w) (hM:eK w) :
  Calls Tryz.prog 33 #[] w fun e w'=>e=.returned (.bool true)/\aA w w':=by
 go_enter Tryz.func33,Tryz.ntmps33
 go_wp2_with fail
 refine (xW w hE hM).mono ?_
 rintro e w1 ⟨v1,rfl,hp1,k1⟩
 obtain ⟨p1,c1,rfl,-⟩:=hp1.len
 have HP1:=hid (aV.mono (S':=inW w1) (fun _ _=>rfl) (fun b hb=>hb.2) hp1)
 have K1:=hid k1
 clear hp1 k1 hE hM
 go_wp2_with fail
 refine bL (fun W'=>aA w1 W'/\aH (w1.heap.size+1) #[.int .i64 3,.slice none 0 0] W'/\aH (w1.heap.size+1+1) #[.int .i64 0,.slice none 0 0,.int .i64 2,.slice none 0 0] W')
  ⟨((aA.alloc _ _).alloc' _).alloc' _,(rJ (by simp) _ _).keep (aA.alloc _ _) (by simp),rJ (by simp) _ _⟩ ?_
 rintro W2 ⟨k2,b2,m2⟩
 refine (kK (inW W2) aR thO msO _ _ _ W2 (fun _ h=>h) (aV.mono (aT (fun _ h=>h) k2) (fun b hb=>Nat.lt_of_lt_of_le hb k2.size) HP1.out) (xF b2) (xG m2)).mono ?_
 rintro e w3 ⟨k3,hd⟩
 rcases hd with ⟨hz,-⟩ | ⟨-,v3,rfl,ha3⟩
 ·exact absurd aCc hz
 rw [aDh] at ha3
 obtain ⟨p3,c3,hv3,-⟩:=ha3.len
 subst hv3
 have A3:=hid (ha3.mono (S':=inW w3) (fun _ _=>rfl) fun b hb=>hb.2)
 have K3:=hid (K1.out.trans (k2.trans k3))
 clear k2 b2 m2 k3 ha3
 go_wp2_with fail
 refine bL (fun W'=>aA w3 W'/\aH w3.heap.size #[.bool true,.int .i64 3,.slice none 0 0,.int .i64 0,.bool false,.int .i64 2,.slice none 0 0,.int .i64 0,.bool false,.int .i64 0,.slice none 0 0,.int .i64 0] W') ⟨aA.alloc _ _,aH.new _ _ _⟩ ?_
 rintro W4 ⟨k4,b4⟩
 refine (qX (inW W4) acO acO _ _ W4 (fun _ h=>h) (A3.out.mono (aT (fun _ h=>h) k4) (fun b hb=>Nat.lt_of_lt_of_le hb k4.size)) (aCr b4)).mono ?_
 rintro e w5 ⟨β,rfl,hβ,k5⟩
 obtain rfl:β=true:=hβ.2 rfl
 have K5:=hid (K3.out.trans (k4.trans k5))
 clear k4 k5 b4 hβ
 go_wp2_with fail
 go_ret
 exact ⟨rfl,K5.out⟩
end Go.Proofs.YtonlloiemgdfkaaGreatDoor
namespace Go.Proofs.YtonlloiemgdfkaaGreatDoor
open Go.RowKit
theorem jS {P:Program} {w:World} : ∀ {l:List (String × DataW Unit)} {ps:List MemPlace} {x:String × DataW Unit},DataW.LaidVars P w l ps->x∈l->∃ qs,DataW.LaidVars P w [x] qs/\qs.Sublist ps
 | [],_,_,_,hx=>by cases hx
 | (n,d) :: r,ps,x,h,hx=>by
  obtain ⟨g,t,cs,fuel,p,q,h1,h2,h3,h4,h5,rfl⟩:=h
  rcases List.mem_cons.1 hx with rfl | hx
  ·exact ⟨MemPlace.row ⟨g,0,none⟩ cs.size++p ++ [],⟨g,t,cs,fuel,p,[],h1,h2,h3,h4,rfl,rfl⟩,by rw [List.append_nil];exact List.sublist_append_left _ _⟩
  ·obtain ⟨qs,h6,h7⟩:=jS h5 hx
   exact ⟨qs,h6,h7.trans (List.sublist_append_right _ _)⟩
theorem fR {P:Program} {w:World} {l:List (String × DataW Unit)} {x:String × DataW Unit} (h:laidMet P l w) (hx:x∈l):laidMet P [x] w:=by
 obtain ⟨ps,h1,h2,h3⟩:=h
 obtain ⟨qs,h4,h5⟩:=jS h1 hx
 exact ⟨qs,h4,h5.nodup h2,fun b off hb=>h3 b off (h5.subset hb)⟩
theorem jV {w:World} {b o:Nat} {v:Value} (h:w.cell? ⟨b,o,none⟩=some v):b<w.heap.size:=by
 rcases Nat.lt_or_ge b w.heap.size with h' | h'
 ·exact h'
 ·simp [World.cell?,Array.getElem?_eq_none h'] at h
theorem zS : Tryz.prog.globalNamed "quartermaster/atom.signs" = some 8 := by kernel_rfl
theorem aDm:(Tryz.prog.globals[8]?).map (·.type)=some 351:=by kernel_rfl
theorem aEa:(Tryz.prog.globals[1]?).map (·.type)=some 307:=by kernel_rfl
theorem aDy:Tryz.prog.cellsOf 307=20:=by kernel_rfl
theorem aDz:Tryz.prog.cellsOf 277=1:=by kernel_rfl
theorem tN:Tryz.prog.cellsOf 9=1:=by kernel_rfl
theorem aDp:Tryz.prog.cellsOf 346=1:=by kernel_rfl
theorem aDr : Tryz.prog.globalNamed "strconv.ErrSyntax" = some 4 := by kernel_rfl
theorem aEc:(Tryz.prog.globals[4]?).map (·.type)=some 267:=by kernel_rfl
theorem aDq : Tryz.prog.globalNamed "strconv.ErrRange" = some 5 := by kernel_rfl
theorem aEb:(Tryz.prog.globals[5]?).map (·.type)=some 267:=by kernel_rfl
theorem aDx : "*" ++ "errors.errorString" = "*errors.errorString" := by decide
theorem aBa (u : TypeId) (h : Tryz.prog.typeName? 3 u = some "*errors.errorString") : u = 344 :=
 typeName_ptr_named (nm := "errors.errorString") (by rw [aDx]; kernel_rfl) (by kernel_rfl) (by decide) u (by rw [aDx]; exact h)
theorem aBd {W : World} (h : laidMet Tryz.prog [("quartermaster/atom.signs", Rows.laid_quartermaster_atom_signs)] W) : rF W := by
 obtain ⟨ps,⟨g,t,cs,fuel,p,q,hg,ht,hv,hd,_,_⟩,_⟩:=h
 obtain rfl:=Option.some.inj (zS.symm.trans hg)
 obtain rfl:=Option.some.inj (aDm.symm.trans ht)
 obtain ⟨xs,m,rfl,hx,hlen,hn,hel⟩:=DataW.trod_array Tryz.underlying351 hd
 simp only [Rows.laid_quartermaster_atom_signs,Prod.mk.injEq,DataW.agg.injEq] at hx
 match xs,hn,hx,hel with
 | [x0,x1,x2,x3],_,hx,hel=>
  have cell : ∀ (k:Nat) (x:DataW Unit × List MemPlace) (l:List UInt8),k<4->[x0,x1,x2,x3][k]? = some x->x.1=.lit (.string l)->W.cell? ⟨8,k,none⟩=some (.string ⟨l.toArray⟩):=by
   intro k x l hk hxk hl
   have h1:=hel k hk
   rw [hxk] at h1
   obtain ⟨s,e1,e2,_⟩:=DataW.trod_string Tryz.underlying9 h1
   rw [e2] at hl
   have hs:s.data.toList=l:=by simpa using hl
   have hs':s=⟨l.toArray⟩:=by cases s;simp at hs;rw [← hs]
   have h2:=World.var?_cell zS hv k
   rw [tN,Nat.mul_one] at e1
   have h3:cs[k]? = some (.string s):=by
    have:=congrArg (·[0]?) e1
    simpa [List.getElem?_take,List.getElem?_drop] using this
   rw [h2,h3,hs']
  simp only [List.map_cons,List.map_nil,List.cons.injEq,and_true] at hx
  have c1:=cell 1 x1 [61] (by decide) rfl hx.1.2.1.symm
  refine ⟨jV c1,c1,cell 2 x2 [62,61] (by decide) rfl hx.1.2.2.1.symm,cell 3 x3 [60] (by decide) rfl hx.1.2.2.2.symm⟩
theorem zD {W : World} {l : List (String × DataW Unit)} (h : laidMet Tryz.prog l W) (h1 : ("quartermaster/atom.signs", Rows.laid_quartermaster_atom_signs) ∈ l) (h2 : ("internal/strconv.uint64pow10", Rows.laid_internal_strconv_uint64pow10) ∈ l)
  (h3 : ("strconv.ErrSyntax", Rows.laid_strconv_ErrSyntax) ∈ l) (h4 : ("strconv.ErrRange", Rows.laid_strconv_ErrRange) ∈ l) : Env W := by
 have tab : Lib.TabIs Tryz.prog W "internal/strconv.uint64pow10" .u64 Lib.pow10Tab := Lib.tabIs_of_head (rest := []) fT aEa Tryz.underlying307 Tryz.underlying277 aDz aDy (fR h h2)
 obtain ⟨a0,s0,hv0,-,-,-⟩:=laid_sentinel (fR h h3) aDr aEc Tryz.underlying267 aBa Tryz.underlying344 Tryz.underlying346 rfl rfl Tryz.underlying9 aDp tN
 obtain ⟨a1,s1,hv1,-,-,-⟩:=laid_sentinel (fR h h4) aDq aEb Tryz.underlying267 aBa Tryz.underlying344 Tryz.underlying346 rfl rfl Tryz.underlying9 aDp tN
 have c0:W.cell? ⟨4,0,none⟩=some (.iface 344 (.pointer (some a0))):=by simpa using World.var?_cell aDr hv0 0
 have c1:W.cell? ⟨5,0,none⟩=some (.iface 344 (.pointer (some a1))):=by simpa using World.var?_cell aDq hv1 0
 exact ⟨aBd (fR h h1),⟨jV (tab.cell fT 0 (by decide)),tab⟩,⟨jV c0,_,_,c0⟩,⟨jV c1,_,_,c1⟩⟩
end Go.Proofs.YtonlloiemgdfkaaGreatDoor
namespace Go.Proofs.YtonlloiemgdfkaaGreatDoor
open Go.ChangeShapes Go.WideShapes Go.ChangeAt Go.RowKit Go.Joins
theorem mP:Tryz.prog.cellsOf 48=6:=by kernel_rfl
theorem iP:Tryz.prog.cellsOf 3=1:=by kernel_rfl
theorem jJ:Tryz.prog.cellsOf 4=1:=by kernel_rfl
end Go.Proofs.YtonlloiemgdfkaaGreatDoor
namespace Go.Proofs.YtonlloiemgdfkaaGreatDoor
open Go.ChangeShapes Go.WideShapes Go.ChangeAt Go.RowKit Go.Joins
theorem jK:Tryz.prog.cellsOf 73=10:=by kernel_rfl
theorem mQ:Tryz.prog.cellsOf 71=1:=by kernel_rfl
theorem aDv {α:Type} {cs:List α} (h:cs.length=6) : ∃ c0 c1 c2 c3 c4 c5,cs = [c0,c1,c2,c3,c4,c5]:=by
 match cs,h with
 | [c0,c1,c2,c3,c4,c5],_=>exact ⟨c0,c1,c2,c3,c4,c5,rfl⟩
theorem aDa {α:Type} {cs:List α} (h:cs.length=10) : ∃ c0 c1 c2 c3 c4 c5 c6 c7 c8 c9,cs = [c0,c1,c2,c3,c4,c5,c6,c7,c8,c9]:=by
 match cs,h with
 | [c0,c1,c2,c3,c4,c5,c6,c7,c8,c9],_=>exact ⟨c0,c1,c2,c3,c4,c5,c6,c7,c8,c9,rfl⟩
section
variable {H:Type} {enc:TypeId × Value->H} {w:World} {base:Nat} {sp:Nat->Bool} {held:Bool}
theorem yB {fuel:Nat} {cs:List Value} {x:DataW H × List MemPlace} (h:DataW.trod enc Tryz.prog w base sp held fuel 48 cs=some x) : ∃ a:At,cs = [.string a.n,.int .i64 a.op,.int .i64 a.v,.int .i64 a.sl,.string a.f,.bool a.on]:=by
 obtain ⟨xs,m,_,hx,hl,hlen,hel⟩:=DataW.trod_struct Tryz.underlying48 h
 obtain ⟨c0,c1,c2,c3,c4,c5,rfl⟩:=aDv (hl.trans mP)
 match xs,hlen with
 | [y0,y1,y2,y3,y4,y5],_=>
  obtain ⟨n,e0,g0,_⟩:=DataW.trod_string Tryz.underlying9 (by simpa using hel 0 _ rfl)
  obtain ⟨op,e1,g1,_⟩:=DataW.trod_int Tryz.underlying3 (by simpa using hel 1 _ rfl)
  obtain ⟨v,e2,g2,_⟩:=DataW.trod_int Tryz.underlying3 (by simpa using hel 2 _ rfl)
  obtain ⟨sl,e3,g3,_⟩:=DataW.trod_int Tryz.underlying3 (by simpa using hel 3 _ rfl)
  obtain ⟨f,e4,g4,_⟩:=DataW.trod_string Tryz.underlying9 (by simpa using hel 4 _ rfl)
  obtain ⟨on,e5,g5⟩:=DataW.trod_bool Tryz.underlying4 (by simpa using hel 5 _ rfl)
  refine ⟨⟨n,op,v,sl,f,on⟩,?_⟩
  simp [iP,jJ,tN] at e0 e1 e2 e3 e4 e5
  rw [e0,e1,e2,e3,e4,e5]
theorem yC : ∀ (fuel:Nat) (cs:List Value) (x:DataW H × List MemPlace),DataW.trod enc Tryz.prog w base sp held fuel 73 cs=some x->∃ t:NT,aC (fun b=>b<w.heap.size) w t cs:=by
 intro fuel
 induction fuel using Nat.strongRecOn with
 | ind fuel ih=>
 intro cs x h
 obtain ⟨xs,m,hm,hx,hl,hlen,hel⟩:=DataW.trod_struct Tryz.underlying73 h
 obtain ⟨c0,c1,c2,c3,c4,c5,c6,c7,c8,c9,rfl⟩:=aDa (hl.trans jK)
 match xs,hlen with
 | [y0,y1,y2,y3,y4],_=>
  obtain ⟨k,e0,-,-⟩:=DataW.trod_int Tryz.underlying3 (by simpa using hel 0 _ rfl)
  obtain ⟨a,e1⟩:=yB (by simpa using hel 1 _ rfl)
  obtain ⟨fl,e2,-,-⟩:=DataW.trod_string Tryz.underlying9 (by simpa using hel 2 _ rfl)
  obtain ⟨nt,e3,-⟩:=DataW.trod_bool Tryz.underlying4 (by simpa using hel 3 _ rfl)
  have hs:=DataW.trod_slice Tryz.underlying71 (show DataW.trod enc Tryz.prog w base sp held m 71 _=some y4 by simpa using hel 4 _ rfl)
  simp [iP,jJ,tN,mP] at e0 e1 e2 e3
  obtain ⟨e10,e11,e12,e13,e14,e15⟩:=e1
  rcases hs with ⟨e4,-⟩ | ⟨ad,len,cap,elems,rest,mm,hmm,e4,-,-,hlc,hcm,hle,hcell,-,-⟩
  ·simp [mQ] at e4
   refine ⟨.node k a fl nt [],?_⟩
   rw [aC]
   exact ⟨none,0,by rw [e0,e10,e11,e12,e13,e14,e15,e2,e3,e4];rfl,Nat.le_refl _,by simp,by rw [aQ];trivial⟩
  ·simp [mQ] at e4
   have key : ∀ (q i:Nat),i+q=len->∃ ts:List NT,ts.length=q/\aQ (fun b=>b<w.heap.size) w ts (some ad) i:=by
    intro q
    induction q with
    | zero=>intro i _;exact ⟨[],rfl,by rw [aQ];trivial⟩
    | succ q ihq=>
     intro i hi
     obtain ⟨ts,hts,hk⟩:=ihq (i+1) (by omega)
     have hci:=hcell i (by omega)
     rw [jK,List.getElem?_eq_getElem (by omega)] at hci
     obtain ⟨csi,hc1,hc2⟩:=Option.bind_eq_some_iff.1 hci
     obtain ⟨t,ht⟩:=ih mm (by omega) csi _ hc2
     obtain ⟨hb1,hb2,hb3⟩:=World.cells?_some hc1
     have hblk:=World.cells?_block hc1 (by decide)
     refine ⟨t :: ts,by simp [hts],?_⟩
     rw [aQ]
     refine ⟨⟨ad,csi,rfl,by rw [cP] at hblk;exact hblk,fun j v hv=> ?_,ht⟩,hk⟩
     have hj:j<10:=by rw [← hb2];exact (List.getElem?_eq_some_iff.1 hv).1
     rw [hb3 j hj];exact hv
   obtain ⟨ts,hts,hk⟩:=key len 0 (by omega)
   refine ⟨.node k a fl nt ts,?_⟩
   rw [aC]
   exact ⟨some ad,cap,by rw [e0,e10,e11,e12,e13,e14,e15,e2,e3,e4,hts],by omega,by unfold maxLen at hcm;omega,hk⟩
end
theorem sI {w:World} (h:w.ShapedOpen Tryz.prog):eK w:=by
 obtain ⟨m,hm⟩:=cell_of_shapedOpen_int (g:=0) (t:=3) (zero:=#[.int .i64 0]) (k:= .i64) h (of_decide_eq_true (by kernel_rfl)) (by kernel_rfl) rfl (by kernel_rfl) (by kernel_rfl) Tryz.underlying3
 exact ⟨jV hm,m,hm⟩
theorem jC {H:Type} {enc:TypeId × Value->H} {a:Assume} {C:Checked} {os:Os} {f:FuncId} {fn:Func} {s:ChangeSpec} {conds:List PathCond} {apart fresh handsOn again:Bool} {X:World->Array Value->Prop}
  (hX : ∀ (w w':World) (args:Array Value),w.heap=w'.heap->X w args->X w' args)
  (own:ownKnob C.prog.godebug=none) (started:os.Started) (noInit:C.prog.inits.idxOf? f=none) (hfn:C.prog.funcs[f]? = some fn)
  (witness : ∃ (w:World) (tape:Tape) (i:Input),w.os=os/\(w.forCall tape i).Shaped C.prog/\i.vars = []/\Input.okWide C.prog (w.forCall tape i) .any w.heap.size f i/\
   ((s.pre enc C.prog fn conds apart (w.forCall tape i).memory i.args/\X (w.forCall tape i).memory i.args)/\sizedMet enc C.prog fn (OpenSpec.ofChange s) apart (w.forCall tape i).memory i.args)/\a.holds C.prog (lone (Frame.enter C.prog f i.args .normal) [] (w.forCall tape i)))
  (hN : ∀ (W:World) (base:Nat) (args:Array Value) (ds gs:List (DataW H)) (before:List MemPlace),
   (∀ (j:Nat) t v,fn.params[j]? = some t->args[j]? = some v->Value.okWide C.prog W .any base t v)->
   DataW.Whole enc C.prog fn.params.toList s.vars apart W args.toList ds gs before->
   X W args->W.ShapedOpen C.prog->
   Calls C.prog f args W fun e W'=> ∃ v,e=.returned v/\s.post enc C.prog fn apart fresh handsOn again W args v W') :
  ReturnsInHanded a C os f .any (fun w args=>(s.pre enc C.prog fn conds apart w args/\X w args)/\sizedMet enc C.prog fn (OpenSpec.ofChange s) apart w args) (s.post enc C.prog fn apart fresh handsOn again):=by
 refine returnsInHanded_of_calls own started noInit witness ?_
 intro w tape i _ hsh _ hok hpre _
 obtain ⟨_,_,_,fn',hfn',_,_,_,_,hval⟩:=hok
 obtain rfl:fn'=fn:=Option.some.inj (hfn'.symm.trans hfn)
 obtain ⟨⟨⟨ds,gs,before,hw,_⟩,hx⟩,_⟩:=hpre
 have hw':=DataW.Whole.of_heap (w':=w.forCall tape i) (by rfl) hw
 refine (hN (w.forCall tape i) w.heap.size i.args ds gs before hval hw' (hX _ _ _ (by rfl) hx) hsh).mono fun e W' ⟨v,he,hp⟩=> ?_
 subst he
 exact ChangeSpec.post_blind hp
end Go.Proofs.YtonlloiemgdfkaaGreatDoor
namespace Go.Proofs.YtonlloiemgdfkaaGreatDoor
open Go.ChangeShapes Go.WideShapes Go.ChangeAt Go.RowKit Go.Joins
theorem oT:Tryz.prog.cellsOf 75=14:=by kernel_rfl
theorem tP:Tryz.prog.cellsOf 70=1:=by kernel_rfl
theorem tO:Tryz.prog.cellsOf 22=1:=by kernel_rfl
theorem tQ:Tryz.prog.cellsOf 24=1:=by kernel_rfl
theorem kU {a:Addr} (h:a.spot=none):a=⟨a.block,a.off,none⟩:=by cases a;simp at h;subst h;rfl
theorem aDb {α:Type} {cs:List α} (h:cs.length=14) : ∃ c0 c1 c2 c3 c4 c5 c6 c7 c8 c9 c10 c11 c12 c13,cs = [c0,c1,c2,c3,c4,c5,c6,c7,c8,c9,c10,c11,c12,c13]:=by
 match cs,h with
 | [c0,c1,c2,c3,c4,c5,c6,c7,c8,c9,c10,c11,c12,c13],_=>exact ⟨c0,c1,c2,c3,c4,c5,c6,c7,c8,c9,c10,c11,c12,c13,rfl⟩
section
variable {H:Type} {enc:TypeId × Value->H} {w:World} {base:Nat} {sp:Nat->Bool} {held:Bool}
theorem mH {α:Type} {P:Nat->α->Prop} : ∀ (n:Nat),(∀ i,i<n->∃ x,P i x)->∃ l:List α,l.length=n/\∀ (i:Nat) (h:i<l.length),P i l[i]
 | 0,_=>⟨[],rfl,fun i h=>absurd h (Nat.not_lt_zero _)⟩
 | n+1,h=>by
  obtain ⟨l,hl,hp⟩:=mH n (fun i hi=>h i (by omega))
  obtain ⟨x,hx⟩:=h n (by omega)
  refine ⟨l ++ [x],by simp [hl],fun i hi=> ?_⟩
  by_cases hlt:i<l.length
  ·rw [List.getElem_append_left hlt];exact hp i hlt
  ·have:i=l.length:=by simp at hi;omega
   subst this
   rw [List.getElem_append_right (Nat.le_refl _)]
   simp only [Nat.sub_self,List.getElem_cons_zero]
   rw [hl];exact hx
theorem yE {fuel:Nat} {cs:List Value} {x:DataW H × List MemPlace} (h:DataW.trod enc Tryz.prog w base sp held fuel 70 cs=some x) : ∃ (fs:List ByteArray) (v:Value),cs = [v]/\bN (fun b=>b<w.heap.size) w fs v:=by
 rcases DataW.trod_slice Tryz.underlying70 h with ⟨rfl,-⟩ | ⟨ad,len,cap,elems,rest,mm,hmm,rfl,-,-,hlc,hcm,hle,hcell,-,-⟩
 ·exact ⟨[],_,rfl,Or.inl ⟨rfl,none,0,rfl⟩⟩
 ·have one : ∀ i,i<len->∃ y:ByteArray,ad.block<w.heap.size/\w.cell? (ad.add i)=some (.string y):=by
   intro i hi
   have hci:=hcell i hi
   rw [tN,Nat.mul_one,List.getElem?_eq_getElem (by omega)] at hci
   obtain ⟨csi,hc1,hc2⟩:=Option.bind_eq_some_iff.1 hci
   obtain ⟨y,e0,-,-⟩:=DataW.trod_string Tryz.underlying9 hc2
   obtain ⟨hb1,hb2,hb3⟩:=World.cells?_some hc1
   have hblk:=World.cells?_block hc1 (by decide)
   rw [cP] at hblk
   refine ⟨y,hblk,?_⟩
   have:=hb3 0 (by decide)
   rw [e0] at this
   simpa [Addr.add] using this
  by_cases h0:len=0
  ·subst h0
   exact ⟨[],_,rfl,Or.inl ⟨rfl,_,_,rfl⟩⟩
  ·obtain ⟨fs,hfl,hfs⟩:=mH len one
   have hz:=hfs 0 (by omega)
   have hsp:ad.spot=none:=by
    have:=World.cell?_spot hz.2
    simpa [Addr.add] using this
   have had:=kU hsp
   refine ⟨fs,_,rfl,Or.inr ⟨ad.block,ad.off,cap,by rw [hfl,← had],⟨hz.1,by omega⟩,by unfold maxLen at hcm;omega,fun j y hy=> ?_⟩⟩
   obtain ⟨hj,rfl⟩:=List.getElem?_eq_some_iff.1 hy
   have:=(hfs j hj).2
   rw [had] at this
   rwa [Addr.add_mid] at this
theorem aBg {fuel:Nat} {cs:List Value} {x:DataW H × List MemPlace} (h:DataW.trod enc Tryz.prog w base sp held fuel 75 cs=some x) : ∃ p:PK,cD (fun b=>b<w.heap.size) w p cs/\cs.length=14:=by
 obtain ⟨xs,m,hm,hx,hl,hlen,hel⟩:=DataW.trod_struct Tryz.underlying75 h
 have hl14:=hl.trans oT
 obtain ⟨c0,c1,c2,c3,c4,c5,c6,c7,c8,c9,c10,c11,c12,c13,rfl⟩:=aDb hl14
 match xs,hlen with
 | [y0,y1,y2,y3,y4],_=>
  obtain ⟨n,e0,-,-⟩:=DataW.trod_string Tryz.underlying9 (by simpa using hel 0 _ rfl)
  obtain ⟨v,e1,-,-⟩:=DataW.trod_int Tryz.underlying3 (by simpa using hel 1 _ rfl)
  obtain ⟨sl,e2,-,-⟩:=DataW.trod_int Tryz.underlying3 (by simpa using hel 2 _ rfl)
  obtain ⟨fs,fv,e3,hf⟩:=yE (show DataW.trod enc Tryz.prog w base sp held m 70 _=some y3 by simpa using hel 3 _ rfl)
  obtain ⟨t,ht⟩:=yC m _ _ (show DataW.trod enc Tryz.prog w base sp held m 73 _=some y4 by simpa using hel 4 _ rfl)
  simp [iP,tN,tP,jK] at e0 e1 e2 e3 ht
  refine ⟨⟨n,v,sl,fs,t⟩,⟨fv,[c4,c5,c6,c7,c8,c9,c10,c11,c12,c13],by rw [e0,e1,e2,e3],hf,ht⟩,rfl⟩
theorem yD {fuel:Nat} {cs:List Value} {x:DataW H × List MemPlace} (h:DataW.trod enc Tryz.prog w base sp held fuel 22 cs=some x) : ∃ (ps:List PK) (v:Value),cs = [v]/\aV (fun b=>b<w.heap.size) w ps v:=by
 rcases DataW.trod_slice Tryz.underlying22 h with ⟨rfl,-⟩ | ⟨ad,len,cap,elems,rest,mm,hmm,rfl,-,-,hlc,hcm,hle,hcell,-,-⟩
 ·exact ⟨[],_,rfl,Or.inl ⟨rfl,none,0,rfl⟩⟩
 ·have one : ∀ i,i<len->∃ y:PK,ad.block<w.heap.size/\∃ cs:List Value,cs.length=14/\(∀ m,m<14->w.cell? ((ad.add (i*14)).add m)=cs[m]?)/\cD (fun b=>b<w.heap.size) w y cs:=by
   intro i hi
   have hci:=hcell i hi
   rw [oT,List.getElem?_eq_getElem (by omega)] at hci
   obtain ⟨csi,hc1,hc2⟩:=Option.bind_eq_some_iff.1 hci
   obtain ⟨p,hp,hl⟩:=aBg hc2
   obtain ⟨hb1,hb2,hb3⟩:=World.cells?_some hc1
   have hblk:=World.cells?_block hc1 (by decide)
   rw [cP] at hblk
   exact ⟨p,hblk,csi,hl,hb3,hp⟩
  by_cases h0:len=0
  ·subst h0
   exact ⟨[],_,rfl,Or.inl ⟨rfl,_,_,rfl⟩⟩
  ·obtain ⟨ps,hfl,hfs⟩:=mH len one
   obtain ⟨hz,cs0,hl0,hc0,-⟩:=hfs 0 (by omega)
   have hsp:ad.spot=none:=by
    have h1:=hc0 0 (by decide)
    rw [List.getElem?_eq_getElem (by omega)] at h1
    have:=World.cell?_spot h1
    simpa [Addr.add] using this
   have had:=kU hsp
   refine ⟨ps,_,rfl,Or.inr ⟨ad.block,ad.off,cap,by rw [hfl,← had],hz,by unfold maxLen at hcm;omega,fun j hj=> ?_⟩⟩
   obtain ⟨-,csj,hlj,hcj,hpj⟩:=hfs j hj
   refine ⟨csj,fun m y hy=> ?_,hpj⟩
   have hm:m<14:=by rw [← hlj];exact (List.getElem?_eq_some_iff.1 hy).1
   have:=hcj m hm
   rw [had,Addr.add_mid,Addr.add_mid,hy] at this
   exact this
end
theorem pN {H:Type} {enc:TypeId × Value->H} {w:World} {base b0:Nat} {sp:Nat->Bool} {held:Bool} {x:Value} {d:DataW H} {p:List MemPlace} (hv:Value.okWide Tryz.prog w .any b0 24 x) (h:DataW.Trod enc Tryz.prog w base sp held 24 x d p) :
  ∃ (ps:List PK) (v:Value),x=.agg #[v]/\aV (fun b=>b<w.heap.size) w ps v:=by
 obtain ⟨cs,rfl,hsz⟩:=okWide_struct Tryz.underlying24 hv
 obtain ⟨fuel,hf⟩:=h
 obtain ⟨xs,m,hm,hx,hl,hlen,hel⟩:=DataW.trod_struct Tryz.underlying24 (show DataW.trod enc Tryz.prog w base sp held fuel 24 cs.toList=some (d,p) from hf)
 match xs,hlen with
 | [y0],_=>
  obtain ⟨ps,v,e,hp⟩:=yD (show DataW.trod enc Tryz.prog w base sp held m 22 _=some y0 by simpa using hel 0 _ rfl)
  refine ⟨ps,v,?_,hp⟩
  have hl1:=hl.trans tQ
  simp [tO] at e
  obtain ⟨l⟩:=cs
  simp at hl1 e
  match l,hl1 with
  | [c],_=>simp at e;subst e;rfl
end Go.Proofs.YtonlloiemgdfkaaGreatDoor
