/- Steps of the proof: OrdPlan, OrdMapI, OrdMapB, ShelfB, RefCheck. -/
import Derived.Test.YthaaaecmeafofaaGreatDoorOs16
import Derived.Test.YthaaaecmeafofaaGreatDoorOs13
import Derived.Test.YthaaaecmeafofaaGreatDoorOs14
import Derived.Shelf.Strings.Trim
import Derived.Shelf.LaysM
import Derived.Shelf.LaysC
import Derived.Shelf.Strings.Search2
import Derived.Shelf.Strings.Search3
import Derived.Shelf.Sort.Plain
import Derived.Shelf.Slices.In.SortNone2
import Derived.Test.YthaaaecmeafofaaGreatDoorProg
import Derived.Test.YthaaaecmeafofaaGreatDoorOs03
import Derived.Shelf.Strings.SlTrimAscii
import Derived.Lib.ParseIntBTie
set_option maxHeartbeats 16000000
set_option maxRecDepth 100000
namespace Go.Proofs.YthaaaecmeafofaaGreatDoor
open Go.RowKit Go.Sort Go.Lib
theorem aGi {ps:List PK} {ms:List MB} {C:List (List Bool)} (hq:SqB C ms.length) (h : ∀ k i,k<ms.length->(bS C k i=true↔Rch (dA ps ms) k i)):bS C=bB ps ms:=by
 funext k i
 by_cases hk:k<ms.length
 ·rw [Bool.eq_iff_iff,h k i hk,hG]
 ·have h1:bS C k i=false:=by
   unfold bS
   rw [show C.getD k [] = [] by rw [List.getD_eq_getElem?_getD,List.getElem?_eq_none (by rw [hq.1];omega)];rfl]
   rfl
  have h2:bB ps ms k i=false:=by
   cases hc:bB ps ms k i with
   | false=>rfl
   | true=>
    have hr:=hG.1 hc
    have : ∃ j,j∈dA ps ms k:=by cases hr with
     | one h=>exact ⟨_,h⟩
     | more h _=>exact ⟨_,h⟩
    obtain ⟨j,hj⟩:=this
    exact absurd (kQ.1 hj).1 hk
  rw [h1,h2]
def fB (ps:List PK) (th ms:List MB):Int:=if bP ps ms≠0 then bP ps ms else bP ps th
noncomputable def jA (ps:List PK) (th ms:List MB) (j:Nat):List AC:=((goP ps th ms).take j).map fun k=>⟨false,ms.getD k MB.zero,(lL ps th ms).getD k 0⟩
theorem zX {ps:List PK} {th ms:List MB} {j:Nat} (h:j<(goP ps th ms).length):jA ps th ms (j+1)=jA ps th ms j ++ [⟨false,ms.getD (goP ps th ms)[j] MB.zero,(lL ps th ms).getD (goP ps th ms)[j] 0⟩]:=by
 unfold jA
 rw [List.take_succ_eq_append_getElem h,List.map_append];rfl
theorem aCv (ps:List PK) (th ms:List MB) (j:Nat):(jA ps th ms j).length<=j:=by
 unfold jA;rw [List.length_map];exact List.length_take_le _ _
theorem aFn (ps:List PK) (th ms:List MB):fP ps th ms th.length++jA ps th ms (goP ps th ms).length=kC ps th ms:=by
 unfold fP jA kC
 rw [List.take_length,List.take_length]
theorem yN (ps:List PK) (th ms:List MB):(goP ps th ms).length<=ms.length:=by
 have h1 : ∀ x∈goP ps th ms,x∈List.range ms.length:=fun x hx=>List.mem_range.2 (kP.1 hx).1
 have:=List.Nodup.length_le_of_subset (kN ps th ms) h1
 simpa using this
def aBo (ps:List PK) (th ms:List MB) (w:World) (e:Ending) (w':World):Prop:=aA w w'/\((fB ps th ms≠0/\e=.returned (.tuple #[.slice none 0 0,.int .i64 (fB ps th ms)]))∨(fB ps th ms=0/\∃ v,e=.returned (.tuple #[v,.int .i64 0])/\dR (fun b=>w.heap.size<=b/\b<w'.heap.size) w' (kC ps th ms) v))
theorem vJ (S:Nat->Prop) (ps:List PK) (th ms:List MB) (tv hv lv:Value) (w:World) (hS : ∀ b,S b->b<w.heap.size) (hp:bA S w ps tv) (ht:cI S w th hv) (hm:cI S w ms lv) :
  Calls Tryz.prog 11 #[.agg #[tv],hv,lv] w (aBo ps th ms w):=by
 have HP:=hid hp
 have HT:=hid ht
 have HM:=hid hm
 obtain ⟨tp,tc,rfl,hlen⟩:=hp.len
 obtain ⟨hp',hc',rfl,hhl⟩:=ht.len
 obtain ⟨lp,lc,rfl,hll⟩:=hm.len
 obtain ⟨i0,hi,hz0,hz1,hz2⟩:=info_parts tC
 clear hp ht hm
 go_enter Tryz.func11,Tryz.ntmps11
 go_upto_region 1 with fail
 refine aZ (fun W'=>aA w W'/\aB w.heap.size 24 (.slice tp ps.length tc) W') ⟨aA.alloc _ _,aB.new _ _ _⟩ ?_
 rintro W0 ⟨k0,v0⟩
 have K0:=hid k0
 have V0:=hid v0
 obtain ⟨g0,-,l0⟩:=v0.facts
 clear k0 v0
 generalize hct:w.heap.size=ct at V0 g0 l0 ⊢
 have HCT:=hid hct
 clear hct
 go_wp2_with fail
 refine (rX S ps ms _ _ W0 (fun b hb=>Nat.lt_of_lt_of_le (hS b hb) K0.out.size) (HP.out.keep hS K0.out) (HM.out.keep hS K0.out)).mono ?_
 rintro e W1 ⟨k1,hd⟩
 have K1:=hid (K0.out.trans k1)
 have V1:=hid (V0.out.keep k1 V0.out.facts.2.2)
 have HW01:Hid (W0.heap.size<=W1.heap.size):=k1.size
 clear k1 g0 l0 V0
 rcases hd with ⟨hz,rfl⟩ | ⟨hz,v1,rfl,hr1⟩
 ·have hc1:(bP ps ms != 0)=true:=by simp [hz]
  have HE:Hid (fB ps th ms=bP ps ms):=by show _=_;unfold fB;rw [if_pos hz]
  have HZ:=hid hz
  generalize bP ps ms=cz at hc1 HE HZ ⊢
  clear hz
  go_wp2_with fail
  refine bodyPost_ret (v:= .tuple #[.slice none 0 0,.int .i64 cz]) ?_ rfl ?_
  ·simp [results,Tryz.results11,go_sem]
  ·exact ⟨K1.out,.inl ⟨by rw [HE.out];exact HZ.out,by rw [HE.out]⟩⟩
 ·obtain ⟨rp,rc,hrv,-⟩:=hr1.len
  subst hrv
  rw [cR]
  have R1:=hid hr1
  rw [cR] at R1
  have HPE:Hid (fB ps th ms=bP ps th):=by show _=_;unfold fB;rw [if_neg (by simp [hz])]
  obtain ⟨-,-,-,-,h8,hok⟩:=fG hz
  have HOK:=hid hok
  have HZ:=hid hz
  obtain ⟨g0,-,l0⟩:=V1.out.facts
  clear hz hr1 hok
  go_wp2_with fail
  refine (lZ S ps th _ _ W1 (fun b hb=>Nat.lt_of_lt_of_le (hS b hb) K1.out.size) (HP.out.keep hS K1.out) (HT.out.keep hS K1.out)).mono ?_
  rintro e W2 ⟨rfl,k2⟩
  have K2:=hid (K1.out.trans k2)
  have V2:=hid (V1.out.keep k2 V1.out.facts.2.2)
  have R2:=hid (R1.out.mono (S':=fun b=>b<W2.heap.size) (fun p hp=>k2.cell (p:=p) hp.2) fun b hb=>Nat.lt_of_lt_of_le hb.2 k2.size)
  clear k2 g0 l0 V1 R1
  by_cases hzt:bP ps th=0
  ·obtain ⟨-,hfl2,-,-,h8t,hokt⟩:=fG hzt
   have HOKT:=hid hokt
   have HPZ:Hid (fB ps th ms=0):=HPE.out.trans hzt
   have HONT:Hid (∀ m∈th,m.on.length<=1000):=fun m hm=>by
    obtain ⟨i,hi⟩:=List.mem_iff_getElem?.1 hm
    obtain ⟨x1,x2,x3⟩:=hokt i m hi
    rw [x3]
    have hq:m.pl.toNat<ps.length:=by omega
    have:bU ps m∈ps:=by unfold bU;rw [dZ ps _ hq];exact List.getElem_mem hq
    have:=hfl2 _ this
    omega
   have HONM:Hid (∀ m∈ms,m.on.length<=1000):=fun m hm=>by
    obtain ⟨i,hi⟩:=List.mem_iff_getElem?.1 hm
    obtain ⟨x1,x2,x3⟩:=HOK.out i m hi
    rw [x3]
    have hq:m.pl.toNat<ps.length:=by omega
    have:bU ps m∈ps:=by unfold bU;rw [dZ ps _ hq];exact List.getElem_mem hq
    have:=hfl2 _ this
    omega
   rw [hzt]
   clear hzt hokt hfl2
   go_wp2_with fail
   refine (wP (fun b=>b<W2.heap.size) (dA ps ms) (cU ps ms) _ ms.length W2 (fun _ h=>h) (by omega) (cR ps ms) (fun i hi=>gC hi) (fun i j hj=>(kQ.1 hj).2.1) R2.out).mono ?_
   rintro e W3 ⟨cv,C,rfl,hcr,hsq,hci,k3⟩
   have HCE:=hid (aGi hsq hci)
   have HSQ:=hid hsq
   obtain ⟨cp,ccap,hcv,-⟩:=hcr.len
   subst hcv
   have C3:=hid (hcr.mono (S':=fun b=>b<W3.heap.size) (fun _ _=>rfl) fun b hb=>hb.2)
   have K3:=hid (K2.out.trans k3)
   have V3:=hid (V2.out.keep k3 V2.out.facts.2.2)
   clear k3 hcr hci V2 R2 hsq
   go_wp2_with fail
   refine (uZ S th ms _ _ W3 (fun b hb=>Nat.lt_of_lt_of_le (hS b hb) K3.out.size) (HT.out.keep hS K3.out) (HM.out.keep hS K3.out) (by omega)).mono ?_
   rintro e W4 ⟨nv,rfl,hnv,k4⟩
   obtain ⟨np,ncap,hnvv,-⟩:=id hnv
   subst hnvv
   have N4:=hid (hnv.mono (S':=fun b=>b<W4.heap.size) (fun _ _=>rfl) fun b hb=>hb.2)
   have C4:=hid (C3.out.mono (S':=fun b=>b<W4.heap.size) (fun p hp=>k4.cell (p:=p) hp) fun b hb=>Nat.lt_of_lt_of_le hb k4.size)
   have K4:=hid (K3.out.trans k4)
   have V4:=hid (V3.out.keep k4 V3.out.facts.2.2)
   clear k4 hnv V3 C3
   go_wp2_with fail
   refine (xL (fun b=>b<W4.heap.size) C (eC th ms) ms.length _ _ W4 (fun _ h=>h) (by omega) N4.out (iK th ms) C4.out HSQ.out).mono ?_
   rintro e W5 ⟨liv,rfl,oli,k5⟩
   have e5:inL (bS C) (eC th ms)=goP ps th ms:=by rw [HCE.out];rfl
   rw [e5] at oli
   have O5:=hid oli
   obtain ⟨lip,lic,hliv,-⟩:=cV oli
   subst hliv
   rw [aJ]
   rw [aJ] at O5
   have hcap5:(goP ps th ms).length<=lic/\lic<=9223372036854775807:=by
    obtain ⟨-,⟨e,h0⟩ | ⟨g,cap,cur,e,-,-,h2,h3,-⟩⟩:=O5.out
    ·simp only [Value.slice.injEq] at e;rw [aJ] at h0;omega
    ·simp only [Value.slice.injEq] at e;rw [aJ] at h2;unfold maxLen at h3;omega
   have L5:=hid (show bN (fun b=>b<W5.heap.size) W5 (aL (goP ps th ms)) (.slice lip (goP ps th ms).length lic) from (cV O5.out).mono (fun _ _=>rfl) fun b hb=>hb.2)
   have C5:=hid (C4.out.mono (S':=fun b=>b<W5.heap.size) (fun p hp=>k5.cell (p:=p) hp) fun b hb=>Nat.lt_of_lt_of_le hb k5.size)
   have K5:=hid (K4.out.trans k5)
   have V5:=hid (V4.out.keep k5 V4.out.facts.2.2)
   clear k5 oli V4 C4 N4 e5
   go_wp2_with fail
   refine (xP (fun b=>b<W5.heap.size) C (goP ps th ms) ms.length _ _ _ W5 (fun _ h=>h) (by omega) L5.out hcap5.1 hcap5.2 C5.out HSQ.out (fun x hx=>(kP.1 hx).1) (yN ps th ms)).mono ?_
   rintro e W6 ⟨rfl,hcy,k6⟩
   have e6:aAp (bS C) ms.length (goP ps th ms)=lL ps th ms:=by rw [HCE.out];rfl
   rw [e6] at hcy
   have CY6:=hid hcy
   have L6:=hid (L5.out.mono (S':=fun b=>b<W6.heap.size) (fun p hp=>k6.cell (p:=p) hp) fun b hb=>Nat.lt_of_lt_of_le hb k6.size)
   have K6:=hid (K5.out.trans k6)
   have V6:=hid (V5.out.keep k6 V5.out.facts.2.2)
   clear k6 hcy V5 C5 L5 e6 O5
   generalize W5.heap.size=cg at CY6 ⊢
   obtain ⟨g0,-,l0⟩:=V6.out.facts
   go_wp2_with fail
   refine (wA S ps th ms _ _ _ W6 (fun b hb=>Nat.lt_of_lt_of_le (hS b hb) K6.out.size) (HP.out.keep hS K6.out) (HT.out.keep hS K6.out) (HM.out.keep hS K6.out) HOKT.out HOK.out (by omega) HONT.out).mono ?_
   rintro e W7 ⟨av,rfl,har,k7,HSZ7⟩
   obtain ⟨ap,acap,hav⟩:=har.shape
   subst hav
   have A7:=hid har
   have K67:=hid k7
   have K7:=hid (K6.out.trans k7)
   have CY7:=hid (CY6.out.keep k7)
   have L7:=hid (L6.out.mono (S':=fun b=>b<W6.heap.size) (fun p hp=>k7.cell (p:=p) hp) fun b hb=>hb)
   clear k7 har g0 l0 V6
   have hgl:=yN ps th ms
   have HPL:=hid (aFn ps th ms)
   have HOL:=hid (qF ps th ms th.length)
   have HBS:Hid (W6.heap.size+1<=W7.heap.size):=HSZ7
   have HAC:Hid (fP ps th ms th.length=fP ps th ms th.length++jA ps th ms 0):=by show _=_;unfold jA;simp
   have HB:Hid (w.heap.size<=W6.heap.size+1/\W6.heap.size<=W7.heap.size/\cg<W6.heap.size):=⟨by have:=K6.out.size;omega,K67.out.size,CY6.out.1.facts.2.2⟩
   rw [HAC.out] at A7
   rw [HAC.out]
   generalize fP ps th ms th.length=outs at A7 HOL HPL ⊢
   go_wp2_with fail
   go_loopg [48,14] (goP ps th ms).length (fun gk iv av wr=> ∃ j:Nat,j+gk=(goP ps th ms).length/\iv=.int .i64 j/\cL (W6.heap.size+1) av (outs++jA ps th ms j) wr/\Below (W6.heap.size+1) W7 wr)
   case atStart=>exact ⟨0,by omega,rfl,by have:=A7.out;rw [List.length_append] at this;exact this,Below.refl _ _⟩
   case round=>
    obtain ⟨j,hjg,rfl,har,hkb⟩:=hrel
    have AR:=hid har
    have KB:=hid hkb
    have KR:=hid (show aA w wr from Below.trans K7.out (hkb.mono HB.out.1))
    clear har hkb
    by_cases hlt:j<(goP ps th ms).length
    ·have hkm:=(kP.1 (List.getElem_mem hlt)).1
     have HSU:=hid (zX hlt)
     have hSr : ∀ b,S b->b<wr.heap.size:=fun b hb=>Nat.lt_of_lt_of_le (hS b hb) KR.out.size
     obtain ⟨p',c',e',-,h3⟩:=(L7.out.mono (S':=fun b=>b<W6.heap.size) (fun p hp=>KB.out.cell (p:=p) (by have:p.block<W6.heap.size:=hp;omega)) fun _ h=>h)
     rw [aJ] at e' h3
     cases e'
     obtain ⟨lb,loff,rfl,hlb,hcell⟩:=h3 (by omega)
     have hcj:=hcell j _ (eL hlt)
     have hlbl:lb<wr.heap.size:=by have:=KB.out.size;have:=HB.out;omega
     clear h3 hcell
     generalize (goP ps th ms)[j]=k at hkm HSU hcj
     obtain ⟨mb,moff,mcap,hmv,hmS,-,hrow⟩:=(HM.out.keep hS KR.out).get hkm
     cases hmv
     obtain ⟨op,oc,hc0,hc1,hol,hbl⟩:=hrow k _ (List.getElem?_eq_getElem hkm)
     have ho1:=HONM.out _ (List.getElem_mem hkm)
     rw [dJ ms k hkm] at HSU
     have HBL:=hid hbl
     generalize ms[k]=m at hc0 hc1 hol HBL HSU ho1
     rcases m with ⟨pl,on⟩
     simp only at hc0 hc1 hol HBL HSU ho1
     have hcy:=(lT.cell ⟨CY7.out.1.keep KB.out (by have:=HB.out.2.2;omega),CY7.out.2⟩ hkm:wr.cell? ⟨cg,k,none⟩=_/\_)
     obtain ⟨y1,-,y3⟩:=hcy
     generalize (lL ps th ms).getD k 0=ck at HSU y1
     have hml:=hSr mb hmS
     have HS:=hid (show wr.cell? ⟨mb,moff+k*2,none⟩=some (.int .i64 pl)/\wr.cell? ⟨mb,moff+k*2+1,none⟩=some (.slice op on.length oc)/\wr.cell? ⟨cg,k,none⟩=some (.int .i64 ck) from ⟨hc0,hc1,y1⟩)
     have HSd:=hid (show wr.drew.cell? ⟨mb,moff+k*2,none⟩=some (.int .i64 pl)/\wr.drew.cell? ⟨mb,moff+k*2+1,none⟩=some (.slice op on.length oc)/\wr.drew.cell? ⟨cg,k,none⟩=some (.int .i64 ck) from ⟨hc0,hc1,y1⟩)
     have HCW:=hid (show ∀ W,aA wr W->Calls Tryz.prog 53 #[.agg #[.int .i64 pl,.slice op on.length oc]] W fun e w'=> ∃ v,e=.returned (.agg #[.int .i64 pl,v])/\aN (fun b=>W.heap.size<=b/\b<w'.heap.size) w' on v/\aA W w' from fun W kW=>sM S ⟨pl,on⟩ op oc W (fun b hb=>Nat.lt_of_lt_of_le (hSr b hb) kW.size) (HBL.out.keep hSr kW) ho1)
     obtain ⟨xp,xc,hxv⟩:=AR.out.shape
     subst hxv
     have HIL:=hid (aCv ps th ms j)
     have hol2:=HOL.out
     have hil2:=HIL.out
     have HAPP:Hid ((outs++jA ps th ms j).length=outs.length+(jA ps th ms j).length):=List.length_append
     have hacl:(outs++jA ps th ms j).length<=100:=by rw [HAPP.out];omega
     have HSU2:Hid (outs++jA ps th ms (j+1)=(outs++jA ps th ms j) ++ [⟨false,⟨pl,on⟩,ck⟩]):=by show _=_;rw [HSU.out,List.append_assoc]
     generalize outs++jA ps th ms j=acc at AR hacl HSU2 HAPP ⊢
     have HOW:=hid (show ∀ g,(Value.slice xp acc.length xc).ownBlock=some g->W6.heap.size+1<=g/\g<wr.heap.size from AR.out.own)
     clear hc0 hc1 y1 hrow hbl HSU
     have hwB:W6.heap.size+1<=wr.heap.size:=by have:=KB.out.size;have:=HBS.out;omega
     have HAP:=hid (show ∀ (w8 w6':World) (vp:Option Addr) (vc:Nat) (v5:Value) (o:Obj),aA wr w8->aN (fun b=>wr.heap.size<=b/\b<w8.heap.size) w8 on (.slice vp on.length vc)->(w8.cell? ⟨mb,moff+k*2,none⟩=some (.int .i64 pl)/\w8.cell? ⟨mb,moff+k*2+1,none⟩=some (.slice op on.length oc)/\w8.cell? ⟨cg,k,none⟩=some (.int .i64 ck))->∀ csl:List (List Value),csl.length=acc.length->(∀ cs∈csl,cs.length=4)->(∀ (i:Nat) t cs,acc[i]? = some t->csl[i]? = some cs->fU (fun b=>W6.heap.size+1<=b/\b<w8.heap.size/\(Value.slice xp acc.length xc).ownBlock≠some b) w8 t cs)->w6'.ownsRow (W6.heap.size+1) 104 4 v5 (acc.length+1) (csl.flatten ++ [.bool false,.int .i64 pl,.slice vp on.length vc,.int .i64 ck])->(w8.alloc o).grownBy w6' (Value.slice xp acc.length xc).ownBlock->(v5.ownBlock=(Value.slice xp acc.length xc).ownBlock∨v5.ownBlock=some (w8.alloc o).heap.size)->(cL (W6.heap.size+1) v5 (acc ++ [⟨false,⟨pl,on⟩,ck⟩]) w6'/\Below (W6.heap.size+1) wr w6')/\(w6'.cell? ⟨mb,moff+k*2,none⟩=some (.int .i64 pl)/\w6'.cell? ⟨mb,moff+k*2+1,none⟩=some (.slice op on.length oc)/\w6'.cell? ⟨cg,k,none⟩=some (.int .i64 ck)) from by
      intro w8 w6' vp vc v5 o k8 hb8 hs csl e1 e2 e4 h1 h2 h4
      have hlow:Below (W6.heap.size+1) wr w6':=Below.trans (k8.mono hwB) (((Below.refl _ w8).alloc (Nat.le_trans hwB k8.size) o).grown h2 (by rw [aD];have:=k8.size;omega) (fun g hg=>(HOW.out g hg).1))
      refine ⟨⟨cL.push (B':=wr.heap.size) e1 e2 e4 hwB (fun g hg=>(HOW.out g hg).2) ⟨_,rfl,hb8⟩ rfl h1 h2 h4,hlow⟩,?_⟩
      have hmb:mb<W6.heap.size+1:=by have:=hS mb hmS;have:=HB.out.1;omega
      have hcg:cg<W6.heap.size+1:=by have:=HB.out.2.2;omega
      exact ⟨(hlow.cell (p:=⟨mb,moff+k*2,none⟩) hmb).trans HS.out.1,(hlow.cell (p:=⟨mb,moff+k*2+1,none⟩) hmb).trans HS.out.2.1,(hlow.cell (p:=⟨cg,k,none⟩) hcg).trans HS.out.2.2⟩)
     go_upto_region 14 with fail
     go_region_held3 (fun W'=>W'.cell? ⟨mb,moff+k*2,none⟩=some (.int .i64 pl)/\W'.cell? ⟨mb,moff+k*2+1,none⟩=some (.slice op on.length oc)/\W'.cell? ⟨cg,k,none⟩=some (.int .i64 ck))
      (first | with_reducible exact HS.out | with_reducible exact HSd.out | with_reducible exact HS8.out | with_reducible exact HS9.out | with_reducible exact HS6.out | go_keep)
      (first
       | (go_at_call 53;refine (HCW.out _ (aA.drew (aA.refl _))).mono ?_;rintro e w8 ⟨v8,rfl,hb8,k8⟩;obtain ⟨vp,vc,hv8,-⟩:=id hb8;subst hv8;have K8:=hid (dW k8);have B8:=hid (show aN (fun b=>wr.heap.size<=b/\b<w8.heap.size) w8 on (.slice vp on.length vc) from hb8);have HS8:=hid (show w8.cell? ⟨mb,moff+k*2,none⟩=some (.int .i64 pl)/\w8.cell? ⟨mb,moff+k*2+1,none⟩=some (.slice op on.length oc)/\w8.cell? ⟨cg,k,none⟩=some (.int .i64 ck) from ⟨(K8.out.cell (p:=⟨mb,moff+k*2,none⟩) hml).trans HS.out.1,(K8.out.cell (p:=⟨mb,moff+k*2+1,none⟩) hml).trans HS.out.2.1,(K8.out.cell (p:=⟨cg,k,none⟩) y3).trans HS.out.2.2⟩);have A8:=hid (AR.out.keep K8.out);obtain ⟨csl,e1,e2,e3,e4⟩:=A8.out;have OW8:=hid e3;have E4:=hid e4;clear k8 hb8 e3 e4)
       | (refine Cn.eG rfl _ _ 30 rfl (W6.heap.size+1) 104 i0 (.agg #[.bool false,.int .i64 0,.slice none 0 0,.int .i64 0]) 4 48 Tryz.underlying30 hi hz0 hz1 hz2 rfl (by decide) (.slice xp acc.length xc) acc.length csl.flatten rfl (World.ownsRow.alloc OW8.out _) ⟨w8.heap.size,0,none⟩ 1 1 [.bool false,.int .i64 pl,.slice vp on.length vc,.int .i64 ck] rfl rfl eA (by intro u hu;simp at hu;rcases hu with rfl | rfl | rfl | rfl<;>rfl) (by unfold maxLen;omega) (by omega) (by rw [aD];have:=K8.out.size;omega) ?_;intro v5 w6' h1 h2 h4;have PP:=hid (HAP.out w8 w6' vp vc v5 _ K8.out B8.out HS8.out csl e1 e2 E4.out h1 h2 h4);have P6:=hid PP.out.1;have HS6:=hid PP.out.2;clear h1 h2 h4 PP))
     obtain ⟨g6,cap6,hv6⟩:=P6.out.1.shape
     subst hv6
     go_wp2_with fail
     go_roundg ((goP ps th ms).length-(j+1))
     case rel=>exact ⟨j+1,by omega,by go_num,by rw [HSU2.out];exact P6.out.1,Below.trans KB.out P6.out.2⟩
     case measure=>omega
    ·obtain rfl:j=(goP ps th ms).length:=by omega
     have HF:=hid AR.out.final
     rw [show outs++jA ps th ms (goP ps th ms).length=kC ps th ms from HPL.out] at HF
     obtain ⟨xp,xc,hxv⟩:=AR.out.shape
     subst hxv
     go_wp2_with fail
     refine bodyPost_ret (v:= .tuple #[.slice xp (outs++jA ps th ms (goP ps th ms).length).length xc,.int .i64 0]) ?_ rfl ?_
     ·simp [results,Tryz.results11,go_sem]
     ·exact ⟨KR.out,.inr ⟨HPZ.out,_,rfl,HF.out.mono (fun _ _=>rfl) fun b hb=>⟨by have:=HB.out.1;omega,hb.2⟩⟩⟩
  ·have hc1:(bP ps th != 0)=true:=by simp [hzt]
   have HZT:=hid hzt
   generalize bP ps th=cz at hc1 HPE HZT ⊢
   clear hzt
   go_wp2_with fail
   refine bodyPost_ret (v:= .tuple #[.slice none 0 0,.int .i64 cz]) ?_ rfl ?_
   ·simp [results,Tryz.results11,go_sem]
   ·exact ⟨K2.out,.inl ⟨by rw [HPE.out];exact HZT.out,by rw [HPE.out]⟩⟩
end Go.Proofs.YthaaaecmeafofaaGreatDoor
namespace Go.Proofs.YthaaaecmeafofaaGreatDoor
open Go.RowKit Go.Lib
def jD (g n:Nat) (f:Int->Option Int) (w:World):Prop:= ∃ D:DataW Unit,w.ownsMap Tryz.prog 3 (plainElem Tryz.prog 3) g n D/\(∀ x zd,D.atKey (.int .i64 x) zd=match f x with | none=>zd | some c=> .lit (.int .i64 c))/\∀ x,Maps.has D (.int .i64 x)=(f x).isSome
theorem jD.lt {g n:Nat} {f:Int->Option Int} {w:World} (h:jD g n f w):g<w.heap.size:=by obtain ⟨D,h,-⟩:=h;exact h.lt
theorem jD.kept {g n:Nat} {f:Int->Option Int} {w w':World} {row:Option Nat} (h:jD g n f w) (hg:w.grownBy w' row) (hne:some g≠row):jD g n f w':=by
 obtain ⟨D,h1,h2⟩:=h
 exact ⟨D,h1.kept hg hne,h2⟩
theorem jD.keep {g n:Nat} {f:Int->Option Int} {w w':World} (h:jD g n f w) (k:aA w w'):jD g n f w':=h.kept (row:=none) ⟨k.os,k.tape,k.output,k.size,fun b hb _=>k.block b hb⟩ (by simp)
theorem zW (w:World):jD w.heap.size 0 (fun _=>none) (w.alloc (.map #[] 0)):=⟨.map [],World.ownsMap_made w _ _ _,fun x zd=>by simp [DataW.atKey],fun x=>by simp [Maps.has]⟩
theorem mJ {x:Int} (h:(Lit.int .i64 x).wf=true):keyOf Tryz.prog 3 (.int .i64 x)=some (.int .i64 x):=Maps.keyOf_int_mk Tryz.underlying3 h
theorem kH {x:Int} (h:x.natAbs<=100000):(Lit.int .i64 x).wf=true:=by
 have e1:IntKind.i64.min = -9223372036854775808:=by decide
 have e2:IntKind.i64.max=9223372036854775807:=by decide
 simp [Lit.wf]
 omega
theorem jD.look {g n:Nat} {f:Int->Option Int} {w:World} {t:TypeId} (h:jD g n f w) (ht:Tryz.prog.underlying t=some (.map 3 3)) {x:Int} (hx:x.natAbs<=100000):(Instr.lookup t (.map (some g)) (.int .i64 x) false).run Tryz.prog w=.ok (.int .i64 ((f x).getD 0)) w:=by
 obtain ⟨D,h1,h2,-⟩:=h
 obtain ⟨c,hrun,hat,-⟩:=h1.lookup_int (Maps.int_keyed Tryz.underlying3) ht Tryz.underlying3 (by kernel_rfl) (mJ (kH hx))
 rw [h2 x] at hat
 cases hf:f x with
 | none=>rw [hf] at hat;cases hat;exact hrun
 | some d=>rw [hf] at hat;cases hat;exact hrun
theorem jD.put {g n:Nat} {f:Int->Option Int} {w:World} {t:TypeId} (h:jD g n f w) (ht:Tryz.prog.underlying t=some (.map 3 3)) {x c:Int} (hx:x.natAbs<=100000) (hc:c.natAbs<=100000) (hl:n<1000000) : ∃ w',(Instr.mapUpdate t (.map (some g)) (.int .i64 x) (.int .i64 c)).run Tryz.prog w=.ok () w'/\jD g (n+1) (fun y=>if y=x then some c else f y) w'/\w.grownBy w' (some g):=by
 obtain ⟨D,h1,h2,h3⟩:=h
 obtain ⟨w',hrun,hown,hgr⟩:=h1.update (Maps.int_keyed Tryz.underlying3) ht (by unfold maxLen;omega) (mJ (kH hx)) (plainElem_int Tryz.underlying3 (kH hc))
 refine ⟨w',hrun,⟨_,hown,fun y zd=> ?_,fun y=> ?_⟩,hgr⟩
 ·by_cases e:y=x
  ·subst e
   rw [Maps.atKey_put_same h1.isMap (by simp [WideAt.IsKeyLit])];simp
  ·rw [Maps.atKey_put_other (by simpa using e),h2 y];simp [e]
 ·by_cases e:y=x
  ·subst e
   rw [Maps.has_put_same h1.isMap (by simp [WideAt.IsKeyLit])];simp
  ·rw [Maps.has_put_other (by simpa using e),h3 y];simp [e]
def mY (g n:Nat) (f:Int->Bool) (w:World):Prop:= ∃ D:DataW Unit,w.ownsMap Tryz.prog 3 (plainElem Tryz.prog 4) g n D/\∀ x,D.atKey (.int .i64 x) (.lit (.bool false))=.lit (.bool (f x))
theorem mY.keep {g n:Nat} {f:Int->Bool} {w w':World} (h:mY g n f w) (k:aA w w'):mY g n f w':=by
 obtain ⟨D,h1,h2⟩:=h
 exact ⟨D,h1.kept (row:=none) ⟨k.os,k.tape,k.output,k.size,fun b hb _=>k.block b hb⟩ (by simp),h2⟩
theorem zG (w:World):mY w.heap.size 0 (fun _=>false) (w.alloc (.map #[] 0)):=⟨.map [],World.ownsMap_made w _ _ _,fun x=>by simp [DataW.atKey]⟩
theorem mY.look {g n:Nat} {f:Int->Bool} {w:World} {t:TypeId} (h:mY g n f w) (ht:Tryz.prog.underlying t=some (.map 3 4)) {x:Int} (hx:x.natAbs<=100000):(Instr.lookup t (.map (some g)) (.int .i64 x) false).run Tryz.prog w=.ok (.bool (f x)) w:=by
 obtain ⟨D,h1,h2⟩:=h
 obtain ⟨v,ps,hrun,hv⟩:=h1.lookup (Maps.int_keyed Tryz.underlying3) ht (z:= .bool false) (by kernel_rfl) (plainElem_bool Tryz.underlying4 false) (mJ (kH hx))
 rw [h2] at hv
 obtain ⟨c,rfl,hc⟩:=Cn.vI hv
 have e:f x=c:=by simpa using congrArg Prod.fst hc
 rw [hrun,e]
theorem mY.put {g n:Nat} {f:Int->Bool} {w:World} {t:TypeId} (h:mY g n f w) (ht:Tryz.prog.underlying t=some (.map 3 4)) {x:Int} (hx:x.natAbs<=100000) (hl:n<1000000) : ∃ w',(Instr.mapUpdate t (.map (some g)) (.int .i64 x) (.bool true)).run Tryz.prog w=.ok () w'/\mY g (n+1) (fun y=>if y=x then true else f y) w'/\w.grownBy w' (some g):=by
 obtain ⟨D,h1,h2⟩:=h
 obtain ⟨w',hrun,hown,hgr⟩:=h1.update (Maps.int_keyed Tryz.underlying3) ht (by unfold maxLen;omega) (mJ (kH hx)) (plainElem_bool Tryz.underlying4 true)
 refine ⟨w',hrun,⟨_,hown,fun y=> ?_⟩,hgr⟩
 by_cases e:y=x
 ·subst e
  rw [Maps.atKey_put_same h1.isMap (by simp [WideAt.IsKeyLit])];show _=DataW.lit (Lit.bool (if y=y then true else f y));rw [if_pos rfl]
 ·rw [Maps.atKey_put_other (by simpa using e),h2 y];simp [e]
end Go.Proofs.YthaaaecmeafofaaGreatDoor
namespace Go.Proofs
open Go.Shelf
def Tryz.lays160_ren:Go.Shelf.Ren:=⟨fun | 160=>118 | 232=>157 | 231=>156 | 227=>158 | 234=>160 | 233=>159 | 236=>162 | 235=>161 | 228=>181 | 271=>184 | 151=>183 | 197=>182 | 120=>209 | 152=>208 | 260=>207 | 137=>237 | 119=>238 | 224=>205 | 225=>204 | 217=>203 | 266=>235 | n=>n,fun | 9=>9 | 4=>4 | 3=>3 | 5=>5 | 117=>205 | 116=>204 | 0=>0 | 124=>208 | 21=>21 | 105=>223 | 46=>228 | 119=>277 | 139=>280 | 138=>279 | n=>n,fun | 3=>2 | 4=>3 | n=>n⟩
theorem Tryz.lays160:Go.Proofs.Lays.n160 Tryz.prog Tryz.lays160_ren:= {
 mixed:=by kernel_rfl
 f119:=Tryz.func238.trans (congrArg some (by kernel_rfl))
 f120:=Tryz.func209.trans (congrArg some (by kernel_rfl))
 f137:=Tryz.func237.trans (congrArg some (by kernel_rfl))
 f151:=Tryz.func183.trans (congrArg some (by kernel_rfl))
 f152:=Tryz.func208.trans (congrArg some (by kernel_rfl))
 f160:=Tryz.func118.trans (congrArg some (by kernel_rfl))
 f197:=Tryz.func182.trans (congrArg some (by kernel_rfl))
 f217:=Tryz.func203.trans (congrArg some (by kernel_rfl))
 f224:=Tryz.func205.trans (congrArg some (by kernel_rfl))
 f225:=Tryz.func204.trans (congrArg some (by kernel_rfl))
 f227:=Tryz.func158.trans (congrArg some (by kernel_rfl))
 f228:=Tryz.func181.trans (congrArg some (by kernel_rfl))
 f231:=Tryz.func156.trans (congrArg some (by kernel_rfl))
 f232:=Tryz.func157.trans (congrArg some (by kernel_rfl))
 f233:=Tryz.func159.trans (congrArg some (by kernel_rfl))
 f234:=Tryz.func160.trans (congrArg some (by kernel_rfl))
 f235:=Tryz.func161.trans (congrArg some (by kernel_rfl))
 f236:=Tryz.func162.trans (congrArg some (by kernel_rfl))
 f260:=Tryz.func207.trans (congrArg some (by kernel_rfl))
 f266:=Tryz.func235.trans (congrArg some (by kernel_rfl))
 f271:=Tryz.func184.trans (congrArg some (by kernel_rfl))
 t0:=Tryz.underlying0
 a0:=Tryz.isAgg0
 z0:=Tryz.sizeOf0
 v0:=Tryz.zeroValue0
 t3:=Tryz.underlying3
 a3:=Tryz.isAgg3
 z3:=Tryz.sizeOf3
 v3:=Tryz.zeroValue3
 t4:=Tryz.underlying4
 a4:=Tryz.isAgg4
 z4:=Tryz.sizeOf4
 v4:=Tryz.zeroValue4
 t5:=Tryz.underlying5
 a5:=Tryz.isAgg5
 z5:=Tryz.sizeOf5
 v5:=Tryz.zeroValue5
 t9:=Tryz.underlying9
 a9:=Tryz.isAgg9
 z9:=Tryz.sizeOf9
 v9:=Tryz.zeroValue9
 t21:=Tryz.underlying21
 a21:=Tryz.isAgg21
 z21:=Tryz.sizeOf21
 v21:=Tryz.zeroValue21
 t46:=Tryz.underlying228
 a46:=Tryz.isAgg228
 z46:=Tryz.sizeOf228
 v46:=Tryz.zeroValue228
 t105:=Tryz.underlying223
 a105:=Tryz.isAgg223
 z105:=Tryz.sizeOf223
 v105:=Tryz.zeroValue223
 t116:=Tryz.underlying204
 a116:=Tryz.isAgg204
 z116:=Tryz.sizeOf204
 t117:=Tryz.underlying205
 a117:=Tryz.isAgg205
 z117:=Tryz.sizeOf205
 v117:=Tryz.zeroValue205
 t119:=Tryz.underlying277
 a119:=Tryz.isAgg277
 z119:=Tryz.sizeOf277
 t124:=Tryz.underlying208
 a124:=Tryz.isAgg208
 z124:=Tryz.sizeOf208
 v124:=Tryz.zeroValue208
 t138:=Tryz.underlying279
 a138:=Tryz.isAgg279
 z138:=Tryz.sizeOf279
 v138:=Tryz.zeroValue279
 t139:=Tryz.underlying280
 a139:=Tryz.isAgg280
 z139:=Tryz.sizeOf280
 v139:=Tryz.zeroValue280
 g3:=by kernel_rfl
 g4:=by kernel_rfl }
def Tryz.lays219_ren:Go.Shelf.Ren:=⟨fun | 219=>180 | 217=>203 | 225=>204 | 224=>205 | 267=>206 | 266=>235 | 314=>236 | n=>n,fun | 9=>9 | 3=>3 | 4=>4 | 5=>5 | 46=>228 | 146=>275 | 51=>257 | n=>n,fun | 1=>0 | n=>n⟩
def Tryz.lays144_ren:Go.Shelf.Ren:=⟨fun | 144=>117 | 143=>155 | 219=>180 | 217=>203 | 225=>204 | 224=>205 | 267=>206 | 266=>235 | 314=>236 | n=>n,fun | 9=>9 | 4=>4 | 3=>3 | 5=>5 | 46=>228 | 146=>275 | 51=>257 | n=>n,fun | 1=>0 | n=>n⟩
theorem Tryz.lays144:Go.Proofs.Lays.n144 Tryz.prog Tryz.lays144_ren:= {
 mixed:=by kernel_rfl
 f143:=Tryz.func155.trans (congrArg some (by kernel_rfl))
 f144:=Tryz.func117.trans (congrArg some (by kernel_rfl))
 f217:=Tryz.func203.trans (congrArg some (by kernel_rfl))
 f219:=Tryz.func180.trans (congrArg some (by kernel_rfl))
 f224:=Tryz.func205.trans (congrArg some (by kernel_rfl))
 f225:=Tryz.func204.trans (congrArg some (by kernel_rfl))
 f266:=Tryz.func235.trans (congrArg some (by kernel_rfl))
 f267:=Tryz.func206.trans (congrArg some (by kernel_rfl))
 f314:=Tryz.func236.trans (congrArg some (by kernel_rfl))
 t3:=Tryz.underlying3
 a3:=Tryz.isAgg3
 z3:=Tryz.sizeOf3
 v3:=Tryz.zeroValue3
 t4:=Tryz.underlying4
 a4:=Tryz.isAgg4
 z4:=Tryz.sizeOf4
 v4:=Tryz.zeroValue4
 t5:=Tryz.underlying5
 a5:=Tryz.isAgg5
 z5:=Tryz.sizeOf5
 v5:=Tryz.zeroValue5
 t9:=Tryz.underlying9
 a9:=Tryz.isAgg9
 z9:=Tryz.sizeOf9
 v9:=Tryz.zeroValue9
 t46:=Tryz.underlying228
 a46:=Tryz.isAgg228
 z46:=Tryz.sizeOf228
 v46:=Tryz.zeroValue228
 t51:=Tryz.underlying257
 a51:=Tryz.isAgg257
 z51:=Tryz.sizeOf257
 v51:=Tryz.zeroValue257
 t146:=Tryz.underlying275
 a146:=Tryz.isAgg275
 z146:=Tryz.sizeOf275
 v146:=Tryz.zeroValue275
 g1:=by kernel_rfl }
open Go.RowKit Go.Lib in
theorem Tryz.strings_Contains_one (s:ByteArray) (c:UInt8) (w:World) :
  Calls Tryz.prog 117 #[.string s,.string ⟨#[c]⟩] w fun e w'=>e=.returned (.bool (decide (0<=Lib.indexByte s.data.toList c)))/\w'=w:=Any.strings_Contains_one Tryz.lays144 s c w
def Tryz.lays192_ren:Go.Shelf.Ren:=⟨fun | 192=>122 | 190=>163 | 125=>186 | 258=>185 | 128=>219 | 129=>220 | 302=>210 | 303=>211 | 304=>212 | 305=>213 | 306=>214 | 307=>215 | 308=>216 | 309=>217 | 310=>218 | 333=>239 | 329=>240 | 330=>241 | 334=>242 | 335=>243 | 336=>244 | 344=>259 | n=>n,fun | 31=>69 | 0=>0 | 9=>9 | 3=>3 | 46=>228 | 51=>257 | 53=>237 | 4=>4 | 183=>251 | 182=>250 | 131=>230 | 5=>5 | 218=>282 | 222=>286 | 228=>296 | 229=>171 | n=>n,fun | n=>n⟩
theorem Tryz.lays192:Go.Proofs.Lays.n192 Tryz.prog Tryz.lays192_ren:= {
 mixed:=by kernel_rfl
 f125:=Tryz.func186.trans (congrArg some (by kernel_rfl))
 f128:=Tryz.func219.trans (congrArg some (by kernel_rfl))
 f129:=Tryz.func220.trans (congrArg some (by kernel_rfl))
 f190:=Tryz.func163.trans (congrArg some (by kernel_rfl))
 f192:=Tryz.func122.trans (congrArg some (by kernel_rfl))
 f258:=Tryz.func185.trans (congrArg some (by kernel_rfl))
 f302:=Tryz.func210.trans (congrArg some (by kernel_rfl))
 f303:=Tryz.func211.trans (congrArg some (by kernel_rfl))
 f304:=Tryz.func212.trans (congrArg some (by kernel_rfl))
 f305:=Tryz.func213.trans (congrArg some (by kernel_rfl))
 f306:=Tryz.func214.trans (congrArg some (by kernel_rfl))
 f307:=Tryz.func215.trans (congrArg some (by kernel_rfl))
 f308:=Tryz.func216.trans (congrArg some (by kernel_rfl))
 f309:=Tryz.func217.trans (congrArg some (by kernel_rfl))
 f310:=Tryz.func218.trans (congrArg some (by kernel_rfl))
 f329:=Tryz.func240.trans (congrArg some (by kernel_rfl))
 f330:=Tryz.func241.trans (congrArg some (by kernel_rfl))
 f333:=Tryz.func239.trans (congrArg some (by kernel_rfl))
 f334:=Tryz.func242.trans (congrArg some (by kernel_rfl))
 f335:=Tryz.func243.trans (congrArg some (by kernel_rfl))
 f336:=Tryz.func244.trans (congrArg some (by kernel_rfl))
 f344:=Tryz.func259.trans (congrArg some (by kernel_rfl))
 t0:=Tryz.underlying0
 a0:=Tryz.isAgg0
 z0:=Tryz.sizeOf0
 v0:=Tryz.zeroValue0
 t3:=Tryz.underlying3
 a3:=Tryz.isAgg3
 z3:=Tryz.sizeOf3
 v3:=Tryz.zeroValue3
 t4:=Tryz.underlying4
 a4:=Tryz.isAgg4
 z4:=Tryz.sizeOf4
 v4:=Tryz.zeroValue4
 t5:=Tryz.underlying5
 a5:=Tryz.isAgg5
 z5:=Tryz.sizeOf5
 v5:=Tryz.zeroValue5
 t9:=Tryz.underlying9
 a9:=Tryz.isAgg9
 z9:=Tryz.sizeOf9
 v9:=Tryz.zeroValue9
 t31:=Tryz.underlying69
 a31:=Tryz.isAgg69
 z31:=Tryz.sizeOf69
 v31:=Tryz.zeroValue69
 t46:=Tryz.underlying228
 a46:=Tryz.isAgg228
 z46:=Tryz.sizeOf228
 v46:=Tryz.zeroValue228
 t51:=Tryz.underlying257
 a51:=Tryz.isAgg257
 z51:=Tryz.sizeOf257
 v51:=Tryz.zeroValue257
 t53:=Tryz.underlying237
 a53:=Tryz.isAgg237
 z53:=Tryz.sizeOf237
 v53:=Tryz.zeroValue237
 t131:=Tryz.underlying230
 a131:=Tryz.isAgg230
 z131:=Tryz.sizeOf230
 v131:=Tryz.zeroValue230
 t182:=Tryz.underlying250
 a182:=Tryz.isAgg250
 z182:=Tryz.sizeOf250
 v182:=Tryz.zeroValue250
 t183:=Tryz.underlying251
 a183:=Tryz.isAgg251
 z183:=Tryz.sizeOf251
 v183:=Tryz.zeroValue251
 t218:=Tryz.underlying282
 a218:=Tryz.isAgg282
 z218:=Tryz.sizeOf282
 v218:=Tryz.zeroValue282
 t222:=Tryz.underlying286
 a222:=Tryz.isAgg286
 z222:=Tryz.sizeOf286
 v222:=Tryz.zeroValue286
 t228:=Tryz.underlying296
 a228:=Tryz.isAgg296
 z228:=Tryz.sizeOf296
 v228:=Tryz.zeroValue296
 t229:=Tryz.underlying171
 a229:=Tryz.isAgg171
 z229:=Tryz.sizeOf171
 v229:=Tryz.zeroValue171 }
open Go.Sort Go.RowKit in
theorem Tryz.sort_Strings (blk off cap:Nat) (ss:List (List UInt8)) (w:World) (hH:Holds encStr w blk off ss.toArray) (hblk:blk<w.heap.size) (hsz:ss.length<4611686018427387904) :
  Calls Tryz.prog 122 #[.slice (some ⟨blk,off,none⟩) ss.length cap] w fun e w'=>
   e=.returned (.tuple #[])/\∃ n os,w'=grow (putRow encStr (Sort.ahead w n) blk off (ss.mergeSort fun x y=>decide (x<=y)).toArray) os:=Any.sort_Strings Tryz.lays192 blk off cap ss w hH hblk hsz
open Go.RowKit Go.Sort in
theorem Tryz.sort_Strings_none (p:Option Addr) (cap:Nat) (w:World) :
  Calls Tryz.prog 122 #[.slice p 0 cap] w fun e w'=>e=.returned (.tuple #[])/\w'=w:=Any.sort_Strings_none Tryz.lays192 p cap w
end Go.Proofs
namespace Go.Proofs.YthaaaecmeafofaaGreatDoor
open Go.RowKit Go.Sort
def mK:List UInt8:= [97,98,99,100,101,102,103,104,105,106,107,108,109,110,111,112,113,114,115,116,117,118,119,120,121,122]
def iB:List UInt8:= [97,98,99,100,101,102,103,104,105,106,107,108,109,110,111,112,113,114,115,116,117,118,119,120,121,122,48,49,50,51,52,53,54,55,56,57]
theorem uW : ∀ n:Fin 256,decide (0<=Lib.indexByte mK (UInt8.ofNat n.val))=gP (UInt8.ofNat n.val):=by decide +kernel
theorem aAz : ∀ n:Fin 256,iB.contains (UInt8.ofNat n.val)=okB (UInt8.ofNat n.val):=by decide +kernel
theorem oW (c:UInt8):UInt8.ofNat c.toNat=c:=by simp
theorem pZ (c:UInt8):decide (0<=Lib.indexByte mK c)=gP c:=by
 have:=uW ⟨c.toNat,c.toNat_lt⟩
 rwa [oW] at this
theorem vQ (c:UInt8):iB.contains c=okB c:=by
 have:=aAz ⟨c.toNat,c.toNat_lt⟩
 rwa [oW] at this
theorem fI {p:UInt8->Bool} : ∀ l:List UInt8,(l.dropWhile p = [])↔l.all p=true
 | []=>by simp
 | c :: l=>by
  rw [List.dropWhile_cons,List.all_cons]
  cases h:p c
  ·simp
  ·simp [fI l]
theorem aEf (l:List UInt8):(Lib.trimS l iB = [])↔l.all okB=true:=by
 have e : ∀ l:List UInt8,l.all (iB.contains ·)=l.all okB:=fun l=>by
  induction l with
  | nil=>rfl
  | cons c l ih=>rw [List.all_cons,List.all_cons,vQ,ih]
 unfold Lib.trimS Lib.trimLeftS Lib.trimRightS
 rw [fI,e]
 constructor
 ·intro h
  by_cases hh:l.reverse.all okB=true
  ·simpa using hh
  ·exfalso
   have hne:l.reverse.dropWhile (iB.contains ·) ≠ []:=fun h0=>hh (by rw [← e];exact (fI _).1 h0)
   obtain ⟨c,r,hr⟩:=List.exists_cons_of_ne_nil hne
   have hc:=List.head?_dropWhile_not (iB.contains ·) l.reverse
   rw [hr] at hc h
   rw [List.all_reverse,List.all_cons,Bool.and_eq_true] at h
   have:okB c=false:=by rw [← vQ];simpa using hc
   rw [this] at h
   cases h.1
 ·intro h
  have:l.reverse.dropWhile (iB.contains ·) = []:=(fI _).2 (by rw [e,List.all_reverse];exact h)
  rw [this];rfl
theorem aEe (s:ByteArray) (w:World) (hs:s.size<=8) :
  Calls Tryz.prog 118 #[.string s,.string ⟨#[97,98,99,100,101,102,103,104,105,106,107,108,109,110,111,112,113,114,115,116,117,118,119,120,121,122,48,49,50,51,52,53,54,55,56,57]⟩] w fun e w'=> ∃ t:ByteArray,e=.returned (.string t)/\t.toList.isEmpty=s.data.toList.all okB/\aA w w':=by
 have c:Calls Tryz.prog 118 #[.string s,.string ⟨#[97,98,99,100,101,102,103,104,105,106,107,108,109,110,111,112,113,114,115,116,117,118,119,120,121,122,48,49,50,51,52,53,54,55,56,57]⟩] w fun e w'=>e=.returned (.string ⟨(Lib.trimS s.data.toList iB).toArray⟩)/\Below w.heap.size w w':=
  Any.strings_Trim_laid Tryz.lays160 (by kernel_rfl) s ⟨iB.toArray⟩ w (by omega) (by decide) (ascii_of_all (by decide))
 refine c.mono ?_
 rintro e w' ⟨rfl,k⟩
 refine ⟨_,rfl,?_,k⟩
 rw [Lib.toList_data]
 show (Lib.trimS s.data.toList iB).isEmpty=_
 rw [Bool.eq_iff_iff,List.isEmpty_iff,aEf]
theorem zH {n m:ByteArray} (h:n.data.toList=m.data.toList):n=m:=by
 cases n;cases m;simp at h;rw [h]
theorem aCp (s:ByteArray) (h:0<s.size):rP s.data.toList=gP s[0]:=by rw [nK s h];rfl
theorem uY (s:ByteArray) (h:0<s.size) (h8:s.size<=8):aI s.data.toList=(gP s[0]&&s.data.toList.all okB):=by
 unfold aI
 rw [aCp s h,decide_eq_true (by rw [aO];exact h8)]
 rfl
theorem dK (s:ByteArray) (w:World) :
  Calls Tryz.prog 54 #[.string s] w fun e w'=>e=.returned (.bool (aI s.data.toList))/\aA w w':=by
 by_cases h1:s.size<1
 ·have H:Hid (aI s.data.toList=false):=kR s (Or.inl h1)
  have h1':decide ((0:Int)<(s.size:Int))=false:=decide_eq_false (by omega)
  go_enter Tryz.func54,Tryz.ntmps54
  go_wp2
  go_ret
  exact ⟨aG H.out.symm,aA.refl _⟩
 ·by_cases h8:8<s.size
  ·have H:Hid (aI s.data.toList=false):=kR s (Or.inr h8)
   have h1':(0:Int)<(s.size:Int):=by omega
   have h8':decide ((s.size:Int)<=8)=false:=decide_eq_false (by omega)
   go_enter Tryz.func54,Tryz.ntmps54
   go_wp2
   go_ret
   exact ⟨aG H.out.symm,aA.refl _⟩
  ·have hp:0<s.size:=by omega
   have h1':(0:Int)<(s.size:Int):=by omega
   have h8':(s.size:Int)<=8:=by omega
   have q1:(1:Int)<=(s.size:Int):=by omega
   have HN:Hid (aI s.data.toList=(gP s[0]&&s.data.toList.all okB)):=uY s hp (by omega)
   have hx:s.extract 0 1=⟨#[s[0]]⟩:=zH (by rw [Lib.extract_data,nK s hp];rfl)
   have HX:Hid (s.extract 0 1=⟨#[s[0]]⟩):=hx
   clear hx
   cases hl:gP s[0]
   ·have HL:Hid (gP s[0]=false):=hl
    clear hl
    go_enter Tryz.func54,Tryz.ntmps54
    go_wp2_with fail
    rw [HX.out]
    refine (Tryz.strings_Contains_one _ _ _).mono ?_
    rintro e w' ⟨rfl,hw⟩
    rw [hw,show (ByteArray.mk #[97,98,99,100,101,102,103,104,105,106,107,108,109,110,111,112,113,114,115,116,117,118,119,120,121,122]).data.toList=mK from rfl,pZ,HL.out]
    clear hw
    go_wp2_with fail
    go_ret
    exact ⟨aG (by rw [HN.out,HL.out];rfl),aA.refl _⟩
   ·have HL:Hid (gP s[0]=true):=hl
    clear hl
    go_enter Tryz.func54,Tryz.ntmps54
    go_wp2_with fail
    rw [HX.out]
    refine (Tryz.strings_Contains_one _ _ _).mono ?_
    rintro e w' ⟨rfl,hw⟩
    rw [hw,show (ByteArray.mk #[97,98,99,100,101,102,103,104,105,106,107,108,109,110,111,112,113,114,115,116,117,118,119,120,121,122]).data.toList=mK from rfl,pZ,HL.out]
    clear hw
    go_wp2_with fail
    refine (aEe _ _ (by omega)).mono ?_
    rintro e w2 ⟨t,rfl,ht,k2⟩
    have HTT:Hid (t.toList.isEmpty=s.data.toList.all okB):=ht
    clear ht
    go_wp2_with fail
    go_ret
    exact ⟨aG (by rw [HN.out,HL.out,← HTT.out];rfl),k2⟩
theorem wZ (n f:ByteArray) (op v sl:Int) (on:Bool) (ver slot:Int) (w:World) :
  Calls Tryz.prog 124 #[.agg #[.string n,.int .i64 op,.int .i64 v,.int .i64 sl,.string f,.bool on],.int .i64 ver,.int .i64 slot] w fun e w'=>e=.returned (.bool (eZ op v sl ver slot))/\aA w w':=by
 have ho:((op==1)=true/\op=1)∨((op==1)=false/\(op==2)=true/\op=2)∨((op==1)=false/\(op==2)=false/\(op==3)=true/\op=3)∨((op==1)=false/\(op==2)=false/\(op==3)=false):=by
  by_cases e1:op=1
  ·left;simp [e1]
  ·by_cases e2:op=2
   ·right;left;simp [e2]
   ·by_cases e3:op=3
    ·right;right;left;simp [e3]
    ·right;right;right;simp [e1,e2,e3]
 by_cases h:sl≠0/\sl≠slot
 ·have h0:(sl==0)=false:=by simp [h.1]
  have h1:(sl==slot)=false:=by simp [h.2]
  have H:Hid (eZ op v sl ver slot=false):=by show eZ op v sl ver slot=false;unfold eZ;rw [if_pos h]
  clear h
  rcases ho with ⟨o1,_⟩ | ⟨o1,o2,_⟩ | ⟨o1,o2,o3,_⟩ | ⟨o1,o2,o3⟩
  all_goals
   go_enter Tryz.func124,Tryz.ntmps124
   go_wp2
   go_ret
   exact ⟨aG H.out.symm,aA.alloc _ _⟩
 ·have H:Hid (eZ op v sl ver slot=if op=1 then decide (ver=v) else if op=2 then decide (v<=ver) else if op=3 then decide (ver<v) else true):=by show eZ op v sl ver slot=_;unfold eZ;rw [if_neg h]
  have hs:(sl==0)=true∨(sl==0)=false/\(sl==slot)=true:=by
   by_cases e:sl=0
   ·left;simp [e]
   ·right;exact ⟨by simp [e],by simp;exact Decidable.byContradiction fun e'=>h ⟨e,e'⟩⟩
  clear h ho
  have ho:((op==1)=true/\Hid (eZ op v sl ver slot=(ver==v)))∨((op==1)=false/\(op==2)=true/\Hid (eZ op v sl ver slot=decide (v<=ver)))∨((op==1)=false/\(op==2)=false/\(op==3)=true/\Hid (eZ op v sl ver slot=decide (ver<v)))∨((op==1)=false/\(op==2)=false/\(op==3)=false/\Hid (eZ op v sl ver slot=true)):=by
   by_cases e1:op=1
   ·left;refine ⟨by simp [e1],?_⟩;show _=_;rw [H.out,if_pos e1];rfl
   ·by_cases e2:op=2
    ·right;left;refine ⟨by simp [e2],by simp [e2],?_⟩;show _=_;rw [H.out,if_neg e1,if_pos e2]
    ·by_cases e3:op=3
     ·right;right;left;refine ⟨by simp [e3],by simp [e3],by simp [e3],?_⟩;show _=_;rw [H.out,if_neg e1,if_neg e2,if_pos e3]
     ·right;right;right;refine ⟨by simp [e1],by simp [e2],by simp [e3],?_⟩;show _=_;rw [H.out,if_neg e1,if_neg e2,if_neg e3]
  clear H
  rcases hs with hs | ⟨hs,hs2⟩<;>rcases ho with ⟨o1,H⟩ | ⟨o1,o2,H⟩ | ⟨o1,o2,o3,H⟩ | ⟨o1,o2,o3,H⟩
  all_goals
   go_enter Tryz.func124,Tryz.ntmps124
   go_wp2
   go_ret
   exact ⟨aG H.out.symm,aA.alloc _ _⟩
end Go.Proofs.YthaaaecmeafofaaGreatDoor
namespace Go.Proofs.YthaaaecmeafofaaGreatDoor
open Go.RowKit
theorem uF (n:List UInt8) (op v sl:Int) (f:List UInt8) (on:Bool) (hn:aI n=true) (hf:f = []∨aI f=true) :
  (op<0/\Hid (chk n op v sl f on=3))∨(0<=op/\3<op/\Hid (chk n op v sl f on=3))∨(0<=op/\op<=3/\sl<0/\Hid (chk n op v sl f on=3))∨(0<=op/\op<=3/\0<=sl/\9<sl/\Hid (chk n op v sl f on=3))
  ∨(0<=op/\op<=3/\0<=sl/\sl<=9/\(op==0)=true/\(v != 0)=true/\Hid (chk n op v sl f on=3))
  ∨(0<=op/\op<=3/\0<=sl/\sl<=9/\(op==0)=false/\0<op/\v<1/\Hid (chk n op v sl f on=3))
  ∨(0<=op/\op<=3/\0<=sl/\sl<=9/\(op==0)=false/\0<op/\1<=v/\99<v/\Hid (chk n op v sl f on=3))
  ∨(0<=op/\op<=3/\0<=sl/\sl<=9/\(op==0)=true/\(v != 0)=false/\op<=0/\Hid (chk n op v sl f on=if on=true/\f = [] then 4 else 0))
  ∨(0<=op/\op<=3/\0<=sl/\sl<=9/\(op==0)=false/\0<op/\1<=v/\v<=99/\Hid (chk n op v sl f on=if on=true/\f = [] then 4 else 0)):=by
 rcases pA n op v sl f on hn hf with ⟨r1,HC⟩ | ⟨r1,r2,HC⟩ | ⟨r1,r2,r3,HC⟩ | ⟨r1,r2,r3,r4,HC⟩ | ⟨r1,r2,r3,r4,HV,HC⟩ | ⟨r1,r2,r3,r4,HV,HC⟩
 ·exact Or.inl ⟨r1,HC⟩
 ·exact Or.inr (Or.inl ⟨r1,by omega,HC⟩)
 ·exact Or.inr (Or.inr (Or.inl ⟨r1,by omega,r3,HC⟩))
 ·exact Or.inr (Or.inr (Or.inr (Or.inl ⟨r1,by omega,r3,r4,HC⟩)))
 ·have hv:=HV.out
  unfold iM at hv
  by_cases e:op=0
  ·rw [if_pos e] at hv
   exact Or.inr (Or.inr (Or.inr (Or.inr (Or.inl ⟨r1,by omega,r3,r4,by simp [e],by simpa using hv,HC⟩))))
  ·rw [if_neg e] at hv
   by_cases e1:v<1
   ·exact Or.inr (Or.inr (Or.inr (Or.inr (Or.inr (Or.inl ⟨r1,by omega,r3,r4,by simp [e],by omega,e1,HC⟩)))))
   ·have e2:99<v:=by
     have h1:decide (1<=v)=true:=decide_eq_true (by omega)
     rw [h1] at hv
     simpa using hv
    exact Or.inr (Or.inr (Or.inr (Or.inr (Or.inr (Or.inr (Or.inl ⟨r1,by omega,r3,r4,by simp [e],by omega,by omega,e2,HC⟩))))))
 ·have hv:=HV.out
  by_cases e:op=0
  ·have:v=0:=by subst e;exact iN hv
   exact Or.inr (Or.inr (Or.inr (Or.inr (Or.inr (Or.inr (Or.inr (Or.inl ⟨r1,by omega,r3,r4,by simp [e],by simp [this],by omega,HC⟩)))))))
  ·obtain ⟨a,b⟩:=kG e hv
   exact Or.inr (Or.inr (Or.inr (Or.inr (Or.inr (Or.inr (Or.inr (Or.inr ⟨r1,by omega,r3,r4,by simp [e],by omega,a,b,HC⟩)))))))
theorem mQ (n f:ByteArray) (op v sl:Int) (on:Bool) (w:World) (h:aI n.data.toList=false∨(f.data.toList ≠ []/\aI f.data.toList=false)) :
  Calls Tryz.prog 86 #[.agg #[.string n,.int .i64 op,.int .i64 v,.int .i64 sl,.string f,.bool on]] w fun e w'=>e=.returned (.int .i64 (chk n.data.toList op v sl f.data.toList on))/\aA w w':=by
 have HC:Hid (chk n.data.toList op v sl f.data.toList on=1):=by show _=_;unfold chk;rw [if_pos h]
 have k0:=aA.alloc w (.cells #[.string n,.int .i64 op,.int .i64 v,.int .i64 sl,.string f,.bool on] 71)
 have a0:Hid (aP w.heap.size n op v sl f on (w.alloc (.cells #[.string n,.int .i64 op,.int .i64 v,.int .i64 sl,.string f,.bool on] 71))):=kU _ _
 cases hn:aI n.data.toList
 ·have HN:Hid (aI n.data.toList=false):=hn
  clear hn h
  go_enter Tryz.func86,Tryz.ntmps86
  go_wp2_with fail
  generalize w.alloc (.cells #[.string n,.int .i64 op,.int .i64 v,.int .i64 sl,.string f,.bool on] 71)=W0 at k0 a0 ⊢
  refine (dK _ _).mono ?_
  rintro e w1 ⟨rfl,k1⟩
  rw [HN.out]
  have K1:aA w w1:=k0.trans k1
  go_wp2_with fail
  go_ret
  exact ⟨aC HC.out.symm,K1⟩
 ·have HN:Hid (aI n.data.toList=true):=hn
  rw [hn] at h
  obtain ⟨h1,h2⟩:f.data.toList ≠ []/\aI f.data.toList=false:=h.resolve_left (by simp)
  have HF:Hid (aI f.data.toList=false):=h2
  have hfe:=dH h1
  clear hn h h1 h2
  go_enter Tryz.func86,Tryz.ntmps86
  go_wp2_with fail
  generalize w.alloc (.cells #[.string n,.int .i64 op,.int .i64 v,.int .i64 sl,.string f,.bool on] 71)=W0 at k0 a0 ⊢
  refine (dK _ _).mono ?_
  rintro e w1 ⟨rfl,k1⟩
  rw [HN.out]
  have K1:aA w w1:=k0.trans k1
  have a1:Hid (aP w.heap.size n op v sl f on w1):=a0.out.below k1 a0.out.facts.2.2
  obtain ⟨hc1,_,_⟩:=a1.out.facts
  go_wp2_with fail
  refine (dK _ _).mono ?_
  rintro e w2 ⟨rfl,k2⟩
  rw [HF.out]
  have K2:aA w w2:=K1.trans k2
  go_wp2_with fail
  go_ret
  exact ⟨aC HC.out.symm,K2⟩
theorem qI (n f:ByteArray) (op v sl:Int) (on:Bool) (w:World) (hn:aI n.data.toList=true) (hf:f.data.toList = []) :
  Calls Tryz.prog 86 #[.agg #[.string n,.int .i64 op,.int .i64 v,.int .i64 sl,.string f,.bool on]] w fun e w'=>e=.returned (.int .i64 (chk n.data.toList op v sl f.data.toList on))/\aA w w':=by
 have hr:=uF n.data.toList op v sl f.data.toList on hn (Or.inl hf)
 have HN:Hid (aI n.data.toList=true):=hn
 have HF:Hid (f.data.toList = []):=hf
 have hfe:=gK hf
 have k0:=aA.alloc w (.cells #[.string n,.int .i64 op,.int .i64 v,.int .i64 sl,.string f,.bool on] 71)
 have a0:Hid (aP w.heap.size n op v sl f on (w.alloc (.cells #[.string n,.int .i64 op,.int .i64 v,.int .i64 sl,.string f,.bool on] 71))):=kU _ _
 clear hn hf
 go_enter Tryz.func86,Tryz.ntmps86
 go_wp2_with fail
 generalize w.alloc (.cells #[.string n,.int .i64 op,.int .i64 v,.int .i64 sl,.string f,.bool on] 71)=W0 at k0 a0 ⊢
 refine (dK _ _).mono ?_
 rintro e w1 ⟨rfl,k1⟩
 rw [HN.out]
 have K1:aA w w1:=k0.trans k1
 have a1:Hid (aP w.heap.size n op v sl f on w1):=a0.out.below k1 a0.out.facts.2.2
 obtain ⟨hc1,_,_⟩:=a1.out.facts
 have HON:Hid (∀ c:Int,c=(if on=true/\f.data.toList = [] then 4 else 0)->c=if on=true then 4 else 0):=fun c e=>by rw [e];simp [HF.out]
 rcases hr with ⟨r1,HC⟩ | ⟨r1,r2,HC⟩ | ⟨r1,r2,r3,HC⟩ | ⟨r1,r2,r3,r4,HC⟩ | ⟨r1,r2,r3,r4,r5,r6,HC⟩ | ⟨r1,r2,r3,r4,r5,r6,r7,HC⟩ | ⟨r1,r2,r3,r4,r5,r6,r7,r8,HC⟩ | ⟨r1,r2,r3,r4,r5,r6,r7,HC⟩ | ⟨r1,r2,r3,r4,r5,r6,r7,r8,HC⟩
 iterate 7
  ·go_wp2_with fail
   go_ret
   exact ⟨aC HC.out.symm,K1⟩
 iterate 2
  ·cases on
   ·have HC':Hid (chk n.data.toList op v sl f.data.toList false=0):=HON.out _ HC.out
    clear HC HON
    go_wp2_with fail
    go_ret
    exact ⟨aC HC'.out.symm,K1⟩
   ·have HC':Hid (chk n.data.toList op v sl f.data.toList true=4):=HON.out _ HC.out
    clear HC HON
    go_wp2_with fail
    go_ret
    exact ⟨aC HC'.out.symm,K1⟩
theorem rH (n f:ByteArray) (op v sl:Int) (on:Bool) (w:World) (hn:aI n.data.toList=true) (hf:aI f.data.toList=true) :
  Calls Tryz.prog 86 #[.agg #[.string n,.int .i64 op,.int .i64 v,.int .i64 sl,.string f,.bool on]] w fun e w'=>e=.returned (.int .i64 (chk n.data.toList op v sl f.data.toList on))/\aA w w':=by
 have hr:=uF n.data.toList op v sl f.data.toList on hn (Or.inr hf)
 have HN:Hid (aI n.data.toList=true):=hn
 have HF:Hid (aI f.data.toList=true):=hf
 have hfe:=dH (gD hf)
 have HP:Hid (f.data.toList ≠ []):=gD hf
 have k0:=aA.alloc w (.cells #[.string n,.int .i64 op,.int .i64 v,.int .i64 sl,.string f,.bool on] 71)
 have a0:Hid (aP w.heap.size n op v sl f on (w.alloc (.cells #[.string n,.int .i64 op,.int .i64 v,.int .i64 sl,.string f,.bool on] 71))):=kU _ _
 clear hn hf
 go_enter Tryz.func86,Tryz.ntmps86
 go_wp2_with fail
 generalize w.alloc (.cells #[.string n,.int .i64 op,.int .i64 v,.int .i64 sl,.string f,.bool on] 71)=W0 at k0 a0 ⊢
 refine (dK _ _).mono ?_
 rintro e w1 ⟨rfl,k1⟩
 rw [HN.out]
 have K1:aA w w1:=k0.trans k1
 have a1:Hid (aP w.heap.size n op v sl f on w1):=a0.out.below k1 a0.out.facts.2.2
 obtain ⟨hc1,_,_⟩:=a1.out.facts
 go_wp2_with fail
 refine (dK _ _).mono ?_
 rintro e w2 ⟨rfl,k2⟩
 rw [HF.out]
 have K2:aA w w2:=K1.trans k2
 have a2:Hid (aP w.heap.size n op v sl f on w2):=a1.out.below k2 a1.out.facts.2.2
 clear hc1
 obtain ⟨hc2,_,_⟩:=a2.out.facts
 rcases hr with ⟨r1,HC⟩ | ⟨r1,r2,HC⟩ | ⟨r1,r2,r3,HC⟩ | ⟨r1,r2,r3,r4,HC⟩ | ⟨r1,r2,r3,r4,r5,r6,HC⟩ | ⟨r1,r2,r3,r4,r5,r6,r7,HC⟩ | ⟨r1,r2,r3,r4,r5,r6,r7,r8,HC⟩ | ⟨r1,r2,r3,r4,r5,r6,r7,HC⟩ | ⟨r1,r2,r3,r4,r5,r6,r7,r8,HC⟩
 iterate 7
  ·go_wp2_with fail
   go_ret
   exact ⟨aC HC.out.symm,K2⟩
 iterate 2
  ·have HC':Hid (chk n.data.toList op v sl f.data.toList on=0):=by show _=_;rw [HC.out,if_neg (fun h=>HP.out h.2)]
   clear HC
   cases on
   ·go_wp2_with fail
    go_ret
    exact ⟨aC HC'.out.symm,K2⟩
   ·go_wp2_with fail
    go_ret
    exact ⟨aC HC'.out.symm,K2⟩
theorem mP (n f:ByteArray) (op v sl:Int) (on:Bool) (w:World) :
  Calls Tryz.prog 86 #[.agg #[.string n,.int .i64 op,.int .i64 v,.int .i64 sl,.string f,.bool on]] w fun e w'=>e=.returned (.int .i64 (chk n.data.toList op v sl f.data.toList on))/\aA w w':=by
 cases hn:aI n.data.toList
 ·exact mQ n f op v sl on w (Or.inl hn)
 ·by_cases hf:f.data.toList = []
  ·exact qI n f op v sl on w hn hf
  ·cases hg:aI f.data.toList
   ·exact mQ n f op v sl on w (Or.inr ⟨hf,hg⟩)
   ·exact rH n f op v sl on w hn hg
end Go.Proofs.YthaaaecmeafofaaGreatDoor
