/- Steps of the proof: EncEncode, EncVar. -/
import Derived.Test.YthaaaecmeafofaaGreatDoorRb25
import Derived.Test.YthaaaecmeafofaaGreatDoorRb19
set_option maxHeartbeats 16000000
set_option maxRecDepth 100000
namespace Go.Proofs.YthaaaecmeafofaaGreatDoor
open Go.RowKit
theorem xE {α β:Type} (F:α->β->α) (a:α) (l:List β) (j:Nat) (h:j<l.length):(l.take (j+1)).foldl F a=F ((l.take j).foldl F a) l[j]:=by
 rw [List.take_succ_eq_append_getElem h,List.foldl_append];rfl
theorem DR.tkAt {ps:List PK} {wi:WI} {x:Cn.DD} {L:Nat} {w:World} (r:DR ps wi x L w) {i:Nat} (hi:i<ps.length) : ∃ tb tof tc,x.tv=.slice (some ⟨tb,tof,none⟩) ps.length tc/\x.ro tb/\∀ j,j<ps.length->w.cell? ⟨tb,tof+j,none⟩=some (.int .i64 ((aB ps wi).tkL j)):=by
 have hnl2:=cB ps wi
 have htl:=Cn.CT.tks_len (aB ps wi)
 obtain ⟨tp,tc,htv,-⟩:=r.tk.shape
 obtain ⟨tb,tof,htp,htb,htc⟩:=(htv ▸ r.tk:Cn.aH _ w (aB ps wi).tks (.slice tp (aB ps wi).tks.length tc)).nth (k:=i) (by omega)
 subst htp
 exact ⟨tb,tof,tc,by rw [htv,htl,hnl2],htb,fun j hj=>htc j _ (Cn.CT.tks_get (aB ps wi) (i:=j) (by omega))⟩
theorem aEt (S:Nat->Prop) (ps:List PK) (wi:WI) (pv tsv inv mav onv:Value) (w:World) (hS : ∀ b,S b->b<w.heap.size) (hp:bC S w ps pv) (hw:dZ S w wi tsv inv mav onv) (hcap:kV pv) :
  Calls Tryz.prog 37 #[.agg #[pv],.agg #[tsv,inv,mav,onv]] w fun e w'=>aPg ps wi w e w':=by
 have HP:=hid hp
 have HW:=hid hw
 have HCAP:=hid hcap
 have hmm:= @run_makeMap Tryz.prog
 obtain ⟨pp,pc,hpv,hplen⟩:=hp.len
 obtain ⟨tp,tc0,htv,htlen⟩:=hw.ts.len
 obtain ⟨mp,mc,hmv,hmlen⟩:=hw.ma.len
 subst hpv
 subst htv
 subst hmv
 clear hp hw hcap
 go_enter Tryz.func37,Tryz.ntmps37
 go_upto_region 1 with fail
 have k1:=aA.alloc w (.cells #[.slice pp ps.length pc] 24)
 have v1:=aE.new w 24 (.slice pp ps.length pc)
 have z1:=aC w (.cells #[.slice pp ps.length pc] 24)
 generalize w.alloc (.cells #[.slice pp ps.length pc] 24)=A1 at k1 v1 z1 ⊢
 have k2:=aA.alloc A1 (.cells #[.slice tp wi.ts.length tc0,inv,.slice mp wi.ma.length mc,onv] 46)
 have v2:=aD.new A1 46 #[.slice tp wi.ts.length tc0,inv,.slice mp wi.ma.length mc,onv]
 have z2:=aC A1 (.cells #[.slice tp wi.ts.length tc0,inv,.slice mp wi.ma.length mc,onv] 46)
 generalize A1.alloc (.cells #[.slice tp wi.ts.length tc0,inv,.slice mp wi.ma.length mc,onv] 46)=A2 at k2 v2 z2 ⊢
 have k3:=aA.alloc A2 (.cells #[.int .i64 0,.slice none 0 0] 79)
 have v3:=aD.new A2 79 #[.int .i64 0,.slice none 0 0]
 have z3:=aC A2 (.cells #[.int .i64 0,.slice none 0 0] 79)
 generalize A2.alloc (.cells #[.int .i64 0,.slice none 0 0] 79)=W0 at k3 v3 z3 ⊢
 rw [z1] at v2
 rw [z2,z1] at v3
 have K0:=hid ((k1.trans k2).trans k3)
 have V0:=hid (v1.keep (k2.trans k3) (by omega))
 have B0:=hid (v2.keep k3 (by omega))
 have F0:=hid (show aD (w.heap.size+2) 79 #[.int .i64 0,.slice none 0 0] W0 from v3)
 have hsz0:w.heap.size+3=W0.heap.size:=by omega
 have HSZ:=hid hsz0
 clear k1 v1 z1 k2 v2 z2 k3 v3 z3 hsz0
 obtain ⟨b,hb⟩ : ∃ b,b=w.heap.size:=⟨_,rfl⟩
 have HB:=hid hb
 rw [← hb] at V0 B0 F0 HSZ ⊢
 clear hb
 have hSb : ∀ c,S c->c<b:=fun c hc=>by rw [HB.out];exact hS c hc
 have ht0:W0.cell? ⟨b,0,none⟩=some (.slice pp ps.length pc):=V0.out.facts.1
 have htl:=V0.out.facts.2.2
 have hw0:W0.cell? ⟨b+1,0,none⟩=some (.slice tp wi.ts.length tc0):=B0.out.facts.1 0
 have hw1:W0.cell? ⟨b+1,1,none⟩=some inv:=B0.out.facts.1 1
 have hw2:W0.cell? ⟨b+1,2,none⟩=some (.slice mp wi.ma.length mc):=B0.out.facts.1 2
 have hw3:W0.cell? ⟨b+1,3,none⟩=some onv:=B0.out.facts.1 3
 have hwl:=B0.out.facts.2.2
 go_wp2_with fail
 refine (gU S ps wi _ _ _ _ _ W0 (fun c hc=>Nat.lt_of_lt_of_le (hS c hc) K0.out.size) (HP.out.keep hS K0.out) (HW.out.keep hS K0.out)).mono ?_
 rintro e W1 ⟨rfl,k1⟩
 have K1:=hid (K0.out.trans k1)
 have V1:=hid (V0.out.keep k1 V0.out.facts.2.2)
 have B1:=hid (B0.out.keep k1 B0.out.facts.2.2)
 have F1:=hid (F0.out.keep k1 F0.out.facts.2.2)
 have hsz1:b+3<=W1.heap.size:=by have:=k1.size;have:=HSZ.out;omega
 clear ht0 htl hw0 hw1 hw2 hw3 hwl V0 B0 F0 K0 k1
 by_cases hz:bE ps wi=0
 ·have hz1:(bE ps wi==0)=true:=by simpa using hz
  have hz2:(bE ps wi != 0)=false:=by simp [bne,hz1]
  have HZ:=hid hz
  rw [hz] at hz1 hz2 ⊢
  obtain ⟨hT,hTS,hts6,hta,hma,hml,-,hone⟩:=cI hz
  obtain ⟨h8,hf2,-,hin,hil,-⟩:=dD hTS
  have hok:=gB hTS
  have h14:=(nT wi hT).1
  have hon:=vC hone h8 hf2
  have HTA:=hid hta
  have HMA:=hid hma
  clear hz hta hma hone
  have HCH:=hid (show ∀ W,aA W1 W->Calls Tryz.prog 81 #[.agg #[.slice pp ps.length pc],.agg #[.slice tp wi.ts.length tc0,inv,.slice mp wi.ma.length mc,onv]] W _ from fun W kW=>oY S ps wi _ _ _ _ _ W (fun c hc=>Nat.lt_of_lt_of_le (hS c hc) (K1.out.trans kW).size) (HP.out.keep hS (K1.out.trans kW)) (HW.out.keep hS (K1.out.trans kW)) h8 hf2 hok hin hil h14 hon)
  have ht0:W1.cell? ⟨b,0,none⟩=some (.slice pp ps.length pc):=V1.out.facts.1
  have htl:=V1.out.facts.2.2
  have hw0:W1.cell? ⟨b+1,0,none⟩=some (.slice tp wi.ts.length tc0):=B1.out.facts.1 0
  have hw1:W1.cell? ⟨b+1,1,none⟩=some inv:=B1.out.facts.1 1
  have hw2:W1.cell? ⟨b+1,2,none⟩=some (.slice mp wi.ma.length mc):=B1.out.facts.1 2
  have hw3:W1.cell? ⟨b+1,3,none⟩=some onv:=B1.out.facts.1 3
  have hwl:=B1.out.facts.2.2
  go_upto_region 4 with fail
  go_cut [7] from 20 to 26 (fun dv wx=> ∃ bx tb tc g1 g2,dv=.pointer (some ⟨bx,0,none⟩)/\EB ps wi (.slice pp ps.length pc) (.slice tp wi.ts.length tc0) inv (.slice mp wi.ma.length mc) onv b bx tb tc g1 g2 0 wx/\aA w wx)
  case first=>
   have HSV:=hid (show ∀ W,aA W1 W->(W.cell? ⟨b,0,none⟩=some (.slice pp ps.length pc)/\W.cell? ⟨b+1,0,none⟩=some (.slice tp wi.ts.length tc0)/\W.cell? ⟨b+1,1,none⟩=some inv/\W.cell? ⟨b+1,2,none⟩=some (.slice mp wi.ma.length mc)/\W.cell? ⟨b+1,3,none⟩=some onv) from fun W k=>⟨(k.cell (p:=⟨b,0,none⟩) htl).trans ht0,(k.cell (p:=⟨b+1,0,none⟩) hwl).trans hw0,(k.cell (p:=⟨b+1,1,none⟩) hwl).trans hw1,(k.cell (p:=⟨b+1,2,none⟩) hwl).trans hw2,(k.cell (p:=⟨b+1,3,none⟩) hwl).trans hw3⟩)
   have HS:=hid (HSV.out W1 (aA.refl _))
   have HSd:=hid (HSV.out W1.drew (aA.drew (aA.refl _)))
   have HSm:=hid (HSV.out (W1.drew.alloc (.map #[] 0)) ((aA.drew (aA.refl _)).alloc' _))
   have HSn:=hid (HSV.out (W1.alloc (.map #[] 0)).drew (aA.drew (aA.alloc _ _)))
   go_region_held3 (fun W'=>W'.cell? ⟨b,0,none⟩=some (.slice pp ps.length pc)/\W'.cell? ⟨b+1,0,none⟩=some (.slice tp wi.ts.length tc0)/\W'.cell? ⟨b+1,1,none⟩=some inv/\W'.cell? ⟨b+1,2,none⟩=some (.slice mp wi.ma.length mc)/\W'.cell? ⟨b+1,3,none⟩=some onv)
    (first | with_reducible exact HS.out | with_reducible exact HSd.out | with_reducible exact HSm.out | with_reducible exact HSn.out | with_reducible exact HS8.out | with_reducible exact HS9.out | go_keep)
    (first
     | (go_at_call 81;(with_reducible show Calls _ _ _ W1.drew _);refine (HCH.out W1.drew (aA.drew (aA.refl _))).mono ?_;rintro e w8 ⟨g1,kk,rfl,htk,hfg,hge,k8⟩;have G1:=hid htk;have G2:=hid hfg;have G3:=hid hge;have G4:=hid ((aA.drew (aA.refl W1)).trans k8);have HS8:=hid (HSV.out w8 G4.out);have HS9:=hid (HSV.out (w8.alloc (.map #[] 0)) (G4.out.alloc' _));clear htk hfg hge k8)
     | (go_at_call 81;(with_reducible show Calls _ _ _ (W1.alloc _).drew _);refine (HCH.out (W1.alloc (.map #[] 0)).drew (aA.drew (aA.alloc _ _))).mono ?_;rintro e w8 ⟨g1,kk,rfl,htk,hfg,hge,k8⟩;have G1:=hid htk;have G2:=hid hfg;have G3:=hid hge;have G4:=hid ((aA.drew (aA.alloc W1 (.map #[] 0))).trans k8);have G5:=hid k8;have HS8:=hid (HSV.out w8 G4.out);clear htk hfg hge k8))
   ·have z8:=aC w8 (.map #[] 0)
    have m8:=Cn.rO w8
    have k9:=aA.alloc w8 (.map #[] 0)
    generalize w8.alloc (.map #[] 0)=w9 at z8 m8 k9 ⊢
    have x9:=aD.new w9 148 #[.int .i64 (aB ps wi).many,.slice (some ⟨W1.heap.size+3,0,none⟩) ps.length ps.length,.map (some g1),.slice pp ps.length pc,.int .i64 0,.slice none 0 0,.map (some w8.heap.size)]
    have k10:=aA.alloc w9 (.cells #[.int .i64 (aB ps wi).many,.slice (some ⟨W1.heap.size+3,0,none⟩) ps.length ps.length,.map (some g1),.slice pp ps.length pc,.int .i64 0,.slice none 0 0,.map (some w8.heap.size)] 148)
    have z10:=aC w9 (.cells #[.int .i64 (aB ps wi).many,.slice (some ⟨W1.heap.size+3,0,none⟩) ps.length ps.length,.map (some g1),.slice pp ps.length pc,.int .i64 0,.slice none 0 0,.map (some w8.heap.size)] 148)
    generalize w9.alloc (.cells #[.int .i64 (aB ps wi).many,.slice (some ⟨W1.heap.size+3,0,none⟩) ps.length ps.length,.map (some g1),.slice pp ps.length pc,.int .i64 0,.slice none 0 0,.map (some w8.heap.size)] 148)=w10 at x9 k10 z10 ⊢
    have hg:=G2.out.lt
    have hge:W1.heap.size+4<=g1:=G3.out
    have k8:aA w8 w10:=k9.trans k10
    have kw:aA W1 w10:=G4.out.trans k8
    have HX:=hid (show EB ps wi (.slice pp ps.length pc) (.slice tp wi.ts.length tc0) inv (.slice mp wi.ma.length mc) onv b w9.heap.size (W1.heap.size+3) ps.length g1 w8.heap.size 0 w10 from ⟨V1.out.keep kw V1.out.facts.2.2,B1.out.keep kw B1.out.facts.2.2,F1.out.keep kw F1.out.facts.2.2,x9,G1.out.keep (B:=w8.heap.size) (fun c hc=>by have:c=W1.heap.size+3:=hc;omega) k8,⟨kk,G2.out.keep k8⟩,m8.keep k10,by omega,by omega,by omega,by omega,by omega,by omega,by omega,by omega,by omega,by omega⟩)
    have HKW:=hid (K1.out.trans kw)
    have HZ8:=hid z8
    clear x9 k10 z10 k8 kw z8 m8 k9
    go_wp2_with fail
    go_meet
    exact ⟨w9.heap.size,W1.heap.size+3,ps.length,g1,w8.heap.size,by rw [HZ8.out],HX.out,HKW.out⟩
   ·have m1:=Cn.rO W1
    have z1:=aC W1 (.map #[] 0)
    have x9:=aD.new w8 148 #[.int .i64 (aB ps wi).many,.slice (some ⟨W1.heap.size+1+3,0,none⟩) ps.length ps.length,.map (some g1),.slice pp ps.length pc,.int .i64 0,.slice none 0 0,.map (some W1.heap.size)]
    have k10:=aA.alloc w8 (.cells #[.int .i64 (aB ps wi).many,.slice (some ⟨W1.heap.size+1+3,0,none⟩) ps.length ps.length,.map (some g1),.slice pp ps.length pc,.int .i64 0,.slice none 0 0,.map (some W1.heap.size)] 148)
    have z10:=aC w8 (.cells #[.int .i64 (aB ps wi).many,.slice (some ⟨W1.heap.size+1+3,0,none⟩) ps.length ps.length,.map (some g1),.slice pp ps.length pc,.int .i64 0,.slice none 0 0,.map (some W1.heap.size)] 148)
    generalize w8.alloc (.cells #[.int .i64 (aB ps wi).many,.slice (some ⟨W1.heap.size+1+3,0,none⟩) ps.length ps.length,.map (some g1),.slice pp ps.length pc,.int .i64 0,.slice none 0 0,.map (some W1.heap.size)] 148)=w10 at x9 k10 z10 ⊢
    have hsz:(W1.alloc (.map #[] 0)).drew.heap.size=W1.heap.size+1:=z1
    have hg:=G2.out.lt
    have hge:=G3.out
    rw [hsz] at hge
    have g1k:=G1.out
    rw [hsz] at g1k
    have kw:aA W1 w10:=G4.out.trans k10
    have m10:Cn.gH W1.heap.size 0 (fun _ _=>0) w10:=(m1.keep (aA.drew (aA.refl _))).keep (G5.out.trans k10)
    have HX:=hid (show EB ps wi (.slice pp ps.length pc) (.slice tp wi.ts.length tc0) inv (.slice mp wi.ma.length mc) onv b w8.heap.size (W1.heap.size+1+3) ps.length g1 W1.heap.size 0 w10 from ⟨V1.out.keep kw V1.out.facts.2.2,B1.out.keep kw B1.out.facts.2.2,F1.out.keep kw F1.out.facts.2.2,x9,g1k.keep (B:=w8.heap.size) (fun c hc=>by have:c=W1.heap.size+1+3:=hc;omega) k10,⟨kk,G2.out.keep k10⟩,m10,by omega,by omega,by omega,by omega,by omega,by omega,by omega,by omega,by omega,by omega⟩)
    have HKW:=hid (K1.out.trans kw)
    clear x9 k10 z10 kw m1 z1 m10 g1k hsz
    go_wp2_with fail
    go_meet
    exact ⟨w8.heap.size,W1.heap.size+1+3,ps.length,g1,W1.heap.size,rfl,HX.out,HKW.out⟩
  case rest=>
  obtain ⟨bx,tb,tc,g1,g2,rfl,heb,hkx⟩:=hcut
  have E0:=hid heb
  have KX:=hid hkx
  have hx0:wc.cell? ⟨bx,0,none⟩=some (.int .i64 (aB ps wi).many):=heb.dx.facts.1 0
  have hx4:wc.cell? ⟨bx,4,none⟩=some (.int .i64 0):=heb.dx.facts.1 4
  have hxf:=heb.dx.facts.2.1 4
  have hxl:=heb.dx.facts.2.2
  have hfar:=heb.far
  clear heb hkx HCH V1 B1 F1 K1 ht0 htl hw0 hw1 hw2 hw3 hwl
  go_upto_region 6 with fail
  have E1:=hid (show EB ps wi (.slice pp ps.length pc) (.slice tp wi.ts.length tc0) inv (.slice mp wi.ma.length mc) onv b bx tb tc g1 g2 (aB ps wi).many (wc.setCell ⟨bx,4,none⟩ (.int .i64 (aB ps wi).many)) from by
   have hso : ∀ c,c≠bx->(wc.setCell ⟨bx,4,none⟩ (.int .i64 (aB ps wi).many)).heap[c]? = wc.heap[c]? :=fun c hc=>Cn.dM _ _ _ _ hc
   have hsz:(wc.setCell ⟨bx,4,none⟩ (.int .i64 (aB ps wi).many)).heap.size=wc.heap.size:=Cn.fV ..
   obtain ⟨k,hfg⟩:=E0.out.fg
   refine ⟨?_,?_,?_,E0.out.dx.set 4 _,E0.out.tk.mono (fun p hp=>World.cell?_of_block (w:=wc) (hso _ (by have:p.block=tb:=hp;omega))) fun _ h=>h,⟨k,hfg.at (hso _ (by omega))⟩,E0.out.pr.at (hso _ (by omega)),?_⟩
   ·have:=E0.out.tr;unfold aE at *;rw [hso _ (by omega)];exact this
   ·have:=E0.out.ws;unfold aD at *;rw [hso _ (by omega)];exact this
   ·have:=E0.out.rs;unfold aD at *;rw [hso _ (by omega)];exact this
   ·rw [hsz];exact E0.out.far)
  have KY:=hid (show aA w (wc.setCell ⟨bx,4,none⟩ (.int .i64 (aB ps wi).many)) from aA.set KX.out (p:=⟨bx,4,none⟩) (by have:=HB.out;show _<=bx;omega) _)
  generalize wc.setCell ⟨bx,4,none⟩ (.int .i64 (aB ps wi).many)=W5 at E1 KY ⊢
  clear hx0 hx4 hxf hxl E0 KX
  have hLw:b=w.heap.size:=HB.out
  have D5:=hid E1.out.dm
  have R5:=hid (E1.out.dr ((HP.out.keep hS KY.out).mono (fun _ _=>rfl) hSb) HCAP.out)
  have HNO:=hid (show ∀ c,c<b+3->¬ (EB.x ps wi (.slice pp ps.length pc) bx tb tc g1 g2).own c from fun c hc ho=>by rcases EB.own ho with rfl | rfl<;>omega)
  have T5:=hid E1.out.tr
  have S5:=hid E1.out.ws
  have F5:=hid E1.out.rs
  obtain ⟨x,hx⟩ : ∃ x,x=EB.x ps wi (.slice pp ps.length pc) bx tb tc g1 g2:=⟨_,rfl⟩
  have hxb:bx=x.b:=by rw [hx];rfl
  have htv:x.tv=.slice (some ⟨tb,0,none⟩) ps.length tc:=by rw [hx];rfl
  rw [← hx] at D5 R5 HNO
  subst hxb
  clear E1 hx hfar
  have hb5:b+3<=W5.heap.size:=by have:=F5.out.facts.2.2;omega
  have HVT:=hid (show ∀ (v:Value) (k:Nat) (cc:Nat->Prop) (W:World),Cn.aF x.own (x.to v k cc).own W5 W->aE b 24 (.slice pp ps.length pc) W/\aD (b+1) 46 #[.slice tp wi.ts.length tc0,inv,.slice mp wi.ma.length mc,onv] W/\aD (b+2) 79 #[.int .i64 0,.slice none 0 0] W/\aA w W/\DR ps wi (x.to v k cc) b W from fun v k cc W t=>⟨T5.out.turnV t (HNO.out _ (by omega)),Cn.aD.turn S5.out t (HNO.out _ (by omega)),Cn.aD.turn F5.out t (HNO.out _ (by omega)),Below.trans KY.out (by have h:=lC D5.out t;rw [hLw] at h;exact h),R5.out.turn D5.out t⟩)
  have HSV:=hid (show ∀ (tb tof tc:Nat),x.tv=.slice (some ⟨tb,tof,none⟩) ps.length tc->x.ro tb->(∀ j,j<ps.length->W5.cell? ⟨tb,tof+j,none⟩=some (.int .i64 ((aB ps wi).tkL j)))->∀ (v:Value) (k:Nat) (cc:Nat->Prop) (s:Cn.DS) (W:World),Cn.DM (x.to v k cc) b s W->Cn.aF x.own (x.to v k cc).own W5 W->W.cell? ⟨x.b,1,none⟩=some (.slice (some ⟨tb,tof,none⟩) ps.length tc)/\∀ j,j<ps.length->W.cell? ⟨tb,tof+j,none⟩=some (.int .i64 ((aB ps wi).tkL j)) from fun tb tof tc e r hc v k cc s W d t=>⟨(d.cell 1).trans (congrArg some e),fun j hj=>(t.cell ⟨tb,tof+j,none⟩ (R5.out.ro tb r).1 (R5.out.ro tb r).2).trans (hc j hj)⟩)
  have hw0:W5.cell? ⟨b+1,0,none⟩=some (.slice tp wi.ts.length tc0):=S5.out.facts.1 0
  have hwl:b+1<W5.heap.size:=S5.out.facts.2.2
  obtain ⟨_,_,e,htsl,htrow⟩:=HW.out.ts
  cases e
  obtain ⟨_,_,e,hmal,hmrow⟩:=HW.out.ma
  cases e
  have HTR:=hid htrow
  have HMR:=hid hmrow
  have HBS:=hid (aMd (aB ps wi))
  clear htrow hmrow htv KY hLw
  go_wp2_with fail
  go_loopg [39] wi.ts.length (fun gk iv wr=> ∃ (j:Nat) (v:Value) (k:Nat) (cc:Nat->Prop),j+gk=wi.ts.length/\iv=.int .i64 j/\Cn.DM (x.to v k cc) b ((wi.ts.take j).foldl (tgS ps (aB ps wi)) (sR (aB ps wi))) wr/\Cn.aF x.own (x.to v k cc).own W5 wr)
  case atStart=>exact ⟨0,x.cv,x.np,x.cs,by omega,rfl,D5.out,Cn.aF.refl _ _⟩
  case round=>
  obtain ⟨j,v,k,cc,hj,rfl,hd,ht⟩:=hrel
  have D2:=hid hd
  have T2:=hid ht
  have V2:=hid (HVT.out v k cc wr ht)
  have hbd:=aRf (ps:=ps) (wi:=wi) hok h8 (wi.ts.take j) _ _ _ HBS.out (Nat.le_refl _)
  have hjl:(wi.ts.take j).length<=6:=by rw [List.length_take];omega
  have HB2:=hid (show Cn.Bd ((wi.ts.take j).foldl (tgS ps (aB ps wi)) (sR (aB ps wi))) 100 200 from hbd.mono (by omega) (by omega))
  clear hd ht hw0 hwl hbd hjl
  by_cases hlt:j<wi.ts.length
  ·obtain ⟨ab,ao,rfl,hSa,hcs⟩:=HTR.out (by omega)
   obtain ⟨g0,g1,g2,g3,g4,g5⟩:=hcs j wi.ts[j] (List.getElem?_eq_getElem hlt)
   have hal:ab<wr.heap.size:=Nat.lt_of_lt_of_le (hS ab hSa) V2.out.2.2.2.1.size
   have hcell:=fun o=>V2.out.2.2.2.1.cell (p:=⟨ab,o,none⟩) (hS ab hSa)
   have q0:=(hcell _).trans g0
   have q1:=(hcell _).trans g1
   have q2:=(hcell _).trans g2
   have q3:=(hcell _).trans g3
   have q4:=(hcell _).trans g4
   have q5:=(hcell _).trans g5
   have HNX:=hid (xE (tgS ps (aB ps wi)) (sR (aB ps wi)) wi.ts j hlt)
   have HCA:=hid (HTA.out wi.ts[j] (List.getElem_mem hlt))
   generalize (wi.ts.take j).foldl (tgS ps (aB ps wi)) (sR (aB ps wi))=s2 at D2 HB2 HNX ⊢
   generalize wi.ts[j]=a at q0 q1 q2 q3 q4 q5 HNX HCA
   have hjI:(j:Int)<(wi.ts.length:Int):=by omega
   clear hcell g0 g1 g2 g3 g4 g5 hcs
   go_upto_region 9 with fail
   refine bF (fun W'=>aA wr W'/\aN wr.heap.size #[.string a.n,.int .i64 a.op,.int .i64 a.v,.int .i64 a.sl,.string a.f,.bool a.on] W') ⟨aA.alloc _ _,aN.new _ _ _⟩ ?_
   rintro W6 ⟨k6,b6⟩
   have D6:=hid (D2.out.keep k6)
   have T6:=hid (T2.out.trans (Cn.aF.keep k6))
   have R6:=hid (V2.out.2.2.2.2.keep D2.out.L k6)
   have m0:W6.cell? ⟨wr.heap.size,0,none⟩=some (.string a.n):=b6.2 0
   have m1:W6.cell? ⟨wr.heap.size,1,none⟩=some (.int .i64 a.op):=b6.2 1
   have m2:W6.cell? ⟨wr.heap.size,2,none⟩=some (.int .i64 a.v):=b6.2 2
   have m3:W6.cell? ⟨wr.heap.size,3,none⟩=some (.int .i64 a.sl):=b6.2 3
   have m4:W6.cell? ⟨wr.heap.size,4,none⟩=some (.string a.f):=b6.2 4
   have m5:W6.cell? ⟨wr.heap.size,5,none⟩=some (.bool a.on):=b6.2 5
   have mL:=b6.1
   clear k6 b6 q0 q1 q2 q3 q4 q5
   go_wp2_with fail
   refine (wV ps wi (x.to v k cc) b s2 a.n a.f a.op a.v a.sl a.on (-1) W6 100 200 hT HCA.out hok D6.out R6.out HB2.out (by omega) (by omega) (by omega)).mono ?_
   rintro e w8 ⟨lp3,lc3,v3,k3,c3,rfl,h31,h32,h33,h34⟩
   have H32:=hid h32
   have H33:=hid h33
   have H34:=hid h34
   have HBA:=hid (pP (ps:=ps) (wi:=wi) hok h8 HB2.out (by omega) (-1) a)
   have HTG:=hid (show tgS ps (aB ps wi) s2 a=(dK ps (aB ps wi) (-1) s2 a).1.clause (dK ps (aB ps wi) (-1) s2 a).2 from rfl)
   have HEQ:=hid (show (dK ps (aB ps wi) (-1) s2 ⟨a.n,a.op,a.v,a.sl,a.f,a.on⟩)=dK ps (aB ps wi) (-1) s2 a from rfl)
   rw [HEQ.out] at H32 H33 ⊢
   generalize dK ps (aB ps wi) (-1) s2 a=s3 at H32 H33 HBA HTG ⊢
   clear h31 h32 h33 h34 m0 m1 m2 m3 m4 m5 mL
   go_wp2_with fail
   refine (Cn.fG (x.to v3 k3 c3) b s3.1 _ s3.2 lp3 _ lc3 w8 rfl H33.out (fun c hc=>hc.2.1) H32.out (by have:=HBA.out.2.2;omega) (by have:=HBA.out.1.2.1;omega)).mono ?_
   rintro e w9 ⟨rfl,v4,c4,d4,t4⟩
   have D9:=hid d4
   have T9:=hid ((T6.out.trans H34.out).trans t4)
   clear d4 t4
   go_wp2_with fail
   go_roundg (wi.ts.length-(j+1))
   case rel=>exact ⟨j+1,v4,k3,c4,by omega,by go_num,by rw [HNX.out,HTG.out];exact D9.out,T9.out⟩
   case measure=>omega
  have hje:j=wi.ts.length:=by omega
  have HTK:=hid (show wi.ts.take j=wi.ts by rw [hje];exact List.take_length)
  rw [HTK.out] at D2 HB2
  have hnl : ¬ ((j:Int)<(wi.ts.length:Int)):=by omega
  obtain ⟨s1,hs1⟩ : ∃ s1,s1=wi.ts.foldl (tgS ps (aB ps wi)) (sR (aB ps wi)):=⟨_,rfl⟩
  have HS1:=hid hs1
  rw [← hs1] at D2 HB2
  have hw2:wr.cell? ⟨b+1,2,none⟩=some (.slice mp wi.ma.length mc):=V2.out.2.1.facts.1 2
  have hwl:b+1<wr.heap.size:=V2.out.2.1.facts.2.2
  clear hs1 hje HTK HTR HBS hj
  go_wp2_with fail
  obtain ⟨wo,rfl⟩ : ∃ wo:World,wo=wr:=⟨_,rfl⟩
  go_loopg [52] wi.ma.length (fun gk iv wr=> ∃ (j:Nat) (v:Value) (k:Nat) (cc:Nat->Prop),j+gk=wi.ma.length/\iv=.int .i64 j/\Cn.DM (x.to v k cc) b ((wi.ma.take j).foldl (maS (aB ps wi)) s1) wr/\Cn.aF x.own (x.to v k cc).own W5 wr)
  case atStart=>exact ⟨0,v,k,cc,by omega,rfl,D2.out,T2.out⟩
  case round=>
  clear D2 T2 V2 hw2 hwl hlt hnl
  obtain ⟨j2,v2,k2,cc2,hj,rfl,hd,ht⟩:=hrel
  have D2:=hid hd
  have T2:=hid ht
  have V2:=hid (HVT.out v2 k2 cc2 wr ht)
  have hbd:=aRc (ct:=aB ps wi) (wi.ma.take j2) _ _ _ HB2.out
  have hjl:(wi.ma.take j2).length<=8:=by rw [List.length_take];omega
  have HB3:=hid (show Cn.Bd ((wi.ma.take j2).foldl (maS (aB ps wi)) s1) 100 300 from hbd.mono (by omega) (by omega))
  clear hd ht hbd hjl
  by_cases hlt:j2<wi.ma.length
  ·obtain ⟨ab,ao,rfl,hSa,hcs⟩:=HMR.out (by omega)
   have g0:=hcs j2 wi.ma[j2] (List.getElem?_eq_getElem hlt)
   have hal:ab<wr.heap.size:=Nat.lt_of_lt_of_le (hS ab hSa) V2.out.2.2.2.1.size
   have q0:=(V2.out.2.2.2.1.cell (p:=⟨ab,ao+j2,none⟩) (hS ab hSa)).trans g0
   have HNX:=hid (xE (maS (aB ps wi)) s1 wi.ma j2 hlt)
   have hz:=HMA.out wi.ma[j2] (List.getElem_mem hlt)
   generalize (wi.ma.take j2).foldl (maS (aB ps wi)) s1=s2 at D2 HB3 HNX ⊢
   generalize wi.ma[j2]=z at q0 HNX hz
   obtain ⟨n,rfl⟩ : ∃ n:Nat,z=n:=⟨z.toNat,by omega⟩
   have hn:n<ps.length:=by omega
   have hnI:(n:Int)<(ps.length:Int):=by omega
   have hjI:(j2:Int)<(wi.ma.length:Int):=by omega
   obtain ⟨tb,tof,tc,htv,hro,htc⟩:=DR.tkAt R5.out hn
   obtain ⟨hc1,hct0⟩:=HSV.out tb tof tc htv hro htc v2 k2 cc2 _ wr D2.out T2.out
   have hct:=hct0 n hn
   clear hct0
   have hxl:x.b<wr.heap.size:=D2.out.box.facts.2.2
   have htbl:tb<wr.heap.size:=Nat.lt_of_lt_of_le (R5.out.ro tb hro).1 T2.out.size
   have htk:((aB ps wi).tkL n).natAbs<=1000:=by have:=(Cn.CT.tk_lit hok (i:=n) (by have:=cB ps wi;omega)).2;omega
   have HMS:=hid (show maS (aB ps wi) s2 (n:Int)=s2.clause [-(aB ps wi).tkL n] from rfl)
   generalize (aB ps wi).tkL n=tn at hct htk HMS
   have hwn:IntKind.i64.wrap (-tn) = -tn:=cJ (by omega)
   clear g0 hcs htc htv hz
   go_wp2_with fail
   refine (Cn.fG (x.to v2 k2 cc2) b s2 (fun c=>c=wr.heap.size) [-tn] _ 1 1 _ rfl (D2.out.keep (aA.alloc _ _)) (fun c hc=>by subst hc;rw [aC];exact Nat.lt_succ_self _) (Cn.aCw wr _) (by simp) (by have:=HB3.out.2.1;omega)).mono ?_
   rintro e w9 ⟨rfl,v4,c4,d4,t4⟩
   have D9:=hid d4
   have T9:=hid ((T2.out.trans (Cn.aF.keep (aA.alloc _ _))).trans t4)
   clear d4 t4
   go_wp2_with fail
   go_roundg (wi.ma.length-(j2+1))
   case rel=>exact ⟨j2+1,v4,k2,c4,by omega,by go_num,by rw [HNX.out,HMS.out];exact D9.out,T9.out⟩
   case measure=>omega
  have hje:j2=wi.ma.length:=by omega
  have HTK:=hid (show wi.ma.take j2=wi.ma by rw [hje];exact List.take_length)
  rw [HTK.out] at D2 HB3
  have hnl : ¬ ((j2:Int)<(wi.ma.length:Int)):=by omega
  obtain ⟨s2,hs2⟩ : ∃ s2,s2=wi.ma.foldl (maS (aB ps wi)) s1:=⟨_,rfl⟩
  have HS2:=hid hs2
  rw [← hs2] at D2 HB3
  have ht0:wr.cell? ⟨b,0,none⟩=some (.slice pp ps.length pc):=V2.out.1.facts.1
  have htl:b<wr.heap.size:=V2.out.1.facts.2.2
  clear hs2 hje HTK HMR hj HB2
  go_wp2_with fail
  obtain ⟨wp,rfl⟩ : ∃ wp:World,wp=wr:=⟨_,rfl⟩
  go_loopg [72] ps.length (fun gk iv wr=> ∃ (j:Nat) (v:Value) (k:Nat) (cc:Nat->Prop),j+gk=ps.length/\iv=.int .i64 j/\Cn.DM (x.to v k cc) b ((List.range j).foldl (pkS ps (aB ps wi)) s2) wr/\Cn.aF x.own (x.to v k cc).own W5 wr)
  case atStart=>exact ⟨0,v2,k2,cc2,by omega,rfl,D2.out,T2.out⟩
  case round=>
  clear D2 T2 V2 ht0 htl hlt hnl
  obtain ⟨i,v3,k3,cc3,hj,rfl,hd,ht⟩:=hrel
  have D2:=hid hd
  have T2:=hid ht
  have V2:=hid (HVT.out v3 k3 cc3 wr ht)
  have hbd:=aMb (ps:=ps) (wi:=wi) hok hT HB3.out (by omega) i (by omega)
  have HB4:=hid (show Cn.Bd ((List.range i).foldl (pkS ps (aB ps wi)) s2) 10000 100000 from hbd.mono (by omega) (by omega))
  clear hd ht hbd
  by_cases hlt:i<ps.length
  ·have HNX:=hid (lX (pkS ps (aB ps wi)) s2 i)
   generalize (List.range i).foldl (pkS ps (aB ps wi)) s2=s4 at D2 HB4 HNX ⊢
   obtain ⟨bn1,bn2,bn3⟩:=aRe (ps:=ps) (wi:=wi) hok hT hlt HB4.out (by omega)
   have bn0:=HB4.out
   have HBN:=hid bn1
   obtain ⟨tb,tof,tc,htv,hro,htc⟩:=DR.tkAt R5.out hlt
   have HSW:=hid (show ∀ (v:Value) (k:Nat) (cc:Nat->Prop) (s:Cn.DS) (W:World),Cn.DM (x.to v k cc) b s W->Cn.aF x.own (x.to v k cc).own W5 W->W.cell? ⟨x.b,1,none⟩=some (.slice (some ⟨tb,tof,none⟩) ps.length tc)/\W.cell? ⟨tb,tof+i,none⟩=some (.int .i64 ((aB ps wi).tkL i)) from fun v k cc s W d t=>⟨(HSV.out tb tof tc htv hro htc v k cc s W d t).1,(HSV.out tb tof tc htv hro htc v k cc s W d t).2 i hlt⟩)
   have hxl:x.b<wr.heap.size:=D2.out.box.facts.2.2
   have htbl:tb<wr.heap.size:=Nat.lt_of_lt_of_le (R5.out.ro tb hro).1 T2.out.size
   have htk:((aB ps wi).tkL i).natAbs<=1000:=by have:=(Cn.CT.tk_lit hok (i:=i) (by have:=cB ps wi;omega)).2;omega
   have HPK:=hid (show pkS ps (aB ps wi) s4 i=(List.range i).foldl (slS ps (aB ps wi) i) (ndC ps (aB ps wi) i s4) from rfl)
   have HNC:=hid (show ndC ps (aB ps wi) i s4=(ndS ps (aB ps wi) i (ps.getD i PK.zero).nd s4).1.clause [-(aB ps wi).tkL i,(ndS ps (aB ps wi) i (ps.getD i PK.zero).nd s4).2] from rfl)
   have hcl:(ndS ps (aB ps wi) i (ps.getD i PK.zero).nd s4).1.cl.length<=1000000:=by
    have h1:=HBN.out.2.1
    rw [HNC.out] at h1
    have h2:((ndS ps (aB ps wi) i (ps.getD i PK.zero).nd s4).1.cl ++ [[-(aB ps wi).tkL i,(ndS ps (aB ps wi) i (ps.getD i PK.zero).nd s4).2]]).length<=100000+2001:=h1
    rw [List.length_append,List.length_singleton] at h2
    omega
   have HCN:=hid (show Calls Tryz.prog 95 #[.pointer (some ⟨x.b,0,none⟩),.int .i64 i] wr.drew fun e w'=>e=.returned (.int .i64 (ndS ps (aB ps wi) i (ps.getD i PK.zero).nd s4).2)/\∃ v k cc,Cn.DM (x.to v k cc) b (ndS ps (aB ps wi) i (ps.getD i PK.zero).nd s4).1 w'/\Cn.aF x.own (x.to v k cc).own W5 w' from by
    refine (wG ps wi (x.to v3 k3 cc3) b s4 i wr.drew 10000 100000 hT hok hlt (D2.out.keep (aA.drew (aA.refl _))) (V2.out.2.2.2.2.keep D2.out.L (aA.drew (aA.refl _))) bn0 (by omega) (by omega) (by omega)).mono ?_
    rintro e w' ⟨rfl,v,k,cc,d,t⟩
    exact ⟨rfl,v,k,cc,d,(T2.out.trans (Cn.aF.keep (aA.drew (aA.refl _)))).trans t⟩)
   generalize ndS ps (aB ps wi) i (ps.getD i PK.zero).nd s4=r5 at HCN HNC hcl bn3
   have HCC:=hid (show ∀ (v:Value) (k:Nat) (cc:Nat->Prop) (w8:World),Cn.DM (x.to v k cc) b r5.1 w8->Cn.aF x.own (x.to v k cc).own W5 w8->Calls Tryz.prog 93 #[.pointer (some ⟨x.b,0,none⟩),.slice (some ⟨w8.heap.size,0,none⟩) 2 2] (w8.alloc (.cells #[.int .i64 (-(aB ps wi).tkL i),.int .i64 r5.2] 3)) fun e w'=>e=.returned (.tuple #[])/\∃ v4 c4,Cn.DM (x.to v4 k c4) b (r5.1.clause [-(aB ps wi).tkL i,r5.2]) w'/\Cn.aF x.own (x.to v4 k c4).own W5 w' from fun v k cc w8 d t=>by
    refine (Cn.fG (x.to v k cc) b r5.1 (fun c=>c=w8.heap.size) [-(aB ps wi).tkL i,r5.2] _ 2 2 _ rfl (d.keep (aA.alloc _ _)) (fun c hc=>by subst hc;rw [aC];exact Nat.lt_succ_self _) (Cn.nI w8 _ _) (by simp) hcl).mono ?_
    rintro e w' ⟨rfl,v4,c4,d4,t4⟩
    exact ⟨rfl,v4,c4,d4,(t.trans (Cn.aF.keep (aA.alloc _ _))).trans t4⟩)
   have hiI:(i:Int)<(ps.length:Int):=by omega
   clear htc htv bn0 bn1 bn2
   generalize (aB ps wi).tkL i=ti at HSW htk HNC HCC
   have hwi:IntKind.i64.wrap (-ti) = -ti:=cJ (by omega)
   have HS:=hid (HSW.out v3 k3 cc3 s4 wr D2.out T2.out)
   have HSd:=hid (HSW.out v3 k3 cc3 s4 wr.drew (D2.out.keep (aA.drew (aA.refl _))) (T2.out.trans (Cn.aF.keep (aA.drew (aA.refl _)))))
   go_upto_region 19 with fail
   go_region_held3 (fun W'=>W'.cell? ⟨x.b,1,none⟩=some (.slice (some ⟨tb,tof,none⟩) ps.length tc)/\W'.cell? ⟨tb,tof+i,none⟩=some (.int .i64 ti))
    (first | with_reducible exact HS.out | with_reducible exact HSd.out | with_reducible exact HS8.out | with_reducible exact HS9.out | with_reducible exact HS10.out | go_keep)
    (first
     | (go_at_call 95;refine HCN.out.mono ?_;rintro e w8 ⟨rfl,v5,k5,c5,d5,t5⟩;have D8:=hid d5;have T8:=hid t5;have HS8:=hid (HSW.out v5 k5 c5 _ w8 d5 t5);have HS9:=hid (HSW.out v5 k5 c5 _ (w8.alloc (.cells #[.int .i64 (-ti),.int .i64 r5.2] 3)) (d5.keep (aA.alloc _ _)) (t5.trans (Cn.aF.keep (aA.alloc _ _))));clear d5 t5)
     | (go_at_call 93;refine (HCC.out v5 k5 c5 w8 D8.out T8.out).mono ?_;rintro e w9 ⟨rfl,v6,c6,d6,t6⟩;have D9:=hid d6;have T9:=hid t6;have HS10:=hid (HSW.out v6 k5 c6 _ w9 d6 t6);clear d6 t6))
   rw [← HNC.out] at D9
   have V9:=hid (HVT.out v6 k5 c6 w9 T9.out)
   go_wp2_with fail
   refine (aKq ps wi (x.to v6 k5 c6) b (ndC ps (aB ps wi) i s4) i w9 (10000+200) (100000+2001) h8 hok h14 hlt D9.out V9.out.2.2.2.2 HBN.out (by omega)).mono ?_
   rintro e w10 ⟨rfl,v7,c7,d7,t7⟩
   have D10:=hid d7
   have T10:=hid (T9.out.trans t7)
   clear d7 t7
   go_wp2_with fail
   go_roundg (ps.length-(i+1))
   case rel=>exact ⟨i+1,v7,k5,c7,by omega,by go_num,by rw [HNX.out,HPK.out];exact D10.out,T10.out⟩
   case measure=>omega
  have hie:i=ps.length:=by omega
  have HEN:=hid (show (List.range i).foldl (pkS ps (aB ps wi)) s2=dQ ps wi by rw [hie,HS2.out,HS1.out];rfl)
  rw [HEN.out] at D2
  have hnl : ¬ ((i:Int)<(ps.length:Int)):=by omega
  have hx4:wr.cell? ⟨x.b,4,none⟩=some (.int .i64 ((dQ ps wi).n:Nat)):=D2.out.box.facts.1 4
  have hx5:wr.cell? ⟨x.b,5,none⟩=some v3:=D2.out.box.facts.1 5
  have hxl:x.b<wr.heap.size:=D2.out.box.facts.2.2
  have hf0:wr.cell? ⟨b+2,0,none⟩=some (.int .i64 0):=V2.out.2.2.1.facts.1 0
  have hf1:wr.cell? ⟨b+2,1,none⟩=some (.slice none 0 0):=V2.out.2.2.1.facts.1 1
  have hff0:=V2.out.2.2.1.facts.2.1 0
  have hff1:=V2.out.2.2.1.facts.2.1 1
  have hfl:=V2.out.2.2.1.facts.2.2
  have HOB:=hid (show ∀ c,(x.to v3 k3 cc3).own c->c≠b+2 from fun c ho e=>by
   rcases T2.out.new c ho with h1 | h1
   ·exact HNO.out c (by omega) h1
   ·omega)
  obtain ⟨cp,ccap,hv3⟩:=D2.out.row.shape
  have hv3:v3=.slice cp (dQ ps wi).cl.length ccap:=hv3
  rw [hv3] at hx5
  have HV3:=hid hv3
  clear hie hj HEN HB4 HB3 HS1 HS2 hv3
  go_wp2_with fail
  refine cE (v:= .tuple #[.agg #[.int .i64 ((dQ ps wi).n:Nat),.slice cp (dQ ps wi).cl.length ccap],.int .i64 0]) (fun W'=>aD (b+2) 79 #[.int .i64 ((dQ ps wi).n:Nat),.slice cp (dQ ps wi).cl.length ccap] W'/\aA w W'/\Cn.DM (x.to v3 k3 cc3) b (dQ ps wi) W') ?_ rfl ?_
  ·have hso : ∀ (u1 u2:Value) c,c≠b+2->((wr.setCell ⟨b+2,0,none⟩ u1).setCell ⟨b+2,1,none⟩ u2).heap[c]? = wr.heap[c]? :=fun u1 u2 c hc=>(Cn.dM _ _ _ _ hc).trans (Cn.dM _ _ _ _ hc)
   exact ⟨(V2.out.2.2.1.set 0 _).set 1 _,aA.set (aA.set V2.out.2.2.2.1 (p:=⟨b+2,0,none⟩) (by have:=HB.out;show _<=b+2;omega) _) (p:=⟨b+2,1,none⟩) (by have:=HB.out;show _<=b+2;omega) _,D2.out.other (by rw [Cn.fV,Cn.fV];exact Nat.le_refl _) fun c ho=>hso _ _ c (HOB.out c ho)⟩
  rintro W ⟨hbW,hkW,hdW⟩
  have hW0:W.cell? ⟨b+2,0,none⟩=some (.int .i64 ((dQ ps wi).n:Nat)):=hbW.facts.1 0
  have hW1:W.cell? ⟨b+2,1,none⟩=some (.slice cp (dQ ps wi).cl.length ccap):=hbW.facts.1 1
  refine ⟨by simp [results,Tryz.results37,go_sem,hW0,hW1],hkW,.inr ⟨HZ.out,_,rfl,?_⟩⟩
  have hcl:=hdW.row.cls
  rw [show (x.to v3 k3 cc3).cv=v3 from rfl,HV3.out] at hcl
  refine hcl.mono (fun _ _=>rfl) fun c hc=> ?_
  rw [← HB.out]
  rcases hc with h1 | h1
  ·exact hdW.lt (.inr (.inr (.inr h1)))
  ·exact hdW.lt (.inr (.inl (by rw [show (x.to v3 k3 cc3).cv=v3 from rfl,HV3.out];exact h1)))
 ·have hz1:(bE ps wi==0)=false:=by simpa using hz
  have hz2:(bE ps wi != 0)=true:=by simp [bne,hz1]
  have HZ:=hid hz
  generalize hcw:bE ps wi=cw at hz1 hz2 ⊢
  have HCW:=hid hcw
  have hf0:W1.cell? ⟨b+2,0,none⟩=some (.int .i64 0):=F1.out.facts.1 0
  have hf1:W1.cell? ⟨b+2,1,none⟩=some (.slice none 0 0):=F1.out.facts.1 1
  have hff0:=F1.out.facts.2.1 0
  have hff1:=F1.out.facts.2.1 1
  have hfl:=F1.out.facts.2.2
  clear hz hcw
  go_wp2_with fail
  refine cE (v:= .tuple #[.agg #[.int .i64 0,.slice none 0 0],.int .i64 cw]) (fun W'=>aD (b+2) 79 #[.int .i64 0,.slice none 0 0] W'/\aA w W') ⟨(F1.out.set 0 (.int .i64 0)).set 1 (.slice none 0 0),aA.set (aA.set K1.out (p:=⟨b+2,0,none⟩) (by have:=HB.out;show _<=b+2;omega) _) (p:=⟨b+2,1,none⟩) (by have:=HB.out;show _<=b+2;omega) _⟩ rfl ?_
  rintro W ⟨hbW,hkW⟩
  have hW0:W.cell? ⟨b+2,0,none⟩=some (.int .i64 0):=hbW.facts.1 0
  have hW1:W.cell? ⟨b+2,1,none⟩=some (.slice none 0 0):=hbW.facts.1 1
  exact ⟨by simp [results,Tryz.results37,go_sem,hW0,hW1],hkW,.inl ⟨HZ.out,by rw [HCW.out]⟩⟩
theorem cY (x:Int) (w:World) (h:x.natAbs<=900000):Calls Tryz.prog 83 #[.int .i64 x] w fun e w'=>e=.returned (.int .i64 (x.natAbs:Nat))/\w'=w:=by
 have hw:IntKind.i64.wrap (-x) = -x:=cJ (by omega)
 have hmax:max x (-x)=(x.natAbs:Int):=by omega
 go_enter Tryz.func83,Tryz.ntmps83
 go_wp2_with fail
 go_ret
 exact ⟨rfl,rfl⟩
theorem zV (S:Nat->Prop) (md:List Bool) (mdv:Value) (mb:Nat) (x:Int) (w:World) (hS : ∀ b,S b->b<w.heap.size) (hv:aE mb 62 mdv w) (hmd:aZ S w md mdv) (h0:x≠0) (hx:x.natAbs<=md.length) (hl:md.length<=400) :
  Calls Tryz.prog 97 #[.int .i64 x,.pointer (some ⟨mb,0,none⟩)] w fun e w'=>e=.returned (.bool (Cn.inM md x))/\aA w w':=by
 obtain ⟨mp,mc,rfl,-,-⟩:=id hmd
 obtain ⟨qb,qo,rfl,hqb,hq⟩:=hmd.cell (q:=x.natAbs-1) (by omega)
 have hql:=hS qb hqb
 have hc:=hv.facts.1
 have hvl:=hv.facts.2.2
 have HIN:=hid (show Cn.inM md x=(md.getD (x.natAbs-1) false==decide (0<x)) from rfl)
 generalize md.getD (x.natAbs-1) false=g at hq HIN
 obtain ⟨n,hn⟩ : ∃ n:Nat,x.natAbs=n+1:=⟨x.natAbs-1,by omega⟩
 obtain ⟨u,hu⟩ : ∃ u:Int,u=(n:Int)+1:=⟨_,rfl⟩
 have HV:=hid (show ∀ W,Calls Tryz.prog 83 #[.int .i64 x] W fun e w'=>e=.returned (.int .i64 u)/\w'=W from fun W=>(cY x W (by omega)).mono fun e w' h=>⟨by rw [h.1,hn,hu];rfl,h.2⟩)
 have hnI:(n:Int)<(md.length:Int):=by omega
 have hwn:IntKind.i64.wrap (u-1)=n:=by rw [hu,Int.add_sub_cancel];exact cJ (by omega)
 rw [hn,Nat.add_sub_cancel] at hq
 have HN:=hid hn
 clear hn hx hu
 have HS:=hid (show w.cell? ⟨mb,0,none⟩=some (.slice (some ⟨qb,qo,none⟩) md.length mc)/\w.cell? ⟨qb,qo+n,none⟩=some (.bool g) from ⟨hc,hq⟩)
 have HSd:=hid (show w.drew.cell? ⟨mb,0,none⟩=some (.slice (some ⟨qb,qo,none⟩) md.length mc)/\w.drew.cell? ⟨qb,qo+n,none⟩=some (.bool g) from ⟨hc,hq⟩)
 go_enter Tryz.func97,Tryz.ntmps97
 go_upto_region 1 with fail
 go_region_held3 (fun W'=>W'.cell? ⟨mb,0,none⟩=some (.slice (some ⟨qb,qo,none⟩) md.length mc)/\W'.cell? ⟨qb,qo+n,none⟩=some (.bool g))
  (first | with_reducible exact HS.out | with_reducible exact HSd.out | go_keep)
  (first | (go_at_call 83;refine (HV.out _).mono ?_;rintro e w9 ⟨rfl,hw9⟩;rw [hw9];clear hw9))
 have K9:=hid (aA.drew (aA.refl w))
 go_wp2_with fail
 go_ret
 exact ⟨by rw [HIN.out];rfl,K9.out⟩
theorem tH {rb:Nat} {row:List Int} {x:Int} {w:World} (h:aD rb 3 (row.map (Value.int .i64)).toArray w):aD rb 3 ((Cn.vI row x).map (Value.int .i64)).toArray (w.setCell ⟨rb,x.natAbs-1,none⟩ (.int .i64 x)):=by
 have:=h.set (x.natAbs-1) (.int .i64 x)
 rwa [List.setIfInBounds_toArray,← List.map_set] at this
theorem fL (row:List Int) (lb rb:Nat) (x:Int) (w:World) (hv:aE lb 37 (.slice (some ⟨rb,0,none⟩) row.length row.length) w) (hb:aD rb 3 (row.map (Value.int .i64)).toArray w) (hne:lb≠rb) (h0:x≠0) (hx:x.natAbs<=row.length) (hl:row.length<=400) :
  Calls Tryz.prog 82 #[.int .i64 x,.pointer (some ⟨lb,0,none⟩)] w fun e w'=>e=.returned (.tuple #[])/\aD rb 3 ((Cn.vI row x).map (Value.int .i64)).toArray w'/\Cn.aF (fun c=>c=rb) (fun c=>c=rb) w w':=by
 have HDN:=hid (show aD rb 3 ((Cn.vI row x).map (Value.int .i64)).toArray (w.setCell ⟨rb,x.natAbs-1,none⟩ (.int .i64 x)).drew/\Cn.aF (fun c=>c=rb) (fun c=>c=rb) w (w.setCell ⟨rb,x.natAbs-1,none⟩ (.int .i64 x)).drew from ⟨tH hb,(Cn.aF.set (fun c=>c=rb) _ _ _ _ rfl).trans (Cn.aF.keep (aA.drew (aA.refl _)))⟩)
 have hc:=hv.facts.1
 have hvl:=hv.facts.2.2
 have hff:=hb.facts.2.1 (x.natAbs-1)
 have hrl:=hb.facts.2.2
 have hcl:w.cell? ⟨rb,x.natAbs-1,none⟩=some (.int .i64 (row.getD (x.natAbs-1) 0)):=by
  rw [hb.facts.1,List.getElem?_toArray,List.getElem?_map,List.getD_eq_getElem?_getD,List.getElem?_eq_getElem (by omega)];rfl
 obtain ⟨n,hn⟩ : ∃ n:Nat,x.natAbs=n+1:=⟨x.natAbs-1,by omega⟩
 obtain ⟨u,hu⟩ : ∃ u:Int,u=(n:Int)+1:=⟨_,rfl⟩
 have HV:=hid (show ∀ W,Calls Tryz.prog 83 #[.int .i64 x] W fun e w'=>e=.returned (.int .i64 u)/\w'=W from fun W=>(cY x W (by omega)).mono fun e w' h=>⟨by rw [h.1,hn,hu];rfl,h.2⟩)
 have hnI:(n:Int)<(row.length:Int):=by omega
 have hwn:IntKind.i64.wrap (u-1)=n:=by rw [hu,Int.add_sub_cancel];exact cJ (by omega)
 rw [hn,Nat.add_sub_cancel] at hcl hff HDN
 generalize row.getD n 0=old at hcl
 clear hn hx hu
 have hso:(w.setCell ⟨rb,n,none⟩ (.int .i64 x)).drew.cell? ⟨lb,0,none⟩=some (.slice (some ⟨rb,0,none⟩) row.length row.length):=(World.cell?_of_block (w:=w) (w':=w.setCell ⟨rb,n,none⟩ (.int .i64 x)) (a:=⟨lb,0,none⟩) (Cn.dM _ _ _ _ hne)).trans hc
 have HS:=hid (show w.cell? ⟨lb,0,none⟩=some (.slice (some ⟨rb,0,none⟩) row.length row.length) from hc)
 have HSd:=hid (show w.drew.cell? ⟨lb,0,none⟩=some (.slice (some ⟨rb,0,none⟩) row.length row.length) from hc)
 have HSs:=hid hso
 clear hso
 go_enter Tryz.func82,Tryz.ntmps82
 go_region_held3 (fun W'=>W'.cell? ⟨lb,0,none⟩=some (.slice (some ⟨rb,0,none⟩) row.length row.length))
  (first | with_reducible exact HS.out | with_reducible exact HSd.out | with_reducible exact HSs.out | go_keep)
  (first | (go_at_call 83;refine (HV.out _).mono ?_;rintro e w9 ⟨rfl,hw9⟩;rw [hw9];clear hw9))
 generalize (w.setCell ⟨rb,n,none⟩ (.int .i64 x)).drew=W9 at HDN ⊢
 go_wp2_with fail
 refine bodyPost_end (results_none rfl _ _ _) rfl ?_
 exact ⟨rfl,HDN.out⟩
end Go.Proofs.YthaaaecmeafofaaGreatDoor
