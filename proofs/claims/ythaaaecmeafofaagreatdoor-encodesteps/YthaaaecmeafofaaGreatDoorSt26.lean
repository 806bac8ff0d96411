/- Steps of the proof: EncSet, NeedNeeded, TreeForest, ValidSmall, ValidAllowed, RefSame, TreeSame, TreeSet, EqualInts. -/
import Derived.Test.YthaaaecmeafofaaGreatDoorSt24
import Derived.Test.YthaaaecmeafofaaGreatDoorSt21
import Derived.Test.YthaaaecmeafofaaGreatDoorSt14
import Derived.Test.YthaaaecmeafofaaGreatDoorSt07
import Derived.Test.YthaaaecmeafofaaGreatDoorSt09
import Derived.Test.YthaaaecmeafofaaGreatDoorSt25
import Derived.BigRegion
import Derived.Test.YthaaaecmeafofaaGreatDoorSt10
import Derived.Shelf.Spec.SlicesGrow
import Derived.Laws.AppendOwnNone
import Derived.Sort.OwnSortedInts
set_option maxHeartbeats 16000000
set_option maxRecDepth 100000
namespace Go.Proofs.YthaaaecmeafofaaGreatDoor
open Go.RowKit
theorem enter_holds (args:Array Value) (w:World):(callFunc 97 args).run Tryz.prog w=.ok (.enter 97 args) w:=enters_of Tryz.func97 (by kernel_rfl) rfl args w
def aMq (ps:List PK) (wi:WI) (md:List Bool) (w:World) (e:Ending) (w':World):Prop:=
 aA w w'/\((cQ ps wi≠0/\e=.returned (.tuple #[.slice none 0 0,.int .i64 (cQ ps wi)]))∨(cQ ps wi=0/\(md.length<(aB ps wi).many∨400<md.length)/\e=.returned (.tuple #[.slice none 0 0,.int .i64 4]))∨(cQ ps wi=0/\(aB ps wi).many<=md.length/\md.length<=400/\∃ v,e=.returned (.tuple #[v,.int .i64 0])/\bX (fun c=>w.heap.size<=c/\c<w'.heap.size) w' (dT ps wi md) v))
def tQ (c:Cn.CT) (md:List Bool) (j:Nat):List MB:=((List.range j).filterMap fun i=>if c.takes md i then some (i,c.flags md i) else none).map aKu
def flJ (c:Cn.CT) (md:List Bool) (i k:Nat):List Bool:=(List.range k).map fun k=>md.getD (c.base i+k) false != c.on i k
theorem wB (c:Cn.CT) (md:List Bool) (j:Nat):tQ c md (j+1)=tQ c md j++(if c.takes md j=true then [⟨(j:Int),c.flags md j⟩] else []):=by
 unfold tQ
 rw [List.range_succ,List.filterMap_append,List.map_append]
 congr 1
 by_cases h:c.takes md j=true
 ·simp [h,aKu]
 ·simp [h]
theorem aBi (c:Cn.CT) (md:List Bool) : ∀ j,(tQ c md j).length<=j
 | 0=>by simp [tQ]
 | j+1=>by
  have:=aBi c md j
  rw [wB,List.length_append]
  split<;>simp<;>omega
theorem aJz (c:Cn.CT) (md:List Bool) (i k:Nat):flJ c md i (k+1)=flJ c md i k ++ [Cn.inM md (c.fgL i k)]:=by
 unfold flJ
 rw [List.range_succ,List.map_append,Cn.CT.fg_in];rfl
theorem aEz (c:Cn.CT) (md:List Bool) (i k:Nat):(flJ c md i k).length=k:=by simp [flJ]
structure SB (ps:List PK) (wi:WI) (cb tb g:Nat) (W:World):Prop where
 bx:aD cb 134 #[.int .i64 (aB ps wi).many,.slice (some ⟨tb,0,none⟩) ps.length ps.length,.map (some g)] W
 tk:Cn.aK (fun b=>b=tb) W (aB ps wi).tks (.slice (some ⟨tb,0,none⟩) ps.length ps.length)
 fg : ∃ k,Cn.fO g k ((aB ps wi).fgs wi.on) W
 lt:tb<W.heap.size
theorem SB.keep {ps:List PK} {wi:WI} {cb tb g:Nat} {W W':World} (h:SB ps wi cb tb g W) (k:aA W W'):SB ps wi cb tb g W':=by
 obtain ⟨n,hf⟩:=h.fg
 exact ⟨h.bx.keep k h.bx.facts.2.2,h.tk.keep (B:=W.heap.size) (fun c hc=>by have e:c=tb:=hc;have:=h.lt;omega) k,⟨n,hf.keep k⟩,Nat.lt_of_lt_of_le h.lt k.size⟩
theorem aNx (S:Nat->Prop) (ps:List PK) (wi:WI) (md:List Bool) (pv tsv inv mav onv mdv:Value) (w:World) (hS : ∀ b,S b->b<w.heap.size) (hp:bD S w ps pv) (hw:fR S w wi tsv inv mav onv) (hm:aZ S w md mdv) :
  Calls Tryz.prog 38 #[.agg #[pv],.agg #[tsv,inv,mav,onv],mdv] w fun e w'=>aMq ps wi md w e w':=by
 obtain ⟨i0,hi,hz0,hz1,hz2⟩:=info_parts aOw
 obtain ⟨im,hmi,hmz0,hmz1,hmz2⟩:=info_parts aOx
 have HP:=hid hp
 have HW:=hid hw
 have HM:=hid hm
 have hent:=enter_holds
 obtain ⟨pp,pc,hpv,hplen⟩:=hp.len
 subst hpv
 obtain ⟨mp,mc,hmv,hmlen,-⟩:=id hm
 subst hmv
 clear hp hw hm
 go_enter Tryz.func38,Tryz.ntmps38
 go_upto_region 1 with fail
 refine bJ (fun W'=>aA w W'/\aE w.heap.size 24 (.slice pp ps.length pc) W'/\aD (w.heap.size+1) 46 #[tsv,inv,mav,onv] W'/\aE (w.heap.size+2) 62 (.slice mp md.length mc) W') ⟨((aA.alloc _ _).alloc' _).alloc' _,((aE.new _ _ _).keep (aA.alloc _ _) (by simp)).keep (aA.alloc _ _) (by simp;omega),?_,?_⟩ ?_
 ·have h1:=aD.new (w.alloc (.cells #[.slice pp ps.length pc] 24)) 46 #[tsv,inv,mav,onv]
  rw [aC] at h1
  exact h1.keep (aA.alloc _ _) h1.facts.2.2
 ·have h1:=aE.new ((w.alloc (.cells #[.slice pp ps.length pc] 24)).alloc (.cells #[tsv,inv,mav,onv] 46)) 62 (.slice mp md.length mc)
  rw [aC,aC] at h1
  exact h1
 rintro W1 ⟨k1,v1,b1,m1⟩
 have K1:=hid k1
 have V1:=hid v1
 have B1:=hid b1
 have M1:=hid m1
 obtain ⟨b,hb⟩ : ∃ b,b=w.heap.size:=⟨_,rfl⟩
 rw [← hb] at V1 B1 M1 ⊢
 have HB:=hid hb
 clear k1 v1 b1 hb m1
 have ht0:=V1.out.facts.1
 have htl:=V1.out.facts.2.2
 have hw0:W1.cell? ⟨b+1,0,none⟩=some tsv:=B1.out.facts.1 0
 have hw1:W1.cell? ⟨b+1,1,none⟩=some inv:=B1.out.facts.1 1
 have hw2:W1.cell? ⟨b+1,2,none⟩=some mav:=B1.out.facts.1 2
 have hw3:W1.cell? ⟨b+1,3,none⟩=some onv:=B1.out.facts.1 3
 have hwl:=B1.out.facts.2.2
 go_wp2_with fail
 refine (jE S ps wi _ _ _ _ _ W1 (fun c hc=>Nat.lt_of_lt_of_le (hS c hc) K1.out.size) (HP.out.keep hS K1.out) (HW.out.keep hS K1.out)).mono ?_
 rintro e W2 ⟨rfl,k2⟩
 have K2:=hid (K1.out.trans k2)
 have V2:=hid (V1.out.keep k2 V1.out.facts.2.2)
 have B2:=hid (B1.out.keep k2 B1.out.facts.2.2)
 have M2:=hid (M1.out.keep k2 M1.out.facts.2.2)
 clear ht0 htl hw0 hw1 hw2 hw3 hwl V1 B1 M1 K1 k2
 by_cases hz:cQ ps wi=0
 ·have hz1':(cQ ps wi==0)=true:=by simpa using hz
  have hz2':(cQ ps wi != 0)=false:=by simp [bne,hz1']
  have HZ:=hid hz
  obtain ⟨hT,hTS,-,-,-,-,-,hone⟩:=fZ hz
  rw [hz] at hz1' hz2' ⊢
  obtain ⟨h8,hf2,-,hin,hil,-⟩:=fX hTS
  have hok:=lJ hTS
  have h14:=(oY wi hT).1
  have hon:=tK hone h8 hf2
  have ht0:=V2.out.facts.1
  have htl:=V2.out.facts.2.2
  have hw0:W2.cell? ⟨b+1,0,none⟩=some tsv:=B2.out.facts.1 0
  have hw1:W2.cell? ⟨b+1,1,none⟩=some inv:=B2.out.facts.1 1
  have hw2:W2.cell? ⟨b+1,2,none⟩=some mav:=B2.out.facts.1 2
  have hw3:W2.cell? ⟨b+1,3,none⟩=some onv:=B2.out.facts.1 3
  have hwl:=B2.out.facts.2.2
  clear hz hone
  go_wp2_with fail
  refine (nP S ps wi _ _ _ _ _ W2 (fun c hc=>Nat.lt_of_lt_of_le (hS c hc) K2.out.size) (HP.out.keep hS K2.out) (HW.out.keep hS K2.out) h8 hf2 hok hin hil h14 hon).mono ?_
  rintro e w8 ⟨g,kk,rfl,htk,hfg,hge,k8⟩
  have G1:=hid htk
  have G2:=hid hfg
  have K8:=hid (K2.out.trans k8)
  have V8:=hid (V2.out.keep k8 V2.out.facts.2.2)
  have M8:=hid (M2.out.keep k8 M2.out.facts.2.2)
  have hgl:=hfg.lt
  have hsz:W2.heap.size+3<w8.heap.size:=by omega
  have HSZ:=hid hsz
  clear htk hfg hge k8 ht0 htl hw0 hw1 hw2 hw3 hwl V2 B2 M2 hgl hsz
  go_upto_region 5 with fail
  refine bJ (fun W'=>aA w8 W'/\SB ps wi w8.heap.size (W2.heap.size+3) g W') ⟨aA.alloc _ _,aD.new _ _ _,G1.out.keep (B:=w8.heap.size) (fun c hc=>by have e:c=W2.heap.size+3:=hc;have:=HSZ.out;omega) (aA.alloc _ _),⟨_,G2.out.keep (aA.alloc _ _)⟩,by rw [aC];have:=HSZ.out;omega⟩ ?_
  rintro W3 ⟨k3,b3⟩
  have B3:=hid b3
  have K3:=hid (K8.out.trans k3)
  have V3:=hid (V8.out.keep k3 V8.out.facts.2.2)
  have M3:=hid (M8.out.keep k3 M8.out.facts.2.2)
  have hc0:W3.cell? ⟨w8.heap.size,0,none⟩=some (.int .i64 (aB ps wi).many):=b3.bx.facts.1 0
  have hcl:=b3.bx.facts.2.2
  have hm0:=M3.out.facts.1
  have hml:=M3.out.facts.2.2
  have ht0:=V3.out.facts.1
  have htl:=V3.out.facts.2.2
  clear k3 b3 G1 G2 HSZ K8 V8 M8
  generalize W2.heap.size+3=tb at B3
  generalize w8.heap.size=cb at B3 hc0 hcl ⊢
  by_cases h1:md.length<(aB ps wi).many
  ·have h1I:(md.length:Int)<((aB ps wi).many:Int):=by omega
   go_wp2_with fail
   refine dL (v:= .tuple #[.slice none 0 0,.int .i64 4]) (fun W'=>aA w W') K3.out rfl ?_
   rintro W hkW
   exact ⟨by simp [results,Tryz.results38,go_sem],hkW,.inr (.inl ⟨HZ.out,.inl h1,rfl⟩)⟩
  by_cases h2:400<md.length
  ·have h1I : ¬ ((md.length:Int)<((aB ps wi).many:Int)):=by omega
   have h2I:(400:Int)<(md.length:Int):=by omega
   go_wp2_with fail
   refine dL (v:= .tuple #[.slice none 0 0,.int .i64 4]) (fun W'=>aA w W') K3.out rfl ?_
   rintro W hkW
   exact ⟨by simp [results,Tryz.results38,go_sem],hkW,.inr (.inl ⟨HZ.out,.inr h2,rfl⟩)⟩
  have h1I : ¬ ((md.length:Int)<((aB ps wi).many:Int)):=by omega
  have h2I : ¬ ((400:Int)<(md.length:Int)):=by omega
  go_wp2_with fail
  clear hm0 hml ht0 htl hc0 hcl h1I h2I
  have HLA:=hid (show ∀ W,aA W3 W->SB ps wi cb tb g W/\aE (b+2) 62 (.slice mp md.length mc) W/\aA w W from fun W k=>⟨B3.out.keep k,M3.out.keep k M3.out.facts.2.2,K3.out.trans k⟩)
  have HHO:=hid (show ∀ W,aA W3 W->∀ x:Int,x≠0->x.natAbs<=(aB ps wi).many->Calls Tryz.prog 97 #[.int .i64 x,.pointer (some ⟨b+2,0,none⟩)] W fun e w'=>e=.returned (.bool (Cn.inM md x))/\aA W w' from fun W k x h0 hx=>xV S md _ (b+2) x W (fun c hc=>Nat.lt_of_lt_of_le (hS c hc) (K3.out.trans k).size) (HLA.out W k).2.1 (HM.out.keep hS (K3.out.trans k)) h0 (by omega) (by omega))
  have hcb3:cb<W3.heap.size:=B3.out.bx.facts.2.2
  have hg3:g<W3.heap.size:=by obtain ⟨_,hf⟩:=B3.out.fg;exact hf.lt
  go_loopg [11,39] ps.length (fun gk lv iv wq=> ∃ j:Nat,j+gk=ps.length/\iv=.int .i64 j/\fG W3.heap.size lv (tQ (aB ps wi) md j) wq/\aA W3 wq)
  case atStart=>exact ⟨0,by omega,rfl,fG.nil _ _,aA.refl _⟩
  case round=>
  obtain ⟨j,hj,rfl,hrow,hk⟩:=hrel
  have R1:=hid hrow
  have K1:=hid hk
  clear hrow hk
  by_cases hlt:j<ps.length
  ·obtain ⟨qb,qo,qcap,hqv,hqb,-,hrow⟩:=(HP.out.keep hS (K3.out.trans K1.out)).get hlt
   cases hqv
   obtain ⟨cs,hcs,hpj⟩:=hrow j hlt
   have hfl2:=hf2 _ (List.getElem_mem hlt)
   have hqbl:qb<wr.heap.size:=Nat.lt_of_lt_of_le (hS qb hqb) (K3.out.trans K1.out).size
   have hjI:(j:Int)<(ps.length:Int):=by omega
   have hnl2:=bV ps wi
   have HNG:=hid (show (aB ps wi).nf.getD j 0=ps[j].fl.length by rw [kR wi hlt,eN ps j hlt])
   have HSR:=hid (wB (aB ps wi) md j)
   have hal:=aBi (aB ps wi) md j
   obtain ⟨htk0,htkn⟩:=Cn.CT.tk_lit hok (i:=j) (by omega)
   have HTT:=hid (Cn.CT.tk_in (aB ps wi) md j)
   have HFLL:=hid (show (aB ps wi).flags md j=flJ (aB ps wi) md j ps[j].fl.length by unfold Cn.CT.flags flJ;rw [HNG.out])
   obtain ⟨tb',tof,htp,htb',htc⟩:=(show Cn.aK (fun b=>b=tb) wr (aB ps wi).tks (.slice (some ⟨tb,0,none⟩) (aB ps wi).tks.length ps.length) from by rw [Cn.CT.tks_len,hnl2];exact (HLA.out wr K1.out).1.tk).nth (k:=j) (by rw [Cn.CT.tks_len];omega)
   cases htp
   have hct:=htc j _ (Cn.CT.tks_get (aB ps wi) (i:=j) (by omega))
   rw [Nat.zero_add] at hct
   have htbl:tb<wr.heap.size:=(HLA.out wr K1.out).1.lt
   have HFG:=hid (show ∀ k,k<ps[j].fl.length->(aB ps wi).fgs wi.on (j:Int) (k:Int)=(aB ps wi).fgL j k/\(aB ps wi).fgL j k≠0/\((aB ps wi).fgL j k).natAbs<=(aB ps wi).many from fun k hk=>by
    have hk2:k<(aB ps wi).nf.getD j 0:=by rw [HNG.out];exact hk
    exact ⟨Cn.CT.fgs_get (c:=aB ps wi) (on:=wi.on) (fun _ _=>rfl) (by rw [bV];exact hlt) hk2,(Cn.CT.fg_lit (aB ps wi) (i:=j) (k:=k) (by rw [bV];exact hlt) hk2).1,(Cn.CT.fg_lit (aB ps wi) (i:=j) (k:=k) (by rw [bV];exact hlt) hk2).2⟩)
   have HHT:=hid (show ∀ W,aA wr W->Calls Tryz.prog 97 #[.int .i64 ((aB ps wi).tkL j),.pointer (some ⟨b+2,0,none⟩)] W fun e w'=>e=.returned (.bool ((aB ps wi).takes md j))/\aA W w' from fun W k=>HTT.out ▸ HHO.out W (K1.out.trans k) _ htk0 htkn)
   generalize ps[j]=q at hpj hfl2 HNG HFLL HFG
   obtain ⟨kd,a,fl,nt,kids,kp,fp,kc,fc,-,hfl,rfl,-,-⟩:=hpj.spelt
   obtain ⟨c0,c1,c2,c3,c4,c5,c6,c7,c8,c9,c10,c11,c12,c13⟩:=dQ hcs
   clear hrow hcs hpj htc htb'
   generalize hace:tQ (aB ps wi) md j=acc at HSR hal R1
   obtain ⟨xp,xc,hxv⟩:=R1.out.shape
   subst hxv
   clear hace hnl2
   generalize (aB ps wi).tkL j=tn at hct htk0 htkn HTT HHT
   go_upto_region 12 with fail
   refine bJ (fun W'=>aA wr W'/\aD wr.heap.size 76 #[.string q.n,.int .i64 q.v,.int .i64 q.sl,.slice fp q.fl.length fc,.int .i64 kd,.string a.n,.int .i64 a.op,.int .i64 a.v,.int .i64 a.sl,.string a.f,.bool a.on,.string fl,.bool nt,.slice kp kids.length kc] W') ⟨aA.alloc _ _,aD.new _ _ _⟩ ?_
   rintro W4 ⟨k4,b4⟩
   have KR:=hid (K1.out.trans k4)
   have R4:=hid (R1.out.keep k4)
   have B4:=hid b4
   have hct4:=(k4.cell (p:=⟨tb,j,none⟩) htbl).trans hct
   have htbl4:tb<W4.heap.size:=Nat.lt_of_lt_of_le htbl k4.size
   have hx1:W4.cell? ⟨cb,1,none⟩=some (.slice (some ⟨tb,0,none⟩) ps.length ps.length):=(HLA.out W4 KR.out).1.bx.facts.1 1
   have hxl:=(HLA.out W4 KR.out).1.bx.facts.2.2
   have HHT4:=hid (HHT.out W4 k4)
   clear k4 b4 c0 c1 c2 c3 c4 c5 c6 c7 c8 c9 c10 c11 c12 c13 R1 hct htbl HHT
   generalize wr.heap.size=bp at B4 ⊢
   go_wp2_with fail
   refine HHT4.out.mono ?_
   rintro e W5 ⟨rfl,k5⟩
   have KS:=hid (KR.out.trans k5)
   have R5:=hid (R4.out.keep k5)
   have B5p:=hid (B4.out.keep k5 B4.out.facts.2.2)
   have hf3:W5.cell? ⟨bp,3,none⟩=some (.slice fp q.fl.length fc):=B5p.out.facts.1 3
   have hfl3:=B5p.out.facts.2.2
   clear k5 R4 B4 hct4 htbl4 hx1 hxl HHT4
   cases htj:(aB ps wi).takes md j with
   | false=>
    have HSR2:=hid (HSR.out.trans (by rw [if_neg (by rw [htj];simp),List.append_nil]))
    clear htj HSR
    go_wp2_with fail
    go_roundg (ps.length-(j+1))
    case rel=>exact ⟨j+1,by omega,by go_num,by rw [HSR2.out];exact R5.out,KS.out⟩
    case measure=>omega
   | true=>
    have HSR2:=hid (HSR.out.trans (by rw [if_pos htj]))
    clear htj HSR
    go_upto_region 14 with fail
    refine bJ (fun W'=>aA W5 W'/\aD W5.heap.size 64 #[.int .i64 j,.slice none 0 0] W') ⟨aA.alloc _ _,aD.new _ _ _⟩ ?_
    rintro W6 ⟨k6,b6⟩
    have K6m:=hid k6
    have B6m:=hid b6
    have hf6:W6.cell? ⟨bp,3,none⟩=some (.slice fp q.fl.length fc):=(k6.cell (p:=⟨bp,3,none⟩) hfl3).trans hf3
    have hfl6:bp<W6.heap.size:=Nat.lt_of_lt_of_le hfl3 k6.size
    clear k6 b6 hf3 hfl3
    generalize hbm:W5.heap.size=bm at B6m ⊢
    have HBM:=hid hbm
    clear hbm
    have hcbm:cb<bm:=by have:=HBM.out;have:=KS.out.size;omega
    have hgbm:g<bm:=by have:=HBM.out;have:=KS.out.size;omega
    obtain ⟨wj,rfl⟩ : ∃ wj:World,wj=wr:=⟨_,rfl⟩
    go_wp2_with fail
    go_loopg [57] q.fl.length (fun gk kv wq=> ∃ (k:Nat) (mv:Value),k+gk=q.fl.length/\kv=.int .i64 k/\aD bm 64 #[.int .i64 j,mv] wq/\wq.ownsRow (bm+1) 4 1 mv k ((flJ (aB ps wi) md j k).map Value.bool)/\aA W5 wq)
    case atStart=>exact ⟨0,_,by omega,rfl,B6m.out,World.ownsRow_nil _ _ _ _,K6m.out⟩
    case round=>
     obtain ⟨k,mv,hk,rfl,hb,ho,hkk⟩:=hrel
     have B5:=hid hb
     have O5:=hid ho
     have K5:=hid hkk
     clear hb ho hkk B6m K6m hf6 hfl6
     obtain ⟨hbc,hbf,hbl⟩:=B5.out.facts
     by_cases hlt2:k<q.fl.length
     ·obtain ⟨mq,mcap,hmv⟩ : ∃ mq mcap,mv=.slice mq k mcap:=lW O5.out
      subst hmv
      have hb1:wr.cell? ⟨bm,1,none⟩=some (.slice mq k mcap):=hbc 1
      have hb1d:wr.drew.cell? ⟨bm,1,none⟩=some (.slice mq k mcap):=hb1
      have hf1:=hbf 1
      clear hbc hbf
      have KW:=hid (KS.out.trans K5.out)
      obtain ⟨hsb,-,-⟩:=HLA.out wr KW.out
      have hx2:wr.cell? ⟨cb,2,none⟩=some (.map (some g)):=hsb.bx.facts.1 2
      obtain ⟨nk,hpm⟩:=hsb.fg
      obtain ⟨he,hfr0,hfrn⟩:=HFG.out k hlt2
      have HHB:=hid (show ∀ W:World,W.heap[cb]? = wr.heap[cb]? ->W.heap[g]? = wr.heap[g]? ->(W.cell? ⟨cb,2,none⟩=some (.map (some g))/\(Instr.lookup 132 (.map (some g)) (.agg #[.int .i64 j,.int .i64 k]) false).run Tryz.prog W=.ok (.int .i64 ((aB ps wi).fgL j k)) W) from fun W h1 h2=>⟨(World.cell?_of_block (a:=⟨cb,2,none⟩) h1).trans hx2,by
       have:=(hpm.at h2).look pL (x:=(j:Int)) (y:=(k:Int)) (by unfold Cn.SmP;omega) (by unfold Cn.SmP;omega)
       rw [he] at this
       exact this⟩)
      have HCT:=hid (show ∀ W',aA wr W'->Calls Tryz.prog 97 #[.int .i64 ((aB ps wi).fgL j k),.pointer (some ⟨b+2,0,none⟩)] W' fun e w'=>e=.returned (.bool (Cn.inM md ((aB ps wi).fgL j k)))/\aA W' w' from fun W' kw=>HHO.out W' (KW.out.trans kw) _ hfr0 hfrn)
      have HNX:=hid (aJz (aB ps wi) md j k)
      have hfln:=aEz (aB ps wi) md j k
      generalize Cn.inM md ((aB ps wi).fgL j k)=ck at HCT HNX
      generalize (aB ps wi).fgL j k=fr at HCT HHB hfr0 hfrn
      generalize flJ (aB ps wi) md j k=fls at O5 HNX hfln
      have hcbw:cb<wr.heap.size:=by omega
      have hgw:g<wr.heap.size:=by omega
      have HHK:=hid (show ∀ W:World,aA wr W->(W.cell? ⟨cb,2,none⟩=some (.map (some g))/\(Instr.lookup 132 (.map (some g)) (.agg #[.int .i64 j,.int .i64 k]) false).run Tryz.prog W=.ok (.int .i64 fr) W) from fun W kw=>HHB.out W (kw.block cb hcbw) (kw.block g hgw))
      have hkI:(k:Int)<(q.fl.length:Int):=by omega
      clear hsb hpm he hx2
      go_upto_region 17 with fail
      have HELD:=HHK.out wr.drew (aA.drew (aA.refl wr))
      refine wp_region_held_drew (S:=fun w=>w.cell? ⟨cb,2,none⟩=some (.map (some g))/\(Instr.lookup 132 (.map (some g)) (.agg #[.int .i64 j,.int .i64 k]) false).run Tryz.prog w=.ok (.int .i64 fr) w) (by kernel_rfl) HELD (fun hHeld=> ?_)
      refine Cn.tkN 0 (v:= ?_) ?_ ?_
      rotate_left
      ·rintro w ⟨hs1,hs2⟩
       go_simp
       try with_reducible rfl
      try simp only [Cn.acP]
      refine Cn.tkN 2 (v:= ?_) ?_ ?_
      rotate_left
      ·rintro w ⟨hs1,hs2⟩
       go_simp
       try with_reducible rfl
      try simp only [Cn.acP]
      refine Cn.tkN 3 (v:= ?_) ?_ ?_
      rotate_left
      ·rintro w ⟨hs1,hs2⟩
       go_simp
       try with_reducible rfl
      try simp only [Cn.acP]
      refine Cn.tkN 4 (v:= ?_) ?_ ?_
      rotate_left
      ·rintro w ⟨hs1,hs2⟩
       go_simp
       try with_reducible rfl
      try simp only [Cn.acP]
      refine Cn.tkN 5 (v:= ?_) ?_ ?_
      rotate_left
      ·rintro w ⟨hs1,hs2⟩
       go_simp
       try with_reducible rfl
      try simp only [Cn.acP]
      refine Cn.tkN 6 (v:= ?_) ?_ ?_
      rotate_left
      ·rintro w ⟨hs1,hs2⟩
       go_simp
       try with_reducible rfl
      try simp only [Cn.acP]
      refine Cn.tkN 7 (v:= ?_) ?_ ?_
      rotate_left
      ·rintro w ⟨hs1,hs2⟩
       go_simp
       try with_reducible rfl
      try simp only [Cn.acP]
      refine Cn.tkN 8 (v:= ?_) ?_ ?_
      rotate_left
      ·rintro w ⟨hs1,hs2⟩
       go_simp
       try with_reducible rfl
      try simp only [Cn.acP]
      refine wpAnyH_ready (rs:= [1,9]) (by kernel_rfl) (by simp) ?_
      refine AllReadyH.cons rfl (fun KK hK=> ?_) (AllReadyH.cons rfl (fun KK hK=> ?_) AllReadyH.nil)
      ·skip
       go_simp
       refine hK.out _ _ HELD (fun hH1=> ?_)
       clear hK KK
       try simp only [Cn.acP]
       refine wpAnyH_ready (rs:= [9]) (by kernel_rfl) (by simp) ?_
       refine AllReadyH.cons rfl (fun KK hK=> ?_) AllReadyH.nil
       go_simp
       with_reducible refine (HCT.out _ (aA.drew (aA.refl _))).mono ?_
       rintro e W6 ⟨rfl,hk6⟩
       have K6:=hid ((aA.drew (aA.refl wr)).trans hk6)
       clear hk6
       have hH6:=HHK.out W6 K6.out
       refine hK.out _ _ hH6 (fun _=> ?_)
       clear hK KK
       have hb16:W6.cell? ⟨bm,1,none⟩=some (.slice mq k mcap):=(K6.out.cell (p:=⟨bm,1,none⟩) hbl).trans hb1
       have hbl6:bm<W6.heap.size:=Nat.lt_of_lt_of_le hbl K6.out.size
       try simp only [Cn.acP]
       refine wpAnyH_ready (rs:= [10]) (by kernel_rfl) (by simp) ?_
       refine AllReadyH.cons rfl (fun KK hK=> ?_) AllReadyH.nil
       go_simp
       have k7:=aA.alloc W6 (.cells #[.bool ck] 4)
       refine hK.out _ _ (HHK.out _ (K6.out.trans k7)) (fun hH7=> ?_)
       clear hK KK
       refine wV (fun W'=>aA W6 W'/\aE W6.heap.size 4 (.bool ck) W') ⟨k7,aE.new _ _ _⟩ ?_
       clear k7 hH7
       rintro W7 ⟨kk,vn⟩
       have K7:=hid (K6.out.trans kk)
       have V7:=hid vn
       have hH7:=HHK.out W7 K7.out
       have hb17:W7.cell? ⟨bm,1,none⟩=some (.slice mq k mcap):=(K7.out.cell (p:=⟨bm,1,none⟩) hbl).trans hb1
       have hbl7:bm<W7.heap.size:=Nat.lt_of_lt_of_le hbl K7.out.size
       clear kk vn
       refine wpAnyH_ready (rs:= [11]) (by kernel_rfl) (by simp) ?_
       refine AllReadyH.cons rfl (fun KK hK=> ?_) AllReadyH.nil
       refine Cn.aW rfl _ _ 62 rfl (bm+1) 4 i0 (.bool false) 1 1 Tryz.underlying62 hi hz0 hz1 hz2 rfl (by decide) (.slice mq k mcap) k (fls.map Value.bool) rfl (bH O5.out K7.out) ⟨W6.heap.size,0,none⟩ 1 1 [.bool ck] rfl rfl (xP V7.out) nT (by unfold maxLen;omega) (by omega) (by omega) ?_
       intro v8 W8 h1 h2 h4
       obtain ⟨g8,cap8,rfl⟩:=Cn.aT h1 (Nat.succ_pos _)
       have P8:=hid (lH HBM.out (B5.out.keep K7.out B5.out.facts.2.2) (bH O5.out K7.out) h2 h1 (K5.out.trans K7.out))
       have HB8:=hid (show ∀ c,c<bm->W8.heap[c]? = wr.heap[c]? from fun c hc=>(h2.block c (by omega) fun e=>by have:=(dK (bH O5.out K7.out) e.symm).1;omega).trans (K7.out.block c (by omega)))
       have hH8:=HHB.out W8 (HB8.out _ hcbm) (HB8.out _ hgbm)
       obtain ⟨hbc8,hbf8,hbl8⟩:=P8.out.1.facts
       have hc81:W8.cell? ⟨bm,1,none⟩=some (.slice mq k mcap):=hbc8 1
       have hf81:=hbf8 1
       refine hK.out _ _ hH8 (fun hH9=> ?_)
       clear hK KK h1 h2 h4 hbc8 hbf8
       try simp only [Cn.acP]
       refine Cn.tkN 12 (v:= ?_) ?_ ?_
       rotate_left
       ·rintro w ⟨hs1,hs2⟩
        go_simp
        try with_reducible rfl
       try simp only [Cn.acP]
       refine wpAnyH_ready (rs:= [13]) (by kernel_rfl) (by simp) ?_
       refine AllReadyH.cons rfl (fun KK hK=> ?_) AllReadyH.nil
       go_simp
       refine hK.out _ _ (HHB.out _ ((Below.heap_setCell _ _ _ _ (fun e=>by have e2:cb=bm:=e;omega)).trans (HB8.out _ hcbm)) ((Below.heap_setCell _ _ _ _ (fun e=>by have e2:g=bm:=e;omega)).trans (HB8.out _ hgbm))) (fun hH16=> ?_)
       clear hK KK
       refine wpAnyH_done (by kernel_rfl) ?_ _
       have HQ:=hid P8.out.2
       generalize W8.setCell ⟨bm,1,none⟩ (.slice (some ⟨g8,0,none⟩) (k+1) cap8)=W9 at HQ ⊢
       clear hc81 hf81 hbl8 hH8 hH9 hH16 P8
       go_wp2_with fail
       go_roundg (q.fl.length-(k+1))
       case rel=>exact ⟨k+1,_,by omega,by go_num,HQ.out.1,by rw [HNX.out,List.map_append];exact HQ.out.2.1,HQ.out.2.2⟩
       case measure=>omega
      ·skip
       go_simp
       with_reducible refine (HCT.out _ (aA.drew (aA.refl _))).mono ?_
       rintro e W6 ⟨rfl,hk6⟩
       have K6:=hid ((aA.drew (aA.refl wr)).trans hk6)
       clear hk6
       have hH6:=HHK.out W6 K6.out
       refine hK.out _ _ hH6 (fun _=> ?_)
       clear hK KK
       have hb16:W6.cell? ⟨bm,1,none⟩=some (.slice mq k mcap):=(K6.out.cell (p:=⟨bm,1,none⟩) hbl).trans hb1
       have hbl6:bm<W6.heap.size:=Nat.lt_of_lt_of_le hbl K6.out.size
       try simp only [Cn.acP]
       refine wpAnyH_ready (rs:= [1,10]) (by kernel_rfl) (by simp) ?_
       refine AllReadyH.cons rfl (fun KK hK=> ?_) (AllReadyH.cons rfl (fun KK hK=> ?_) AllReadyH.nil)
       ·skip
        go_simp
        refine hK.out _ _ hH6 (fun hH1=> ?_)
        clear hK KK
        try simp only [Cn.acP]
        refine wpAnyH_ready (rs:= [10]) (by kernel_rfl) (by simp) ?_
        refine AllReadyH.cons rfl (fun KK hK=> ?_) AllReadyH.nil
        go_simp
        have k7:=aA.alloc W6 (.cells #[.bool ck] 4)
        refine hK.out _ _ (HHK.out _ (K6.out.trans k7)) (fun hH7=> ?_)
        clear hK KK
        refine wV (fun W'=>aA W6 W'/\aE W6.heap.size 4 (.bool ck) W') ⟨k7,aE.new _ _ _⟩ ?_
        clear k7 hH7
        rintro W7 ⟨kk,vn⟩
        have K7:=hid (K6.out.trans kk)
        have V7:=hid vn
        have hH7:=HHK.out W7 K7.out
        have hb17:W7.cell? ⟨bm,1,none⟩=some (.slice mq k mcap):=(K7.out.cell (p:=⟨bm,1,none⟩) hbl).trans hb1
        have hbl7:bm<W7.heap.size:=Nat.lt_of_lt_of_le hbl K7.out.size
        clear kk vn
        refine wpAnyH_ready (rs:= [11]) (by kernel_rfl) (by simp) ?_
        refine AllReadyH.cons rfl (fun KK hK=> ?_) AllReadyH.nil
        refine Cn.aW rfl _ _ 62 rfl (bm+1) 4 i0 (.bool false) 1 1 Tryz.underlying62 hi hz0 hz1 hz2 rfl (by decide) (.slice mq k mcap) k (fls.map Value.bool) rfl (bH O5.out K7.out) ⟨W6.heap.size,0,none⟩ 1 1 [.bool ck] rfl rfl (xP V7.out) nT (by unfold maxLen;omega) (by omega) (by omega) ?_
        intro v8 W8 h1 h2 h4
        obtain ⟨g8,cap8,rfl⟩:=Cn.aT h1 (Nat.succ_pos _)
        have P8:=hid (lH HBM.out (B5.out.keep K7.out B5.out.facts.2.2) (bH O5.out K7.out) h2 h1 (K5.out.trans K7.out))
        have HB8:=hid (show ∀ c,c<bm->W8.heap[c]? = wr.heap[c]? from fun c hc=>(h2.block c (by omega) fun e=>by have:=(dK (bH O5.out K7.out) e.symm).1;omega).trans (K7.out.block c (by omega)))
        have hH8:=HHB.out W8 (HB8.out _ hcbm) (HB8.out _ hgbm)
        obtain ⟨hbc8,hbf8,hbl8⟩:=P8.out.1.facts
        have hc81:W8.cell? ⟨bm,1,none⟩=some (.slice mq k mcap):=hbc8 1
        have hf81:=hbf8 1
        refine hK.out _ _ hH8 (fun hH9=> ?_)
        clear hK KK h1 h2 h4 hbc8 hbf8
        try simp only [Cn.acP]
        refine Cn.tkN 12 (v:= ?_) ?_ ?_
        rotate_left
        ·rintro w ⟨hs1,hs2⟩
         go_simp
         try with_reducible rfl
        try simp only [Cn.acP]
        refine wpAnyH_ready (rs:= [13]) (by kernel_rfl) (by simp) ?_
        refine AllReadyH.cons rfl (fun KK hK=> ?_) AllReadyH.nil
        go_simp
        refine hK.out _ _ (HHB.out _ ((Below.heap_setCell _ _ _ _ (fun e=>by have e2:cb=bm:=e;omega)).trans (HB8.out _ hcbm)) ((Below.heap_setCell _ _ _ _ (fun e=>by have e2:g=bm:=e;omega)).trans (HB8.out _ hgbm))) (fun hH16=> ?_)
        clear hK KK
        refine wpAnyH_done (by kernel_rfl) ?_ _
        have HQ:=hid P8.out.2
        generalize W8.setCell ⟨bm,1,none⟩ (.slice (some ⟨g8,0,none⟩) (k+1) cap8)=W9 at HQ ⊢
        clear hc81 hf81 hbl8 hH8 hH9 hH16 P8
        go_wp2_with fail
        go_roundg (q.fl.length-(k+1))
        case rel=>exact ⟨k+1,_,by omega,by go_num,HQ.out.1,by rw [HNX.out,List.map_append];exact HQ.out.2.1,HQ.out.2.2⟩
        case measure=>omega
       ·skip
        go_simp
        have k7:=aA.alloc W6 (.cells #[.bool ck] 4)
        refine hK.out _ _ (HHK.out _ (K6.out.trans k7)) (fun hH7=> ?_)
        clear hK KK
        refine wV (fun W'=>aA W6 W'/\aE W6.heap.size 4 (.bool ck) W') ⟨k7,aE.new _ _ _⟩ ?_
        clear k7 hH7
        rintro W7 ⟨kk,vn⟩
        have K7:=hid (K6.out.trans kk)
        have V7:=hid vn
        have hH7:=HHK.out W7 K7.out
        have hb17:W7.cell? ⟨bm,1,none⟩=some (.slice mq k mcap):=(K7.out.cell (p:=⟨bm,1,none⟩) hbl).trans hb1
        have hbl7:bm<W7.heap.size:=Nat.lt_of_lt_of_le hbl K7.out.size
        clear kk vn
        refine wpAnyH_ready (rs:= [1]) (by kernel_rfl) (by simp) ?_
        refine AllReadyH.cons rfl (fun KK hK=> ?_) AllReadyH.nil
        go_simp
        refine hK.out _ _ hH7 (fun hH1=> ?_)
        clear hK KK
        try simp only [Cn.acP]
        refine wpAnyH_ready (rs:= [11]) (by kernel_rfl) (by simp) ?_
        refine AllReadyH.cons rfl (fun KK hK=> ?_) AllReadyH.nil
        refine Cn.aW rfl _ _ 62 rfl (bm+1) 4 i0 (.bool false) 1 1 Tryz.underlying62 hi hz0 hz1 hz2 rfl (by decide) (.slice mq k mcap) k (fls.map Value.bool) rfl (bH O5.out K7.out) ⟨W6.heap.size,0,none⟩ 1 1 [.bool ck] rfl rfl (xP V7.out) nT (by unfold maxLen;omega) (by omega) (by omega) ?_
        intro v8 W8 h1 h2 h4
        obtain ⟨g8,cap8,rfl⟩:=Cn.aT h1 (Nat.succ_pos _)
        have P8:=hid (lH HBM.out (B5.out.keep K7.out B5.out.facts.2.2) (bH O5.out K7.out) h2 h1 (K5.out.trans K7.out))
        have HB8:=hid (show ∀ c,c<bm->W8.heap[c]? = wr.heap[c]? from fun c hc=>(h2.block c (by omega) fun e=>by have:=(dK (bH O5.out K7.out) e.symm).1;omega).trans (K7.out.block c (by omega)))
        have hH8:=HHB.out W8 (HB8.out _ hcbm) (HB8.out _ hgbm)
        obtain ⟨hbc8,hbf8,hbl8⟩:=P8.out.1.facts
        have hc81:W8.cell? ⟨bm,1,none⟩=some (.slice mq k mcap):=hbc8 1
        have hf81:=hbf8 1
        refine hK.out _ _ hH8 (fun hH9=> ?_)
        clear hK KK h1 h2 h4 hbc8 hbf8
        try simp only [Cn.acP]
        refine Cn.tkN 12 (v:= ?_) ?_ ?_
        rotate_left
        ·rintro w ⟨hs1,hs2⟩
         go_simp
         try with_reducible rfl
        try simp only [Cn.acP]
        refine wpAnyH_ready (rs:= [13]) (by kernel_rfl) (by simp) ?_
        refine AllReadyH.cons rfl (fun KK hK=> ?_) AllReadyH.nil
        go_simp
        refine hK.out _ _ (HHB.out _ ((Below.heap_setCell _ _ _ _ (fun e=>by have e2:cb=bm:=e;omega)).trans (HB8.out _ hcbm)) ((Below.heap_setCell _ _ _ _ (fun e=>by have e2:g=bm:=e;omega)).trans (HB8.out _ hgbm))) (fun hH16=> ?_)
        clear hK KK
        refine wpAnyH_done (by kernel_rfl) ?_ _
        have HQ:=hid P8.out.2
        generalize W8.setCell ⟨bm,1,none⟩ (.slice (some ⟨g8,0,none⟩) (k+1) cap8)=W9 at HQ ⊢
        clear hc81 hf81 hbl8 hH8 hH9 hH16 P8
        go_wp2_with fail
        go_roundg (q.fl.length-(k+1))
        case rel=>exact ⟨k+1,_,by omega,by go_num,HQ.out.1,by rw [HNX.out,List.map_append];exact HQ.out.2.1,HQ.out.2.2⟩
        case measure=>omega
     ·obtain rfl:k=q.fl.length:=by omega
      obtain ⟨mq,mcap,hmv⟩ : ∃ mq mcap,mv=.slice mq q.fl.length mcap:=lW O5.out
      subst hmv
      have hm0:wr.cell? ⟨bm,0,none⟩=some (.int .i64 j):=hbc 0
      have hm1:wr.cell? ⟨bm,1,none⟩=some (.slice mq q.fl.length mcap):=hbc 1
      have KO:=hid (KS.out.trans K5.out)
      have hkol:=KO.out.size
      have R7:=hid (R5.out.keep K5.out)
      have HMB:=hid (show uM (fun c=>bm+1<=c/\c<wr.heap.size) wr ⟨(j:Int),(aB ps wi).flags md j⟩ [.int .i64 j,.slice mq q.fl.length mcap] from ⟨_,rfl,by rw [HFLL.out];exact aCd O5.out (aEz ..)⟩)
      have HOWN:=hid (show ∀ g,(Value.slice xp acc.length xc).ownBlock=some g->W3.heap.size<=g/\g<bm from fun g hg=>HBM.out ▸ R5.out.own g hg)
      have HBO:=hid (show W3.heap.size<=bm from HBM.out ▸ KS.out.size)
      clear hbc hbf hlt2
      obtain ⟨csl,c1,c2,c3,c4⟩:=R7.out
      have HC3:=hid c3
      have HC4:=hid c4
      clear c3 c4
      go_wp2_with (at_builtin;refine wpList_append_own_at _ rfl _ _ 25 rfl W3.heap.size 64 im (.agg #[.int .i64 0,.slice none 0 0]) 2 32 Tryz.underlying25 hmi hmz0 hmz1 hmz2 rfl (by decide) (.slice xp acc.length xc) acc.length csl.flatten rfl (HC3.out.alloc _) ⟨wr.heap.size,0,none⟩ 1 1 [.int .i64 j,.slice mq q.fl.length mcap] rfl rfl jY (by intro u hu;simp at hu;rcases hu with rfl | rfl<;>rfl) (by unfold maxLen;omega) (by omega) (by rw [aC];omega) ?_)
      intro v6 w6 h1 h2 _ h4
      obtain ⟨g6,cap6,rfl⟩:=Cn.aT h1 (Nat.succ_pos _)
      have row6:=hid (fG.push (B':=bm+1) c1 c2 HC4.out (by have:=HBO.out;omega) (fun g' hg'=>by have:=(HOWN.out g' hg').2;omega) HMB.out rfl (by simpa using h1) h2 (by rw [aC];exact h4))
      have L6:Below W3.heap.size wr w6:=((Below.refl _ wr).alloc hkol _).grown h2 (by rw [aC];omega) (fun g' hg'=>(HOWN.out g' hg').1)
      have K6:=hid (show aA W3 w6 from Below.trans KO.out L6)
      clear h1 h2 h4 L6 hm0 hm1 HC3 HC4
      go_wp2_with fail
      go_roundg (ps.length-(j+1))
      case rel=>exact ⟨j+1,by omega,by go_num,by rw [HSR2.out];exact row6.out,K6.out⟩
      case measure=>omega
  have hje:j=ps.length:=by omega
  have hnl : ¬ ((j:Int)<(ps.length:Int)):=by omega
  have HF:=hid (show bX (fun c=>w.heap.size<=c/\c<wr.heap.size) wr (dT ps wi md) _ from by
   have:=R1.out.final.mono (S':=fun c=>w.heap.size<=c/\c<wr.heap.size) (fun _ _=>rfl) (fun c hc=>⟨Nat.le_trans K3.out.size hc.1,hc.2⟩)
   rw [show tQ (aB ps wi) md j=dT ps wi md by rw [hje];unfold tQ dT Cn.CT.set;rw [bV]] at this
   exact this)
  have KF:=hid (K3.out.trans K1.out)
  obtain ⟨xp,xc,hxv⟩:=R1.out.shape
  subst hxv
  clear hje hj R1
  go_wp2_with fail
  refine dL (v:= .tuple #[.slice xp (tQ (aB ps wi) md j).length xc,.int .i64 0]) (fun W'=>aA w W'/\bX (fun c=>w.heap.size<=c/\c<W'.heap.size) W' (dT ps wi md) (.slice xp (tQ (aB ps wi) md j).length xc)) ⟨KF.out,HF.out⟩ rfl ?_
  rintro W ⟨hkW,hbW⟩
  exact ⟨by simp [results,Tryz.results38,go_sem],hkW,.inr (.inr ⟨HZ.out,by omega,by omega,_,rfl,hbW⟩)⟩
 ·have hz1':(cQ ps wi==0)=false:=by simpa using hz
  have hz2':(cQ ps wi != 0)=true:=by simp [bne,hz1']
  have HZ:=hid hz
  generalize hve:cQ ps wi=ve at hz1' hz2' ⊢
  have HVE:=hid hve
  clear hz hve
  go_wp2_with fail
  refine dL (v:= .tuple #[.slice none 0 0,.int .i64 ve]) (fun W'=>aA w W') K2.out rfl ?_
  rintro W hkW
  exact ⟨by simp [results,Tryz.results38,go_sem],hkW,.inl ⟨HZ.out,by rw [HVE.out]⟩⟩
def xH (c:UInt8):NT:= .node 1 ⟨⟨#[c]⟩,0,0,0,⟨#[]⟩,false⟩ ⟨#[]⟩ false []
end Go.Proofs.YthaaaecmeafofaaGreatDoor
namespace Go.Proofs.YthaaaecmeafofaaGreatDoor
def nIf:NT:= .node 5 At.zero ⟨#[120]⟩ false [xH 98]
def tF:NT:= .node 3 At.zero ⟨#[]⟩ false [nIf]
def lU:NT:= .node 3 At.zero ⟨#[]⟩ false []
def F1:List UInt8:= [97,32,49,32,49,32,120,44,121,32,120,63,32,40,32,98,32,41,10]
def F2:List UInt8:= [97,32,49,32,49,32,120,44,121,32,40,32,120,63,32,40,32,98,32,41,32,41,10,98,32,50,32,49,32,32,40,32,41,10]
theorem aFk {c:UInt8} (h:aQ [c]=true):(xH c).ok:=by
 unfold xH
 rw [NT.ok]
 exact ⟨kS 1 _ (Or.inl rfl) (by show chk [c] 0 0 0 [] false=0;unfold chk;rw [if_neg (by simp [h]),if_neg (by decide),if_neg (by decide)]),trivial⟩
theorem aPc:nIf.ok:=by
 unfold nIf
 rw [NT.ok,okL,okL]
 exact ⟨aAr _ _ _ (by decide),aFk (by decide),trivial⟩
theorem aNm:tF.ok:=by
 unfold tF
 rw [NT.ok,okL,okL]
 exact ⟨eY 3 _ (Or.inl rfl),aPc,trivial⟩
theorem aKz:lU.ok:=by
 unfold lU
 rw [NT.ok,okL]
 exact ⟨eY 3 _ (Or.inl rfl),trivial⟩
theorem qU:eR nIf=false/\eR tF=false/\eR lU=false:=by
 have i1:aO 1=2:=iX (by decide) (by decide)
 have i2:aO 2=3:=iX (by decide) (by decide)
 refine ⟨?_,?_,?_⟩<;>simp [eR,nIf,tF,lU,xH,bU,bS,fN,i1,i2]
theorem aKy:eB tF=0:=cN.2 ⟨qU.2.1,aNm⟩
theorem aHo:eB lU=0:=cN.2 ⟨qU.2.2,aKz⟩
theorem aQg:Lib.itoa 1 = [49]:=aAh (k:=1) (by decide)
theorem aQh:Lib.itoa 2 = [50]:=aAh (k:=2) (by decide)
theorem aBm:tF.sorted = [[120]]:=by
 have:tF.flags = [⟨#[120]⟩]:=by simp [tF,nIf,xH,NT.flags,cR]
 unfold NT.sorted
 rw [this,List.map_cons,List.map_nil,List.mergeSort_singleton]
 rfl
theorem xZ:lU.sorted = []:=by
 have:lU.flags = []:=by simp [lU,NT.flags,cR]
 unfold NT.sorted
 rw [this,List.map_nil,List.mergeSort_nil];exact iS
theorem aDm:aQ [97]=true:=by decide
theorem aPd:aQ [98]=true:=by decide
end Go.Proofs.YthaaaecmeafofaaGreatDoor
namespace Go.Proofs.YthaaaecmeafofaaGreatDoor
open Go.RowKit
end Go.Proofs.YthaaaecmeafofaaGreatDoor
namespace Go.Proofs.YthaaaecmeafofaaGreatDoor
def nB1:NT:= .node 3 At.zero ⟨#[]⟩ false [xH 98]
def aHe:NT:= .node 2 ⟨⟨#[99]⟩,0,0,0,⟨#[]⟩,false⟩ ⟨#[]⟩ false []
def tG:NT:= .node 3 At.zero ⟨#[]⟩ false [aHe]
def q0:PK:=⟨⟨#[97]⟩,1,1,[],nB1⟩
def q1:PK:=⟨⟨#[97]⟩,2,1,[⟨#[120]⟩],tF⟩
def q2:PK:=⟨⟨#[98]⟩,1,1,[],tG⟩
def q3:PK:=⟨⟨#[99]⟩,1,1,[],lU⟩
def bE:List PK:= [q0,q1,q2,q3]
def F3:List UInt8:= [97,32,49,32,49,32,32,40,32,98,32,41,10,97,32,50,32,49,32,120,32,40,32,120,63,32,40,32,98,32,41,32,41,10,98,32,49,32,49,32,32,40,32,33,99,32,41,10,99,32,49,32,49,32,32,40,32,41,10]
theorem aNg:aHe.ok:=by
 unfold aHe
 rw [NT.ok]
 have h:aQ [99]=true:=by decide
 exact ⟨kS 2 _ (Or.inr rfl) (by show chk [99] 0 0 0 [] false=0;unfold chk;rw [if_neg (by simp [h]),if_neg (by decide),if_neg (by decide)]),trivial⟩
theorem aPb:nB1.ok:=by
 unfold nB1
 rw [NT.ok,okL,okL]
 exact ⟨eY 3 _ (Or.inl rfl),aFk (by decide),trivial⟩
theorem aNo:tG.ok:=by
 unfold tG
 rw [NT.ok,okL,okL]
 exact ⟨eY 3 _ (Or.inl rfl),aNg,trivial⟩
theorem pH:eR nB1=false/\eR tG=false:=by
 have i1:aO 1=2:=iX (by decide) (by decide)
 refine ⟨?_,?_⟩<;>simp [eR,nB1,tG,aHe,xH,bU,bS,fN,i1]
theorem aNn:eB nB1=0:=cN.2 ⟨pH.1,aPb⟩
theorem aLa:eB tG=0:=cN.2 ⟨pH.2,aNo⟩
theorem aEp:nD bE=F3:=by
 simp [nD,lR,bE,q0,q1,q2,q3,nB1,tG,aHe,tF,nIf,lU,NT.text,xH,NT.words,bN,eK,bW,aQg,aQh,F3,Lib.join]
theorem aEe:nB1.sorted = []:=by
 have:nB1.flags = []:=by simp [nB1,xH,NT.flags,cR]
 unfold NT.sorted
 rw [this,List.map_nil,List.mergeSort_nil];exact iS
theorem aBn:tG.sorted = []:=by
 have:tG.flags = []:=by simp [tG,aHe,NT.flags,cR]
 unfold NT.sorted
 rw [this,List.map_nil,List.mergeSort_nil];exact iS
theorem aKa:dV [(⟨#[120]⟩:ByteArray)]=0:=by
 have n1:aQ [120]=true:=by decide
 simp [dV,aY,flE,n1]
theorem aOv:gE [(⟨#[120]⟩:ByteArray)] [120]=true:=by unfold gE;rw [Lib.containsS_iff];simp
theorem aPe:aQ [99]=true:=by decide
theorem aOn:eE q0=0:=by
 have hk:nB1.kind=3:=rfl
 simp [eE,q0,aDm,dV,aY,gK,hk,aNn,aEe]
theorem aOo:eE q1=0:=by
 have hk:tF.kind=3:=rfl
 simp [eE,q1,aDm,aKa,gK,hk,aKy,aBm,aOv]
theorem aOp:eE q2=0:=by
 have hk:tG.kind=3:=rfl
 simp [eE,q2,aPd,dV,aY,gK,hk,aLa,aBn]
theorem aOq:eE q3=0:=by
 have hk:lU.kind=3:=rfl
 simp [eE,q3,aPe,dV,aY,gK,hk,aHo,xZ]
theorem aGg:dZ q1 q0=true:=by simp [dZ,q0,q1]
theorem aGh:dZ q2 q1=true:=by
 have h1:leS ⟨#[98]⟩ ⟨#[97]⟩=false:=by unfold leS;rw [Lib.toList_data,Lib.toList_data];decide
 simp [dZ,q1,q2,h1]
theorem aGi:dZ q3 q2=true:=by
 have h1:leS ⟨#[99]⟩ ⟨#[98]⟩=false:=by unfold leS;rw [Lib.toList_data,Lib.toList_data];decide
 simp [dZ,q3,q2,h1]
theorem nO:cY bE=0:=by
 have s1:cK bE 1=0:=rfl
 have s2:cK bE 2=1:=rfl
 have s3:cK bE 3=1:=rfl
 have s4:cK bE 4=1:=rfl
 have h8 : ¬ 8<bE.length:=by decide
 have hl:bE.length=4:=rfl
 unfold cY
 rw [if_neg h8]
 have e0:pkE bE 0=0:=by unfold pkE;rw [show bE.getD 0 PK.zero=q0 from rfl,aOn];simp [s1,hl]
 have e1:pkE bE 1=0:=by unfold pkE;rw [show bE.getD 1 PK.zero=q1 from rfl,show bE.getD (1-1) PK.zero=q0 from rfl,aOo,aGg];simp [s2,hl]
 have e2:pkE bE 2=0:=by unfold pkE;rw [show bE.getD 2 PK.zero=q2 from rfl,show bE.getD (2-1) PK.zero=q1 from rfl,aOp,aGh];simp [s3,hl]
 have e3:pkE bE 3=0:=by unfold pkE;rw [show bE.getD 3 PK.zero=q3 from rfl,show bE.getD (3-1) PK.zero=q2 from rfl,aOq,aGi];simp [s4,hl]
 rw [hl]
 simp [aY,e0,e1,e2,e3]
theorem aMo:rdT F3=(0,0,bE):=by
 rw [← aEp]
 exact aLi nO (by rw [aEp];decide)
def atA:At:=⟨⟨#[97]⟩,0,0,0,⟨#[]⟩,false⟩
end Go.Proofs.YthaaaecmeafofaaGreatDoor
namespace Go.Proofs.YthaaaecmeafofaaGreatDoor
open Go.RowKit Go.Sort
theorem aEa (w:World) (hE:Env w) (hM:jR w) :
  Calls Tryz.prog 58 #[] w fun e w'=> ∃ v,e=.returned (.tuple #[.agg #[v],.bool true])/\bD (fun b=>w.heap.size<=b/\b<w'.heap.size) w' bE v/\aA w w'/\nB v:=by
 have HE:=hid hE
 have HM:=hid hM
 clear hE hM
 go_enter Tryz.func58,Tryz.ntmps58
 go_wp2_with fail
 refine aV (fun W'=>aA w W'/\aE w.heap.size 24 (.slice none 0 0) W') ⟨aA.alloc _ _,aE.new _ _ _⟩ ?_
 rintro W0 ⟨k0,v0⟩
 refine (uA _ W0 (HE.out.keep k0) (HM.out.keep k0)).mono ?_
 rintro e w1 ⟨v1,rfl,-,hp1,k1,hcap1⟩
 have hrd:rdT (ByteArray.mk #[97,32,49,32,49,32,32,40,32,98,32,41,10,97,32,50,32,49,32,120,32,40,32,120,63,32,40,32,98,32,41,32,41,10,98,32,49,32,49,32,32,40,32,33,99,32,41,10,99,32,49,32,49,32,32,40,32,41,10]).data.toList=(0,0,bE):=aMo
 rw [hrd] at hp1 ⊢
 simp only at hp1 ⊢
 obtain ⟨p1,c1,rfl,-⟩:=hp1.len
 have hlen:bE.length=4:=rfl
 rw [hlen] at hp1 hcap1 ⊢
 have HCAP:=hid hcap1
 clear hcap1
 have K0s:=k0.size
 have hW0:w.heap.size+1<=W0.heap.size:=v0.facts.2.2
 have HP1:Hid (bD (fun b=>w.heap.size+1<=b/\b<w1.heap.size) w1 bE (.slice p1 4 c1)):=bD.mono (fun _ _=>rfl) (fun b hb=>⟨Nat.le_trans hW0 hb.1,hb.2⟩) hp1
 have K1:=hid (k0.trans k1)
 have V1:=hid (v0.keep k1 v0.facts.2.2)
 have hsz1:w.heap.size+1<=w1.heap.size:=by have:=V1.out.facts.2.2;omega
 clear k0 v0 hp1 k1 hrd hlen
 go_upto_region 2 with fail
 refine bJ (fun W'=>aA w W'/\aA w1 W'/\aE w.heap.size 24 (.slice none 0 0) W'/\aE w1.heap.size 24 (.slice p1 4 c1) W') ⟨K1.out.alloc' _,aA.alloc _ _,V1.out.keep (aA.alloc _ _) V1.out.facts.2.2,aE.new _ _ _⟩ ?_
 rintro W2 ⟨k2,k12,v2,t2⟩
 have K2:=hid k2
 have K12:=hid k12
 have V2:=hid v2
 obtain ⟨g1,z1,l1⟩:=v2.facts
 obtain ⟨g2,z2,l2⟩:=t2.facts
 clear k2 k12 v2 t2
 go_region
 have v3:=V2.out.set (.slice p1 4 c1)
 have HQ:Hid (aE w.heap.size 24 (.slice p1 4 c1) (W2.setCell ⟨w.heap.size,0,none⟩ (.slice p1 4 c1)).drew/\aA w (W2.setCell ⟨w.heap.size,0,none⟩ (.slice p1 4 c1)).drew/\bD (fun b=>w.heap.size<=b/\b<(W2.setCell ⟨w.heap.size,0,none⟩ (.slice p1 4 c1)).drew.heap.size) (W2.setCell ⟨w.heap.size,0,none⟩ (.slice p1 4 c1)).drew bE (.slice p1 4 c1)):=by
  have ap:=gB w.heap.size W2 (.slice p1 4 c1)
  have hz:W2.heap.size<=(W2.setCell ⟨w.heap.size,0,none⟩ (.slice p1 4 c1)).heap.size:=ap.size
  refine ⟨v3.keep (jW _) v3.facts.2.2,aA.trans (show aA w (W2.setCell ⟨w.heap.size,0,none⟩ (.slice p1 4 c1)) from Below.trans K2.out (ap.below K2.out.size fun b hb e=>by have:b=w.heap.size:=e;omega)) (jW _),?_⟩
  refine bD.mono (fun p hp=> ?_) (fun b hb=>⟨by omega,Nat.lt_of_lt_of_le hb.2 (Nat.le_trans K12.out.size hz)⟩) HP1.out
  exact (ap.cell p (Nat.lt_of_lt_of_le hp.2 K12.out.size) (fun e=>by have e':p.block=w.heap.size:=e;have:=hp.1;omega)).trans (K12.out.cell (p:=p) hp.2)
 clear v3 g1 z1 g2 z2
 go_wp2_with fail
 refine dL (v:= .tuple #[.agg #[.slice p1 4 c1],.bool true]) (fun W'=>aE w.heap.size 24 (.slice p1 4 c1) W'/\aA w W'/\bD (fun b=>w.heap.size<=b/\b<W'.heap.size) W' bE (.slice p1 4 c1)) ?_ rfl ?_
 ·exact HQ.out
 rintro W ⟨hb,hk,hp⟩
 obtain ⟨hcW,-,-⟩:=hb.facts
 exact ⟨by simp [results,Tryz.results58,go_sem,hcW],_,rfl,hp,hk,HCAP.out⟩
theorem jU {W:World} {n:Nat} (h:W.heap.size=n) (cs:Array Value) (T:TypeId):aL n cs (W.alloc (.cells cs T)):=h ▸ aL.new W cs T
def inW (W:World) (b:Nat):Prop:=b<W.heap.size
end Go.Proofs.YthaaaecmeafofaaGreatDoor
namespace Go.Proofs.YthaaaecmeafofaaGreatDoor
open Go.RowKit
end Go.Proofs.YthaaaecmeafofaaGreatDoor
namespace Go.Proofs.YthaaaecmeafofaaGreatDoor
open Go.RowKit
end Go.Proofs.YthaaaecmeafofaaGreatDoor
namespace Go.Proofs.YthaaaecmeafofaaGreatDoor
open Go.RowKit
theorem nR {α:Type} {xs ys:List α} (hl:xs.length=ys.length) (h : ∀ i,i<xs.length->xs[i]? = ys[i]?):xs=ys:=by
 refine List.ext_getElem? fun i=> ?_
 by_cases hi:i<xs.length
 ·exact h i hi
 ·rw [List.getElem?_eq_none (by omega),List.getElem?_eq_none (by omega)]
theorem aEx (S:Nat->Prop) (xs ys:List Bool) (v1 v2:Value) (w:World) (hS : ∀ b,S b->b<w.heap.size) (h1:aZ S w xs v1) (h2:aZ S w ys v2) :
  Calls Tryz.prog 115 #[v1,v2] w fun e w'=> ∃ β:Bool,e=.returned (.bool β)/\(β=true↔xs=ys)/\aA w w':=by
 have H1:=hid h1
 have H2:=hid h2
 obtain ⟨p1,c1,rfl,hl1,-⟩:=h1
 obtain ⟨p2,c2,rfl,hl2,-⟩:=h2
 by_cases hl:xs.length=ys.length
 ·have HL:=hid hl
  have HW:Hid (aA w w):=aA.refl _
  rw [← hl]
  clear hl
  go_enter Tryz.func115,Tryz.ntmps115
  go_wp2_with fail
  go_loopg [13] xs.length (fun gk i wr=> ∃ j:Nat,j+gk=xs.length/\i=.int .i64 j/\(∀ i,i<j->xs[i]? = ys[i]?)/\aA w wr)
  case atStart=>exact ⟨0,by simp,rfl,fun i hi=>absurd hi (Nat.not_lt_zero _),HW.out⟩
  case round=>
   obtain ⟨j,hj,rfl,hal,hkp⟩:=hrel
   have HKP:=hid hkp
   have HAL:=hid hal
   clear hkp hal
   by_cases hlt:j<xs.length
   ·obtain ⟨q1,d1,hv1,-,hr1⟩:=H1.out.keep hS HKP.out
    obtain ⟨q2,d2,hv2,-,hr2⟩:=H2.out.keep hS HKP.out
    rw [← HL.out] at hv2 hr2
    cases hv1
    cases hv2
    obtain ⟨b1,o1,rfl,hb1,hc1⟩:=hr1 (by omega)
    obtain ⟨b2,o2,rfl,hb2,hc2⟩:=hr2 (by omega)
    have hlt2:j<ys.length:=by rw [← HL.out];exact hlt
    have e1:xs[j]? = some xs[j]:=List.getElem?_eq_getElem hlt
    have e2:ys[j]? = some ys[j]:=List.getElem?_eq_getElem hlt2
    have g1:=hc1 j _ e1
    have g2:=hc2 j _ e2
    have E1:=hid e1
    have E2:=hid e2
    clear hc1 hc2 hr1 hr2 e1 e2
    generalize xs[j]=x at g1 E1
    generalize ys[j]=y at g2 E2
    by_cases hxy:x=y
    ·subst hxy
     have HN:Hid (∀ i,i<j+1->xs[i]? = ys[i]?):=fun i hi=>by
      by_cases e:i=j
      ·subst e;rw [E1.out,E2.out]
      ·exact HAL.out i (by omega)
     go_wp2_with fail
     go_quiet (fail)
     go_wp2_with fail
     go_roundg (xs.length-(j+1))
     case rel=>exact ⟨j+1,by omega,by go_num,HN.out,aA.drewN HKP.out _⟩
     case measure=>omega
    ·have hxy1:(x==y)=false:=by simp [hxy]
     have hxy2:(x != y)=true:=by simp [hxy]
     have HF:Hid (¬ xs=ys):=fun e=>hxy (by have h1:=E1.out;rw [e,E2.out] at h1;exact (Option.some.inj h1).symm)
     clear hxy
     go_wp2_with fail
     go_quiet (fail)
     go_wp2_with fail
     go_ret
     exact ⟨false,rfl,⟨fun h=>Bool.noConfusion h,fun h=>absurd h HF.out⟩,aA.drewN HKP.out _⟩
   ·have HF:Hid (xs=ys):=nR HL.out fun i hi=>HAL.out i (by omega)
    go_wp2_with fail
    go_ret
    exact ⟨true,rfl,⟨fun _=>HF.out,fun _=>rfl⟩,HKP.out⟩
 ·have hz1:((xs.length:Int)==(ys.length:Int))=false:=beq_eq_false_iff_ne.2 fun e=>hl (by omega)
  have hz2:((xs.length:Int) != (ys.length:Int))=true:=bne_iff_ne.2 fun e=>hl (by omega)
  have HF:Hid (¬ xs=ys):=fun e=>hl (by rw [e])
  clear hl
  go_enter Tryz.func115,Tryz.ntmps115
  go_wp2_with fail
  go_ret
  exact ⟨false,rfl,⟨fun h=>Bool.noConfusion h,fun h=>absurd h HF.out⟩,aA.refl _⟩
theorem aCp (args:Array Value) (w:World):(callFunc 85 args).run Tryz.prog w=.ok (.enter 85 args) w:=enters_of Tryz.func85 (by kernel_rfl) rfl args w
theorem aDw (S:Nat->Prop) (x y:MB) (v1 v2:Value) (w:World) (hS : ∀ b,S b->b<w.heap.size) (h1:aZ S w x.on v1) (h2:aZ S w y.on v2) :
  Calls Tryz.prog 85 #[.agg #[.int .i64 x.pl,v1],.agg #[.int .i64 y.pl,v2]] w fun e w'=> ∃ β:Bool,e=.returned (.bool β)/\(β=true↔x=y)/\aA w w':=by
 have H1:=hid h1
 have H2:=hid h2
 obtain ⟨p1,c1,rfl,-,-⟩:=h1
 obtain ⟨p2,c2,rfl,-,-⟩:=h2
 rcases x with ⟨xp,xs⟩
 rcases y with ⟨yp,ys⟩
 simp only at H1 H2 ⊢
 by_cases hp:xp=yp
 ·subst hp
  go_enter Tryz.func85,Tryz.ntmps85
  go_wp2_with fail
  refine aV (fun W'=>aA w W') ((aA.alloc _ _).alloc' _) ?_
  intro W2 k2
  refine (aEx S xs ys _ _ W2 (fun b hb=>Nat.lt_of_lt_of_le (hS b hb) k2.size) (H1.out.keep hS k2) (H2.out.keep hS k2)).mono ?_
  rintro e w3 ⟨β,rfl,hβ,k3⟩
  have K3:=hid (k2.trans k3)
  have HB:=hid hβ
  clear k2 k3 hβ
  go_wp2_with fail
  go_ret
  exact ⟨β,rfl,⟨fun h=>by rw [HB.out.1 h],fun h=>HB.out.2 (by cases h;rfl)⟩,K3.out⟩
 ·have hz1:(xp==yp)=false:=by simp [hp]
  have HF:Hid (¬ (⟨xp,xs⟩:MB)=⟨yp,ys⟩):=fun e=>hp (by cases e;rfl)
  have HW:Hid (aA w ((w.alloc (.cells #[.int .i64 xp,.slice p1 xs.length c1] 64)).alloc (.cells #[.int .i64 yp,.slice p2 ys.length c2] 64))):=(aA.alloc _ _).alloc' _
  clear hp
  go_enter Tryz.func85,Tryz.ntmps85
  go_wp2_with fail
  go_ret
  exact ⟨false,rfl,⟨fun h=>Bool.noConfusion h,fun h=>absurd h HF.out⟩,HW.out⟩
theorem aOh (S:Nat->Prop) (xs ys:List MB) (v1 v2:Value) (w:World) (hS : ∀ b,S b->b<w.heap.size) (h1:bX S w xs v1) (h2:bX S w ys v2) :
  Calls Tryz.prog 75 #[v1,v2,.func (.func 85) #[] #[]] w fun e w'=> ∃ β:Bool,e=.returned (.bool β)/\(β=true↔xs=ys)/\aA w w':=by
 have H1:=hid h1
 have H2:=hid h2
 obtain ⟨p1,c1,rfl,⟨-,hl1⟩,-⟩:=h1
 obtain ⟨p2,c2,rfl,⟨-,hl2⟩,-⟩:=h2
 have hent:=aCp
 by_cases hl:xs.length=ys.length
 ·have HL:=hid hl
  have HW:Hid (aA w w):=aA.refl _
  rw [← hl]
  clear hl
  go_enter Tryz.func75,Tryz.ntmps75
  go_wp2_with fail
  go_loopg [17] xs.length (fun gk i wr=> ∃ j:Nat,j+gk=xs.length/\i=.int .i64 j/\(∀ i,i<j->xs[i]? = ys[i]?)/\aA w wr)
  case atStart=>exact ⟨0,by simp,rfl,fun i hi=>absurd hi (Nat.not_lt_zero _),HW.out⟩
  case round=>
   obtain ⟨j,hj,rfl,hal,hkp⟩:=hrel
   have HKP:=hid hkp
   have HAL:=hid hal
   clear hkp hal
   by_cases hlt:j<xs.length
   ·obtain ⟨q1,d1,hv1,-,hr1⟩:=H1.out.keep hS HKP.out
    obtain ⟨q2,d2,hv2,-,hr2⟩:=H2.out.keep hS HKP.out
    rw [← HL.out] at hv2 hr2
    cases hv1
    cases hv2
    obtain ⟨b1,o1,rfl,hb1,hc1⟩:=hr1 (by omega)
    obtain ⟨b2,o2,rfl,hb2,hc2⟩:=hr2 (by omega)
    have hlt2:j<ys.length:=by rw [← HL.out];exact hlt
    have e1:xs[j]? = some xs[j]:=List.getElem?_eq_getElem hlt
    have e2:ys[j]? = some ys[j]:=List.getElem?_eq_getElem hlt2
    obtain ⟨ov1,g1,g1',hbo1⟩:=hc1 j _ e1
    obtain ⟨ov2,g2,g2',hbo2⟩:=hc2 j _ e2
    have E1:=hid e1
    have E2:=hid e2
    have hb1':b1<wr.heap.size:=Nat.lt_of_lt_of_le (hS _ hb1) HKP.out.size
    have hb2':b2<wr.heap.size:=Nat.lt_of_lt_of_le (hS _ hb2) HKP.out.size
    generalize xs[j]=x at g1 E1 hbo1
    generalize ys[j]=y at g2 E2 hbo2
    have HO1:=hid hbo1
    have HO2:=hid hbo2
    obtain ⟨r1,s1,rfl,-,-⟩:=hbo1
    obtain ⟨r2,s2,rfl,-,-⟩:=hbo2
    clear hc1 hc2 hr1 hr2 e1 e2
    go_wp2_with fail
    refine aV (fun W'=>aA wr W') ((aA.alloc _ _).alloc' _) ?_
    intro W2 k2
    have hS2 : ∀ b,S b->b<wr.heap.size:=fun b hb=>Nat.lt_of_lt_of_le (hS b hb) HKP.out.size
    refine (aDw S x y _ _ W2 (fun b hb=>Nat.lt_of_lt_of_le (hS2 b hb) k2.size) (HO1.out.keep hS2 k2) (HO2.out.keep hS2 k2)).mono ?_
    rintro e w3 ⟨β,rfl,hβ,k3⟩
    have K3:=hid (HKP.out.trans (k2.trans k3))
    clear k2 k3 hS2 g1 g1' g2 g2'
    cases β
    ·have HF:Hid (¬ xs=ys):=fun e=>Bool.noConfusion (hβ.2 (by have h1:=E1.out;rw [e,E2.out] at h1;exact (Option.some.inj h1).symm))
     clear hβ
     go_wp2_with fail
     go_ret
     exact ⟨false,rfl,⟨fun h=>Bool.noConfusion h,fun h=>absurd h HF.out⟩,K3.out⟩
    ·have HN:Hid (∀ i,i<j+1->xs[i]? = ys[i]?):=fun i hi=>by
      by_cases e:i=j
      ·subst e;rw [E1.out,E2.out,hβ.1 rfl]
      ·exact HAL.out i (by omega)
     clear hβ
     go_wp2_with fail
     go_roundg (xs.length-(j+1))
     case rel=>exact ⟨j+1,by omega,by go_num,HN.out,K3.out⟩
     case measure=>omega
   ·have HF:Hid (xs=ys):=nR HL.out fun i hi=>HAL.out i (by omega)
    go_wp2_with fail
    go_ret
    exact ⟨true,rfl,⟨fun _=>HF.out,fun _=>rfl⟩,HKP.out⟩
 ·have hz1:((xs.length:Int)==(ys.length:Int))=false:=beq_eq_false_iff_ne.2 fun e=>hl (by omega)
  have hz2:((xs.length:Int) != (ys.length:Int))=true:=bne_iff_ne.2 fun e=>hl (by omega)
  have HF:Hid (¬ xs=ys):=fun e=>hl (by rw [e])
  clear hl
  go_enter Tryz.func75,Tryz.ntmps75
  go_wp2_with fail
  go_ret
  exact ⟨false,rfl,⟨fun h=>Bool.noConfusion h,fun h=>absurd h HF.out⟩,aA.refl _⟩
theorem aCo (args:Array Value) (w:World):(callFunc 65 args).run Tryz.prog w=.ok (.enter 65 args) w:=enters_of Tryz.func65 (by kernel_rfl) rfl args w
theorem aDv (S:Nat->Prop) (x y:MB) (v1 v2:Value) (w:World) (hS : ∀ b,S b->b<w.heap.size) (h1:aZ S w x.on v1) (h2:aZ S w y.on v2) :
  Calls Tryz.prog 65 #[.agg #[.int .i64 x.pl,v1],.agg #[.int .i64 y.pl,v2]] w fun e w'=> ∃ β:Bool,e=.returned (.bool β)/\(β=true↔x=y)/\aA w w':=by
 have H1:=hid h1
 have H2:=hid h2
 obtain ⟨p1,c1,rfl,-,-⟩:=h1
 obtain ⟨p2,c2,rfl,-,-⟩:=h2
 rcases x with ⟨xp,xs⟩
 rcases y with ⟨yp,ys⟩
 simp only at H1 H2 ⊢
 by_cases hp:xp=yp
 ·subst hp
  go_enter Tryz.func65,Tryz.ntmps65
  go_wp2_with fail
  refine aV (fun W'=>aA w W') ((aA.alloc _ _).alloc' _) ?_
  intro W2 k2
  refine (aEx S xs ys _ _ W2 (fun b hb=>Nat.lt_of_lt_of_le (hS b hb) k2.size) (H1.out.keep hS k2) (H2.out.keep hS k2)).mono ?_
  rintro e w3 ⟨β,rfl,hβ,k3⟩
  have K3:=hid (k2.trans k3)
  have HB:=hid hβ
  clear k2 k3 hβ
  go_wp2_with fail
  go_ret
  exact ⟨β,rfl,⟨fun h=>by rw [HB.out.1 h],fun h=>HB.out.2 (by cases h;rfl)⟩,K3.out⟩
 ·have hz1:(xp==yp)=false:=by simp [hp]
  have HF:Hid (¬ (⟨xp,xs⟩:MB)=⟨yp,ys⟩):=fun e=>hp (by cases e;rfl)
  have HW:Hid (aA w ((w.alloc (.cells #[.int .i64 xp,.slice p1 xs.length c1] 64)).alloc (.cells #[.int .i64 yp,.slice p2 ys.length c2] 64))):=(aA.alloc _ _).alloc' _
  clear hp
  go_enter Tryz.func65,Tryz.ntmps65
  go_wp2_with fail
  go_ret
  exact ⟨false,rfl,⟨fun h=>Bool.noConfusion h,fun h=>absurd h HF.out⟩,HW.out⟩
theorem zQ (S:Nat->Prop) (xs ys:List MB) (v1 v2:Value) (w:World) (hS : ∀ b,S b->b<w.heap.size) (h1:bX S w xs v1) (h2:bX S w ys v2) :
  Calls Tryz.prog 75 #[v1,v2,.func (.func 65) #[] #[]] w fun e w'=> ∃ β:Bool,e=.returned (.bool β)/\(β=true↔xs=ys)/\aA w w':=by
 have H1:=hid h1
 have H2:=hid h2
 obtain ⟨p1,c1,rfl,⟨-,hl1⟩,-⟩:=h1
 obtain ⟨p2,c2,rfl,⟨-,hl2⟩,-⟩:=h2
 have hent:=aCo
 by_cases hl:xs.length=ys.length
 ·have HL:=hid hl
  have HW:Hid (aA w w):=aA.refl _
  rw [← hl]
  clear hl
  go_enter Tryz.func75,Tryz.ntmps75
  go_wp2_with fail
  go_loopg [17] xs.length (fun gk i wr=> ∃ j:Nat,j+gk=xs.length/\i=.int .i64 j/\(∀ i,i<j->xs[i]? = ys[i]?)/\aA w wr)
  case atStart=>exact ⟨0,by simp,rfl,fun i hi=>absurd hi (Nat.not_lt_zero _),HW.out⟩
  case round=>
   obtain ⟨j,hj,rfl,hal,hkp⟩:=hrel
   have HKP:=hid hkp
   have HAL:=hid hal
   clear hkp hal
   by_cases hlt:j<xs.length
   ·obtain ⟨q1,d1,hv1,-,hr1⟩:=H1.out.keep hS HKP.out
    obtain ⟨q2,d2,hv2,-,hr2⟩:=H2.out.keep hS HKP.out
    rw [← HL.out] at hv2 hr2
    cases hv1
    cases hv2
    obtain ⟨b1,o1,rfl,hb1,hc1⟩:=hr1 (by omega)
    obtain ⟨b2,o2,rfl,hb2,hc2⟩:=hr2 (by omega)
    have hlt2:j<ys.length:=by rw [← HL.out];exact hlt
    have e1:xs[j]? = some xs[j]:=List.getElem?_eq_getElem hlt
    have e2:ys[j]? = some ys[j]:=List.getElem?_eq_getElem hlt2
    obtain ⟨ov1,g1,g1',hbo1⟩:=hc1 j _ e1
    obtain ⟨ov2,g2,g2',hbo2⟩:=hc2 j _ e2
    have E1:=hid e1
    have E2:=hid e2
    have hb1':b1<wr.heap.size:=Nat.lt_of_lt_of_le (hS _ hb1) HKP.out.size
    have hb2':b2<wr.heap.size:=Nat.lt_of_lt_of_le (hS _ hb2) HKP.out.size
    generalize xs[j]=x at g1 E1 hbo1
    generalize ys[j]=y at g2 E2 hbo2
    have HO1:=hid hbo1
    have HO2:=hid hbo2
    obtain ⟨r1,s1,rfl,-,-⟩:=hbo1
    obtain ⟨r2,s2,rfl,-,-⟩:=hbo2
    clear hc1 hc2 hr1 hr2 e1 e2
    go_wp2_with fail
    refine aV (fun W'=>aA wr W') ((aA.alloc _ _).alloc' _) ?_
    intro W2 k2
    have hS2 : ∀ b,S b->b<wr.heap.size:=fun b hb=>Nat.lt_of_lt_of_le (hS b hb) HKP.out.size
    refine (aDv S x y _ _ W2 (fun b hb=>Nat.lt_of_lt_of_le (hS2 b hb) k2.size) (HO1.out.keep hS2 k2) (HO2.out.keep hS2 k2)).mono ?_
    rintro e w3 ⟨β,rfl,hβ,k3⟩
    have K3:=hid (HKP.out.trans (k2.trans k3))
    clear k2 k3 hS2 g1 g1' g2 g2'
    cases β
    ·have HF:Hid (¬ xs=ys):=fun e=>Bool.noConfusion (hβ.2 (by have h1:=E1.out;rw [e,E2.out] at h1;exact (Option.some.inj h1).symm))
     clear hβ
     go_wp2_with fail
     go_ret
     exact ⟨false,rfl,⟨fun h=>Bool.noConfusion h,fun h=>absurd h HF.out⟩,K3.out⟩
    ·have HN:Hid (∀ i,i<j+1->xs[i]? = ys[i]?):=fun i hi=>by
      by_cases e:i=j
      ·subst e;rw [E1.out,E2.out,hβ.1 rfl]
      ·exact HAL.out i (by omega)
     clear hβ
     go_wp2_with fail
     go_roundg (xs.length-(j+1))
     case rel=>exact ⟨j+1,by omega,by go_num,HN.out,K3.out⟩
     case measure=>omega
   ·have HF:Hid (xs=ys):=nR HL.out fun i hi=>HAL.out i (by omega)
    go_wp2_with fail
    go_ret
    exact ⟨true,rfl,⟨fun _=>HF.out,fun _=>rfl⟩,HKP.out⟩
 ·have hz1:((xs.length:Int)==(ys.length:Int))=false:=beq_eq_false_iff_ne.2 fun e=>hl (by omega)
  have hz2:((xs.length:Int) != (ys.length:Int))=true:=bne_iff_ne.2 fun e=>hl (by omega)
  have HF:Hid (¬ xs=ys):=fun e=>hl (by rw [e])
  clear hl
  go_enter Tryz.func75,Tryz.ntmps75
  go_wp2_with fail
  go_ret
  exact ⟨false,rfl,⟨fun h=>Bool.noConfusion h,fun h=>absurd h HF.out⟩,aA.refl _⟩
theorem xU (S:Nat->Prop) (xs ys:List MB) (v1 v2:Value) (w:World) (hS : ∀ b,S b->b<w.heap.size) (h1:bX S w xs v1) (h2:bX S w ys v2) :
  Calls Tryz.prog 26 #[v1,v2] w fun e w'=> ∃ β:Bool,e=.returned (.bool β)/\(β=true↔xs=ys)/\aA w w':=by
 have H1:=hid h1
 have H2:=hid h2
 clear h1 h2
 go_enter Tryz.func26,Tryz.ntmps26
 go_wp2_with fail
 refine (zQ S xs ys _ _ w hS H1.out H2.out).mono ?_
 rintro e w3 ⟨β,rfl,hβ,k3⟩
 have K3:=hid k3
 have HB:=hid hβ
 clear k3 hβ
 go_wp2_with fail
 go_ret
 exact ⟨β,rfl,HB.out,K3.out⟩
end Go.Proofs.YthaaaecmeafofaaGreatDoor
namespace Go.Proofs.YthaaaecmeafofaaGreatDoor
open Go.RowKit Go.Lib
theorem eI.get0 {v:Value} {zs:List Int} {w:World} (h:eI v zs w) (hn:0<zs.length) : ∃ g cap,v=.slice (some ⟨g,0,none⟩) zs.length cap/\g<w.heap.size/\(∀ j,j<zs.length->w.cell? ⟨g,0+j,none⟩=some (.int .i64 (zs.getD j 0))):=by
 rcases h with ⟨rfl,-⟩ | ⟨g,cap,h1,h2,h3⟩
 ·exact absurd hn (Nat.not_lt_zero _)
 ·refine ⟨g,cap,h1,h2,fun j hj=> ?_⟩
  rw [Nat.zero_add,List.getD_eq_getElem?_getD,List.getElem?_eq_getElem hj,Option.getD_some]
  exact h3 j _ (List.getElem?_eq_getElem hj)
theorem uT (v u:Value) (xs ys:List Int) (w:World) (h:eI v xs w) (h':eI u ys w) (hl:xs.length<=2000) (hl':ys.length<=2000) :
  Calls Tryz.prog 18 #[v,u] w fun e w'=>e=.returned (.bool (xs==ys))/\∃ q,w'=w.drewN q:=by
 obtain ⟨q,d,rfl⟩:=h'.len
 obtain ⟨p,c,rfl⟩:=h.len
 by_cases hne:xs.length=ys.length
 ·by_cases h0:xs = []
  ·subst h0
   have hy:ys = []:=List.length_eq_zero_iff.1 hne.symm
   subst hy
   refine (Tryz.slices_Equal_int_empty p q c 0 d w (by omega)).mono ?_
   rintro e w' ⟨rfl,rfl⟩
   exact ⟨rfl,0,rfl⟩
  ·have hp:=List.length_pos_iff.2 h0
   obtain ⟨g,cap,e1,-,hc⟩:=h.get0 hp
   obtain ⟨g',cap',e2,-,hc'⟩:=h'.get0 (by omega)
   cases e1
   cases e2
   refine (Tryz.slices_Equal_int g 0 xs.length c g' 0 ys.length d xs ys w (Nat.le_refl _) (Nat.le_refl _) (by omega) (by omega) hc hc').mono ?_
   rintro e w' ⟨rfl,q,rfl⟩
   exact ⟨aJ (by rw [List.take_length,List.take_length]),q,rfl⟩
 ·refine (Tryz.slices_Equal_int_lens p q xs.length c ys.length d w hne).mono ?_
  rintro e w' ⟨rfl,rfl⟩
  refine ⟨aJ ?_,0,rfl⟩
  symm
  exact beq_eq_false_iff_ne.2 fun e=>hne (by rw [e])
end Go.Proofs.YthaaaecmeafofaaGreatDoor
