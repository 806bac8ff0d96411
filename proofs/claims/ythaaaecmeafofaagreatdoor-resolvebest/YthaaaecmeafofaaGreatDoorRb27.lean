/- Steps of the proof: EncSet. -/
import Derived.Test.YthaaaecmeafofaaGreatDoorRb26
import Derived.Test.YthaaaecmeafofaaGreatDoorRb23
import Derived.Test.YthaaaecmeafofaaGreatDoorRb14
set_option maxHeartbeats 16000000
set_option maxRecDepth 100000
namespace Go.Proofs.YthaaaecmeafofaaGreatDoor
open Go.RowKit
theorem enter_holds (args:Array Value) (w:World):(callFunc 97 args).run Tryz.prog w=.ok (.enter 97 args) w:=enters_of Tryz.func97 (by kernel_rfl) rfl args w
def aPj (ps:List PK) (wi:WI) (md:List Bool) (w:World) (e:Ending) (w':World):Prop:=
 aA w w'/\((bE ps wi≠0/\e=.returned (.tuple #[.slice none 0 0,.int .i64 (bE ps wi)]))∨(bE ps wi=0/\(md.length<(aB ps wi).many∨400<md.length)/\e=.returned (.tuple #[.slice none 0 0,.int .i64 4]))∨(bE ps wi=0/\(aB ps wi).many<=md.length/\md.length<=400/\∃ v,e=.returned (.tuple #[v,.int .i64 0])/\bI (fun c=>w.heap.size<=c/\c<w'.heap.size) w' (bN ps wi md) v))
def vH (c:Cn.CT) (md:List Bool) (j:Nat):List MB:=((List.range j).filterMap fun i=>if c.takes md i then some (i,c.flags md i) else none).map aCm
def flJ (c:Cn.CT) (md:List Bool) (i k:Nat):List Bool:=(List.range k).map fun k=>md.getD (c.base i+k) false != c.on i k
theorem xV (c:Cn.CT) (md:List Bool) (j:Nat):vH c md (j+1)=vH c md j++(if c.takes md j=true then [⟨(j:Int),c.flags md j⟩] else []):=by
 unfold vH
 rw [List.range_succ,List.filterMap_append,List.map_append]
 congr 1
 by_cases h:c.takes md j=true
 ·simp [h,aCm]
 ·simp [h]
theorem aDi (c:Cn.CT) (md:List Bool) : ∀ j,(vH c md j).length<=j
 | 0=>by simp [vH]
 | j+1=>by
  have:=aDi c md j
  rw [xV,List.length_append]
  split<;>simp<;>omega
theorem aMo (c:Cn.CT) (md:List Bool) (i k:Nat):flJ c md i (k+1)=flJ c md i k ++ [Cn.inM md (c.fgL i k)]:=by
 unfold flJ
 rw [List.range_succ,List.map_append,Cn.CT.fg_in];rfl
theorem aHk (c:Cn.CT) (md:List Bool) (i k:Nat):(flJ c md i k).length=k:=by simp [flJ]
structure SB (ps:List PK) (wi:WI) (cb tb g:Nat) (W:World):Prop where
 bx:aD cb 134 #[.int .i64 (aB ps wi).many,.slice (some ⟨tb,0,none⟩) ps.length ps.length,.map (some g)] W
 tk:Cn.aH (fun b=>b=tb) W (aB ps wi).tks (.slice (some ⟨tb,0,none⟩) ps.length ps.length)
 fg : ∃ k,Cn.gH g k ((aB ps wi).fgs wi.on) W
 lt:tb<W.heap.size
theorem SB.keep {ps:List PK} {wi:WI} {cb tb g:Nat} {W W':World} (h:SB ps wi cb tb g W) (k:aA W W'):SB ps wi cb tb g W':=by
 obtain ⟨n,hf⟩:=h.fg
 exact ⟨h.bx.keep k h.bx.facts.2.2,h.tk.keep (B:=W.heap.size) (fun c hc=>by have e:c=tb:=hc;have:=h.lt;omega) k,⟨n,hf.keep k⟩,Nat.lt_of_lt_of_le h.lt k.size⟩
theorem aQu (S:Nat->Prop) (ps:List PK) (wi:WI) (md:List Bool) (pv tsv inv mav onv mdv:Value) (w:World) (hS : ∀ b,S b->b<w.heap.size) (hp:bC S w ps pv) (hw:dZ S w wi tsv inv mav onv) (hm:aZ S w md mdv) :
  Calls Tryz.prog 38 #[.agg #[pv],.agg #[tsv,inv,mav,onv],mdv] w fun e w'=>aPj ps wi md w e w':=by
 obtain ⟨i0,hi,hz0,hz1,hz2⟩:=info_parts aRy
 obtain ⟨im,hmi,hmz0,hmz1,hmz2⟩:=info_parts aRz
 have HP:=hid hp
 have HW:=hid hw
 have HM:=hid hm
 have hent:=enter_holds
 obtain ⟨pp,pc,hpv,hplen⟩:=hp.len
 subst hpv
 obtain ⟨mp,mc,hmv,hmlen,-⟩:=id hm
 subst hmv
 clear hp hw hm
 go_enter Tryz.func38,Tryz.ntmps38
 go_upto_region 1 with fail
 refine bF (fun W'=>aA w W'/\aE w.heap.size 24 (.slice pp ps.length pc) W'/\aD (w.heap.size+1) 46 #[tsv,inv,mav,onv] W'/\aE (w.heap.size+2) 62 (.slice mp md.length mc) W') ⟨((aA.alloc _ _).alloc' _).alloc' _,((aE.new _ _ _).keep (aA.alloc _ _) (by simp)).keep (aA.alloc _ _) (by simp;omega),?_,?_⟩ ?_
 ·have h1:=aD.new (w.alloc (.cells #[.slice pp ps.length pc] 24)) 46 #[tsv,inv,mav,onv]
  rw [aC] at h1
  exact h1.keep (aA.alloc _ _) h1.facts.2.2
 ·have h1:=aE.new ((w.alloc (.cells #[.slice pp ps.length pc] 24)).alloc (.cells #[tsv,inv,mav,onv] 46)) 62 (.slice mp md.length mc)
  rw [aC,aC] at h1
  exact h1
 rintro W1 ⟨k1,v1,b1,m1⟩
 have K1:=hid k1
 have V1:=hid v1
 have B1:=hid b1
 have M1:=hid m1
 obtain ⟨b,hb⟩ : ∃ b,b=w.heap.size:=⟨_,rfl⟩
 rw [← hb] at V1 B1 M1 ⊢
 have HB:=hid hb
 clear k1 v1 b1 hb m1
 have ht0:=V1.out.facts.1
 have htl:=V1.out.facts.2.2
 have hw0:W1.cell? ⟨b+1,0,none⟩=some tsv:=B1.out.facts.1 0
 have hw1:W1.cell? ⟨b+1,1,none⟩=some inv:=B1.out.facts.1 1
 have hw2:W1.cell? ⟨b+1,2,none⟩=some mav:=B1.out.facts.1 2
 have hw3:W1.cell? ⟨b+1,3,none⟩=some onv:=B1.out.facts.1 3
 have hwl:=B1.out.facts.2.2
 go_wp2_with fail
 refine (gU S ps wi _ _ _ _ _ W1 (fun c hc=>Nat.lt_of_lt_of_le (hS c hc) K1.out.size) (HP.out.keep hS K1.out) (HW.out.keep hS K1.out)).mono ?_
 rintro e W2 ⟨rfl,k2⟩
 have K2:=hid (K1.out.trans k2)
 have V2:=hid (V1.out.keep k2 V1.out.facts.2.2)
 have B2:=hid (B1.out.keep k2 B1.out.facts.2.2)
 have M2:=hid (M1.out.keep k2 M1.out.facts.2.2)
 clear ht0 htl hw0 hw1 hw2 hw3 hwl V1 B1 M1 K1 k2
 by_cases hz:bE ps wi=0
 ·have hz1':(bE ps wi==0)=true:=by simpa using hz
  have hz2':(bE ps wi != 0)=false:=by simp [bne,hz1']
  have HZ:=hid hz
  obtain ⟨hT,hTS,-,-,-,-,-,hone⟩:=cI hz
  rw [hz] at hz1' hz2' ⊢
  obtain ⟨h8,hf2,-,hin,hil,-⟩:=dD hTS
  have hok:=gB hTS
  have h14:=(nT wi hT).1
  have hon:=vC hone h8 hf2
  have ht0:=V2.out.facts.1
  have htl:=V2.out.facts.2.2
  have hw0:W2.cell? ⟨b+1,0,none⟩=some tsv:=B2.out.facts.1 0
  have hw1:W2.cell? ⟨b+1,1,none⟩=some inv:=B2.out.facts.1 1
  have hw2:W2.cell? ⟨b+1,2,none⟩=some mav:=B2.out.facts.1 2
  have hw3:W2.cell? ⟨b+1,3,none⟩=some onv:=B2.out.facts.1 3
  have hwl:=B2.out.facts.2.2
  clear hz hone
  go_wp2_with fail
  refine (oY S ps wi _ _ _ _ _ W2 (fun c hc=>Nat.lt_of_lt_of_le (hS c hc) K2.out.size) (HP.out.keep hS K2.out) (HW.out.keep hS K2.out) h8 hf2 hok hin hil h14 hon).mono ?_
  rintro e w8 ⟨g,kk,rfl,htk,hfg,hge,k8⟩
  have G1:=hid htk
  have G2:=hid hfg
  have K8:=hid (K2.out.trans k8)
  have V8:=hid (V2.out.keep k8 V2.out.facts.2.2)
  have M8:=hid (M2.out.keep k8 M2.out.facts.2.2)
  have hgl:=hfg.lt
  have hsz:W2.heap.size+3<w8.heap.size:=by omega
  have HSZ:=hid hsz
  clear htk hfg hge k8 ht0 htl hw0 hw1 hw2 hw3 hwl V2 B2 M2 hgl hsz
  go_upto_region 5 with fail
  refine bF (fun W'=>aA w8 W'/\SB ps wi w8.heap.size (W2.heap.size+3) g W') ⟨aA.alloc _ _,aD.new _ _ _,G1.out.keep (B:=w8.heap.size) (fun c hc=>by have e:c=W2.heap.size+3:=hc;have:=HSZ.out;omega) (aA.alloc _ _),⟨_,G2.out.keep (aA.alloc _ _)⟩,by rw [aC];have:=HSZ.out;omega⟩ ?_
  rintro W3 ⟨k3,b3⟩
  have B3:=hid b3
  have K3:=hid (K8.out.trans k3)
  have V3:=hid (V8.out.keep k3 V8.out.facts.2.2)
  have M3:=hid (M8.out.keep k3 M8.out.facts.2.2)
  have hc0:W3.cell? ⟨w8.heap.size,0,none⟩=some (.int .i64 (aB ps wi).many):=b3.bx.facts.1 0
  have hcl:=b3.bx.facts.2.2
  have hm0:=M3.out.facts.1
  have hml:=M3.out.facts.2.2
  have ht0:=V3.out.facts.1
  have htl:=V3.out.facts.2.2
  clear k3 b3 G1 G2 HSZ K8 V8 M8
  generalize W2.heap.size+3=tb at B3
  generalize w8.heap.size=cb at B3 hc0 hcl ⊢
  by_cases h1:md.length<(aB ps wi).many
  ·have h1I:(md.length:Int)<((aB ps wi).many:Int):=by omega
   go_wp2_with fail
   refine cE (v:= .tuple #[.slice none 0 0,.int .i64 4]) (fun W'=>aA w W') K3.out rfl ?_
   rintro W hkW
   exact ⟨by simp [results,Tryz.results38,go_sem],hkW,.inr (.inl ⟨HZ.out,.inl h1,rfl⟩)⟩
  by_cases h2:400<md.length
  ·have h1I : ¬ ((md.length:Int)<((aB ps wi).many:Int)):=by omega
   have h2I:(400:Int)<(md.length:Int):=by omega
   go_wp2_with fail
   refine cE (v:= .tuple #[.slice none 0 0,.int .i64 4]) (fun W'=>aA w W') K3.out rfl ?_
   rintro W hkW
   exact ⟨by simp [results,Tryz.results38,go_sem],hkW,.inr (.inl ⟨HZ.out,.inr h2,rfl⟩)⟩
  have h1I : ¬ ((md.length:Int)<((aB ps wi).many:Int)):=by omega
  have h2I : ¬ ((400:Int)<(md.length:Int)):=by omega
  go_wp2_with fail
  clear hm0 hml ht0 htl hc0 hcl h1I h2I
  have HLA:=hid (show ∀ W,aA W3 W->SB ps wi cb tb g W/\aE (b+2) 62 (.slice mp md.length mc) W/\aA w W from fun W k=>⟨B3.out.keep k,M3.out.keep k M3.out.facts.2.2,K3.out.trans k⟩)
  have HHO:=hid (show ∀ W,aA W3 W->∀ x:Int,x≠0->x.natAbs<=(aB ps wi).many->Calls Tryz.prog 97 #[.int .i64 x,.pointer (some ⟨b+2,0,none⟩)] W fun e w'=>e=.returned (.bool (Cn.inM md x))/\aA W w' from fun W k x h0 hx=>zV S md _ (b+2) x W (fun c hc=>Nat.lt_of_lt_of_le (hS c hc) (K3.out.trans k).size) (HLA.out W k).2.1 (HM.out.keep hS (K3.out.trans k)) h0 (by omega) (by omega))
  have hcb3:cb<W3.heap.size:=B3.out.bx.facts.2.2
  have hg3:g<W3.heap.size:=by obtain ⟨_,hf⟩:=B3.out.fg;exact hf.lt
  go_loopg [11,39] ps.length (fun gk lv iv wq=> ∃ j:Nat,j+gk=ps.length/\iv=.int .i64 j/\fZ W3.heap.size lv (vH (aB ps wi) md j) wq/\aA W3 wq)
  case atStart=>exact ⟨0,by omega,rfl,fZ.nil _ _,aA.refl _⟩
  case round=>
  obtain ⟨j,hj,rfl,hrow,hk⟩:=hrel
  have R1:=hid hrow
  have K1:=hid hk
  clear hrow hk
  by_cases hlt:j<ps.length
  ·obtain ⟨qb,qo,qcap,hqv,hqb,-,hrow⟩:=(HP.out.keep hS (K3.out.trans K1.out)).get hlt
   cases hqv
   obtain ⟨cs,hcs,hpj⟩:=hrow j hlt
   have hfl2:=hf2 _ (List.getElem_mem hlt)
   have hqbl:qb<wr.heap.size:=Nat.lt_of_lt_of_le (hS qb hqb) (K3.out.trans K1.out).size
   have hjI:(j:Int)<(ps.length:Int):=by omega
   have hnl2:=cB ps wi
   have HNG:=hid (show (aB ps wi).nf.getD j 0=ps[j].fl.length by rw [kN wi hlt,fD ps j hlt])
   have HSR:=hid (xV (aB ps wi) md j)
   have hal:=aDi (aB ps wi) md j
   obtain ⟨htk0,htkn⟩:=Cn.CT.tk_lit hok (i:=j) (by omega)
   have HTT:=hid (Cn.CT.tk_in (aB ps wi) md j)
   have HFLL:=hid (show (aB ps wi).flags md j=flJ (aB ps wi) md j ps[j].fl.length by unfold Cn.CT.flags flJ;rw [HNG.out])
   obtain ⟨tb',tof,htp,htb',htc⟩:=(show Cn.aH (fun b=>b=tb) wr (aB ps wi).tks (.slice (some ⟨tb,0,none⟩) (aB ps wi).tks.length ps.length) from by rw [Cn.CT.tks_len,hnl2];exact (HLA.out wr K1.out).1.tk).nth (k:=j) (by rw [Cn.CT.tks_len];omega)
   cases htp
   have hct:=htc j _ (Cn.CT.tks_get (aB ps wi) (i:=j) (by omega))
   rw [Nat.zero_add] at hct
   have htbl:tb<wr.heap.size:=(HLA.out wr K1.out).1.lt
   have HFG:=hid (show ∀ k,k<ps[j].fl.length->(aB ps wi).fgs wi.on (j:Int) (k:Int)=(aB ps wi).fgL j k/\(aB ps wi).fgL j k≠0/\((aB ps wi).fgL j k).natAbs<=(aB ps wi).many from fun k hk=>by
    have hk2:k<(aB ps wi).nf.getD j 0:=by rw [HNG.out];exact hk
    exact ⟨Cn.CT.fgs_get (c:=aB ps wi) (on:=wi.on) (fun _ _=>rfl) (by rw [cB];exact hlt) hk2,(Cn.CT.fg_lit (aB ps wi) (i:=j) (k:=k) (by rw [cB];exact hlt) hk2).1,(Cn.CT.fg_lit (aB ps wi) (i:=j) (k:=k) (by rw [cB];exact hlt) hk2).2⟩)
   have HHT:=hid (show ∀ W,aA wr W->Calls Tryz.prog 97 #[.int .i64 ((aB ps wi).tkL j),.pointer (some ⟨b+2,0,none⟩)] W fun e w'=>e=.returned (.bool ((aB ps wi).takes md j))/\aA W w' from fun W k=>HTT.out ▸ HHO.out W (K1.out.trans k) _ htk0 htkn)
   generalize ps[j]=q at hpj hfl2 HNG HFLL HFG
   obtain ⟨kd,a,fl,nt,kids,kp,fp,kc,fc,-,hfl,rfl,-,-⟩:=hpj.spelt
   obtain ⟨c0,c1,c2,c3,c4,c5,c6,c7,c8,c9,c10,c11,c12,c13⟩:=eO hcs
   clear hrow hcs hpj htc htb'
   generalize hace:vH (aB ps wi) md j=acc at HSR hal R1
   obtain ⟨xp,xc,hxv⟩:=R1.out.shape
   subst hxv
   clear hace hnl2
   generalize (aB ps wi).tkL j=tn at hct htk0 htkn HTT HHT
   go_upto_region 12 with fail
   refine bF (fun W'=>aA wr W'/\aD wr.heap.size 76 #[.string q.n,.int .i64 q.v,.int .i64 q.sl,.slice fp q.fl.length fc,.int .i64 kd,.string a.n,.int .i64 a.op,.int .i64 a.v,.int .i64 a.sl,.string a.f,.bool a.on,.string fl,.bool nt,.slice kp kids.length kc] W') ⟨aA.alloc _ _,aD.new _ _ _⟩ ?_
   rintro W4 ⟨k4,b4⟩
   have KR:=hid (K1.out.trans k4)
   have R4:=hid (R1.out.keep k4)
   have B4:=hid b4
   have hct4:=(k4.cell (p:=⟨tb,j,none⟩) htbl).trans hct
   have htbl4:tb<W4.heap.size:=Nat.lt_of_lt_of_le htbl k4.size
   have hx1:W4.cell? ⟨cb,1,none⟩=some (.slice (some ⟨tb,0,none⟩) ps.length ps.length):=(HLA.out W4 KR.out).1.bx.facts.1 1
   have hxl:=(HLA.out W4 KR.out).1.bx.facts.2.2
   have HHT4:=hid (HHT.out W4 k4)
   clear k4 b4 c0 c1 c2 c3 c4 c5 c6 c7 c8 c9 c10 c11 c12 c13 R1 hct htbl HHT
   generalize wr.heap.size=bp at B4 ⊢
   go_wp2_with fail
   refine HHT4.out.mono ?_
   rintro e W5 ⟨rfl,k5⟩
   have KS:=hid (KR.out.trans k5)
   have R5:=hid (R4.out.keep k5)
   have B5p:=hid (B4.out.keep k5 B4.out.facts.2.2)
   have hf3:W5.cell? ⟨bp,3,none⟩=some (.slice fp q.fl.length fc):=B5p.out.facts.1 3
   have hfl3:=B5p.out.facts.2.2
   clear k5 R4 B4 hct4 htbl4 hx1 hxl HHT4
   cases htj:(aB ps wi).takes md j with
   | false=>
    have HSR2:=hid (HSR.out.trans (by rw [if_neg (by rw [htj];simp),List.append_nil]))
    clear htj HSR
    go_wp2_with fail
    go_roundg (ps.length-(j+1))
    case rel=>exact ⟨j+1,by omega,by go_num,by rw [HSR2.out];exact R5.out,KS.out⟩
    case measure=>omega
   | true=>
    have HSR2:=hid (HSR.out.trans (by rw [if_pos htj]))
    clear htj HSR
    go_upto_region 14 with fail
    refine bF (fun W'=>aA W5 W'/\aD W5.heap.size 64 #[.int .i64 j,.slice none 0 0] W') ⟨aA.alloc _ _,aD.new _ _ _⟩ ?_
    rintro W6 ⟨k6,b6⟩
    have K6m:=hid k6
    have B6m:=hid b6
    have hf6:W6.cell? ⟨bp,3,none⟩=some (.slice fp q.fl.length fc):=(k6.cell (p:=⟨bp,3,none⟩) hfl3).trans hf3
    have hfl6:bp<W6.heap.size:=Nat.lt_of_lt_of_le hfl3 k6.size
    clear k6 b6 hf3 hfl3
    generalize hbm:W5.heap.size=bm at B6m ⊢
    have HBM:=hid hbm
    clear hbm
    have hcbm:cb<bm:=by have:=HBM.out;have:=KS.out.size;omega
    have hgbm:g<bm:=by have:=HBM.out;have:=KS.out.size;omega
    obtain ⟨wj,rfl⟩ : ∃ wj:World,wj=wr:=⟨_,rfl⟩
    go_wp2_with fail
    go_loopg [57] q.fl.length (fun gk kv wq=> ∃ (k:Nat) (mv:Value),k+gk=q.fl.length/\kv=.int .i64 k/\aD bm 64 #[.int .i64 j,mv] wq/\wq.ownsRow (bm+1) 4 1 mv k ((flJ (aB ps wi) md j k).map Value.bool)/\aA W5 wq)
    case atStart=>exact ⟨0,_,by omega,rfl,B6m.out,World.ownsRow_nil _ _ _ _,K6m.out⟩
    case round=>
     obtain ⟨k,mv,hk,rfl,hb,ho,hkk⟩:=hrel
     have B5:=hid hb
     have O5:=hid ho
     have K5:=hid hkk
     clear hb ho hkk B6m K6m hf6 hfl6
     obtain ⟨hbc,hbf,hbl⟩:=B5.out.facts
     by_cases hlt2:k<q.fl.length
     ·obtain ⟨mq,mcap,hmv⟩ : ∃ mq mcap,mv=.slice mq k mcap:=nA O5.out
      subst hmv
      have hb1:wr.cell? ⟨bm,1,none⟩=some (.slice mq k mcap):=hbc 1
      have hb1d:wr.drew.cell? ⟨bm,1,none⟩=some (.slice mq k mcap):=hb1
      have hf1:=hbf 1
      clear hbc hbf
      have KW:=hid (KS.out.trans K5.out)
      obtain ⟨hsb,-,-⟩:=HLA.out wr KW.out
      have hx2:wr.cell? ⟨cb,2,none⟩=some (.map (some g)):=hsb.bx.facts.1 2
      obtain ⟨nk,hpm⟩:=hsb.fg
      obtain ⟨he,hfr0,hfrn⟩:=HFG.out k hlt2
      have HHB:=hid (show ∀ W:World,W.heap[cb]? = wr.heap[cb]? ->W.heap[g]? = wr.heap[g]? ->(W.cell? ⟨cb,2,none⟩=some (.map (some g))/\(Instr.lookup 132 (.map (some g)) (.agg #[.int .i64 j,.int .i64 k]) false).run Tryz.prog W=.ok (.int .i64 ((aB ps wi).fgL j k)) W) from fun W h1 h2=>⟨(World.cell?_of_block (a:=⟨cb,2,none⟩) h1).trans hx2,by
       have:=(hpm.at h2).look qZ (x:=(j:Int)) (y:=(k:Int)) (by unfold Cn.SmP;omega) (by unfold Cn.SmP;omega)
       rw [he] at this
       exact this⟩)
      have HCT:=hid (show ∀ W',aA wr W'->Calls Tryz.prog 97 #[.int .i64 ((aB ps wi).fgL j k),.pointer (some ⟨b+2,0,none⟩)] W' fun e w'=>e=.returned (.bool (Cn.inM md ((aB ps wi).fgL j k)))/\aA W' w' from fun W' kw=>HHO.out W' (KW.out.trans kw) _ hfr0 hfrn)
      have HNX:=hid (aMo (aB ps wi) md j k)
      have hfln:=aHk (aB ps wi) md j k
      generalize Cn.inM md ((aB ps wi).fgL j k)=ck at HCT HNX
      generalize (aB ps wi).fgL j k=fr at HCT HHB hfr0 hfrn
      generalize flJ (aB ps wi) md j k=fls at O5 HNX hfln
      have hcbw:cb<wr.heap.size:=by omega
      have hgw:g<wr.heap.size:=by omega
      have HHK:=hid (show ∀ W:World,aA wr W->(W.cell? ⟨cb,2,none⟩=some (.map (some g))/\(Instr.lookup 132 (.map (some g)) (.agg #[.int .i64 j,.int .i64 k]) false).run Tryz.prog W=.ok (.int .i64 fr) W) from fun W kw=>HHB.out W (kw.block cb hcbw) (kw.block g hgw))
      have hkI:(k:Int)<(q.fl.length:Int):=by omega
      clear hsb hpm he hx2
      go_upto_region 17 with fail
      have HELD:=HHK.out wr.drew (aA.drew (aA.refl wr))
      refine wp_region_held_drew (S:=fun w=>w.cell? ⟨cb,2,none⟩=some (.map (some g))/\(Instr.lookup 132 (.map (some g)) (.agg #[.int .i64 j,.int .i64 k]) false).run Tryz.prog w=.ok (.int .i64 fr) w) (by kernel_rfl) HELD (fun hHeld=> ?_)
      refine Cn.tkN 0 (v:= ?_) ?_ ?_
      rotate_left
      ·rintro w ⟨hs1,hs2⟩
       go_simp
       try with_reducible rfl
      try simp only [Cn.acP]
      refine Cn.tkN 2 (v:= ?_) ?_ ?_
      rotate_left
      ·rintro w ⟨hs1,hs2⟩
       go_simp
       try with_reducible rfl
      try simp only [Cn.acP]
      refine Cn.tkN 3 (v:= ?_) ?_ ?_
      rotate_left
      ·rintro w ⟨hs1,hs2⟩
       go_simp
       try with_reducible rfl
      try simp only [Cn.acP]
      refine Cn.tkN 4 (v:= ?_) ?_ ?_
      rotate_left
      ·rintro w ⟨hs1,hs2⟩
       go_simp
       try with_reducible rfl
      try simp only [Cn.acP]
      refine Cn.tkN 5 (v:= ?_) ?_ ?_
      rotate_left
      ·rintro w ⟨hs1,hs2⟩
       go_simp
       try with_reducible rfl
      try simp only [Cn.acP]
      refine Cn.tkN 6 (v:= ?_) ?_ ?_
      rotate_left
      ·rintro w ⟨hs1,hs2⟩
       go_simp
       try with_reducible rfl
      try simp only [Cn.acP]
      refine Cn.tkN 7 (v:= ?_) ?_ ?_
      rotate_left
      ·rintro w ⟨hs1,hs2⟩
       go_simp
       try with_reducible rfl
      try simp only [Cn.acP]
      refine Cn.tkN 8 (v:= ?_) ?_ ?_
      rotate_left
      ·rintro w ⟨hs1,hs2⟩
       go_simp
       try with_reducible rfl
      try simp only [Cn.acP]
      refine wpAnyH_ready (rs:= [1,9]) (by kernel_rfl) (by simp) ?_
      refine AllReadyH.cons rfl (fun KK hK=> ?_) (AllReadyH.cons rfl (fun KK hK=> ?_) AllReadyH.nil)
      ·skip
       go_simp
       refine hK.out _ _ HELD (fun hH1=> ?_)
       clear hK KK
       try simp only [Cn.acP]
       refine wpAnyH_ready (rs:= [9]) (by kernel_rfl) (by simp) ?_
       refine AllReadyH.cons rfl (fun KK hK=> ?_) AllReadyH.nil
       go_simp
       with_reducible refine (HCT.out _ (aA.drew (aA.refl _))).mono ?_
       rintro e W6 ⟨rfl,hk6⟩
       have K6:=hid ((aA.drew (aA.refl wr)).trans hk6)
       clear hk6
       have hH6:=HHK.out W6 K6.out
       refine hK.out _ _ hH6 (fun _=> ?_)
       clear hK KK
       have hb16:W6.cell? ⟨bm,1,none⟩=some (.slice mq k mcap):=(K6.out.cell (p:=⟨bm,1,none⟩) hbl).trans hb1
       have hbl6:bm<W6.heap.size:=Nat.lt_of_lt_of_le hbl K6.out.size
       try simp only [Cn.acP]
       refine wpAnyH_ready (rs:= [10]) (by kernel_rfl) (by simp) ?_
       refine AllReadyH.cons rfl (fun KK hK=> ?_) AllReadyH.nil
       go_simp
       have k7:=aA.alloc W6 (.cells #[.bool ck] 4)
       refine hK.out _ _ (HHK.out _ (K6.out.trans k7)) (fun hH7=> ?_)
       clear hK KK
       refine yP (fun W'=>aA W6 W'/\aE W6.heap.size 4 (.bool ck) W') ⟨k7,aE.new _ _ _⟩ ?_
       clear k7 hH7
       rintro W7 ⟨kk,vn⟩
       have K7:=hid (K6.out.trans kk)
       have V7:=hid vn
       have hH7:=HHK.out W7 K7.out
       have hb17:W7.cell? ⟨bm,1,none⟩=some (.slice mq k mcap):=(K7.out.cell (p:=⟨bm,1,none⟩) hbl).trans hb1
       have hbl7:bm<W7.heap.size:=Nat.lt_of_lt_of_le hbl K7.out.size
       clear kk vn
       refine wpAnyH_ready (rs:= [11]) (by kernel_rfl) (by simp) ?_
       refine AllReadyH.cons rfl (fun KK hK=> ?_) AllReadyH.nil
       refine Cn.aY rfl _ _ 62 rfl (bm+1) 4 i0 (.bool false) 1 1 Tryz.underlying62 hi hz0 hz1 hz2 rfl (by decide) (.slice mq k mcap) k (fls.map Value.bool) rfl (bK O5.out K7.out) ⟨W6.heap.size,0,none⟩ 1 1 [.bool ck] rfl rfl (zM V7.out) pD (by unfold maxLen;omega) (by omega) (by omega) ?_
       intro v8 W8 h1 h2 h4
       obtain ⟨g8,cap8,rfl⟩:=Cn.aW h1 (Nat.succ_pos _)
       have P8:=hid (mJ HBM.out (B5.out.keep K7.out B5.out.facts.2.2) (bK O5.out K7.out) h2 h1 (K5.out.trans K7.out))
       have HB8:=hid (show ∀ c,c<bm->W8.heap[c]? = wr.heap[c]? from fun c hc=>(h2.block c (by omega) fun e=>by have:=(cV (bK O5.out K7.out) e.symm).1;omega).trans (K7.out.block c (by omega)))
       have hH8:=HHB.out W8 (HB8.out _ hcbm) (HB8.out _ hgbm)
       obtain ⟨hbc8,hbf8,hbl8⟩:=P8.out.1.facts
       have hc81:W8.cell? ⟨bm,1,none⟩=some (.slice mq k mcap):=hbc8 1
       have hf81:=hbf8 1
       refine hK.out _ _ hH8 (fun hH9=> ?_)
       clear hK KK h1 h2 h4 hbc8 hbf8
       try simp only [Cn.acP]
       refine Cn.tkN 12 (v:= ?_) ?_ ?_
       rotate_left
       ·rintro w ⟨hs1,hs2⟩
        go_simp
        try with_reducible rfl
       try simp only [Cn.acP]
       refine wpAnyH_ready (rs:= [13]) (by kernel_rfl) (by simp) ?_
       refine AllReadyH.cons rfl (fun KK hK=> ?_) AllReadyH.nil
       go_simp
       refine hK.out _ _ (HHB.out _ ((Below.heap_setCell _ _ _ _ (fun e=>by have e2:cb=bm:=e;omega)).trans (HB8.out _ hcbm)) ((Below.heap_setCell _ _ _ _ (fun e=>by have e2:g=bm:=e;omega)).trans (HB8.out _ hgbm))) (fun hH16=> ?_)
       clear hK KK
       refine wpAnyH_done (by kernel_rfl) ?_ _
       have HQ:=hid P8.out.2
       generalize W8.setCell ⟨bm,1,none⟩ (.slice (some ⟨g8,0,none⟩) (k+1) cap8)=W9 at HQ ⊢
       clear hc81 hf81 hbl8 hH8 hH9 hH16 P8
       go_wp2_with fail
       go_roundg (q.fl.length-(k+1))
       case rel=>exact ⟨k+1,_,by omega,by go_num,HQ.out.1,by rw [HNX.out,List.map_append];exact HQ.out.2.1,HQ.out.2.2⟩
       case measure=>omega
      ·skip
       go_simp
       with_reducible refine (HCT.out _ (aA.drew (aA.refl _))).mono ?_
       rintro e W6 ⟨rfl,hk6⟩
       have K6:=hid ((aA.drew (aA.refl wr)).trans hk6)
       clear hk6
       have hH6:=HHK.out W6 K6.out
       refine hK.out _ _ hH6 (fun _=> ?_)
       clear hK KK
       have hb16:W6.cell? ⟨bm,1,none⟩=some (.slice mq k mcap):=(K6.out.cell (p:=⟨bm,1,none⟩) hbl).trans hb1
       have hbl6:bm<W6.heap.size:=Nat.lt_of_lt_of_le hbl K6.out.size
       try simp only [Cn.acP]
       refine wpAnyH_ready (rs:= [1,10]) (by kernel_rfl) (by simp) ?_
       refine AllReadyH.cons rfl (fun KK hK=> ?_) (AllReadyH.cons rfl (fun KK hK=> ?_) AllReadyH.nil)
       ·skip
        go_simp
        refine hK.out _ _ hH6 (fun hH1=> ?_)
        clear hK KK
        try simp only [Cn.acP]
        refine wpAnyH_ready (rs:= [10]) (by kernel_rfl) (by simp) ?_
        refine AllReadyH.cons rfl (fun KK hK=> ?_) AllReadyH.nil
        go_simp
        have k7:=aA.alloc W6 (.cells #[.bool ck] 4)
        refine hK.out _ _ (HHK.out _ (K6.out.trans k7)) (fun hH7=> ?_)
        clear hK KK
        refine yP (fun W'=>aA W6 W'/\aE W6.heap.size 4 (.bool ck) W') ⟨k7,aE.new _ _ _⟩ ?_
        clear k7 hH7
        rintro W7 ⟨kk,vn⟩
        have K7:=hid (K6.out.trans kk)
        have V7:=hid vn
        have hH7:=HHK.out W7 K7.out
        have hb17:W7.cell? ⟨bm,1,none⟩=some (.slice mq k mcap):=(K7.out.cell (p:=⟨bm,1,none⟩) hbl).trans hb1
        have hbl7:bm<W7.heap.size:=Nat.lt_of_lt_of_le hbl K7.out.size
        clear kk vn
        refine wpAnyH_ready (rs:= [11]) (by kernel_rfl) (by simp) ?_
        refine AllReadyH.cons rfl (fun KK hK=> ?_) AllReadyH.nil
        refine Cn.aY rfl _ _ 62 rfl (bm+1) 4 i0 (.bool false) 1 1 Tryz.underlying62 hi hz0 hz1 hz2 rfl (by decide) (.slice mq k mcap) k (fls.map Value.bool) rfl (bK O5.out K7.out) ⟨W6.heap.size,0,none⟩ 1 1 [.bool ck] rfl rfl (zM V7.out) pD (by unfold maxLen;omega) (by omega) (by omega) ?_
        intro v8 W8 h1 h2 h4
        obtain ⟨g8,cap8,rfl⟩:=Cn.aW h1 (Nat.succ_pos _)
        have P8:=hid (mJ HBM.out (B5.out.keep K7.out B5.out.facts.2.2) (bK O5.out K7.out) h2 h1 (K5.out.trans K7.out))
        have HB8:=hid (show ∀ c,c<bm->W8.heap[c]? = wr.heap[c]? from fun c hc=>(h2.block c (by omega) fun e=>by have:=(cV (bK O5.out K7.out) e.symm).1;omega).trans (K7.out.block c (by omega)))
        have hH8:=HHB.out W8 (HB8.out _ hcbm) (HB8.out _ hgbm)
        obtain ⟨hbc8,hbf8,hbl8⟩:=P8.out.1.facts
        have hc81:W8.cell? ⟨bm,1,none⟩=some (.slice mq k mcap):=hbc8 1
        have hf81:=hbf8 1
        refine hK.out _ _ hH8 (fun hH9=> ?_)
        clear hK KK h1 h2 h4 hbc8 hbf8
        try simp only [Cn.acP]
        refine Cn.tkN 12 (v:= ?_) ?_ ?_
        rotate_left
        ·rintro w ⟨hs1,hs2⟩
         go_simp
         try with_reducible rfl
        try simp only [Cn.acP]
        refine wpAnyH_ready (rs:= [13]) (by kernel_rfl) (by simp) ?_
        refine AllReadyH.cons rfl (fun KK hK=> ?_) AllReadyH.nil
        go_simp
        refine hK.out _ _ (HHB.out _ ((Below.heap_setCell _ _ _ _ (fun e=>by have e2:cb=bm:=e;omega)).trans (HB8.out _ hcbm)) ((Below.heap_setCell _ _ _ _ (fun e=>by have e2:g=bm:=e;omega)).trans (HB8.out _ hgbm))) (fun hH16=> ?_)
        clear hK KK
        refine wpAnyH_done (by kernel_rfl) ?_ _
        have HQ:=hid P8.out.2
        generalize W8.setCell ⟨bm,1,none⟩ (.slice (some ⟨g8,0,none⟩) (k+1) cap8)=W9 at HQ ⊢
        clear hc81 hf81 hbl8 hH8 hH9 hH16 P8
        go_wp2_with fail
        go_roundg (q.fl.length-(k+1))
        case rel=>exact ⟨k+1,_,by omega,by go_num,HQ.out.1,by rw [HNX.out,List.map_append];exact HQ.out.2.1,HQ.out.2.2⟩
        case measure=>omega
       ·skip
        go_simp
        have k7:=aA.alloc W6 (.cells #[.bool ck] 4)
        refine hK.out _ _ (HHK.out _ (K6.out.trans k7)) (fun hH7=> ?_)
        clear hK KK
        refine yP (fun W'=>aA W6 W'/\aE W6.heap.size 4 (.bool ck) W') ⟨k7,aE.new _ _ _⟩ ?_
        clear k7 hH7
        rintro W7 ⟨kk,vn⟩
        have K7:=hid (K6.out.trans kk)
        have V7:=hid vn
        have hH7:=HHK.out W7 K7.out
        have hb17:W7.cell? ⟨bm,1,none⟩=some (.slice mq k mcap):=(K7.out.cell (p:=⟨bm,1,none⟩) hbl).trans hb1
        have hbl7:bm<W7.heap.size:=Nat.lt_of_lt_of_le hbl K7.out.size
        clear kk vn
        refine wpAnyH_ready (rs:= [1]) (by kernel_rfl) (by simp) ?_
        refine AllReadyH.cons rfl (fun KK hK=> ?_) AllReadyH.nil
        go_simp
        refine hK.out _ _ hH7 (fun hH1=> ?_)
        clear hK KK
        try simp only [Cn.acP]
        refine wpAnyH_ready (rs:= [11]) (by kernel_rfl) (by simp) ?_
        refine AllReadyH.cons rfl (fun KK hK=> ?_) AllReadyH.nil
        refine Cn.aY rfl _ _ 62 rfl (bm+1) 4 i0 (.bool false) 1 1 Tryz.underlying62 hi hz0 hz1 hz2 rfl (by decide) (.slice mq k mcap) k (fls.map Value.bool) rfl (bK O5.out K7.out) ⟨W6.heap.size,0,none⟩ 1 1 [.bool ck] rfl rfl (zM V7.out) pD (by unfold maxLen;omega) (by omega) (by omega) ?_
        intro v8 W8 h1 h2 h4
        obtain ⟨g8,cap8,rfl⟩:=Cn.aW h1 (Nat.succ_pos _)
        have P8:=hid (mJ HBM.out (B5.out.keep K7.out B5.out.facts.2.2) (bK O5.out K7.out) h2 h1 (K5.out.trans K7.out))
        have HB8:=hid (show ∀ c,c<bm->W8.heap[c]? = wr.heap[c]? from fun c hc=>(h2.block c (by omega) fun e=>by have:=(cV (bK O5.out K7.out) e.symm).1;omega).trans (K7.out.block c (by omega)))
        have hH8:=HHB.out W8 (HB8.out _ hcbm) (HB8.out _ hgbm)
        obtain ⟨hbc8,hbf8,hbl8⟩:=P8.out.1.facts
        have hc81:W8.cell? ⟨bm,1,none⟩=some (.slice mq k mcap):=hbc8 1
        have hf81:=hbf8 1
        refine hK.out _ _ hH8 (fun hH9=> ?_)
        clear hK KK h1 h2 h4 hbc8 hbf8
        try simp only [Cn.acP]
        refine Cn.tkN 12 (v:= ?_) ?_ ?_
        rotate_left
        ·rintro w ⟨hs1,hs2⟩
         go_simp
         try with_reducible rfl
        try simp only [Cn.acP]
        refine wpAnyH_ready (rs:= [13]) (by kernel_rfl) (by simp) ?_
        refine AllReadyH.cons rfl (fun KK hK=> ?_) AllReadyH.nil
        go_simp
        refine hK.out _ _ (HHB.out _ ((Below.heap_setCell _ _ _ _ (fun e=>by have e2:cb=bm:=e;omega)).trans (HB8.out _ hcbm)) ((Below.heap_setCell _ _ _ _ (fun e=>by have e2:g=bm:=e;omega)).trans (HB8.out _ hgbm))) (fun hH16=> ?_)
        clear hK KK
        refine wpAnyH_done (by kernel_rfl) ?_ _
        have HQ:=hid P8.out.2
        generalize W8.setCell ⟨bm,1,none⟩ (.slice (some ⟨g8,0,none⟩) (k+1) cap8)=W9 at HQ ⊢
        clear hc81 hf81 hbl8 hH8 hH9 hH16 P8
        go_wp2_with fail
        go_roundg (q.fl.length-(k+1))
        case rel=>exact ⟨k+1,_,by omega,by go_num,HQ.out.1,by rw [HNX.out,List.map_append];exact HQ.out.2.1,HQ.out.2.2⟩
        case measure=>omega
     ·obtain rfl:k=q.fl.length:=by omega
      obtain ⟨mq,mcap,hmv⟩ : ∃ mq mcap,mv=.slice mq q.fl.length mcap:=nA O5.out
      subst hmv
      have hm0:wr.cell? ⟨bm,0,none⟩=some (.int .i64 j):=hbc 0
      have hm1:wr.cell? ⟨bm,1,none⟩=some (.slice mq q.fl.length mcap):=hbc 1
      have KO:=hid (KS.out.trans K5.out)
      have hkol:=KO.out.size
      have R7:=hid (R5.out.keep K5.out)
      have HMB:=hid (show wB (fun c=>bm+1<=c/\c<wr.heap.size) wr ⟨(j:Int),(aB ps wi).flags md j⟩ [.int .i64 j,.slice mq q.fl.length mcap] from ⟨_,rfl,by rw [HFLL.out];exact aEi O5.out (aHk ..)⟩)
      have HOWN:=hid (show ∀ g,(Value.slice xp acc.length xc).ownBlock=some g->W3.heap.size<=g/\g<bm from fun g hg=>HBM.out ▸ R5.out.own g hg)
      have HBO:=hid (show W3.heap.size<=bm from HBM.out ▸ KS.out.size)
      clear hbc hbf hlt2
      obtain ⟨csl,c1,c2,c3,c4⟩:=R7.out
      have HC3:=hid c3
      have HC4:=hid c4
      clear c3 c4
      go_wp2_with (at_builtin;refine wpList_append_own_at _ rfl _ _ 25 rfl W3.heap.size 64 im (.agg #[.int .i64 0,.slice none 0 0]) 2 32 Tryz.underlying25 hmi hmz0 hmz1 hmz2 rfl (by decide) (.slice xp acc.length xc) acc.length csl.flatten rfl (HC3.out.alloc _) ⟨wr.heap.size,0,none⟩ 1 1 [.int .i64 j,.slice mq q.fl.length mcap] rfl rfl lD (by intro u hu;simp at hu;rcases hu with rfl | rfl<;>rfl) (by unfold maxLen;omega) (by omega) (by rw [aC];omega) ?_)
      intro v6 w6 h1 h2 _ h4
      obtain ⟨g6,cap6,rfl⟩:=Cn.aW h1 (Nat.succ_pos _)
      have row6:=hid (fZ.push (B':=bm+1) c1 c2 HC4.out (by have:=HBO.out;omega) (fun g' hg'=>by have:=(HOWN.out g' hg').2;omega) HMB.out rfl (by simpa using h1) h2 (by rw [aC];exact h4))
      have L6:Below W3.heap.size wr w6:=((Below.refl _ wr).alloc hkol _).grown h2 (by rw [aC];omega) (fun g' hg'=>(HOWN.out g' hg').1)
      have K6:=hid (show aA W3 w6 from Below.trans KO.out L6)
      clear h1 h2 h4 L6 hm0 hm1 HC3 HC4
      go_wp2_with fail
      go_roundg (ps.length-(j+1))
      case rel=>exact ⟨j+1,by omega,by go_num,by rw [HSR2.out];exact row6.out,K6.out⟩
      case measure=>omega
  have hje:j=ps.length:=by omega
  have hnl : ¬ ((j:Int)<(ps.length:Int)):=by omega
  have HF:=hid (show bI (fun c=>w.heap.size<=c/\c<wr.heap.size) wr (bN ps wi md) _ from by
   have:=R1.out.final.mono (S':=fun c=>w.heap.size<=c/\c<wr.heap.size) (fun _ _=>rfl) (fun c hc=>⟨Nat.le_trans K3.out.size hc.1,hc.2⟩)
   rw [show vH (aB ps wi) md j=bN ps wi md by rw [hje];unfold vH bN Cn.CT.set;rw [cB]] at this
   exact this)
  have KF:=hid (K3.out.trans K1.out)
  obtain ⟨xp,xc,hxv⟩:=R1.out.shape
  subst hxv
  clear hje hj R1
  go_wp2_with fail
  refine cE (v:= .tuple #[.slice xp (vH (aB ps wi) md j).length xc,.int .i64 0]) (fun W'=>aA w W'/\bI (fun c=>w.heap.size<=c/\c<W'.heap.size) W' (bN ps wi md) (.slice xp (vH (aB ps wi) md j).length xc)) ⟨KF.out,HF.out⟩ rfl ?_
  rintro W ⟨hkW,hbW⟩
  exact ⟨by simp [results,Tryz.results38,go_sem],hkW,.inr (.inr ⟨HZ.out,by omega,by omega,_,rfl,hbW⟩)⟩
 ·have hz1':(bE ps wi==0)=false:=by simpa using hz
  have hz2':(bE ps wi != 0)=true:=by simp [bne,hz1']
  have HZ:=hid hz
  generalize hve:bE ps wi=ve at hz1' hz2' ⊢
  have HVE:=hid hve
  clear hz hve
  go_wp2_with fail
  refine cE (v:= .tuple #[.slice none 0 0,.int .i64 ve]) (fun W'=>aA w W') K2.out rfl ?_
  rintro W hkW
  exact ⟨by simp [results,Tryz.results38,go_sem],hkW,.inl ⟨HZ.out,by rw [HVE.out]⟩⟩
end Go.Proofs.YthaaaecmeafofaaGreatDoor
