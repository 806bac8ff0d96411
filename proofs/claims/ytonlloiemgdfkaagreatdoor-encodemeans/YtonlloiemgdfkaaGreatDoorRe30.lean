/- Steps of the proof: EncSet, RefSame, TreeSame, TreeSet, EqualInts, AtomOpen, NeedOpen. -/
import Derived.Test.YtonlloiemgdfkaaGreatDoorRe29
import Derived.Test.YtonlloiemgdfkaaGreatDoorRe26
import Derived.Test.YtonlloiemgdfkaaGreatDoorRe14
import Derived.Test.YtonlloiemgdfkaaGreatDoorRe10
import Derived.Test.YtonlloiemgdfkaaGreatDoorRe09
import Derived.Shelf.Spec.SlicesGrow
import Derived.Laws.AppendOwnNone
import Derived.Sort.OwnSortedInts
import Derived.Test.YtonlloiemgdfkaaGreatDoorRe03
import Derived.Lib.LaidTab
import Derived.Stop.LaidErr
import Derived.OpenShut
import Derived.Lib.SmallJoins
import Derived.Deep.DeepWitnessRowRef
import Derived.LaidMore
import Derived.Stop.Joined
import Derived.ChangeOld
import Derived.Shelf.Vars
import Derived.HandedShaped
set_option maxHeartbeats 16000000
set_option maxRecDepth 100000
namespace Go.Proofs.YtonlloiemgdfkaaGreatDoor
open Go.RowKit
theorem enter_holds (args:Array Value) (w:World):(callFunc 118 args).run Tryz.prog w=.ok (.enter 118 args) w:=enters_of Tryz.func118 (by kernel_rfl) rfl args w
def aSq (ps:List PK) (wi:WI) (md:List Bool) (w:World) (e:Ending) (w':World):Prop:=
 aA w w'/\((bA ps wi≠0/\e=.returned (.tuple #[.slice none 0 0,.int .i64 (bA ps wi)]))∨(bA ps wi=0/\(md.length<(aB ps wi).many∨400<md.length)/\e=.returned (.tuple #[.slice none 0 0,.int .i64 4]))∨(bA ps wi=0/\(aB ps wi).many<=md.length/\md.length<=400/\∃ v,e=.returned (.tuple #[v,.int .i64 0])/\bL (fun c=>w.heap.size<=c/\c<w'.heap.size) w' (bN ps wi md) v))
def yG (c:Cn.CT) (md:List Bool) (j:Nat):List MB:=((List.range j).filterMap fun i=>if c.takes md i then some (i,c.flags md i) else none).map aFq
def flJ (c:Cn.CT) (md:List Bool) (i k:Nat):List Bool:=(List.range k).map fun k=>md.getD (c.base i+k) false != c.on i k
theorem aAt (c:Cn.CT) (md:List Bool) (j:Nat):yG c md (j+1)=yG c md j++(if c.takes md j=true then [⟨(j:Int),c.flags md j⟩] else []):=by
 unfold yG
 rw [List.range_succ,List.filterMap_append,List.map_append]
 congr 1
 by_cases h:c.takes md j=true
 ·simp [h,aFq]
 ·simp [h]
theorem aGk (c:Cn.CT) (md:List Bool) : ∀ j,(yG c md j).length<=j
 | 0=>by simp [yG]
 | j+1=>by
  have:=aGk c md j
  rw [aAt,List.length_append]
  split<;>simp<;>omega
theorem aPt (c:Cn.CT) (md:List Bool) (i k:Nat):flJ c md i (k+1)=flJ c md i k ++ [Cn.inM md (c.fgL i k)]:=by
 unfold flJ
 rw [List.range_succ,List.map_append,Cn.CT.fg_in];rfl
theorem aKm (c:Cn.CT) (md:List Bool) (i k:Nat):(flJ c md i k).length=k:=by simp [flJ]
structure SB (ps:List PK) (wi:WI) (cb tb g:Nat) (W:World):Prop where
 bx:aD cb 158 #[.int .i64 (aB ps wi).many,.slice (some ⟨tb,0,none⟩) ps.length ps.length,.map (some g)] W
 tk:Cn.aG (fun b=>b=tb) W (aB ps wi).tks (.slice (some ⟨tb,0,none⟩) ps.length ps.length)
 fg : ∃ k,Cn.hY g k ((aB ps wi).fgs wi.on) W
 lt:tb<W.heap.size
theorem SB.keep {ps:List PK} {wi:WI} {cb tb g:Nat} {W W':World} (h:SB ps wi cb tb g W) (k:aA W W'):SB ps wi cb tb g W':=by
 obtain ⟨n,hf⟩:=h.fg
 exact ⟨h.bx.keep k h.bx.facts.2.2,h.tk.keep (B:=W.heap.size) (fun c hc=>by have e:c=tb:=hc;have:=h.lt;omega) k,⟨n,hf.keep k⟩,Nat.lt_of_lt_of_le h.lt k.size⟩
theorem vY (S:Nat->Prop) (ps:List PK) (wi:WI) (md:List Bool) (pv tsv inv mav onv mdv:Value) (w:World) (hS : ∀ b,S b->b<w.heap.size) (hp:aY S w ps pv) (hw:dE S w wi tsv inv mav onv) (hm:aS S w md mdv) :
  Calls Tryz.prog 60 #[.agg #[pv],.agg #[tsv,inv,mav,onv],mdv] w fun e w'=>aSq ps wi md w e w':=by
 obtain ⟨i0,hi,hz0,hz1,hz2⟩:=info_parts aPz
 obtain ⟨im,hmi,hmz0,hmz1,hmz2⟩:=info_parts aVh
 have HP:=hid hp
 have HW:=hid hw
 have HM:=hid hm
 have hent:=enter_holds
 obtain ⟨pp,pc,hpv,hplen⟩:=hp.len
 subst hpv
 obtain ⟨mp,mc,hmv,hmlen,-⟩:=id hm
 subst hmv
 clear hp hw hm
 go_enter Tryz.func60,Tryz.ntmps60
 go_upto_region 1 with fail
 refine bH (fun W'=>aA w W'/\aE w.heap.size 24 (.slice pp ps.length pc) W'/\aD (w.heap.size+1) 30 #[tsv,inv,mav,onv] W'/\aE (w.heap.size+2) 66 (.slice mp md.length mc) W') ⟨((aA.alloc _ _).alloc' _).alloc' _,((aE.new _ _ _).keep (aA.alloc _ _) (by simp)).keep (aA.alloc _ _) (by simp;omega),?_,?_⟩ ?_
 ·have h1:=aD.new (w.alloc (.cells #[.slice pp ps.length pc] 24)) 30 #[tsv,inv,mav,onv]
  rw [aC] at h1
  exact h1.keep (aA.alloc _ _) h1.facts.2.2
 ·have h1:=aE.new ((w.alloc (.cells #[.slice pp ps.length pc] 24)).alloc (.cells #[tsv,inv,mav,onv] 30)) 66 (.slice mp md.length mc)
  rw [aC,aC] at h1
  exact h1
 rintro W1 ⟨k1,v1,b1,m1⟩
 have K1:=hid k1
 have V1:=hid v1
 have B1:=hid b1
 have M1:=hid m1
 obtain ⟨b,hb⟩ : ∃ b,b=w.heap.size:=⟨_,rfl⟩
 rw [← hb] at V1 B1 M1 ⊢
 have HB:=hid hb
 clear k1 v1 b1 hb m1
 have ht0:=V1.out.facts.1
 have htl:=V1.out.facts.2.2
 have hw0:W1.cell? ⟨b+1,0,none⟩=some tsv:=B1.out.facts.1 0
 have hw1:W1.cell? ⟨b+1,1,none⟩=some inv:=B1.out.facts.1 1
 have hw2:W1.cell? ⟨b+1,2,none⟩=some mav:=B1.out.facts.1 2
 have hw3:W1.cell? ⟨b+1,3,none⟩=some onv:=B1.out.facts.1 3
 have hwl:=B1.out.facts.2.2
 go_wp2_with fail
 refine (fU S ps wi _ _ _ _ _ W1 (fun c hc=>Nat.lt_of_lt_of_le (hS c hc) K1.out.size) (HP.out.keep hS K1.out) (HW.out.keep hS K1.out)).mono ?_
 rintro e W2 ⟨rfl,k2⟩
 have K2:=hid (K1.out.trans k2)
 have V2:=hid (V1.out.keep k2 V1.out.facts.2.2)
 have B2:=hid (B1.out.keep k2 B1.out.facts.2.2)
 have M2:=hid (M1.out.keep k2 M1.out.facts.2.2)
 clear ht0 htl hw0 hw1 hw2 hw3 hwl V1 B1 M1 K1 k2
 by_cases hz:bA ps wi=0
 ·have hz1':(bA ps wi==0)=true:=by simpa using hz
  have hz2':(bA ps wi != 0)=false:=by simp [bne,hz1']
  have HZ:=hid hz
  obtain ⟨hT,hTS,-,-,-,-,-,hone⟩:=bI hz
  rw [hz] at hz1' hz2' ⊢
  obtain ⟨h8,hf2,-,hin,hil,-⟩:=cW hTS
  have hok:=eH hTS
  have h14:=(mZ wi hT).1
  have hon:=xZ hone h8 hf2
  have ht0:=V2.out.facts.1
  have htl:=V2.out.facts.2.2
  have hw0:W2.cell? ⟨b+1,0,none⟩=some tsv:=B2.out.facts.1 0
  have hw1:W2.cell? ⟨b+1,1,none⟩=some inv:=B2.out.facts.1 1
  have hw2:W2.cell? ⟨b+1,2,none⟩=some mav:=B2.out.facts.1 2
  have hw3:W2.cell? ⟨b+1,3,none⟩=some onv:=B2.out.facts.1 3
  have hwl:=B2.out.facts.2.2
  clear hz hone
  go_wp2_with fail
  refine (qN S ps wi _ _ _ _ _ W2 (fun c hc=>Nat.lt_of_lt_of_le (hS c hc) K2.out.size) (HP.out.keep hS K2.out) (HW.out.keep hS K2.out) h8 hf2 hok hin hil h14 hon).mono ?_
  rintro e w8 ⟨g,kk,rfl,htk,hfg,hge,k8⟩
  have G1:=hid htk
  have G2:=hid hfg
  have K8:=hid (K2.out.trans k8)
  have V8:=hid (V2.out.keep k8 V2.out.facts.2.2)
  have M8:=hid (M2.out.keep k8 M2.out.facts.2.2)
  have hgl:=hfg.lt
  have hsz:W2.heap.size+3<w8.heap.size:=by omega
  have HSZ:=hid hsz
  clear htk hfg hge k8 ht0 htl hw0 hw1 hw2 hw3 hwl V2 B2 M2 hgl hsz
  go_upto_region 5 with fail
  refine bH (fun W'=>aA w8 W'/\SB ps wi w8.heap.size (W2.heap.size+3) g W') ⟨aA.alloc _ _,aD.new _ _ _,G1.out.keep (B:=w8.heap.size) (fun c hc=>by have e:c=W2.heap.size+3:=hc;have:=HSZ.out;omega) (aA.alloc _ _),⟨_,G2.out.keep (aA.alloc _ _)⟩,by rw [aC];have:=HSZ.out;omega⟩ ?_
  rintro W3 ⟨k3,b3⟩
  have B3:=hid b3
  have K3:=hid (K8.out.trans k3)
  have V3:=hid (V8.out.keep k3 V8.out.facts.2.2)
  have M3:=hid (M8.out.keep k3 M8.out.facts.2.2)
  have hc0:W3.cell? ⟨w8.heap.size,0,none⟩=some (.int .i64 (aB ps wi).many):=b3.bx.facts.1 0
  have hcl:=b3.bx.facts.2.2
  have hm0:=M3.out.facts.1
  have hml:=M3.out.facts.2.2
  have ht0:=V3.out.facts.1
  have htl:=V3.out.facts.2.2
  clear k3 b3 G1 G2 HSZ K8 V8 M8
  generalize W2.heap.size+3=tb at B3
  generalize w8.heap.size=cb at B3 hc0 hcl ⊢
  by_cases h1:md.length<(aB ps wi).many
  ·have h1I:(md.length:Int)<((aB ps wi).many:Int):=by omega
   go_wp2_with fail
   refine cT (v:= .tuple #[.slice none 0 0,.int .i64 4]) (fun W'=>aA w W') K3.out rfl ?_
   rintro W hkW
   exact ⟨by simp [results,Tryz.results60,go_sem],hkW,.inr (.inl ⟨HZ.out,.inl h1,rfl⟩)⟩
  by_cases h2:400<md.length
  ·have h1I : ¬ ((md.length:Int)<((aB ps wi).many:Int)):=by omega
   have h2I:(400:Int)<(md.length:Int):=by omega
   go_wp2_with fail
   refine cT (v:= .tuple #[.slice none 0 0,.int .i64 4]) (fun W'=>aA w W') K3.out rfl ?_
   rintro W hkW
   exact ⟨by simp [results,Tryz.results60,go_sem],hkW,.inr (.inl ⟨HZ.out,.inr h2,rfl⟩)⟩
  have h1I : ¬ ((md.length:Int)<((aB ps wi).many:Int)):=by omega
  have h2I : ¬ ((400:Int)<(md.length:Int)):=by omega
  go_wp2_with fail
  clear hm0 hml ht0 htl hc0 hcl h1I h2I
  have HLA:=hid (show ∀ W,aA W3 W->SB ps wi cb tb g W/\aE (b+2) 66 (.slice mp md.length mc) W/\aA w W from fun W k=>⟨B3.out.keep k,M3.out.keep k M3.out.facts.2.2,K3.out.trans k⟩)
  have HHO:=hid (show ∀ W,aA W3 W->∀ x:Int,x≠0->x.natAbs<=(aB ps wi).many->Calls Tryz.prog 118 #[.int .i64 x,.pointer (some ⟨b+2,0,none⟩)] W fun e w'=>e=.returned (.bool (Cn.inM md x))/\aA W w' from fun W k x h0 hx=>aCw S md _ (b+2) x W (fun c hc=>Nat.lt_of_lt_of_le (hS c hc) (K3.out.trans k).size) (HLA.out W k).2.1 (HM.out.keep hS (K3.out.trans k)) h0 (by omega) (by omega))
  have hcb3:cb<W3.heap.size:=B3.out.bx.facts.2.2
  have hg3:g<W3.heap.size:=by obtain ⟨_,hf⟩:=B3.out.fg;exact hf.lt
  go_loopg [11,39] ps.length (fun gk lv iv wq=> ∃ j:Nat,j+gk=ps.length/\iv=.int .i64 j/\gU W3.heap.size lv (yG (aB ps wi) md j) wq/\aA W3 wq)
  case atStart=>exact ⟨0,by omega,rfl,gU.nil _ _,aA.refl _⟩
  case round=>
  obtain ⟨j,hj,rfl,hrow,hk⟩:=hrel
  have R1:=hid hrow
  have K1:=hid hk
  clear hrow hk
  by_cases hlt:j<ps.length
  ·obtain ⟨qb,qo,qcap,hqv,hqb,-,hrow⟩:=(HP.out.keep hS (K3.out.trans K1.out)).get hlt
   cases hqv
   obtain ⟨cs,hcs,hpj⟩:=hrow j hlt
   have hfl2:=hf2 _ (List.getElem_mem hlt)
   have hqbl:qb<wr.heap.size:=Nat.lt_of_lt_of_le (hS qb hqb) (K3.out.trans K1.out).size
   have hjI:(j:Int)<(ps.length:Int):=by omega
   have hnl2:=cK ps wi
   have HNG:=hid (show (aB ps wi).nf.getD j 0=ps[j].fl.length by rw [lP wi hlt,gA ps j hlt])
   have HSR:=hid (aAt (aB ps wi) md j)
   have hal:=aGk (aB ps wi) md j
   obtain ⟨htk0,htkn⟩:=Cn.CT.tk_lit hok (i:=j) (by omega)
   have HTT:=hid (Cn.CT.tk_in (aB ps wi) md j)
   have HFLL:=hid (show (aB ps wi).flags md j=flJ (aB ps wi) md j ps[j].fl.length by unfold Cn.CT.flags flJ;rw [HNG.out])
   obtain ⟨tb',tof,htp,htb',htc⟩:=(show Cn.aG (fun b=>b=tb) wr (aB ps wi).tks (.slice (some ⟨tb,0,none⟩) (aB ps wi).tks.length ps.length) from by rw [Cn.CT.tks_len,hnl2];exact (HLA.out wr K1.out).1.tk).nth (k:=j) (by rw [Cn.CT.tks_len];omega)
   cases htp
   have hct:=htc j _ (Cn.CT.tks_get (aB ps wi) (i:=j) (by omega))
   rw [Nat.zero_add] at hct
   have htbl:tb<wr.heap.size:=(HLA.out wr K1.out).1.lt
   have HFG:=hid (show ∀ k,k<ps[j].fl.length->(aB ps wi).fgs wi.on (j:Int) (k:Int)=(aB ps wi).fgL j k/\(aB ps wi).fgL j k≠0/\((aB ps wi).fgL j k).natAbs<=(aB ps wi).many from fun k hk=>by
    have hk2:k<(aB ps wi).nf.getD j 0:=by rw [HNG.out];exact hk
    exact ⟨Cn.CT.fgs_get (c:=aB ps wi) (on:=wi.on) (fun _ _=>rfl) (by rw [cK];exact hlt) hk2,(Cn.CT.fg_lit (aB ps wi) (i:=j) (k:=k) (by rw [cK];exact hlt) hk2).1,(Cn.CT.fg_lit (aB ps wi) (i:=j) (k:=k) (by rw [cK];exact hlt) hk2).2⟩)
   have HHT:=hid (show ∀ W,aA wr W->Calls Tryz.prog 118 #[.int .i64 ((aB ps wi).tkL j),.pointer (some ⟨b+2,0,none⟩)] W fun e w'=>e=.returned (.bool ((aB ps wi).takes md j))/\aA W w' from fun W k=>HTT.out ▸ HHO.out W (K1.out.trans k) _ htk0 htkn)
   generalize ps[j]=q at hpj hfl2 HNG HFLL HFG
   obtain ⟨kd,a,fl,nt,kids,kp,fp,kc,fc,-,hfl,rfl,-,-⟩:=hpj.spelt
   obtain ⟨c0,c1,c2,c3,c4,c5,c6,c7,c8,c9,c10,c11,c12,c13⟩:=fD hcs
   clear hrow hcs hpj htc htb'
   generalize hace:yG (aB ps wi) md j=acc at HSR hal R1
   obtain ⟨xp,xc,hxv⟩:=R1.out.shape
   subst hxv
   clear hace hnl2
   generalize (aB ps wi).tkL j=tn at hct htk0 htkn HTT HHT
   go_upto_region 12 with fail
   refine bH (fun W'=>aA wr W'/\aD wr.heap.size 75 #[.string q.n,.int .i64 q.v,.int .i64 q.sl,.slice fp q.fl.length fc,.int .i64 kd,.string a.n,.int .i64 a.op,.int .i64 a.v,.int .i64 a.sl,.string a.f,.bool a.on,.string fl,.bool nt,.slice kp kids.length kc] W') ⟨aA.alloc _ _,aD.new _ _ _⟩ ?_
   rintro W4 ⟨k4,b4⟩
   have KR:=hid (K1.out.trans k4)
   have R4:=hid (R1.out.keep k4)
   have B4:=hid b4
   have hct4:=(k4.cell (p:=⟨tb,j,none⟩) htbl).trans hct
   have htbl4:tb<W4.heap.size:=Nat.lt_of_lt_of_le htbl k4.size
   have hx1:W4.cell? ⟨cb,1,none⟩=some (.slice (some ⟨tb,0,none⟩) ps.length ps.length):=(HLA.out W4 KR.out).1.bx.facts.1 1
   have hxl:=(HLA.out W4 KR.out).1.bx.facts.2.2
   have HHT4:=hid (HHT.out W4 k4)
   clear k4 b4 c0 c1 c2 c3 c4 c5 c6 c7 c8 c9 c10 c11 c12 c13 R1 hct htbl HHT
   generalize wr.heap.size=bp at B4 ⊢
   go_wp2_with fail
   refine HHT4.out.mono ?_
   rintro e W5 ⟨rfl,k5⟩
   have KS:=hid (KR.out.trans k5)
   have R5:=hid (R4.out.keep k5)
   have B5p:=hid (B4.out.keep k5 B4.out.facts.2.2)
   have hf3:W5.cell? ⟨bp,3,none⟩=some (.slice fp q.fl.length fc):=B5p.out.facts.1 3
   have hfl3:=B5p.out.facts.2.2
   clear k5 R4 B4 hct4 htbl4 hx1 hxl HHT4
   cases htj:(aB ps wi).takes md j with
   | false=>
    have HSR2:=hid (HSR.out.trans (by rw [if_neg (by rw [htj];simp),List.append_nil]))
    clear htj HSR
    go_wp2_with fail
    go_roundg (ps.length-(j+1))
    case rel=>exact ⟨j+1,by omega,by go_num,by rw [HSR2.out];exact R5.out,KS.out⟩
    case measure=>omega
   | true=>
    have HSR2:=hid (HSR.out.trans (by rw [if_pos htj]))
    clear htj HSR
    go_upto_region 14 with fail
    refine bH (fun W'=>aA W5 W'/\aD W5.heap.size 68 #[.int .i64 j,.slice none 0 0] W') ⟨aA.alloc _ _,aD.new _ _ _⟩ ?_
    rintro W6 ⟨k6,b6⟩
    have K6m:=hid k6
    have B6m:=hid b6
    have hf6:W6.cell? ⟨bp,3,none⟩=some (.slice fp q.fl.length fc):=(k6.cell (p:=⟨bp,3,none⟩) hfl3).trans hf3
    have hfl6:bp<W6.heap.size:=Nat.lt_of_lt_of_le hfl3 k6.size
    clear k6 b6 hf3 hfl3
    generalize hbm:W5.heap.size=bm at B6m ⊢
    have HBM:=hid hbm
    clear hbm
    have hcbm:cb<bm:=by have:=HBM.out;have:=KS.out.size;omega
    have hgbm:g<bm:=by have:=HBM.out;have:=KS.out.size;omega
    obtain ⟨wj,rfl⟩ : ∃ wj:World,wj=wr:=⟨_,rfl⟩
    go_wp2_with fail
    go_loopg [57] q.fl.length (fun gk kv wq=> ∃ (k:Nat) (mv:Value),k+gk=q.fl.length/\kv=.int .i64 k/\aD bm 68 #[.int .i64 j,mv] wq/\wq.ownsRow (bm+1) 4 1 mv k ((flJ (aB ps wi) md j k).map Value.bool)/\aA W5 wq)
    case atStart=>exact ⟨0,_,by omega,rfl,B6m.out,World.ownsRow_nil _ _ _ _,K6m.out⟩
    case round=>
     obtain ⟨k,mv,hk,rfl,hb,ho,hkk⟩:=hrel
     have B5:=hid hb
     have O5:=hid ho
     have K5:=hid hkk
     clear hb ho hkk B6m K6m hf6 hfl6
     obtain ⟨hbc,hbf,hbl⟩:=B5.out.facts
     by_cases hlt2:k<q.fl.length
     ·obtain ⟨mq,mcap,hmv⟩ : ∃ mq mcap,mv=.slice mq k mcap:=oQ O5.out
      subst hmv
      have hb1:wr.cell? ⟨bm,1,none⟩=some (.slice mq k mcap):=hbc 1
      have hb1d:wr.drew.cell? ⟨bm,1,none⟩=some (.slice mq k mcap):=hb1
      have hf1:=hbf 1
      clear hbc hbf
      have KW:=hid (KS.out.trans K5.out)
      obtain ⟨hsb,-,-⟩:=HLA.out wr KW.out
      have hx2:wr.cell? ⟨cb,2,none⟩=some (.map (some g)):=hsb.bx.facts.1 2
      obtain ⟨nk,hpm⟩:=hsb.fg
      obtain ⟨he,hfr0,hfrn⟩:=HFG.out k hlt2
      have HHB:=hid (show ∀ W:World,W.heap[cb]? = wr.heap[cb]? ->W.heap[g]? = wr.heap[g]? ->(W.cell? ⟨cb,2,none⟩=some (.map (some g))/\(Instr.lookup 156 (.map (some g)) (.agg #[.int .i64 j,.int .i64 k]) false).run Tryz.prog W=.ok (.int .i64 ((aB ps wi).fgL j k)) W) from fun W h1 h2=>⟨(World.cell?_of_block (a:=⟨cb,2,none⟩) h1).trans hx2,by
       have:=(hpm.at h2).look tH (x:=(j:Int)) (y:=(k:Int)) (by unfold Cn.SmP;omega) (by unfold Cn.SmP;omega)
       rw [he] at this
       exact this⟩)
      have HCT:=hid (show ∀ W',aA wr W'->Calls Tryz.prog 118 #[.int .i64 ((aB ps wi).fgL j k),.pointer (some ⟨b+2,0,none⟩)] W' fun e w'=>e=.returned (.bool (Cn.inM md ((aB ps wi).fgL j k)))/\aA W' w' from fun W' kw=>HHO.out W' (KW.out.trans kw) _ hfr0 hfrn)
      have HNX:=hid (aPt (aB ps wi) md j k)
      have hfln:=aKm (aB ps wi) md j k
      generalize Cn.inM md ((aB ps wi).fgL j k)=ck at HCT HNX
      generalize (aB ps wi).fgL j k=fr at HCT HHB hfr0 hfrn
      generalize flJ (aB ps wi) md j k=fls at O5 HNX hfln
      have hcbw:cb<wr.heap.size:=by omega
      have hgw:g<wr.heap.size:=by omega
      have HHK:=hid (show ∀ W:World,aA wr W->(W.cell? ⟨cb,2,none⟩=some (.map (some g))/\(Instr.lookup 156 (.map (some g)) (.agg #[.int .i64 j,.int .i64 k]) false).run Tryz.prog W=.ok (.int .i64 fr) W) from fun W kw=>HHB.out W (kw.block cb hcbw) (kw.block g hgw))
      have hkI:(k:Int)<(q.fl.length:Int):=by omega
      clear hsb hpm he hx2
      go_upto_region 17 with fail
      have HELD:=HHK.out wr.drew (aA.drew (aA.refl wr))
      refine wp_region_held_drew (S:=fun w=>w.cell? ⟨cb,2,none⟩=some (.map (some g))/\(Instr.lookup 156 (.map (some g)) (.agg #[.int .i64 j,.int .i64 k]) false).run Tryz.prog w=.ok (.int .i64 fr) w) (by kernel_rfl) HELD (fun hHeld=> ?_)
      refine Cn.tkN 0 (v:= ?_) ?_ ?_
      rotate_left
      ·rintro w ⟨hs1,hs2⟩
       go_simp
       try with_reducible rfl
      try simp only [Cn.acP]
      refine Cn.tkN 2 (v:= ?_) ?_ ?_
      rotate_left
      ·rintro w ⟨hs1,hs2⟩
       go_simp
       try with_reducible rfl
      try simp only [Cn.acP]
      refine Cn.tkN 3 (v:= ?_) ?_ ?_
      rotate_left
      ·rintro w ⟨hs1,hs2⟩
       go_simp
       try with_reducible rfl
      try simp only [Cn.acP]
      refine Cn.tkN 4 (v:= ?_) ?_ ?_
      rotate_left
      ·rintro w ⟨hs1,hs2⟩
       go_simp
       try with_reducible rfl
      try simp only [Cn.acP]
      refine Cn.tkN 5 (v:= ?_) ?_ ?_
      rotate_left
      ·rintro w ⟨hs1,hs2⟩
       go_simp
       try with_reducible rfl
      try simp only [Cn.acP]
      refine Cn.tkN 6 (v:= ?_) ?_ ?_
      rotate_left
      ·rintro w ⟨hs1,hs2⟩
       go_simp
       try with_reducible rfl
      try simp only [Cn.acP]
      refine Cn.tkN 7 (v:= ?_) ?_ ?_
      rotate_left
      ·rintro w ⟨hs1,hs2⟩
       go_simp
       try with_reducible rfl
      try simp only [Cn.acP]
      refine Cn.tkN 8 (v:= ?_) ?_ ?_
      rotate_left
      ·rintro w ⟨hs1,hs2⟩
       go_simp
       try with_reducible rfl
      try simp only [Cn.acP]
      refine wpAnyH_ready (rs:= [1,9]) (by kernel_rfl) (by simp) ?_
      refine AllReadyH.cons rfl (fun KK hK=> ?_) (AllReadyH.cons rfl (fun KK hK=> ?_) AllReadyH.nil)
      ·skip
       go_simp
       refine hK.out _ _ HELD (fun hH1=> ?_)
       clear hK KK
       try simp only [Cn.acP]
       refine wpAnyH_ready (rs:= [9]) (by kernel_rfl) (by simp) ?_
       refine AllReadyH.cons rfl (fun KK hK=> ?_) AllReadyH.nil
       go_simp
       with_reducible refine (HCT.out _ (aA.drew (aA.refl _))).mono ?_
       rintro e W6 ⟨rfl,hk6⟩
       have K6:=hid ((aA.drew (aA.refl wr)).trans hk6)
       clear hk6
       have hH6:=HHK.out W6 K6.out
       refine hK.out _ _ hH6 (fun _=> ?_)
       clear hK KK
       have hb16:W6.cell? ⟨bm,1,none⟩=some (.slice mq k mcap):=(K6.out.cell (p:=⟨bm,1,none⟩) hbl).trans hb1
       have hbl6:bm<W6.heap.size:=Nat.lt_of_lt_of_le hbl K6.out.size
       try simp only [Cn.acP]
       refine wpAnyH_ready (rs:= [10]) (by kernel_rfl) (by simp) ?_
       refine AllReadyH.cons rfl (fun KK hK=> ?_) AllReadyH.nil
       go_simp
       have k7:=aA.alloc W6 (.cells #[.bool ck] 4)
       refine hK.out _ _ (HHK.out _ (K6.out.trans k7)) (fun hH7=> ?_)
       clear hK KK
       refine aBo (fun W'=>aA W6 W'/\aE W6.heap.size 4 (.bool ck) W') ⟨k7,aE.new _ _ _⟩ ?_
       clear k7 hH7
       rintro W7 ⟨kk,vn⟩
       have K7:=hid (K6.out.trans kk)
       have V7:=hid vn
       have hH7:=HHK.out W7 K7.out
       have hb17:W7.cell? ⟨bm,1,none⟩=some (.slice mq k mcap):=(K7.out.cell (p:=⟨bm,1,none⟩) hbl).trans hb1
       have hbl7:bm<W7.heap.size:=Nat.lt_of_lt_of_le hbl K7.out.size
       clear kk vn
       refine wpAnyH_ready (rs:= [11]) (by kernel_rfl) (by simp) ?_
       refine AllReadyH.cons rfl (fun KK hK=> ?_) AllReadyH.nil
       refine Cn.bC rfl _ _ 66 rfl (bm+1) 4 i0 (.bool false) 1 1 Tryz.underlying66 hi hz0 hz1 hz2 rfl (by decide) (.slice mq k mcap) k (fls.map Value.bool) rfl (bS O5.out K7.out) ⟨W6.heap.size,0,none⟩ 1 1 [.bool ck] rfl rfl (aCo V7.out) qV (by unfold maxLen;omega) (by omega) (by omega) ?_
       intro v8 W8 h1 h2 h4
       obtain ⟨g8,cap8,rfl⟩:=Cn.aZ h1 (Nat.succ_pos _)
       have P8:=hid (nW HBM.out (B5.out.keep K7.out B5.out.facts.2.2) (bS O5.out K7.out) h2 h1 (K5.out.trans K7.out))
       have HB8:=hid (show ∀ c,c<bm->W8.heap[c]? = wr.heap[c]? from fun c hc=>(h2.block c (by omega) fun e=>by have:=(dD (bS O5.out K7.out) e.symm).1;omega).trans (K7.out.block c (by omega)))
       have hH8:=HHB.out W8 (HB8.out _ hcbm) (HB8.out _ hgbm)
       obtain ⟨hbc8,hbf8,hbl8⟩:=P8.out.1.facts
       have hc81:W8.cell? ⟨bm,1,none⟩=some (.slice mq k mcap):=hbc8 1
       have hf81:=hbf8 1
       refine hK.out _ _ hH8 (fun hH9=> ?_)
       clear hK KK h1 h2 h4 hbc8 hbf8
       try simp only [Cn.acP]
       refine Cn.tkN 12 (v:= ?_) ?_ ?_
       rotate_left
       ·rintro w ⟨hs1,hs2⟩
        go_simp
        try with_reducible rfl
       try simp only [Cn.acP]
       refine wpAnyH_ready (rs:= [13]) (by kernel_rfl) (by simp) ?_
       refine AllReadyH.cons rfl (fun KK hK=> ?_) AllReadyH.nil
       go_simp
       refine hK.out _ _ (HHB.out _ ((Below.heap_setCell _ _ _ _ (fun e=>by have e2:cb=bm:=e;omega)).trans (HB8.out _ hcbm)) ((Below.heap_setCell _ _ _ _ (fun e=>by have e2:g=bm:=e;omega)).trans (HB8.out _ hgbm))) (fun hH16=> ?_)
       clear hK KK
       refine wpAnyH_done (by kernel_rfl) ?_ _
       have HQ:=hid P8.out.2
       generalize W8.setCell ⟨bm,1,none⟩ (.slice (some ⟨g8,0,none⟩) (k+1) cap8)=W9 at HQ ⊢
       clear hc81 hf81 hbl8 hH8 hH9 hH16 P8
       go_wp2_with fail
       go_roundg (q.fl.length-(k+1))
       case rel=>exact ⟨k+1,_,by omega,by go_num,HQ.out.1,by rw [HNX.out,List.map_append];exact HQ.out.2.1,HQ.out.2.2⟩
       case measure=>omega
      ·skip
       go_simp
       with_reducible refine (HCT.out _ (aA.drew (aA.refl _))).mono ?_
       rintro e W6 ⟨rfl,hk6⟩
       have K6:=hid ((aA.drew (aA.refl wr)).trans hk6)
       clear hk6
       have hH6:=HHK.out W6 K6.out
       refine hK.out _ _ hH6 (fun _=> ?_)
       clear hK KK
       have hb16:W6.cell? ⟨bm,1,none⟩=some (.slice mq k mcap):=(K6.out.cell (p:=⟨bm,1,none⟩) hbl).trans hb1
       have hbl6:bm<W6.heap.size:=Nat.lt_of_lt_of_le hbl K6.out.size
       try simp only [Cn.acP]
       refine wpAnyH_ready (rs:= [1,10]) (by kernel_rfl) (by simp) ?_
       refine AllReadyH.cons rfl (fun KK hK=> ?_) (AllReadyH.cons rfl (fun KK hK=> ?_) AllReadyH.nil)
       ·skip
        go_simp
        refine hK.out _ _ hH6 (fun hH1=> ?_)
        clear hK KK
        try simp only [Cn.acP]
        refine wpAnyH_ready (rs:= [10]) (by kernel_rfl) (by simp) ?_
        refine AllReadyH.cons rfl (fun KK hK=> ?_) AllReadyH.nil
        go_simp
        have k7:=aA.alloc W6 (.cells #[.bool ck] 4)
        refine hK.out _ _ (HHK.out _ (K6.out.trans k7)) (fun hH7=> ?_)
        clear hK KK
        refine aBo (fun W'=>aA W6 W'/\aE W6.heap.size 4 (.bool ck) W') ⟨k7,aE.new _ _ _⟩ ?_
        clear k7 hH7
        rintro W7 ⟨kk,vn⟩
        have K7:=hid (K6.out.trans kk)
        have V7:=hid vn
        have hH7:=HHK.out W7 K7.out
        have hb17:W7.cell? ⟨bm,1,none⟩=some (.slice mq k mcap):=(K7.out.cell (p:=⟨bm,1,none⟩) hbl).trans hb1
        have hbl7:bm<W7.heap.size:=Nat.lt_of_lt_of_le hbl K7.out.size
        clear kk vn
        refine wpAnyH_ready (rs:= [11]) (by kernel_rfl) (by simp) ?_
        refine AllReadyH.cons rfl (fun KK hK=> ?_) AllReadyH.nil
        refine Cn.bC rfl _ _ 66 rfl (bm+1) 4 i0 (.bool false) 1 1 Tryz.underlying66 hi hz0 hz1 hz2 rfl (by decide) (.slice mq k mcap) k (fls.map Value.bool) rfl (bS O5.out K7.out) ⟨W6.heap.size,0,none⟩ 1 1 [.bool ck] rfl rfl (aCo V7.out) qV (by unfold maxLen;omega) (by omega) (by omega) ?_
        intro v8 W8 h1 h2 h4
        obtain ⟨g8,cap8,rfl⟩:=Cn.aZ h1 (Nat.succ_pos _)
        have P8:=hid (nW HBM.out (B5.out.keep K7.out B5.out.facts.2.2) (bS O5.out K7.out) h2 h1 (K5.out.trans K7.out))
        have HB8:=hid (show ∀ c,c<bm->W8.heap[c]? = wr.heap[c]? from fun c hc=>(h2.block c (by omega) fun e=>by have:=(dD (bS O5.out K7.out) e.symm).1;omega).trans (K7.out.block c (by omega)))
        have hH8:=HHB.out W8 (HB8.out _ hcbm) (HB8.out _ hgbm)
        obtain ⟨hbc8,hbf8,hbl8⟩:=P8.out.1.facts
        have hc81:W8.cell? ⟨bm,1,none⟩=some (.slice mq k mcap):=hbc8 1
        have hf81:=hbf8 1
        refine hK.out _ _ hH8 (fun hH9=> ?_)
        clear hK KK h1 h2 h4 hbc8 hbf8
        try simp only [Cn.acP]
        refine Cn.tkN 12 (v:= ?_) ?_ ?_
        rotate_left
        ·rintro w ⟨hs1,hs2⟩
         go_simp
         try with_reducible rfl
        try simp only [Cn.acP]
        refine wpAnyH_ready (rs:= [13]) (by kernel_rfl) (by simp) ?_
        refine AllReadyH.cons rfl (fun KK hK=> ?_) AllReadyH.nil
        go_simp
        refine hK.out _ _ (HHB.out _ ((Below.heap_setCell _ _ _ _ (fun e=>by have e2:cb=bm:=e;omega)).trans (HB8.out _ hcbm)) ((Below.heap_setCell _ _ _ _ (fun e=>by have e2:g=bm:=e;omega)).trans (HB8.out _ hgbm))) (fun hH16=> ?_)
        clear hK KK
        refine wpAnyH_done (by kernel_rfl) ?_ _
        have HQ:=hid P8.out.2
        generalize W8.setCell ⟨bm,1,none⟩ (.slice (some ⟨g8,0,none⟩) (k+1) cap8)=W9 at HQ ⊢
        clear hc81 hf81 hbl8 hH8 hH9 hH16 P8
        go_wp2_with fail
        go_roundg (q.fl.length-(k+1))
        case rel=>exact ⟨k+1,_,by omega,by go_num,HQ.out.1,by rw [HNX.out,List.map_append];exact HQ.out.2.1,HQ.out.2.2⟩
        case measure=>omega
       ·skip
        go_simp
        have k7:=aA.alloc W6 (.cells #[.bool ck] 4)
        refine hK.out _ _ (HHK.out _ (K6.out.trans k7)) (fun hH7=> ?_)
        clear hK KK
        refine aBo (fun W'=>aA W6 W'/\aE W6.heap.size 4 (.bool ck) W') ⟨k7,aE.new _ _ _⟩ ?_
        clear k7 hH7
        rintro W7 ⟨kk,vn⟩
        have K7:=hid (K6.out.trans kk)
        have V7:=hid vn
        have hH7:=HHK.out W7 K7.out
        have hb17:W7.cell? ⟨bm,1,none⟩=some (.slice mq k mcap):=(K7.out.cell (p:=⟨bm,1,none⟩) hbl).trans hb1
        have hbl7:bm<W7.heap.size:=Nat.lt_of_lt_of_le hbl K7.out.size
        clear kk vn
        refine wpAnyH_ready (rs:= [1]) (by kernel_rfl) (by simp) ?_
        refine AllReadyH.cons rfl (fun KK hK=> ?_) AllReadyH.nil
        go_simp
        refine hK.out _ _ hH7 (fun hH1=> ?_)
        clear hK KK
        try simp only [Cn.acP]
        refine wpAnyH_ready (rs:= [11]) (by kernel_rfl) (by simp) ?_
        refine AllReadyH.cons rfl (fun KK hK=> ?_) AllReadyH.nil
        refine Cn.bC rfl _ _ 66 rfl (bm+1) 4 i0 (.bool false) 1 1 Tryz.underlying66 hi hz0 hz1 hz2 rfl (by decide) (.slice mq k mcap) k (fls.map Value.bool) rfl (bS O5.out K7.out) ⟨W6.heap.size,0,none⟩ 1 1 [.bool ck] rfl rfl (aCo V7.out) qV (by unfold maxLen;omega) (by omega) (by omega) ?_
        intro v8 W8 h1 h2 h4
        obtain ⟨g8,cap8,rfl⟩:=Cn.aZ h1 (Nat.succ_pos _)
        have P8:=hid (nW HBM.out (B5.out.keep K7.out B5.out.facts.2.2) (bS O5.out K7.out) h2 h1 (K5.out.trans K7.out))
        have HB8:=hid (show ∀ c,c<bm->W8.heap[c]? = wr.heap[c]? from fun c hc=>(h2.block c (by omega) fun e=>by have:=(dD (bS O5.out K7.out) e.symm).1;omega).trans (K7.out.block c (by omega)))
        have hH8:=HHB.out W8 (HB8.out _ hcbm) (HB8.out _ hgbm)
        obtain ⟨hbc8,hbf8,hbl8⟩:=P8.out.1.facts
        have hc81:W8.cell? ⟨bm,1,none⟩=some (.slice mq k mcap):=hbc8 1
        have hf81:=hbf8 1
        refine hK.out _ _ hH8 (fun hH9=> ?_)
        clear hK KK h1 h2 h4 hbc8 hbf8
        try simp only [Cn.acP]
        refine Cn.tkN 12 (v:= ?_) ?_ ?_
        rotate_left
        ·rintro w ⟨hs1,hs2⟩
         go_simp
         try with_reducible rfl
        try simp only [Cn.acP]
        refine wpAnyH_ready (rs:= [13]) (by kernel_rfl) (by simp) ?_
        refine AllReadyH.cons rfl (fun KK hK=> ?_) AllReadyH.nil
        go_simp
        refine hK.out _ _ (HHB.out _ ((Below.heap_setCell _ _ _ _ (fun e=>by have e2:cb=bm:=e;omega)).trans (HB8.out _ hcbm)) ((Below.heap_setCell _ _ _ _ (fun e=>by have e2:g=bm:=e;omega)).trans (HB8.out _ hgbm))) (fun hH16=> ?_)
        clear hK KK
        refine wpAnyH_done (by kernel_rfl) ?_ _
        have HQ:=hid P8.out.2
        generalize W8.setCell ⟨bm,1,none⟩ (.slice (some ⟨g8,0,none⟩) (k+1) cap8)=W9 at HQ ⊢
        clear hc81 hf81 hbl8 hH8 hH9 hH16 P8
        go_wp2_with fail
        go_roundg (q.fl.length-(k+1))
        case rel=>exact ⟨k+1,_,by omega,by go_num,HQ.out.1,by rw [HNX.out,List.map_append];exact HQ.out.2.1,HQ.out.2.2⟩
        case measure=>omega
     ·obtain rfl:k=q.fl.length:=by omega
      obtain ⟨mq,mcap,hmv⟩ : ∃ mq mcap,mv=.slice mq q.fl.length mcap:=oQ O5.out
      subst hmv
      have hm0:wr.cell? ⟨bm,0,none⟩=some (.int .i64 j):=hbc 0
      have hm1:wr.cell? ⟨bm,1,none⟩=some (.slice mq q.fl.length mcap):=hbc 1
      have KO:=hid (KS.out.trans K5.out)
      have hkol:=KO.out.size
      have R7:=hid (R5.out.keep K5.out)
      have HMB:=hid (show zF (fun c=>bm+1<=c/\c<wr.heap.size) wr ⟨(j:Int),(aB ps wi).flags md j⟩ [.int .i64 j,.slice mq q.fl.length mcap] from ⟨_,rfl,by rw [HFLL.out];exact aHk O5.out (aKm ..)⟩)
      have HOWN:=hid (show ∀ g,(Value.slice xp acc.length xc).ownBlock=some g->W3.heap.size<=g/\g<bm from fun g hg=>HBM.out ▸ R5.out.own g hg)
      have HBO:=hid (show W3.heap.size<=bm from HBM.out ▸ KS.out.size)
      clear hbc hbf hlt2
      obtain ⟨csl,c1,c2,c3,c4⟩:=R7.out
      have HC3:=hid c3
      have HC4:=hid c4
      clear c3 c4
      go_wp2_with (at_builtin;refine wpList_append_own_at _ rfl _ _ 26 rfl W3.heap.size 68 im (.agg #[.int .i64 0,.slice none 0 0]) 2 32 Tryz.underlying26 hmi hmz0 hmz1 hmz2 rfl (by decide) (.slice xp acc.length xc) acc.length csl.flatten rfl (HC3.out.alloc _) ⟨wr.heap.size,0,none⟩ 1 1 [.int .i64 j,.slice mq q.fl.length mcap] rfl rfl mD (by intro u hu;simp at hu;rcases hu with rfl | rfl<;>rfl) (by unfold maxLen;omega) (by omega) (by rw [aC];omega) ?_)
      intro v6 w6 h1 h2 _ h4
      obtain ⟨g6,cap6,rfl⟩:=Cn.aZ h1 (Nat.succ_pos _)
      have row6:=hid (gU.push (B':=bm+1) c1 c2 HC4.out (by have:=HBO.out;omega) (fun g' hg'=>by have:=(HOWN.out g' hg').2;omega) HMB.out rfl (by simpa using h1) h2 (by rw [aC];exact h4))
      have L6:Below W3.heap.size wr w6:=((Below.refl _ wr).alloc hkol _).grown h2 (by rw [aC];omega) (fun g' hg'=>(HOWN.out g' hg').1)
      have K6:=hid (show aA W3 w6 from Below.trans KO.out L6)
      clear h1 h2 h4 L6 hm0 hm1 HC3 HC4
      go_wp2_with fail
      go_roundg (ps.length-(j+1))
      case rel=>exact ⟨j+1,by omega,by go_num,by rw [HSR2.out];exact row6.out,K6.out⟩
      case measure=>omega
  have hje:j=ps.length:=by omega
  have hnl : ¬ ((j:Int)<(ps.length:Int)):=by omega
  have HF:=hid (show bL (fun c=>w.heap.size<=c/\c<wr.heap.size) wr (bN ps wi md) _ from by
   have:=R1.out.final.mono (S':=fun c=>w.heap.size<=c/\c<wr.heap.size) (fun _ _=>rfl) (fun c hc=>⟨Nat.le_trans K3.out.size hc.1,hc.2⟩)
   rw [show yG (aB ps wi) md j=bN ps wi md by rw [hje];unfold yG bN Cn.CT.set;rw [cK]] at this
   exact this)
  have KF:=hid (K3.out.trans K1.out)
  obtain ⟨xp,xc,hxv⟩:=R1.out.shape
  subst hxv
  clear hje hj R1
  go_wp2_with fail
  refine cT (v:= .tuple #[.slice xp (yG (aB ps wi) md j).length xc,.int .i64 0]) (fun W'=>aA w W'/\bL (fun c=>w.heap.size<=c/\c<W'.heap.size) W' (bN ps wi md) (.slice xp (yG (aB ps wi) md j).length xc)) ⟨KF.out,HF.out⟩ rfl ?_
  rintro W ⟨hkW,hbW⟩
  exact ⟨by simp [results,Tryz.results60,go_sem],hkW,.inr (.inr ⟨HZ.out,by omega,by omega,_,rfl,hbW⟩)⟩
 ·have hz1':(bA ps wi==0)=false:=by simpa using hz
  have hz2':(bA ps wi != 0)=true:=by simp [bne,hz1']
  have HZ:=hid hz
  generalize hve:bA ps wi=ve at hz1' hz2' ⊢
  have HVE:=hid hve
  clear hz hve
  go_wp2_with fail
  refine cT (v:= .tuple #[.slice none 0 0,.int .i64 ve]) (fun W'=>aA w W') K2.out rfl ?_
  rintro W hkW
  exact ⟨by simp [results,Tryz.results60,go_sem],hkW,.inl ⟨HZ.out,by rw [HVE.out]⟩⟩
end Go.Proofs.YtonlloiemgdfkaaGreatDoor
namespace Go.Proofs.YtonlloiemgdfkaaGreatDoor
open Go.RowKit
end Go.Proofs.YtonlloiemgdfkaaGreatDoor
namespace Go.Proofs.YtonlloiemgdfkaaGreatDoor
open Go.RowKit
end Go.Proofs.YtonlloiemgdfkaaGreatDoor
namespace Go.Proofs.YtonlloiemgdfkaaGreatDoor
open Go.RowKit
theorem qO {α:Type} {xs ys:List α} (hl:xs.length=ys.length) (h : ∀ i,i<xs.length->xs[i]? = ys[i]?):xs=ys:=by
 refine List.ext_getElem? fun i=> ?_
 by_cases hi:i<xs.length
 ·exact h i hi
 ·rw [List.getElem?_eq_none (by omega),List.getElem?_eq_none (by omega)]
theorem aKk (S:Nat->Prop) (xs ys:List Bool) (v1 v2:Value) (w:World) (hS : ∀ b,S b->b<w.heap.size) (h1:aS S w xs v1) (h2:aS S w ys v2) :
  Calls Tryz.prog 98 #[v1,v2] w fun e w'=> ∃ β:Bool,e=.returned (.bool β)/\(β=true↔xs=ys)/\aA w w':=by
 have H1:=hid h1
 have H2:=hid h2
 obtain ⟨p1,c1,rfl,hl1,-⟩:=h1
 obtain ⟨p2,c2,rfl,hl2,-⟩:=h2
 by_cases hl:xs.length=ys.length
 ·have HL:=hid hl
  have HW:Hid (aA w w):=aA.refl _
  rw [← hl]
  clear hl
  go_enter Tryz.func98,Tryz.ntmps98
  go_wp2_with fail
  go_loopg [13] xs.length (fun gk i wr=> ∃ j:Nat,j+gk=xs.length/\i=.int .i64 j/\(∀ i,i<j->xs[i]? = ys[i]?)/\aA w wr)
  case atStart=>exact ⟨0,by simp,rfl,fun i hi=>absurd hi (Nat.not_lt_zero _),HW.out⟩
  case round=>
   obtain ⟨j,hj,rfl,hal,hkp⟩:=hrel
   have HKP:=hid hkp
   have HAL:=hid hal
   clear hkp hal
   by_cases hlt:j<xs.length
   ·obtain ⟨q1,d1,hv1,-,hr1⟩:=H1.out.keep hS HKP.out
    obtain ⟨q2,d2,hv2,-,hr2⟩:=H2.out.keep hS HKP.out
    rw [← HL.out] at hv2 hr2
    cases hv1
    cases hv2
    obtain ⟨b1,o1,rfl,hb1,hc1⟩:=hr1 (by omega)
    obtain ⟨b2,o2,rfl,hb2,hc2⟩:=hr2 (by omega)
    have hlt2:j<ys.length:=by rw [← HL.out];exact hlt
    have e1:xs[j]? = some xs[j]:=List.getElem?_eq_getElem hlt
    have e2:ys[j]? = some ys[j]:=List.getElem?_eq_getElem hlt2
    have g1:=hc1 j _ e1
    have g2:=hc2 j _ e2
    have E1:=hid e1
    have E2:=hid e2
    clear hc1 hc2 hr1 hr2 e1 e2
    generalize xs[j]=x at g1 E1
    generalize ys[j]=y at g2 E2
    by_cases hxy:x=y
    ·subst hxy
     have HN:Hid (∀ i,i<j+1->xs[i]? = ys[i]?):=fun i hi=>by
      by_cases e:i=j
      ·subst e;rw [E1.out,E2.out]
      ·exact HAL.out i (by omega)
     go_wp2_with fail
     go_quiet (fail)
     go_wp2_with fail
     go_roundg (xs.length-(j+1))
     case rel=>exact ⟨j+1,by omega,by go_num,HN.out,aA.drewN HKP.out _⟩
     case measure=>omega
    ·have hxy1:(x==y)=false:=by simp [hxy]
     have hxy2:(x != y)=true:=by simp [hxy]
     have HF:Hid (¬ xs=ys):=fun e=>hxy (by have h1:=E1.out;rw [e,E2.out] at h1;exact (Option.some.inj h1).symm)
     clear hxy
     go_wp2_with fail
     go_quiet (fail)
     go_wp2_with fail
     go_ret
     exact ⟨false,rfl,⟨fun h=>Bool.noConfusion h,fun h=>absurd h HF.out⟩,aA.drewN HKP.out _⟩
   ·have HF:Hid (xs=ys):=qO HL.out fun i hi=>HAL.out i (by omega)
    go_wp2_with fail
    go_ret
    exact ⟨true,rfl,⟨fun _=>HF.out,fun _=>rfl⟩,HKP.out⟩
 ·have hz1:((xs.length:Int)==(ys.length:Int))=false:=beq_eq_false_iff_ne.2 fun e=>hl (by omega)
  have hz2:((xs.length:Int) != (ys.length:Int))=true:=bne_iff_ne.2 fun e=>hl (by omega)
  have HF:Hid (¬ xs=ys):=fun e=>hl (by rw [e])
  clear hl
  go_enter Tryz.func98,Tryz.ntmps98
  go_wp2_with fail
  go_ret
  exact ⟨false,rfl,⟨fun h=>Bool.noConfusion h,fun h=>absurd h HF.out⟩,aA.refl _⟩
theorem aHy (args:Array Value) (w:World):(callFunc 71 args).run Tryz.prog w=.ok (.enter 71 args) w:=enters_of Tryz.func71 (by kernel_rfl) rfl args w
theorem aJe (S:Nat->Prop) (x y:MB) (v1 v2:Value) (w:World) (hS : ∀ b,S b->b<w.heap.size) (h1:aS S w x.on v1) (h2:aS S w y.on v2) :
  Calls Tryz.prog 71 #[.agg #[.int .i64 x.pl,v1],.agg #[.int .i64 y.pl,v2]] w fun e w'=> ∃ β:Bool,e=.returned (.bool β)/\(β=true↔x=y)/\aA w w':=by
 have H1:=hid h1
 have H2:=hid h2
 obtain ⟨p1,c1,rfl,-,-⟩:=h1
 obtain ⟨p2,c2,rfl,-,-⟩:=h2
 rcases x with ⟨xp,xs⟩
 rcases y with ⟨yp,ys⟩
 simp only at H1 H2 ⊢
 by_cases hp:xp=yp
 ·subst hp
  go_enter Tryz.func71,Tryz.ntmps71
  go_wp2_with fail
  refine aP (fun W'=>aA w W') ((aA.alloc _ _).alloc' _) ?_
  intro W2 k2
  refine (aKk S xs ys _ _ W2 (fun b hb=>Nat.lt_of_lt_of_le (hS b hb) k2.size) (H1.out.keep hS k2) (H2.out.keep hS k2)).mono ?_
  rintro e w3 ⟨β,rfl,hβ,k3⟩
  have K3:=hid (k2.trans k3)
  have HB:=hid hβ
  clear k2 k3 hβ
  go_wp2_with fail
  go_ret
  exact ⟨β,rfl,⟨fun h=>by rw [HB.out.1 h],fun h=>HB.out.2 (by cases h;rfl)⟩,K3.out⟩
 ·have hz1:(xp==yp)=false:=by simp [hp]
  have HF:Hid (¬ (⟨xp,xs⟩:MB)=⟨yp,ys⟩):=fun e=>hp (by cases e;rfl)
  have HW:Hid (aA w ((w.alloc (.cells #[.int .i64 xp,.slice p1 xs.length c1] 68)).alloc (.cells #[.int .i64 yp,.slice p2 ys.length c2] 68))):=(aA.alloc _ _).alloc' _
  clear hp
  go_enter Tryz.func71,Tryz.ntmps71
  go_wp2_with fail
  go_ret
  exact ⟨false,rfl,⟨fun h=>Bool.noConfusion h,fun h=>absurd h HF.out⟩,HW.out⟩
theorem aEs (S:Nat->Prop) (xs ys:List MB) (v1 v2:Value) (w:World) (hS : ∀ b,S b->b<w.heap.size) (h1:bL S w xs v1) (h2:bL S w ys v2) :
  Calls Tryz.prog 69 #[v1,v2,.func (.func 71) #[] #[]] w fun e w'=> ∃ β:Bool,e=.returned (.bool β)/\(β=true↔xs=ys)/\aA w w':=by
 have H1:=hid h1
 have H2:=hid h2
 obtain ⟨p1,c1,rfl,⟨-,hl1⟩,-⟩:=h1
 obtain ⟨p2,c2,rfl,⟨-,hl2⟩,-⟩:=h2
 have hent:=aHy
 by_cases hl:xs.length=ys.length
 ·have HL:=hid hl
  have HW:Hid (aA w w):=aA.refl _
  rw [← hl]
  clear hl
  go_enter Tryz.func69,Tryz.ntmps69
  go_wp2_with fail
  go_loopg [17] xs.length (fun gk i wr=> ∃ j:Nat,j+gk=xs.length/\i=.int .i64 j/\(∀ i,i<j->xs[i]? = ys[i]?)/\aA w wr)
  case atStart=>exact ⟨0,by simp,rfl,fun i hi=>absurd hi (Nat.not_lt_zero _),HW.out⟩
  case round=>
   obtain ⟨j,hj,rfl,hal,hkp⟩:=hrel
   have HKP:=hid hkp
   have HAL:=hid hal
   clear hkp hal
   by_cases hlt:j<xs.length
   ·obtain ⟨q1,d1,hv1,-,hr1⟩:=H1.out.keep hS HKP.out
    obtain ⟨q2,d2,hv2,-,hr2⟩:=H2.out.keep hS HKP.out
    rw [← HL.out] at hv2 hr2
    cases hv1
    cases hv2
    obtain ⟨b1,o1,rfl,hb1,hc1⟩:=hr1 (by omega)
    obtain ⟨b2,o2,rfl,hb2,hc2⟩:=hr2 (by omega)
    have hlt2:j<ys.length:=by rw [← HL.out];exact hlt
    have e1:xs[j]? = some xs[j]:=List.getElem?_eq_getElem hlt
    have e2:ys[j]? = some ys[j]:=List.getElem?_eq_getElem hlt2
    obtain ⟨ov1,g1,g1',hbo1⟩:=hc1 j _ e1
    obtain ⟨ov2,g2,g2',hbo2⟩:=hc2 j _ e2
    have E1:=hid e1
    have E2:=hid e2
    have hb1':b1<wr.heap.size:=Nat.lt_of_lt_of_le (hS _ hb1) HKP.out.size
    have hb2':b2<wr.heap.size:=Nat.lt_of_lt_of_le (hS _ hb2) HKP.out.size
    generalize xs[j]=x at g1 E1 hbo1
    generalize ys[j]=y at g2 E2 hbo2
    have HO1:=hid hbo1
    have HO2:=hid hbo2
    obtain ⟨r1,s1,rfl,-,-⟩:=hbo1
    obtain ⟨r2,s2,rfl,-,-⟩:=hbo2
    clear hc1 hc2 hr1 hr2 e1 e2
    go_wp2_with fail
    refine aP (fun W'=>aA wr W') ((aA.alloc _ _).alloc' _) ?_
    intro W2 k2
    have hS2 : ∀ b,S b->b<wr.heap.size:=fun b hb=>Nat.lt_of_lt_of_le (hS b hb) HKP.out.size
    refine (aJe S x y _ _ W2 (fun b hb=>Nat.lt_of_lt_of_le (hS2 b hb) k2.size) (HO1.out.keep hS2 k2) (HO2.out.keep hS2 k2)).mono ?_
    rintro e w3 ⟨β,rfl,hβ,k3⟩
    have K3:=hid (HKP.out.trans (k2.trans k3))
    clear k2 k3 hS2 g1 g1' g2 g2'
    cases β
    ·have HF:Hid (¬ xs=ys):=fun e=>Bool.noConfusion (hβ.2 (by have h1:=E1.out;rw [e,E2.out] at h1;exact (Option.some.inj h1).symm))
     clear hβ
     go_wp2_with fail
     go_ret
     exact ⟨false,rfl,⟨fun h=>Bool.noConfusion h,fun h=>absurd h HF.out⟩,K3.out⟩
    ·have HN:Hid (∀ i,i<j+1->xs[i]? = ys[i]?):=fun i hi=>by
      by_cases e:i=j
      ·subst e;rw [E1.out,E2.out,hβ.1 rfl]
      ·exact HAL.out i (by omega)
     clear hβ
     go_wp2_with fail
     go_roundg (xs.length-(j+1))
     case rel=>exact ⟨j+1,by omega,by go_num,HN.out,K3.out⟩
     case measure=>omega
   ·have HF:Hid (xs=ys):=qO HL.out fun i hi=>HAL.out i (by omega)
    go_wp2_with fail
    go_ret
    exact ⟨true,rfl,⟨fun _=>HF.out,fun _=>rfl⟩,HKP.out⟩
 ·have hz1:((xs.length:Int)==(ys.length:Int))=false:=beq_eq_false_iff_ne.2 fun e=>hl (by omega)
  have hz2:((xs.length:Int) != (ys.length:Int))=true:=bne_iff_ne.2 fun e=>hl (by omega)
  have HF:Hid (¬ xs=ys):=fun e=>hl (by rw [e])
  clear hl
  go_enter Tryz.func69,Tryz.ntmps69
  go_wp2_with fail
  go_ret
  exact ⟨false,rfl,⟨fun h=>Bool.noConfusion h,fun h=>absurd h HF.out⟩,aA.refl _⟩
theorem jI (S:Nat->Prop) (xs ys:List MB) (v1 v2:Value) (w:World) (hS : ∀ b,S b->b<w.heap.size) (h1:bL S w xs v1) (h2:bL S w ys v2) :
  Calls Tryz.prog 25 #[v1,v2] w fun e w'=> ∃ β:Bool,e=.returned (.bool β)/\(β=true↔xs=ys)/\aA w w':=by
 have H1:=hid h1
 have H2:=hid h2
 clear h1 h2
 go_enter Tryz.func25,Tryz.ntmps25
 go_wp2_with fail
 refine (aEs S xs ys _ _ w hS H1.out H2.out).mono ?_
 rintro e w3 ⟨β,rfl,hβ,k3⟩
 have K3:=hid k3
 have HB:=hid hβ
 clear k3 hβ
 go_wp2_with fail
 go_ret
 exact ⟨β,rfl,HB.out,K3.out⟩
theorem aHx (args:Array Value) (w:World):(callFunc 40 args).run Tryz.prog w=.ok (.enter 40 args) w:=enters_of Tryz.func40 (by kernel_rfl) rfl args w
theorem aJd (S:Nat->Prop) (x y:MB) (v1 v2:Value) (w:World) (hS : ∀ b,S b->b<w.heap.size) (h1:aS S w x.on v1) (h2:aS S w y.on v2) :
  Calls Tryz.prog 40 #[.agg #[.int .i64 x.pl,v1],.agg #[.int .i64 y.pl,v2]] w fun e w'=> ∃ β:Bool,e=.returned (.bool β)/\(β=true↔x=y)/\aA w w':=by
 have H1:=hid h1
 have H2:=hid h2
 obtain ⟨p1,c1,rfl,-,-⟩:=h1
 obtain ⟨p2,c2,rfl,-,-⟩:=h2
 rcases x with ⟨xp,xs⟩
 rcases y with ⟨yp,ys⟩
 simp only at H1 H2 ⊢
 by_cases hp:xp=yp
 ·subst hp
  go_enter Tryz.func40,Tryz.ntmps40
  go_wp2_with fail
  refine aP (fun W'=>aA w W') ((aA.alloc _ _).alloc' _) ?_
  intro W2 k2
  refine (aKk S xs ys _ _ W2 (fun b hb=>Nat.lt_of_lt_of_le (hS b hb) k2.size) (H1.out.keep hS k2) (H2.out.keep hS k2)).mono ?_
  rintro e w3 ⟨β,rfl,hβ,k3⟩
  have K3:=hid (k2.trans k3)
  have HB:=hid hβ
  clear k2 k3 hβ
  go_wp2_with fail
  go_ret
  exact ⟨β,rfl,⟨fun h=>by rw [HB.out.1 h],fun h=>HB.out.2 (by cases h;rfl)⟩,K3.out⟩
 ·have hz1:(xp==yp)=false:=by simp [hp]
  have HF:Hid (¬ (⟨xp,xs⟩:MB)=⟨yp,ys⟩):=fun e=>hp (by cases e;rfl)
  have HW:Hid (aA w ((w.alloc (.cells #[.int .i64 xp,.slice p1 xs.length c1] 68)).alloc (.cells #[.int .i64 yp,.slice p2 ys.length c2] 68))):=(aA.alloc _ _).alloc' _
  clear hp
  go_enter Tryz.func40,Tryz.ntmps40
  go_wp2_with fail
  go_ret
  exact ⟨false,rfl,⟨fun h=>Bool.noConfusion h,fun h=>absurd h HF.out⟩,HW.out⟩
theorem aEr (S:Nat->Prop) (xs ys:List MB) (v1 v2:Value) (w:World) (hS : ∀ b,S b->b<w.heap.size) (h1:bL S w xs v1) (h2:bL S w ys v2) :
  Calls Tryz.prog 69 #[v1,v2,.func (.func 40) #[] #[]] w fun e w'=> ∃ β:Bool,e=.returned (.bool β)/\(β=true↔xs=ys)/\aA w w':=by
 have H1:=hid h1
 have H2:=hid h2
 obtain ⟨p1,c1,rfl,⟨-,hl1⟩,-⟩:=h1
 obtain ⟨p2,c2,rfl,⟨-,hl2⟩,-⟩:=h2
 have hent:=aHx
 by_cases hl:xs.length=ys.length
 ·have HL:=hid hl
  have HW:Hid (aA w w):=aA.refl _
  rw [← hl]
  clear hl
  go_enter Tryz.func69,Tryz.ntmps69
  go_wp2_with fail
  go_loopg [17] xs.length (fun gk i wr=> ∃ j:Nat,j+gk=xs.length/\i=.int .i64 j/\(∀ i,i<j->xs[i]? = ys[i]?)/\aA w wr)
  case atStart=>exact ⟨0,by simp,rfl,fun i hi=>absurd hi (Nat.not_lt_zero _),HW.out⟩
  case round=>
   obtain ⟨j,hj,rfl,hal,hkp⟩:=hrel
   have HKP:=hid hkp
   have HAL:=hid hal
   clear hkp hal
   by_cases hlt:j<xs.length
   ·obtain ⟨q1,d1,hv1,-,hr1⟩:=H1.out.keep hS HKP.out
    obtain ⟨q2,d2,hv2,-,hr2⟩:=H2.out.keep hS HKP.out
    rw [← HL.out] at hv2 hr2
    cases hv1
    cases hv2
    obtain ⟨b1,o1,rfl,hb1,hc1⟩:=hr1 (by omega)
    obtain ⟨b2,o2,rfl,hb2,hc2⟩:=hr2 (by omega)
    have hlt2:j<ys.length:=by rw [← HL.out];exact hlt
    have e1:xs[j]? = some xs[j]:=List.getElem?_eq_getElem hlt
    have e2:ys[j]? = some ys[j]:=List.getElem?_eq_getElem hlt2
    obtain ⟨ov1,g1,g1',hbo1⟩:=hc1 j _ e1
    obtain ⟨ov2,g2,g2',hbo2⟩:=hc2 j _ e2
    have E1:=hid e1
    have E2:=hid e2
    have hb1':b1<wr.heap.size:=Nat.lt_of_lt_of_le (hS _ hb1) HKP.out.size
    have hb2':b2<wr.heap.size:=Nat.lt_of_lt_of_le (hS _ hb2) HKP.out.size
    generalize xs[j]=x at g1 E1 hbo1
    generalize ys[j]=y at g2 E2 hbo2
    have HO1:=hid hbo1
    have HO2:=hid hbo2
    obtain ⟨r1,s1,rfl,-,-⟩:=hbo1
    obtain ⟨r2,s2,rfl,-,-⟩:=hbo2
    clear hc1 hc2 hr1 hr2 e1 e2
    go_wp2_with fail
    refine aP (fun W'=>aA wr W') ((aA.alloc _ _).alloc' _) ?_
    intro W2 k2
    have hS2 : ∀ b,S b->b<wr.heap.size:=fun b hb=>Nat.lt_of_lt_of_le (hS b hb) HKP.out.size
    refine (aJd S x y _ _ W2 (fun b hb=>Nat.lt_of_lt_of_le (hS2 b hb) k2.size) (HO1.out.keep hS2 k2) (HO2.out.keep hS2 k2)).mono ?_
    rintro e w3 ⟨β,rfl,hβ,k3⟩
    have K3:=hid (HKP.out.trans (k2.trans k3))
    clear k2 k3 hS2 g1 g1' g2 g2'
    cases β
    ·have HF:Hid (¬ xs=ys):=fun e=>Bool.noConfusion (hβ.2 (by have h1:=E1.out;rw [e,E2.out] at h1;exact (Option.some.inj h1).symm))
     clear hβ
     go_wp2_with fail
     go_ret
     exact ⟨false,rfl,⟨fun h=>Bool.noConfusion h,fun h=>absurd h HF.out⟩,K3.out⟩
    ·have HN:Hid (∀ i,i<j+1->xs[i]? = ys[i]?):=fun i hi=>by
      by_cases e:i=j
      ·subst e;rw [E1.out,E2.out,hβ.1 rfl]
      ·exact HAL.out i (by omega)
     clear hβ
     go_wp2_with fail
     go_roundg (xs.length-(j+1))
     case rel=>exact ⟨j+1,by omega,by go_num,HN.out,K3.out⟩
     case measure=>omega
   ·have HF:Hid (xs=ys):=qO HL.out fun i hi=>HAL.out i (by omega)
    go_wp2_with fail
    go_ret
    exact ⟨true,rfl,⟨fun _=>HF.out,fun _=>rfl⟩,HKP.out⟩
 ·have hz1:((xs.length:Int)==(ys.length:Int))=false:=beq_eq_false_iff_ne.2 fun e=>hl (by omega)
  have hz2:((xs.length:Int) != (ys.length:Int))=true:=bne_iff_ne.2 fun e=>hl (by omega)
  have HF:Hid (¬ xs=ys):=fun e=>hl (by rw [e])
  clear hl
  go_enter Tryz.func69,Tryz.ntmps69
  go_wp2_with fail
  go_ret
  exact ⟨false,rfl,⟨fun h=>Bool.noConfusion h,fun h=>absurd h HF.out⟩,aA.refl _⟩
theorem nH (S:Nat->Prop) (xs ys:List MB) (v1 v2:Value) (w:World) (hS : ∀ b,S b->b<w.heap.size) (h1:bL S w xs v1) (h2:bL S w ys v2) :
  Calls Tryz.prog 20 #[v1,v2] w fun e w'=> ∃ β:Bool,e=.returned (.bool β)/\(β=true↔xs=ys)/\aA w w':=by
 have H1:=hid h1
 have H2:=hid h2
 clear h1 h2
 go_enter Tryz.func20,Tryz.ntmps20
 go_wp2_with fail
 refine (aEr S xs ys _ _ w hS H1.out H2.out).mono ?_
 rintro e w3 ⟨β,rfl,hβ,k3⟩
 have K3:=hid k3
 have HB:=hid hβ
 clear k3 hβ
 go_wp2_with fail
 go_ret
 exact ⟨β,rfl,HB.out,K3.out⟩
end Go.Proofs.YtonlloiemgdfkaaGreatDoor
namespace Go.Proofs.YtonlloiemgdfkaaGreatDoor
open Go.RowKit Go.Lib
theorem eZ.get0 {v:Value} {zs:List Int} {w:World} (h:eZ v zs w) (hn:0<zs.length) : ∃ g cap,v=.slice (some ⟨g,0,none⟩) zs.length cap/\g<w.heap.size/\(∀ j,j<zs.length->w.cell? ⟨g,0+j,none⟩=some (.int .i64 (zs.getD j 0))):=by
 rcases h with ⟨rfl,-⟩ | ⟨g,cap,h1,h2,h3⟩
 ·exact absurd hn (Nat.not_lt_zero _)
 ·refine ⟨g,cap,h1,h2,fun j hj=> ?_⟩
  rw [Nat.zero_add,List.getD_eq_getElem?_getD,List.getElem?_eq_getElem hj,Option.getD_some]
  exact h3 j _ (List.getElem?_eq_getElem hj)
theorem pY (v u:Value) (xs ys:List Int) (w:World) (h:eZ v xs w) (h':eZ u ys w) (hl:xs.length<=2000) (hl':ys.length<=2000) :
  Calls Tryz.prog 22 #[v,u] w fun e w'=>e=.returned (.bool (xs==ys))/\∃ q,w'=w.drewN q:=by
 obtain ⟨q,d,rfl⟩:=h'.len
 obtain ⟨p,c,rfl⟩:=h.len
 by_cases hne:xs.length=ys.length
 ·by_cases h0:xs = []
  ·subst h0
   have hy:ys = []:=List.length_eq_zero_iff.1 hne.symm
   subst hy
   refine (Tryz.slices_Equal_int_empty p q c 0 d w (by omega)).mono ?_
   rintro e w' ⟨rfl,rfl⟩
   exact ⟨rfl,0,rfl⟩
  ·have hp:=List.length_pos_iff.2 h0
   obtain ⟨g,cap,e1,-,hc⟩:=h.get0 hp
   obtain ⟨g',cap',e2,-,hc'⟩:=h'.get0 (by omega)
   cases e1
   cases e2
   refine (Tryz.slices_Equal_int g 0 xs.length c g' 0 ys.length d xs ys w (Nat.le_refl _) (Nat.le_refl _) (by omega) (by omega) hc hc').mono ?_
   rintro e w' ⟨rfl,q,rfl⟩
   exact ⟨aJ (by rw [List.take_length,List.take_length]),q,rfl⟩
 ·refine (Tryz.slices_Equal_int_lens p q xs.length c ys.length d w hne).mono ?_
  rintro e w' ⟨rfl,rfl⟩
  refine ⟨aJ ?_,0,rfl⟩
  symm
  exact beq_eq_false_iff_ne.2 fun e=>hne (by rw [e])
end Go.Proofs.YtonlloiemgdfkaaGreatDoor
namespace Go.Proofs.YtonlloiemgdfkaaGreatDoor
open Go.RowKit
theorem rD {P:Program} {w:World} : ∀ {l:List (String × DataW Unit)} {ps:List MemPlace} {x:String × DataW Unit},DataW.LaidVars P w l ps->x∈l->∃ qs,DataW.LaidVars P w [x] qs/\qs.Sublist ps
 | [],_,_,_,hx=>by cases hx
 | (n,d) :: r,ps,x,h,hx=>by
  obtain ⟨g,t,cs,fuel,p,q,h1,h2,h3,h4,h5,rfl⟩:=h
  rcases List.mem_cons.1 hx with rfl | hx
  ·exact ⟨MemPlace.row ⟨g,0,none⟩ cs.size++p ++ [],⟨g,t,cs,fuel,p,[],h1,h2,h3,h4,rfl,rfl⟩,by rw [List.append_nil];exact List.sublist_append_left _ _⟩
  ·obtain ⟨qs,h6,h7⟩:=rD h5 hx
   exact ⟨qs,h6,h7.trans (List.sublist_append_right _ _)⟩
theorem lG {P:Program} {w:World} {l:List (String × DataW Unit)} {x:String × DataW Unit} (h:laidMet P l w) (hx:x∈l):laidMet P [x] w:=by
 obtain ⟨ps,h1,h2,h3⟩:=h
 obtain ⟨qs,h4,h5⟩:=rD h1 hx
 exact ⟨qs,h4,h5.nodup h2,fun b off hb=>h3 b off (h5.subset hb)⟩
theorem rN {w:World} {b o:Nat} {v:Value} (h:w.cell? ⟨b,o,none⟩=some v):b<w.heap.size:=by
 rcases Nat.lt_or_ge b w.heap.size with h' | h'
 ·exact h'
 ·simp [World.cell?,Array.getElem?_eq_none h'] at h
theorem aPv : Tryz.prog.globalNamed "quartermaster/atom.signs" = some 8 := by kernel_rfl
theorem aVw:(Tryz.prog.globals[8]?).map (·.type)=some 351:=by kernel_rfl
theorem aWw:(Tryz.prog.globals[1]?).map (·.type)=some 307:=by kernel_rfl
theorem aWu:Tryz.prog.cellsOf 307=20:=by kernel_rfl
theorem aWv:Tryz.prog.cellsOf 277=1:=by kernel_rfl
theorem aHl:Tryz.prog.cellsOf 9=1:=by kernel_rfl
theorem aWc:Tryz.prog.cellsOf 346=1:=by kernel_rfl
theorem aWf : Tryz.prog.globalNamed "strconv.ErrSyntax" = some 4 := by kernel_rfl
theorem aWy:(Tryz.prog.globals[4]?).map (·.type)=some 267:=by kernel_rfl
theorem aWe : Tryz.prog.globalNamed "strconv.ErrRange" = some 5 := by kernel_rfl
theorem aWx:(Tryz.prog.globals[5]?).map (·.type)=some 267:=by kernel_rfl
theorem aWq : "*" ++ "errors.errorString" = "*errors.errorString" := by decide
theorem aRk (u : TypeId) (h : Tryz.prog.typeName? 3 u = some "*errors.errorString") : u = 344 :=
 typeName_ptr_named (nm := "errors.errorString") (by rw [aWq]; kernel_rfl) (by kernel_rfl) (by decide) u (by rw [aWq]; exact h)
theorem aRq {W : World} (h : laidMet Tryz.prog [("quartermaster/atom.signs", Rows.laid_quartermaster_atom_signs)] W) : aDs W := by
 obtain ⟨ps,⟨g,t,cs,fuel,p,q,hg,ht,hv,hd,_,_⟩,_⟩:=h
 obtain rfl:=Option.some.inj (aPv.symm.trans hg)
 obtain rfl:=Option.some.inj (aVw.symm.trans ht)
 obtain ⟨xs,m,rfl,hx,hlen,hn,hel⟩:=DataW.trod_array Tryz.underlying351 hd
 simp only [Rows.laid_quartermaster_atom_signs,Prod.mk.injEq,DataW.agg.injEq] at hx
 match xs,hn,hx,hel with
 | [x0,x1,x2,x3],_,hx,hel=>
  have cell : ∀ (k:Nat) (x:DataW Unit × List MemPlace) (l:List UInt8),k<4->[x0,x1,x2,x3][k]? = some x->x.1=.lit (.string l)->W.cell? ⟨8,k,none⟩=some (.string ⟨l.toArray⟩):=by
   intro k x l hk hxk hl
   have h1:=hel k hk
   rw [hxk] at h1
   obtain ⟨s,e1,e2,_⟩:=DataW.trod_string Tryz.underlying9 h1
   rw [e2] at hl
   have hs:s.data.toList=l:=by simpa using hl
   have hs':s=⟨l.toArray⟩:=by cases s;simp at hs;rw [← hs]
   have h2:=World.var?_cell aPv hv k
   rw [aHl,Nat.mul_one] at e1
   have h3:cs[k]? = some (.string s):=by
    have:=congrArg (·[0]?) e1
    simpa [List.getElem?_take,List.getElem?_drop] using this
   rw [h2,h3,hs']
  simp only [List.map_cons,List.map_nil,List.cons.injEq,and_true] at hx
  have c1:=cell 1 x1 [61] (by decide) rfl hx.1.2.1.symm
  refine ⟨rN c1,c1,cell 2 x2 [62,61] (by decide) rfl hx.1.2.2.1.symm,cell 3 x3 [60] (by decide) rfl hx.1.2.2.2.symm⟩
theorem wN {W : World} {l : List (String × DataW Unit)} (h : laidMet Tryz.prog l W) (h1 : ("quartermaster/atom.signs", Rows.laid_quartermaster_atom_signs) ∈ l) (h2 : ("internal/strconv.uint64pow10", Rows.laid_internal_strconv_uint64pow10) ∈ l)
  (h3 : ("strconv.ErrSyntax", Rows.laid_strconv_ErrSyntax) ∈ l) (h4 : ("strconv.ErrRange", Rows.laid_strconv_ErrRange) ∈ l) : Env W := by
 have tab : Lib.TabIs Tryz.prog W "internal/strconv.uint64pow10" .u64 Lib.pow10Tab := Lib.tabIs_of_head (rest := []) lJ aWw Tryz.underlying307 Tryz.underlying277 aWv aWu (lG h h2)
 obtain ⟨a0,s0,hv0,-,-,-⟩:=laid_sentinel (lG h h3) aWf aWy Tryz.underlying267 aRk Tryz.underlying344 Tryz.underlying346 rfl rfl Tryz.underlying9 aWc aHl
 obtain ⟨a1,s1,hv1,-,-,-⟩:=laid_sentinel (lG h h4) aWe aWx Tryz.underlying267 aRk Tryz.underlying344 Tryz.underlying346 rfl rfl Tryz.underlying9 aWc aHl
 have c0:W.cell? ⟨4,0,none⟩=some (.iface 344 (.pointer (some a0))):=by simpa using World.var?_cell aWf hv0 0
 have c1:W.cell? ⟨5,0,none⟩=some (.iface 344 (.pointer (some a1))):=by simpa using World.var?_cell aWe hv1 0
 exact ⟨aRq (lG h h1),⟨rN (tab.cell lJ 0 (by decide)),tab⟩,⟨rN c0,_,_,c0⟩,⟨rN c1,_,_,c1⟩⟩
end Go.Proofs.YtonlloiemgdfkaaGreatDoor
namespace Go.Proofs.YtonlloiemgdfkaaGreatDoor
open Go.ChangeShapes Go.WideShapes Go.ChangeAt Go.RowKit Go.Joins
theorem qK:Tryz.prog.cellsOf 48=6:=by kernel_rfl
theorem jK:Tryz.prog.cellsOf 3=1:=by kernel_rfl
theorem qL:Tryz.prog.cellsOf 4=1:=by kernel_rfl
end Go.Proofs.YtonlloiemgdfkaaGreatDoor
namespace Go.Proofs.YtonlloiemgdfkaaGreatDoor
open Go.ChangeShapes Go.WideShapes Go.ChangeAt Go.RowKit Go.Joins
theorem qM:Tryz.prog.cellsOf 73=10:=by kernel_rfl
theorem wH:Tryz.prog.cellsOf 71=1:=by kernel_rfl
theorem aWj {α:Type} {cs:List α} (h:cs.length=6) : ∃ c0 c1 c2 c3 c4 c5,cs = [c0,c1,c2,c3,c4,c5]:=by
 match cs,h with
 | [c0,c1,c2,c3,c4,c5],_=>exact ⟨c0,c1,c2,c3,c4,c5,rfl⟩
theorem aVi {α:Type} {cs:List α} (h:cs.length=10) : ∃ c0 c1 c2 c3 c4 c5 c6 c7 c8 c9,cs = [c0,c1,c2,c3,c4,c5,c6,c7,c8,c9]:=by
 match cs,h with
 | [c0,c1,c2,c3,c4,c5,c6,c7,c8,c9],_=>exact ⟨c0,c1,c2,c3,c4,c5,c6,c7,c8,c9,rfl⟩
section
variable {H:Type} {enc:TypeId × Value->H} {w:World} {base:Nat} {sp:Nat->Bool} {held:Bool}
theorem aAz {fuel:Nat} {cs:List Value} {x:DataW H × List MemPlace} (h:DataW.trod enc Tryz.prog w base sp held fuel 48 cs=some x) : ∃ a:At,cs = [.string a.n,.int .i64 a.op,.int .i64 a.v,.int .i64 a.sl,.string a.f,.bool a.on]:=by
 obtain ⟨xs,m,_,hx,hl,hlen,hel⟩:=DataW.trod_struct Tryz.underlying48 h
 obtain ⟨c0,c1,c2,c3,c4,c5,rfl⟩:=aWj (hl.trans qK)
 match xs,hlen with
 | [y0,y1,y2,y3,y4,y5],_=>
  obtain ⟨n,e0,g0,_⟩:=DataW.trod_string Tryz.underlying9 (by simpa using hel 0 _ rfl)
  obtain ⟨op,e1,g1,_⟩:=DataW.trod_int Tryz.underlying3 (by simpa using hel 1 _ rfl)
  obtain ⟨v,e2,g2,_⟩:=DataW.trod_int Tryz.underlying3 (by simpa using hel 2 _ rfl)
  obtain ⟨sl,e3,g3,_⟩:=DataW.trod_int Tryz.underlying3 (by simpa using hel 3 _ rfl)
  obtain ⟨f,e4,g4,_⟩:=DataW.trod_string Tryz.underlying9 (by simpa using hel 4 _ rfl)
  obtain ⟨on,e5,g5⟩:=DataW.trod_bool Tryz.underlying4 (by simpa using hel 5 _ rfl)
  refine ⟨⟨n,op,v,sl,f,on⟩,?_⟩
  simp [jK,qL,aHl] at e0 e1 e2 e3 e4 e5
  rw [e0,e1,e2,e3,e4,e5]
theorem aOf : ∀ (fuel:Nat) (cs:List Value) (x:DataW H × List MemPlace),DataW.trod enc Tryz.prog w base sp held fuel 73 cs=some x->∃ t:NT,aK (fun b=>b<w.heap.size) w t cs:=by
 intro fuel
 induction fuel using Nat.strongRecOn with
 | ind fuel ih=>
 intro cs x h
 obtain ⟨xs,m,hm,hx,hl,hlen,hel⟩:=DataW.trod_struct Tryz.underlying73 h
 obtain ⟨c0,c1,c2,c3,c4,c5,c6,c7,c8,c9,rfl⟩:=aVi (hl.trans qM)
 match xs,hlen with
 | [y0,y1,y2,y3,y4],_=>
  obtain ⟨k,e0,-,-⟩:=DataW.trod_int Tryz.underlying3 (by simpa using hel 0 _ rfl)
  obtain ⟨a,e1⟩:=aAz (by simpa using hel 1 _ rfl)
  obtain ⟨fl,e2,-,-⟩:=DataW.trod_string Tryz.underlying9 (by simpa using hel 2 _ rfl)
  obtain ⟨nt,e3,-⟩:=DataW.trod_bool Tryz.underlying4 (by simpa using hel 3 _ rfl)
  have hs:=DataW.trod_slice Tryz.underlying71 (show DataW.trod enc Tryz.prog w base sp held m 71 _=some y4 by simpa using hel 4 _ rfl)
  simp [jK,qL,aHl,qK] at e0 e1 e2 e3
  obtain ⟨e10,e11,e12,e13,e14,e15⟩:=e1
  rcases hs with ⟨e4,-⟩ | ⟨ad,len,cap,elems,rest,mm,hmm,e4,-,-,hlc,hcm,hle,hcell,-,-⟩
  ·simp [wH] at e4
   refine ⟨.node k a fl nt [],?_⟩
   rw [aK]
   exact ⟨none,0,by rw [e0,e10,e11,e12,e13,e14,e15,e2,e3,e4];rfl,Nat.le_refl _,by simp,by rw [bD];trivial⟩
  ·simp [wH] at e4
   have key : ∀ (q i:Nat),i+q=len->∃ ts:List NT,ts.length=q/\bD (fun b=>b<w.heap.size) w ts (some ad) i:=by
    intro q
    induction q with
    | zero=>intro i _;exact ⟨[],rfl,by rw [bD];trivial⟩
    | succ q ihq=>
     intro i hi
     obtain ⟨ts,hts,hk⟩:=ihq (i+1) (by omega)
     have hci:=hcell i (by omega)
     rw [qM,List.getElem?_eq_getElem (by omega)] at hci
     obtain ⟨csi,hc1,hc2⟩:=Option.bind_eq_some_iff.1 hci
     obtain ⟨t,ht⟩:=ih mm (by omega) csi _ hc2
     obtain ⟨hb1,hb2,hb3⟩:=World.cells?_some hc1
     have hblk:=World.cells?_block hc1 (by decide)
     refine ⟨t :: ts,by simp [hts],?_⟩
     rw [bD]
     refine ⟨⟨ad,csi,rfl,by rw [pA] at hblk;exact hblk,fun j v hv=> ?_,ht⟩,hk⟩
     have hj:j<10:=by rw [← hb2];exact (List.getElem?_eq_some_iff.1 hv).1
     rw [hb3 j hj];exact hv
   obtain ⟨ts,hts,hk⟩:=key len 0 (by omega)
   refine ⟨.node k a fl nt ts,?_⟩
   rw [aK]
   exact ⟨some ad,cap,by rw [e0,e10,e11,e12,e13,e14,e15,e2,e3,e4,hts],by omega,by unfold maxLen at hcm;omega,hk⟩
end
theorem oI {w:World} (h:w.ShapedOpen Tryz.prog):fQ w:=by
 obtain ⟨m,hm⟩:=cell_of_shapedOpen_int (g:=0) (t:=3) (zero:=#[.int .i64 0]) (k:= .i64) h (of_decide_eq_true (by kernel_rfl)) (by kernel_rfl) rfl (by kernel_rfl) (by kernel_rfl) Tryz.underlying3
 exact ⟨rN hm,m,hm⟩
theorem fW {H:Type} {enc:TypeId × Value->H} {a:Assume} {C:Checked} {os:Os} {f:FuncId} {fn:Func} {s:ChangeSpec} {conds:List PathCond} {apart fresh handsOn again:Bool} {X:World->Array Value->Prop}
  (hX : ∀ (w w':World) (args:Array Value),w.heap=w'.heap->X w args->X w' args)
  (own:ownKnob C.prog.godebug=none) (started:os.Started) (noInit:C.prog.inits.idxOf? f=none) (hfn:C.prog.funcs[f]? = some fn)
  (witness : ∃ (w:World) (tape:Tape) (i:Input),w.os=os/\(w.forCall tape i).Shaped C.prog/\i.vars = []/\Input.okWide C.prog (w.forCall tape i) .any w.heap.size f i/\
   ((s.pre enc C.prog fn conds apart (w.forCall tape i).memory i.args/\X (w.forCall tape i).memory i.args)/\sizedMet enc C.prog fn (OpenSpec.ofChange s) apart (w.forCall tape i).memory i.args)/\a.holds C.prog (lone (Frame.enter C.prog f i.args .normal) [] (w.forCall tape i)))
  (fI : ∀ (W:World) (base:Nat) (args:Array Value) (ds gs:List (DataW H)) (before:List MemPlace),
   (∀ (j:Nat) t v,fn.params[j]? = some t->args[j]? = some v->Value.okWide C.prog W .any base t v)->
   DataW.Whole enc C.prog fn.params.toList s.vars apart W args.toList ds gs before->
   X W args->W.ShapedOpen C.prog->
   Calls C.prog f args W fun e W'=> ∃ v,e=.returned v/\s.post enc C.prog fn apart fresh handsOn again W args v W') :
  ReturnsInHanded a C os f .any (fun w args=>(s.pre enc C.prog fn conds apart w args/\X w args)/\sizedMet enc C.prog fn (OpenSpec.ofChange s) apart w args) (s.post enc C.prog fn apart fresh handsOn again):=by
 refine returnsInHanded_of_calls own started noInit witness ?_
 intro w tape i _ hsh _ hok hpre _
 obtain ⟨_,_,_,fn',hfn',_,_,_,_,hval⟩:=hok
 obtain rfl:fn'=fn:=Option.some.inj (hfn'.symm.trans hfn)
 obtain ⟨⟨⟨ds,gs,before,hw,_⟩,hx⟩,_⟩:=hpre
 have hw':=DataW.Whole.of_heap (w':=w.forCall tape i) (by rfl) hw
 refine (fI (w.forCall tape i) w.heap.size i.args ds gs before hval hw' (hX _ _ _ (by rfl) hx) hsh).mono fun e W' ⟨v,he,hp⟩=> ?_
 subst he
 exact ChangeSpec.post_blind hp
end Go.Proofs.YtonlloiemgdfkaaGreatDoor
