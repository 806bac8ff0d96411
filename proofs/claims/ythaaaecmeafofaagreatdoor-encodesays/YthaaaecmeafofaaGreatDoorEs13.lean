/- Steps of the proof: EncRefSet, EncRefJoin, EncRefOk, ShelfC, ValidHolds. -/
import Derived.Test.YthaaaecmeafofaaGreatDoorEs12
import Derived.Shelf.LaysM
import Derived.Shelf.LaysC
import Derived.Shelf.SlicesE.DeleteFunc
import Derived.Test.YthaaaecmeafofaaGreatDoorProg
import Derived.Test.YthaaaecmeafofaaGreatDoorEs10
set_option maxHeartbeats 16000000
set_option maxRecDepth 100000
namespace Go.Proofs.YthaaaecmeafofaaGreatDoor
open Go.RowKit Go.Lib
def vY (md:List Bool) (f:Int->Bool) (zs:List Int):Nat->Int->Bool
 | 0=>fun _=>false
 | j+1=>fun y=>if y=zs.getD j 0 then (md.getD j false != f y) else vY md f zs j y
theorem aFc (md:List Bool) (f:Int->Bool) (zs:List Int) (j:Nat):vY md f zs (j+1)=fun y=>if y=zs.getD j 0 then (md.getD j false != f (zs.getD j 0)) else vY md f zs j y:=by
 funext y
 show (if y=zs.getD j 0 then (md.getD j false != f y) else vY md f zs j y)=_
 generalize zs.getD j 0=z
 by_cases e:y=z
 ·rw [if_pos e,if_pos e,e]
 ·rw [if_neg e,if_neg e]
def flR (md:List Bool) (on:List (Int × Int)) (v i n:Nat):List Bool:=(List.range n).map fun k=>md.getD (v+k) false != on.contains ((i:Int),(k:Int))
def oR (ps:List PK) (md:List Bool) (on:List (Int × Int)) (tk:Int->Bool) (z:Nat):Nat->List MB
 | 0=> []
 | j+1=>oR ps md on tk z j++(if tk (j:Int) then [⟨(j:Int),flR md on (z+bA ps j) j (ps.getD j PK.zero).fl.length⟩] else [])
theorem aGs (md:List Bool) (on:List (Int × Int)) (v i n:Nat):flR md on v i (n+1)=flR md on v i n ++ [md.getD (v+n) false != on.contains ((i:Int),(n:Int))]:=by
 unfold flR
 rw [List.range_succ,List.map_append];rfl
theorem aCa (md:List Bool) (on:List (Int × Int)) (v i n:Nat):(flR md on v i n).length=n:=by simp [flR]
theorem yR (ps:List PK) (md:List Bool) (on:List (Int × Int)) (tk:Int->Bool) (z:Nat) : ∀ j,(oR ps md on tk z j).length<=j
 | 0=>by simp [oR]
 | j+1=>by
  have:=yR ps md on tk z j
  unfold oR
  rw [List.length_append]
  split<;>simp<;>omega
theorem aFb (ps:List PK) {i j:Nat} (h:i<=j):bA ps i<=bA ps j:=by
 induction h with
 | refl=>exact Nat.le_refl _
 | step h ih=>
  rename_i m
  refine Nat.le_trans ih ?_
  by_cases hm:m<ps.length
  ·rw [gW hm];omega
  ·unfold bA;rw [List.take_of_length_le (by omega),List.take_of_length_le (by omega)];exact Nat.le_refl _
theorem fC {B e n:Nat} {v:Value} {xs:List Value} {w:World} (h:w.ownsRow B e 1 v n xs) : ∃ p cap,v=.slice p n cap:=by
 obtain ⟨-,⟨rfl,h0⟩ | ⟨g,cap,cur,rfl,-⟩⟩:=h
 ·exact ⟨none,0,by rw [h0]⟩
 ·exact ⟨_,_,rfl⟩
theorem lS {g T:Nat} {x:Value} {w:World} (h:aE g T x w) (j:Nat) (u:Value) (hu : [x][j]? = some u):w.cell? ((⟨g,0,none⟩:Addr).add j)=some u:=by
 match j,hu with
 | 0,hu=>simp at hu;subst hu;exact h.facts.1
theorem eT {bm k:Nat} {T:TypeId} {p:Value} {mv v':Value} {xs ys:List Value} {W3 w w':World} (hbm:W3.heap.size=bm) (hb:aG bm T #[p,mv] w) (ho:w.ownsRow (bm+1) 4 1 mv k xs) (hg:w.grownBy w' mv.ownBlock) (h1:w'.ownsRow (bm+1) 4 1 v' (k+1) ys) (hk:aA W3 w) :
  aG bm T #[p,mv] w'/\aG bm T #[p,v'] (w'.setCell ⟨bm,1,none⟩ v')/\(w'.setCell ⟨bm,1,none⟩ v').ownsRow (bm+1) 4 1 v' (k+1) ys/\aA W3 (w'.setCell ⟨bm,1,none⟩ v'):=by
 have hb':aG bm T #[p,mv] w':=by
  have h5:=hb
  have h6:=hb.facts.2.2
  unfold aG at *
  rw [hg.block bm h6 fun e=>by have:=(dO ho e.symm).1;omega];exact h5
 refine ⟨hb',hb'.set 1 v',?_,?_⟩
 ·exact Cn.eQ h1 fun g hg=>Below.heap_setCell _ _ _ _ (fun e=>by have e2:g=bm:=e;have:=(dO h1 hg).1;omega)
 ·exact Below.setCell (Below.grown hk hg hk.size (fun g hg=>by have:=(dO ho hg).1;omega)) (p:=⟨bm,1,none⟩) (by show W3.heap.size<=bm;omega) _
theorem kH {bm mb x c k:Nat} {mv u1 u2:Value} {xs:List Value} {w w':World} (ho:w.ownsRow (bm+1) 4 1 mv k xs) (hg:w.grownBy w' mv.ownBlock) (hbw:bm<w.heap.size) (h1:w.cell? ⟨mb,x,none⟩=some u1) (h2:w.cell? ⟨c,3,none⟩=some u2) (hm:mb<bm) (hc:c<bm):w'.cell? ⟨mb,x,none⟩=some u1/\w'.cell? ⟨c,3,none⟩=some u2:=by
 have hb : ∀ g,g<bm->w'.heap[g]? = w.heap[g]? :=fun g hgb=>hg.block g (by omega) fun e=>by have:=(dO ho e.symm).1;omega
 exact ⟨(World.cell?_of_block (a:=⟨mb,x,none⟩) (hb mb hm)).trans h1,(World.cell?_of_block (a:=⟨c,3,none⟩) (hb c hc)).trans h2⟩
theorem oF {bm mb x c:Nat} {v u1 u2:Value} {w:World} (h:w.cell? ⟨mb,x,none⟩=some u1/\w.cell? ⟨c,3,none⟩=some u2) (hm:mb<bm) (hc:c<bm):(w.setCell ⟨bm,1,none⟩ v).cell? ⟨mb,x,none⟩=some u1/\(w.setCell ⟨bm,1,none⟩ v).cell? ⟨c,3,none⟩=some u2:=by
 have hb : ∀ g,g<bm->(w.setCell ⟨bm,1,none⟩ v).heap[g]? = w.heap[g]? :=fun g hgb=>Below.heap_setCell _ _ _ _ (fun e=>by have e2:g=bm:=e;omega)
 exact ⟨(World.cell?_of_block (a:=⟨mb,x,none⟩) (hb mb hm)).trans h.1,(World.cell?_of_block (a:=⟨c,3,none⟩) (hb c hc)).trans h.2⟩
theorem qF {B n:Nat} {v:Value} {bs:List Bool} {w:World} (h:w.ownsRow B 4 1 v n (bs.map Value.bool)) (hn:bs.length=n):bF (fun c=>B<=c/\c<w.heap.size) w bs v:=by
 subst hn
 obtain ⟨h3,⟨rfl,h0⟩ | ⟨g,cap,cur,rfl,e2,e3,e4,e5,e6,e7⟩⟩:=h
 ·exact ⟨none,0,by rw [h0],by omega,fun h=>by omega⟩
 ·have hg:=(Array.getElem?_eq_some_iff.1 e3).1
  refine ⟨_,_,rfl,by unfold maxLen at e5;omega,fun _=>⟨g,0,rfl,⟨e2,hg⟩,fun j x hx=> ?_⟩⟩
  have hj:j<bs.length:=(List.getElem?_eq_some_iff.1 hx).1
  have hf:(bs.map Value.bool)[j]? = some (.bool x):=by rw [List.getElem?_map,hx];rfl
  rw [← e7,List.getElem?_take,if_pos (by omega)] at hf
  simp only [World.cell?,e3,Nat.zero_add]
  simpa using hf
theorem lI {P:Program} {md:Region.Mode} {ops:Array Oper} {Q:Exit->Act->World->Prop} {S:World->Prop} {fuel:Nat} {listed:Array Bool} {a:Act} {W:World} (R:World->Prop) (hR:R W) (h : ∀ W',R W'->wpAnyH P md ops Q S fuel listed a W'):wpAnyH P md ops Q S fuel listed a W:=h W hR
theorem fO {s:Bool} (u:Value) (h:u ∈ [Value.bool s]):u.oneCell'=true:=by rw [List.mem_singleton.1 h];rfl
theorem xJ {v:Value} {zs:List Int} {w:World} (h:eA v zs w) (hn:0<zs.length) : ∃ g cap,v=.slice (some ⟨g,0,none⟩) zs.length cap/\g<w.heap.size/\(∀ j,j<zs.length->w.cell? ⟨g,0+j,none⟩=some (.int .i64 (zs.getD j 0))):=by
 rcases h with ⟨rfl,_⟩ | ⟨g,cap,h1,h2,h3⟩
 ·simp at hn
 ·refine ⟨g,cap,h1,h2,fun j hj=> ?_⟩
  rw [Nat.zero_add,List.getD_eq_getElem?_getD,List.getElem?_eq_getElem hj,Option.getD_some]
  exact h3 j _ (List.getElem?_eq_getElem hj)
theorem aId (S:Nat->Prop) (ps:List PK) (on:List (Int × Int)) (pv tsv inv mav onv:Value) (zs:List Int) (n0 b:Nat) (f:Int->Bool) (md:List Bool) (mdv:Value) (w:World) (hS : ∀ b,S b->b<w.heap.size) (hp:aU S w ps pv) (hon:fY S w on onv) (hmd:bF S w md mdv) (hc:ChM b pv tsv inv mav onv zs n0 f w) (h8:ps.length<=8) (hf2 : ∀ p∈ps,p.fl.length<=2) (hz16:zs.length<=16) (hz8 : ∀ x∈zs,0<=x/\x<8) (hml:zs.length+bA ps ps.length<=md.length) :
  Calls Tryz.prog 98 #[mdv,.pointer (some ⟨b+3,0,none⟩),.pointer (some ⟨b+5,0,none⟩),.pointer (some ⟨b,0,none⟩),.pointer (some ⟨b+1,0,none⟩)] w fun e w'=>aA w w'/\∃ v,e=.returned v/\bS (fun c=>w.heap.size<=c/\c<w'.heap.size) w' (oR ps md on (vY md f zs zs.length) zs.length ps.length) v:=by
 have HP:=hid hp
 have HON:=hid hon
 have HMD:=hid hmd
 have HC:=hid hc
 have HF2:=hid hf2
 have HZ8:=hid hz8
 have HML:=hid hml
 obtain ⟨pp,pc,rfl,hpl⟩:=hp.len
 obtain ⟨mp,mc,rfl,hmdl,-⟩:=hmd
 have hmm:= @run_makeMap Tryz.prog
 have hund:Tryz.prog.underlying 151=some (.map 3 4):=Tryz.underlying151
 have HUND:=hid hund
 obtain ⟨ov,ho1,ho2,ho3⟩:=hc.od
 obtain ⟨lp,lc,hov⟩:=ho2.ints.len
 subst hov
 have HIN:=hid ho2.ints
 have HST:=hid (show aA w (w.alloc (.map #[] 0))/\Cn.kF w.heap.size 0 (fun _=>false) (w.alloc (.map #[] 0)) from ⟨aA.alloc _ _,Cn.tM w⟩)
 have HOV:=hid ho1
 have hbl0:=hc.mv.facts.2.2
 obtain ⟨i0,hi,hz0,hz1,hz2⟩:=info_parts aAn
 obtain ⟨im,hmi,hmz0,hmz1,hmz2⟩:=info_parts aGy
 clear hp hon hc hf2 hz8 hml hund ho1 ho2 ho3
 go_enter Tryz.func98,Tryz.ntmps98
 go_upto_region 2 with fail
 refine bH (fun W'=>aA w W'/\Cn.kF w.heap.size 0 (fun _=>false) W') ?_ ?_
 ·exact HST.out
 rintro W0 ⟨k0,m0⟩
 have K0:=hid k0
 have M0:=hid m0
 clear HST hmm m0
 obtain ⟨hoc,-,hol⟩:=(HOV.out.keep k0 (by omega)).facts
 clear k0
 go_wp2_with fail
 go_loopg [19] zs.length (fun gk iv wq=> ∃ j:Nat,j+gk=zs.length/\iv=.int .i64 j/\Cn.kF w.heap.size j (vY md f zs j) wq/\aA w wq)
 case atStart=>exact ⟨0,by omega,rfl,M0.out,K0.out⟩
 case round=>
  obtain ⟨j,hj,rfl,hm,hk⟩:=hrel
  have M1:=hid hm
  have K1:=hid hk
  clear hm hk
  by_cases hlt:j<zs.length
  ·have C1:=hid (HC.out.keep K1.out)
   obtain ⟨g,lcap,hlv,hgl,hcell⟩:=xJ (HIN.out.keep K1.out) (by omega)
   cases hlv
   have hcj:=hcell j hlt
   rw [Nat.zero_add] at hcj
   clear hcell
   obtain ⟨mb,mo,rfl,hmb,hmc⟩:=(HMD.out.keep hS K1.out).cell (q:=j) (by have:=HML.out;omega)
   have hmbl:mb<wr.heap.size:=Nat.lt_of_lt_of_le (hS mb hmb) K1.out.size
   have hzx:=HZ8.out (zs.getD j 0) (by rw [List.getD_eq_getElem?_getD,List.getElem?_eq_getElem hlt];exact List.getElem_mem hlt)
   have HT1:=hid (aFc md f zs j)
   generalize zs.getD j 0=x at hcj hzx HT1
   generalize md.getD j false=mj at hmc HT1
   have hx0:=hzx.1
   have hx8:=hzx.2
   clear hzx
   obtain ⟨hmv6,-,hmvl6⟩:=C1.out.mv.facts
   have hlk:=C1.out.mp.look HUND.out (x:=x) (by unfold Cn.SmI;omega)
   have hlkd:=(C1.out.keep (aA.drew (aA.refl wr))).mp.look HUND.out (x:=x) (by unfold Cn.SmI;omega)
   generalize f x=fx at hlk hlkd HT1
   obtain ⟨w7,hrun,hbm7,hgr7⟩:=(M1.out.keep (aA.drew (aA.refl wr))).put HUND.out (x:=x) (by unfold Cn.SmI;omega) (by omega) (!(mj==fx))
   have hjI:(j:Int)<(zs.length:Int):=by omega
   have hjm:(j:Int)<(md.length:Int):=by have:=HML.out;omega
   go_upto_region 5 with fail
   have K7:=hid (show aA w w7 from Below.grown (K1.out.trans (aA.drew (aA.refl wr))) hgr7 (K1.out.trans (aA.drew (aA.refl wr))).size (fun g hg=>by have:=Option.some.inj hg;omega))
   have M7:=hid hbm7
   clear hbm7 hgr7
   go_region
   clear hrun hlk hlkd hcj hmc hmv6 hmvl6
   go_wp2_with fail
   go_roundg (zs.length-(j+1))
   case rel=>exact ⟨j+1,by omega,by go_num,by rw [HT1.out];exact M7.out,K7.out⟩
   case measure=>omega
  ·obtain rfl:j=zs.length:=by omega
   have M2:=M1
   have K2:=K1
   have C2:=hid (HC.out.keep K1.out)
   generalize htk:vY md f zs zs.length=tk at M2
   have HTK:=hid htk
   clear M1 K1 hlt htk hoc hol
   obtain ⟨wo,rfl⟩ : ∃ wo:World,wo=wr:=⟨_,rfl⟩
   obtain ⟨hoc,-,hol⟩:=(HOV.out.keep K2.out (by omega)).facts
   obtain ⟨htc,-,htl⟩:=C2.out.tr.facts
   have hson:bA ps ps.length<=100:=by
    have:=nT HF2.out ps.length
    omega
   go_wp2_with fail
   go_loopg [10,11,40] ps.length (fun gk lv vv iv wq=> ∃ j vj:Nat,j+gk=ps.length/\vj=zs.length+bA ps j/\iv=.int .i64 j/\vv=.int .i64 vj/\eH wo.heap.size lv (oR ps md on tk zs.length j) wq/\aA wo wq)
   case atStart=>exact ⟨0,zs.length,by omega,by simp [bA],rfl,rfl,eH.nil _ _,aA.refl _⟩
   case round=>
    obtain ⟨j,vj,hj,hvj,rfl,rfl,hrow,hk⟩:=hrel
    have R1:=hid hrow
    have K1:=hid hk
    clear hrow hk
    by_cases hlt:j<ps.length
    ·obtain ⟨qb,qo,qcap,hqv,hqb,-,hrow⟩:=(HP.out.keep hS (K2.out.trans K1.out)).get hlt
     cases hqv
     obtain ⟨cs,hcs,hpj⟩:=hrow j hlt
     have HSF:=hid (gW hlt)
     have hfl2:=HF2.out _ (List.getElem_mem hlt)
     have hqbl:qb<wr.heap.size:=Nat.lt_of_lt_of_le (hS qb hqb) (K2.out.trans K1.out).size
     have hjI:(j:Int)<(ps.length:Int):=by omega
     have hsf:bA ps j<=100:=by
      have:=nT HF2.out j
      omega
     have hsm:bA ps (j+1)<=bA ps ps.length:=aFb ps (by omega)
     have HSR:=hid (show oR ps md on tk zs.length (j+1)=oR ps md on tk zs.length j++(if tk (j:Int) then [⟨(j:Int),flR md on (zs.length+bA ps j) j ps[j].fl.length⟩] else []) by
      rw [oR,List.getD_eq_getElem?_getD,List.getElem?_eq_getElem hlt,Option.getD_some])
     generalize ps[j]=q at hpj HSF hfl2 HSR
     rw [HSF.out] at hsm
     obtain ⟨k,a,fl,nt,kids,kp,fp,kc,fc,-,hfl,rfl,-,-⟩:=hpj.spelt
     obtain ⟨c0,c1,c2,c3,c4,c5,c6,c7,c8,c9,c10,c11,c12,c13⟩:=cN hcs
     clear hrow hcs hpj
     have hal:=yR ps md on tk zs.length j
     have HVJ:=hid hvj
     have hvjl:vj<=116:=by omega
     have hvjm:vj+q.fl.length<=md.length:=by have:=HML.out;omega
     rw [← HVJ.out] at HSR
     clear hvj
     generalize hsfe:bA ps j=sj at HSF hsf hsm HVJ
     generalize hace:oR ps md on tk zs.length j=acc at HSR hal R1
     obtain ⟨xp,xc,hxv⟩:=R1.out.shape
     subst hxv
     clear hsfe hace
     go_upto_region 12 with fail
     refine bH (fun W'=>aA wr W'/\aG wr.heap.size 76 #[.string q.n,.int .i64 q.v,.int .i64 q.sl,.slice fp q.fl.length fc,.int .i64 k,.string a.n,.int .i64 a.op,.int .i64 a.v,.int .i64 a.sl,.string a.f,.bool a.on,.string fl,.bool nt,.slice kp kids.length kc] W') ⟨aA.alloc _ _,aG.new _ _ _⟩ ?_
     rintro W3 ⟨k3,b3⟩
     have KR:=hid (K1.out.trans k3)
     have R3:=hid (R1.out.keep k3)
     have B3:=hid b3
     have HL3:=hid b3.facts.2.2
     clear k3 b3 c0 c1 c2 c3 c4 c5 c6 c7 c8 c9 c10 c11 c12 c13 R1
     go_upto_region 13 with fail
     refine bH (fun W'=>aA W3 W'/\aG W3.heap.size 64 #[.int .i64 j,.slice none 0 0] W') ⟨aA.alloc _ _,aG.new _ _ _⟩ ?_
     rintro W4 ⟨k4,b4⟩
     have K4:=hid k4
     have B4:=hid b4
     obtain ⟨hc3,-,hl3⟩:=(B3.out.keep k4 HL3.out).facts
     have hf3:W4.cell? ⟨wr.heap.size,3,none⟩=some (.slice fp q.fl.length fc):=hc3 3
     clear k4 b4 hc3
     generalize hbm:W3.heap.size=bm at B4
     have HBM:=hid hbm
     clear hbm
     generalize wr.heap.size=bp at hf3 hl3 B3 HL3 ⊢
     obtain ⟨wi,rfl⟩ : ∃ wi:World,wi=wr:=⟨_,rfl⟩
     go_wp2_with fail
     go_loopg [11,50] q.fl.length (fun gk vv kv wq=> ∃ (k vk:Nat) (mv:Value),k+gk=q.fl.length/\vk=vj+k/\kv=.int .i64 k/\vv=.int .i64 vk/\aG bm 64 #[.int .i64 j,mv] wq/\wq.ownsRow (bm+1) 4 1 mv k ((flR md on vj j k).map Value.bool)/\aA W3 wq)
     case atStart=>exact ⟨0,vj,_,by omega,by omega,rfl,rfl,B4.out,World.ownsRow_nil _ _ _ _,K4.out⟩
     case round=>
      obtain ⟨k,vk,mv,hk,hvk,rfl,rfl,hb,ho,hkk⟩:=hrel
      have B5:=hid hb
      have O5:=hid ho
      have K5:=hid hkk
      clear hb ho hkk B4 K4
      obtain ⟨hbc,hbf,hbl⟩:=B5.out.facts
      by_cases hlt:k<q.fl.length
      ·obtain ⟨mq,mcap,hmv⟩ : ∃ mq mcap,mv=.slice mq k mcap:=fC O5.out
       subst hmv
       have hvkm:vk<md.length:=by omega
       have HVK:=hid hvk
       have hvk116:vk<=118:=by omega
       clear hvk
       have hb1:wr.cell? ⟨bm,1,none⟩=some (.slice mq k mcap):=hbc 1
       have hb1d:wr.drew.cell? ⟨bm,1,none⟩=some (.slice mq k mcap):=hb1
       have hf1:=hbf 1
       clear hbc hbf
       have KW:=hid (K2.out.trans (KR.out.trans K5.out))
       obtain ⟨mb,mo,rfl,hmb,hmc⟩:=(HMD.out.keep hS KW.out).cell (q:=vk) hvkm
       have hmbl:mb<wr.heap.size:=Nat.lt_of_lt_of_le (hS mb hmb) KW.out.size
       have hmbm:mb<bm:=by
        have h1:=hS mb hmb
        have h2:=(K2.out.trans KR.out).size
        have h3:=HBM.out
        omega
       have hb1m:b+1<bm:=by
        have h2:=(K2.out.trans KR.out).size
        have h3:=HBM.out
        omega
       have hmcd:wr.drew.cell? ⟨mb,mo+vk,none⟩=some (.bool (md.getD vk false)):=hmc
       obtain ⟨hwc,-,hwl⟩:=(HC.out.keep KW.out).wi.facts
       obtain ⟨op,oc,hov,hol⟩:=HON.out.len
       have hw3:wr.cell? ⟨b+1,3,none⟩=some (.slice op on.length oc):=(hwc 3).trans (congrArg some hov)
       have hw3d:wr.drew.cell? ⟨b+1,3,none⟩=some (.slice op on.length oc):=hw3
       clear hwc
       have HCT:=hid (show ∀ W',aA wr W'->Calls Tryz.prog 99 #[.slice op on.length oc,.agg #[.int .i64 j,.int .i64 k]] W' fun e w'=>e=.returned (.bool (on.contains ((j:Int),(k:Int))))/\aA W' w' from fun W' kw=>sX S on j k (.slice op on.length oc) W' (fun c hc=>Nat.lt_of_lt_of_le (hS c hc) (Nat.le_trans KW.out.size kw.size)) (hov ▸ HON.out.keep hS (KW.out.trans kw)))
       have HNX:=hid (show flR md on vj j (k+1)=flR md on vj j k ++ [md.getD vk false != on.contains ((j:Int),(k:Int))] by rw [HVK.out];exact aGs md on vj j k)
       have hfln:=aCa md on vj j k
       generalize md.getD vk false=mk at hmc hmcd HNX
       generalize on.contains ((j:Int),(k:Int))=ck at HCT HNX
       generalize flR md on vj j k=fls at O5 HNX hfln
       have hkI:(k:Int)<(q.fl.length:Int):=by omega
       have hvI:(vk:Int)<(md.length:Int):=by omega
       go_upto_region 16 with fail
       have HELD:wr.drew.cell? ⟨mb,mo+vk,none⟩=some (.bool mk)/\wr.drew.cell? ⟨b+1,3,none⟩=some (.slice op on.length oc):=⟨hmcd,hw3d⟩
       refine wp_region_held_drew (S:=fun w=>w.cell? ⟨mb,mo+vk,none⟩=some (.bool mk)/\w.cell? ⟨b+1,3,none⟩=some (.slice op on.length oc)) (by kernel_rfl) HELD (fun hHeld=> ?_)
       refine Cn.tkN 0 (v:= ?_) ?_ ?_
       rotate_left
       ·rintro w ⟨hs1,hs2⟩
        go_simp
        try with_reducible rfl
       try simp only [Cn.acP]
       refine Cn.tkN 2 (v:= ?_) ?_ ?_
       rotate_left
       ·rintro w ⟨hs1,hs2⟩
        go_simp
        try with_reducible rfl
       try simp only [Cn.acP]
       refine Cn.tkN 3 (v:= ?_) ?_ ?_
       rotate_left
       ·rintro w ⟨hs1,hs2⟩
        go_simp
        try with_reducible rfl
       try simp only [Cn.acP]
       refine Cn.tkN 4 (v:= ?_) ?_ ?_
       rotate_left
       ·rintro w ⟨hs1,hs2⟩
        go_simp
        try with_reducible rfl
       try simp only [Cn.acP]
       refine Cn.tkN 5 (v:= ?_) ?_ ?_
       rotate_left
       ·rintro w ⟨hs1,hs2⟩
        go_simp
        try with_reducible rfl
       try simp only [Cn.acP]
       refine Cn.tkN 6 (v:= ?_) ?_ ?_
       rotate_left
       ·rintro w ⟨hs1,hs2⟩
        go_simp
        try with_reducible rfl
       try simp only [Cn.acP]
       refine Cn.tkN 7 (v:= ?_) ?_ ?_
       rotate_left
       ·rintro w ⟨hs1,hs2⟩
        go_simp
        try with_reducible rfl
       try simp only [Cn.acP]
       refine Cn.tkN 8 (v:= ?_) ?_ ?_
       rotate_left
       ·rintro w ⟨hs1,hs2⟩
        go_simp
        try with_reducible rfl
       try simp only [Cn.acP]
       refine Cn.tkN 9 (v:= ?_) ?_ ?_
       rotate_left
       ·rintro w ⟨hs1,hs2⟩
        go_simp
        try with_reducible rfl
       try simp only [Cn.acP]
       refine Cn.tkN 10 (v:= ?_) ?_ ?_
       rotate_left
       ·rintro w ⟨hs1,hs2⟩
        go_simp
        try with_reducible rfl
       try simp only [Cn.acP]
       refine wpAnyH_ready (rs:= [1,11]) (by kernel_rfl) (by simp) ?_
       refine AllReadyH.cons rfl (fun KK hK=> ?_) (AllReadyH.cons rfl (fun KK hK=> ?_) AllReadyH.nil)
       ·skip
        go_simp
        refine hK.out _ _ HELD (fun hH1=> ?_)
        clear hK KK
        try simp only [Cn.acP]
        refine wpAnyH_ready (rs:= [11]) (by kernel_rfl) (by simp) ?_
        refine AllReadyH.cons rfl (fun KK hK=> ?_) AllReadyH.nil
        go_simp
        with_reducible refine (HCT.out _ (aA.drew (aA.refl _))).mono ?_
        rintro e W6 ⟨rfl,hk6⟩
        have K6:=hid ((aA.drew (aA.refl wr)).trans hk6)
        clear hk6
        refine hK.out _ _ ⟨(K6.out.cell (p:=⟨mb,mo+vk,none⟩) hmbl).trans hmc,(K6.out.cell (p:=⟨b+1,3,none⟩) hwl).trans hw3⟩ (fun hH6=> ?_)
        clear hK KK
        have hb16:W6.cell? ⟨bm,1,none⟩=some (.slice mq k mcap):=(K6.out.cell (p:=⟨bm,1,none⟩) hbl).trans hb1
        have hbl6:bm<W6.heap.size:=Nat.lt_of_lt_of_le hbl K6.out.size
        try simp only [Cn.acP]
        refine Cn.tkN 12 (v:= ?_) ?_ ?_
        rotate_left
        ·rintro w ⟨hs1,hs2⟩
         go_simp
         try with_reducible rfl
        try simp only [Cn.acP]
        refine wpAnyH_ready (rs:= [13]) (by kernel_rfl) (by simp) ?_
        refine AllReadyH.cons rfl (fun KK hK=> ?_) AllReadyH.nil
        go_simp
        have k7:=aA.alloc W6 (.cells #[.bool (!(mk==ck))] 4)
        refine hK.out _ _ ⟨((K6.out.trans k7).cell (p:=⟨mb,mo+vk,none⟩) hmbl).trans hmc,((K6.out.trans k7).cell (p:=⟨b+1,3,none⟩) hwl).trans hw3⟩ (fun hH7=> ?_)
        clear hK KK
        refine lI (fun W'=>aA W6 W'/\aE W6.heap.size 4 (.bool (!(mk==ck))) W') ⟨k7,aE.new _ _ _⟩ ?_
        clear k7 hH7
        rintro W7 ⟨kk,vn⟩
        have K7:=hid (K6.out.trans kk)
        have V7:=hid vn
        have hH7:W7.cell? ⟨mb,mo+vk,none⟩=some (.bool mk)/\W7.cell? ⟨b+1,3,none⟩=some (.slice op on.length oc):=⟨(K7.out.cell (p:=⟨mb,mo+vk,none⟩) hmbl).trans hmc,(K7.out.cell (p:=⟨b+1,3,none⟩) hwl).trans hw3⟩
        have hb17:W7.cell? ⟨bm,1,none⟩=some (.slice mq k mcap):=(K7.out.cell (p:=⟨bm,1,none⟩) hbl).trans hb1
        have hbl7:bm<W7.heap.size:=Nat.lt_of_lt_of_le hbl K7.out.size
        clear kk vn
        refine wpAnyH_ready (rs:= [14]) (by kernel_rfl) (by simp) ?_
        refine AllReadyH.cons rfl (fun KK hK=> ?_) AllReadyH.nil
        refine Cn.bR rfl _ _ 62 rfl (bm+1) 4 i0 (.bool false) 1 1 Tryz.underlying62 hi hz0 hz1 hz2 rfl (by decide) (.slice mq k mcap) k (fls.map Value.bool) rfl (bC O5.out K7.out) ⟨W6.heap.size,0,none⟩ 1 1 [.bool (!(mk==ck))] rfl rfl (lS V7.out) fO (by unfold maxLen;omega) (by omega) (by omega) ?_
        intro v8 W8 h1 h2 h4
        obtain ⟨g8,cap8,rfl⟩:=Cn.bQ h1 (Nat.succ_pos _)
        have P8:=hid (eT HBM.out (B5.out.keep K7.out B5.out.facts.2.2) (bC O5.out K7.out) h2 h1 (K5.out.trans K7.out))
        have hH8:=kH (bC O5.out K7.out) h2 (by omega) hH7.1 hH7.2 (by omega) (by omega)
        obtain ⟨hbc8,hbf8,hbl8⟩:=P8.out.1.facts
        have hc81:W8.cell? ⟨bm,1,none⟩=some (.slice mq k mcap):=hbc8 1
        have hf81:=hbf8 1
        refine hK.out _ _ hH8 (fun hH9=> ?_)
        clear hK KK h1 h2 h4 hbc8 hbf8
        try simp only [Cn.acP]
        refine Cn.tkN 15 (v:= ?_) ?_ ?_
        rotate_left
        ·rintro w ⟨hs1,hs2⟩
         go_simp
         try with_reducible rfl
        try simp only [Cn.acP]
        refine wpAnyH_ready (rs:= [16]) (by kernel_rfl) (by simp) ?_
        refine AllReadyH.cons rfl (fun KK hK=> ?_) AllReadyH.nil
        go_simp
        refine hK.out _ _ (oF hH8 (by omega) (by omega)) (fun hH16=> ?_)
        clear hK KK
        refine wpAnyH_done (by kernel_rfl) ?_ _
        have HQ:=hid P8.out.2
        generalize W8.setCell ⟨bm,1,none⟩ (.slice (some ⟨g8,0,none⟩) (k+1) cap8)=W9 at HQ ⊢
        clear hc81 hf81 hbl8 hH8 hH9 hH16 P8
        go_wp2_with fail
        go_roundg (q.fl.length-(k+1))
        case rel=>exact ⟨k+1,vk+1,_,by omega,by have:=HVK.out;omega,by go_num,by go_num,HQ.out.1,by rw [HNX.out,List.map_append];exact HQ.out.2.1,HQ.out.2.2⟩
        case measure=>omega
       ·skip
        go_simp
        with_reducible refine (HCT.out _ (aA.drew (aA.refl _))).mono ?_
        rintro e W6 ⟨rfl,hk6⟩
        have K6:=hid ((aA.drew (aA.refl wr)).trans hk6)
        clear hk6
        refine hK.out _ _ ⟨(K6.out.cell (p:=⟨mb,mo+vk,none⟩) hmbl).trans hmc,(K6.out.cell (p:=⟨b+1,3,none⟩) hwl).trans hw3⟩ (fun hH6=> ?_)
        clear hK KK
        have hb16:W6.cell? ⟨bm,1,none⟩=some (.slice mq k mcap):=(K6.out.cell (p:=⟨bm,1,none⟩) hbl).trans hb1
        have hbl6:bm<W6.heap.size:=Nat.lt_of_lt_of_le hbl K6.out.size
        try simp only [Cn.acP]
        refine Cn.tkN 12 (v:= ?_) ?_ ?_
        rotate_left
        ·rintro w ⟨hs1,hs2⟩
         go_simp
         try with_reducible rfl
        try simp only [Cn.acP]
        refine wpAnyH_ready (rs:= [1,13]) (by kernel_rfl) (by simp) ?_
        refine AllReadyH.cons rfl (fun KK hK=> ?_) (AllReadyH.cons rfl (fun KK hK=> ?_) AllReadyH.nil)
        ·skip
         go_simp
         refine hK.out _ _ hH6 (fun hH1=> ?_)
         clear hK KK
         try simp only [Cn.acP]
         refine wpAnyH_ready (rs:= [13]) (by kernel_rfl) (by simp) ?_
         refine AllReadyH.cons rfl (fun KK hK=> ?_) AllReadyH.nil
         go_simp
         have k7:=aA.alloc W6 (.cells #[.bool (!(mk==ck))] 4)
         refine hK.out _ _ ⟨((K6.out.trans k7).cell (p:=⟨mb,mo+vk,none⟩) hmbl).trans hmc,((K6.out.trans k7).cell (p:=⟨b+1,3,none⟩) hwl).trans hw3⟩ (fun hH7=> ?_)
         clear hK KK
         refine lI (fun W'=>aA W6 W'/\aE W6.heap.size 4 (.bool (!(mk==ck))) W') ⟨k7,aE.new _ _ _⟩ ?_
         clear k7 hH7
         rintro W7 ⟨kk,vn⟩
         have K7:=hid (K6.out.trans kk)
         have V7:=hid vn
         have hH7:W7.cell? ⟨mb,mo+vk,none⟩=some (.bool mk)/\W7.cell? ⟨b+1,3,none⟩=some (.slice op on.length oc):=⟨(K7.out.cell (p:=⟨mb,mo+vk,none⟩) hmbl).trans hmc,(K7.out.cell (p:=⟨b+1,3,none⟩) hwl).trans hw3⟩
         have hb17:W7.cell? ⟨bm,1,none⟩=some (.slice mq k mcap):=(K7.out.cell (p:=⟨bm,1,none⟩) hbl).trans hb1
         have hbl7:bm<W7.heap.size:=Nat.lt_of_lt_of_le hbl K7.out.size
         clear kk vn
         refine wpAnyH_ready (rs:= [14]) (by kernel_rfl) (by simp) ?_
         refine AllReadyH.cons rfl (fun KK hK=> ?_) AllReadyH.nil
         refine Cn.bR rfl _ _ 62 rfl (bm+1) 4 i0 (.bool false) 1 1 Tryz.underlying62 hi hz0 hz1 hz2 rfl (by decide) (.slice mq k mcap) k (fls.map Value.bool) rfl (bC O5.out K7.out) ⟨W6.heap.size,0,none⟩ 1 1 [.bool (!(mk==ck))] rfl rfl (lS V7.out) fO (by unfold maxLen;omega) (by omega) (by omega) ?_
         intro v8 W8 h1 h2 h4
         obtain ⟨g8,cap8,rfl⟩:=Cn.bQ h1 (Nat.succ_pos _)
         have P8:=hid (eT HBM.out (B5.out.keep K7.out B5.out.facts.2.2) (bC O5.out K7.out) h2 h1 (K5.out.trans K7.out))
         have hH8:=kH (bC O5.out K7.out) h2 (by omega) hH7.1 hH7.2 (by omega) (by omega)
         obtain ⟨hbc8,hbf8,hbl8⟩:=P8.out.1.facts
         have hc81:W8.cell? ⟨bm,1,none⟩=some (.slice mq k mcap):=hbc8 1
         have hf81:=hbf8 1
         refine hK.out _ _ hH8 (fun hH9=> ?_)
         clear hK KK h1 h2 h4 hbc8 hbf8
         try simp only [Cn.acP]
         refine Cn.tkN 15 (v:= ?_) ?_ ?_
         rotate_left
         ·rintro w ⟨hs1,hs2⟩
          go_simp
          try with_reducible rfl
         try simp only [Cn.acP]
         refine wpAnyH_ready (rs:= [16]) (by kernel_rfl) (by simp) ?_
         refine AllReadyH.cons rfl (fun KK hK=> ?_) AllReadyH.nil
         go_simp
         refine hK.out _ _ (oF hH8 (by omega) (by omega)) (fun hH16=> ?_)
         clear hK KK
         refine wpAnyH_done (by kernel_rfl) ?_ _
         have HQ:=hid P8.out.2
         generalize W8.setCell ⟨bm,1,none⟩ (.slice (some ⟨g8,0,none⟩) (k+1) cap8)=W9 at HQ ⊢
         clear hc81 hf81 hbl8 hH8 hH9 hH16 P8
         go_wp2_with fail
         go_roundg (q.fl.length-(k+1))
         case rel=>exact ⟨k+1,vk+1,_,by omega,by have:=HVK.out;omega,by go_num,by go_num,HQ.out.1,by rw [HNX.out,List.map_append];exact HQ.out.2.1,HQ.out.2.2⟩
         case measure=>omega
        ·skip
         go_simp
         have k7:=aA.alloc W6 (.cells #[.bool (!(mk==ck))] 4)
         refine hK.out _ _ ⟨((K6.out.trans k7).cell (p:=⟨mb,mo+vk,none⟩) hmbl).trans hmc,((K6.out.trans k7).cell (p:=⟨b+1,3,none⟩) hwl).trans hw3⟩ (fun hH7=> ?_)
         clear hK KK
         refine lI (fun W'=>aA W6 W'/\aE W6.heap.size 4 (.bool (!(mk==ck))) W') ⟨k7,aE.new _ _ _⟩ ?_
         clear k7 hH7
         rintro W7 ⟨kk,vn⟩
         have K7:=hid (K6.out.trans kk)
         have V7:=hid vn
         have hH7:W7.cell? ⟨mb,mo+vk,none⟩=some (.bool mk)/\W7.cell? ⟨b+1,3,none⟩=some (.slice op on.length oc):=⟨(K7.out.cell (p:=⟨mb,mo+vk,none⟩) hmbl).trans hmc,(K7.out.cell (p:=⟨b+1,3,none⟩) hwl).trans hw3⟩
         have hb17:W7.cell? ⟨bm,1,none⟩=some (.slice mq k mcap):=(K7.out.cell (p:=⟨bm,1,none⟩) hbl).trans hb1
         have hbl7:bm<W7.heap.size:=Nat.lt_of_lt_of_le hbl K7.out.size
         clear kk vn
         refine wpAnyH_ready (rs:= [1]) (by kernel_rfl) (by simp) ?_
         refine AllReadyH.cons rfl (fun KK hK=> ?_) AllReadyH.nil
         go_simp
         refine hK.out _ _ hH7 (fun hH1=> ?_)
         clear hK KK
         try simp only [Cn.acP]
         refine wpAnyH_ready (rs:= [14]) (by kernel_rfl) (by simp) ?_
         refine AllReadyH.cons rfl (fun KK hK=> ?_) AllReadyH.nil
         refine Cn.bR rfl _ _ 62 rfl (bm+1) 4 i0 (.bool false) 1 1 Tryz.underlying62 hi hz0 hz1 hz2 rfl (by decide) (.slice mq k mcap) k (fls.map Value.bool) rfl (bC O5.out K7.out) ⟨W6.heap.size,0,none⟩ 1 1 [.bool (!(mk==ck))] rfl rfl (lS V7.out) fO (by unfold maxLen;omega) (by omega) (by omega) ?_
         intro v8 W8 h1 h2 h4
         obtain ⟨g8,cap8,rfl⟩:=Cn.bQ h1 (Nat.succ_pos _)
         have P8:=hid (eT HBM.out (B5.out.keep K7.out B5.out.facts.2.2) (bC O5.out K7.out) h2 h1 (K5.out.trans K7.out))
         have hH8:=kH (bC O5.out K7.out) h2 (by omega) hH7.1 hH7.2 (by omega) (by omega)
         obtain ⟨hbc8,hbf8,hbl8⟩:=P8.out.1.facts
         have hc81:W8.cell? ⟨bm,1,none⟩=some (.slice mq k mcap):=hbc8 1
         have hf81:=hbf8 1
         refine hK.out _ _ hH8 (fun hH9=> ?_)
         clear hK KK h1 h2 h4 hbc8 hbf8
         try simp only [Cn.acP]
         refine Cn.tkN 15 (v:= ?_) ?_ ?_
         rotate_left
         ·rintro w ⟨hs1,hs2⟩
          go_simp
          try with_reducible rfl
         try simp only [Cn.acP]
         refine wpAnyH_ready (rs:= [16]) (by kernel_rfl) (by simp) ?_
         refine AllReadyH.cons rfl (fun KK hK=> ?_) AllReadyH.nil
         go_simp
         refine hK.out _ _ (oF hH8 (by omega) (by omega)) (fun hH16=> ?_)
         clear hK KK
         refine wpAnyH_done (by kernel_rfl) ?_ _
         have HQ:=hid P8.out.2
         generalize W8.setCell ⟨bm,1,none⟩ (.slice (some ⟨g8,0,none⟩) (k+1) cap8)=W9 at HQ ⊢
         clear hc81 hf81 hbl8 hH8 hH9 hH16 P8
         go_wp2_with fail
         go_roundg (q.fl.length-(k+1))
         case rel=>exact ⟨k+1,vk+1,_,by omega,by have:=HVK.out;omega,by go_num,by go_num,HQ.out.1,by rw [HNX.out,List.map_append];exact HQ.out.2.1,HQ.out.2.2⟩
         case measure=>omega
      ·obtain rfl:k=q.fl.length:=by omega
       obtain ⟨mq,mcap,hmv⟩ : ∃ mq mcap,mv=.slice mq q.fl.length mcap:=fC O5.out
       subst hmv
       have hm0:wr.cell? ⟨bm,0,none⟩=some (.int .i64 j):=hbc 0
       have hm1:wr.cell? ⟨bm,1,none⟩=some (.slice mq q.fl.length mcap):=hbc 1
       have KO:=hid (KR.out.trans K5.out)
       have hkol:=KO.out.size
       have hlk:=(M2.out.keep KO.out).look HUND.out (x:=(j:Int)) (by unfold Cn.SmI;omega)
       have R5:=hid (R3.out.keep K5.out)
       have HMB:=hid (show pZ (fun c=>bm+1<=c/\c<wr.heap.size) wr ⟨(j:Int),flR md on vj j q.fl.length⟩ [.int .i64 j,.slice mq q.fl.length mcap] from ⟨_,rfl,qF O5.out (aCa ..)⟩)
       have HOWN:=hid (show ∀ g,(Value.slice xp acc.length xc).ownBlock=some g->wo.heap.size<=g/\g<bm from fun g hg=>HBM.out ▸ R3.out.own g hg)
       have HBO:=hid (show wo.heap.size<=bm from HBM.out ▸ KR.out.size)
       have hvk2:vk=zs.length+bA ps (j+1):=by have:=HVJ.out;have:=HSF.out;omega
       have HVK:=hid hvk2
       clear hbc hbf hvk2 hvk hlt
       cases htj:tk (j:Int) with
       | true=>
        rw [htj] at hlk
        have HSR2:=hid (HSR.out.trans (by rw [if_pos htj]))
        clear htj HSR
        obtain ⟨csl,c1,c2,c3,c4⟩:=R5.out
        have HC3:=hid c3
        have HC4:=hid c4
        clear c3 c4
        go_wp2_with (at_builtin;refine wpList_append_own_at _ rfl _ _ 25 rfl wo.heap.size 64 im (.agg #[.int .i64 0,.slice none 0 0]) 2 32 Tryz.underlying25 hmi hmz0 hmz1 hmz2 rfl (by decide) (.slice xp acc.length xc) acc.length csl.flatten rfl (HC3.out.alloc _) ⟨wr.heap.size,0,none⟩ 1 1 [.int .i64 j,.slice mq q.fl.length mcap] rfl rfl gR (by intro u hu;simp at hu;rcases hu with rfl | rfl<;>rfl) (by unfold maxLen;omega) (by omega) (by rw [aC];omega) ?_)
        intro v6 w6 h1 h2 _ h4
        obtain ⟨g6,cap6,rfl⟩:=Cn.bQ h1 (Nat.succ_pos _)
        have row6:=hid (eH.push (B':=bm+1) c1 c2 HC4.out (by have:=HBO.out;omega) (fun g' hg'=>by have:=(HOWN.out g' hg').2;omega) HMB.out rfl (by simpa using h1) h2 (by rw [aC];exact h4))
        have L6:Below wo.heap.size wr w6:=((Below.refl _ wr).alloc hkol _).grown h2 (by rw [aC];omega) (fun g' hg'=>(HOWN.out g' hg').1)
        have K6:=hid (show aA wo w6 from Below.trans KO.out L6)
        clear h1 h2 h4 L6 hlk hm0 hm1 HC3 HC4
        go_wp2_with fail
        go_roundg (ps.length-(j+1))
        case rel=>exact ⟨j+1,vk,by omega,HVK.out,by go_num,rfl,by rw [HSR2.out];exact row6.out,K6.out⟩
        case measure=>omega
       | false=>
        rw [htj] at hlk
        have HSR2:=hid (HSR.out.trans (by rw [if_neg (by rw [htj];simp),List.append_nil]))
        clear htj HSR
        go_wp2_with fail
        go_roundg (ps.length-(j+1))
        case rel=>exact ⟨j+1,vk,by omega,HVK.out,by go_num,rfl,by rw [HSR2.out];exact R5.out,KO.out⟩
        case measure=>omega
    ·obtain rfl:j=ps.length:=by omega
     have HF:=hid (R1.out.final.mono (S':=fun c=>w.heap.size<=c/\c<wr.heap.size) (fun _ _=>rfl) (fun c hc=>⟨Nat.le_trans K2.out.size hc.1,hc.2⟩))
     have KF:=hid (K2.out.trans K1.out)
     go_wp2_with fail
     go_ret
     exact ⟨KF.out,_,rfl,by rw [HTK.out];exact HF.out⟩
end Go.Proofs.YthaaaecmeafofaaGreatDoor
namespace Go.Proofs.YthaaaecmeafofaaGreatDoor
def xW (a:Nat × List Bool):MB:=⟨(a.1:Int),a.2⟩
theorem xF (o:List Nat) (i:Nat):(o.map fun (i:Nat)=>(i:Int)).contains (i:Int)=o.contains i:=by
 induction o with
 | nil=>rfl
 | cons a o ih=>
  have e:((i:Int)==(a:Int))=(i==a):=by rw [Bool.eq_iff_iff,beq_iff_eq,beq_iff_eq];omega
  rw [List.map_cons,List.contains_cons,List.contains_cons,ih,e]
theorem rS {ms:List MB} (h : ∀ x∈plI ms,0<=x):plI ms=(ms.map fun m=>m.pl.toNat).map fun (i:Nat)=>(i:Int):=by
 unfold plI at *
 rw [List.map_map]
 refine List.map_congr_left fun m hm=> ?_
 have:=h m.pl (List.mem_map.2 ⟨m,hm,rfl⟩)
 show m.pl=((m.pl.toNat:Nat):Int)
 omega
theorem jT (ps:List PK) (wi:WI) (h : ∀ x∈plI wi.ins,0<=x):plI wi.ins++cJ (plI wi.ins) ps.length=(aB ps wi).order.map fun (i:Nat)=>(i:Int):=by
 unfold Cn.CT.order cJ
 rw [List.map_append]
 have e1:(aB ps wi).ins=wi.ins.map fun m=>m.pl.toNat:=rfl
 have e2:(aB ps wi).nf.length=ps.length:=by simp [aB]
 rw [e2,e1,← rS h]
 congr 2
 refine List.filter_congr fun i _=> ?_
 rw [rS h,xF]
theorem aCw (md:List Bool) (f:Int->Bool) (o:List Nat) (hn:o.Nodup) (i:Nat) : ∀ j,j<=o.length->i∈o.take j->vY md f (o.map fun (i:Nat)=>(i:Int)) j (i:Int)=(md.getD (o.idxOf i) false != f (i:Int))
 | 0,_,h=>by simp at h
 | j+1,hj,h=>by
  have hjo:o[j]? = some o[j]:=List.getElem?_eq_getElem (by omega)
  have hz:(o.map fun (i:Nat)=>(i:Int)).getD j 0=(o[j]:Int):=by rw [List.getD_eq_getElem?_getD,List.getElem?_map,hjo];rfl
  show (if (i:Int)=(o.map fun (i:Nat)=>(i:Int)).getD j 0 then _ else _)=_
  rw [hz]
  by_cases e:i=o[j]
  ·rw [if_pos (by omega)]
   rw [Cn.kN hn (v:=j) (i:=i) (by rw [hjo,← e])]
  ·rw [if_neg (by omega)]
   refine aCw md f o hn i j (by omega) ?_
   rw [List.take_succ_eq_append_getElem (by omega),List.mem_append,List.mem_singleton] at h
   exact h.resolve_right e
theorem aCv (ps:List PK) (wi:WI) (k:Nat):bA ps k=((aB ps wi).nf.take k).sum:=by
 unfold bA aB
 rw [← List.map_take]
theorem aCt (ps:List PK) (wi:WI) (md:List Bool) (tk:Int->Bool) (hz : ∀ i,i<ps.length->tk (i:Int)=(aB ps wi).takes md i) : ∀ j,j<=ps.length->oR ps md wi.on tk ps.length j=((List.range j).filterMap fun i=>if (aB ps wi).takes md i then some (i,(aB ps wi).flags md i) else none).map xW
 | 0,_=>rfl
 | j+1,hj=>by
  rw [oR,aCt ps wi md tk hz j (by omega),List.range_succ,List.filterMap_append,List.map_append]
  congr 1
  have e2:(aB ps wi).nf.length=ps.length:=by simp [aB]
  have ef:flR md wi.on (ps.length+bA ps j) j (ps.getD j PK.zero).fl.length=(aB ps wi).flags md j:=by
   unfold flR Cn.CT.flags Cn.CT.base
   rw [e2,← aCv]
   have e3:(aB ps wi).nf.getD j 0=(ps.getD j PK.zero).fl.length:=by
    simp [aB,List.getD_eq_getElem?_getD,List.getElem?_eq_getElem (show j<ps.length by omega)]
   rw [e3]
   rfl
  rw [hz j (by omega),ef]
  by_cases ht:(aB ps wi).takes md j=true
  ·simp [ht,xW]
  ·simp [ht]
theorem aIe (ps:List PK) (wi:WI) (md:List Bool) (hok:(aB ps wi).Ok) (h0 : ∀ x∈plI wi.ins,0<=x) :
  oR ps md wi.on (vY md (inI (plI wi.ins)) (plI wi.ins++cJ (plI wi.ins) ps.length) (plI wi.ins++cJ (plI wi.ins) ps.length).length) (plI wi.ins++cJ (plI wi.ins) ps.length).length ps.length=((aB ps wi).set md).map xW:=by
 have e2:(aB ps wi).nf.length=ps.length:=by simp [aB]
 have hlen:(plI wi.ins++cJ (plI wi.ins) ps.length).length=ps.length:=by rw [jT ps wi h0,List.length_map,Cn.CT.order_len hok,e2]
 rw [hlen]
 unfold Cn.CT.set
 rw [e2]
 refine aCt ps wi md _ (fun i hi=> ?_) ps.length (Nat.le_refl _)
 rw [jT ps wi h0]
 rw [aCw md _ _ (Cn.CT.order_nodup hok) i ps.length (by rw [Cn.CT.order_len hok,e2];exact Nat.le_refl _) (by
  rw [List.take_of_length_le (by rw [Cn.CT.order_len hok,e2];exact Nat.le_refl _),Cn.CT.order_mem hok,e2];exact hi)]
 unfold Cn.CT.takes inI
 rw [rS h0,xF]
 rfl
theorem aGq {l:List Int} (h : ∀ k,0<k->k<l.length->l.getD (k-1) 0<l.getD k 0) (i:Nat) : ∀ d,i+d+1<l.length->l.getD i 0<l.getD (i+d+1) 0
 | 0,hl=>by have:=h (i+1) (by omega) hl;simpa using this
 | d+1,hl=>by
  have h1:=aGq h i d (by omega)
  have h2:=h (i+(d+1)+1) (by omega) hl
  rw [show i+(d+1)+1-1=i+d+1 by omega] at h2
  omega
theorem wD {l:List Int} (h : ∀ k,0<k->k<l.length->l.getD (k-1) 0<l.getD k 0):l.Pairwise (· < ·):=by
 rw [List.pairwise_iff_getElem]
 intro i j hi hj hij
 have h1:=aGq h i (j-i-1) (by omega)
 rw [show i+(j-i-1)+1=j by omega] at h1
 rw [List.getD_eq_getElem?_getD,List.getD_eq_getElem?_getD,List.getElem?_eq_getElem hi,List.getElem?_eq_getElem hj] at h1
 exact h1
theorem aCy {l:List Int} (h : ∀ k,0<k->k<l.length->l.getD (k-1) 0<l.getD k 0) (h0 : ∀ x∈l,0<=x) : ∀ k,k<l.length->(k:Int)<=l.getD k 0
 | 0,hk=>by
  have:=h0 (l.getD 0 0) (by rw [List.getD_eq_getElem?_getD,List.getElem?_eq_getElem hk];exact List.getElem_mem hk)
  simpa using this
 | k+1,hk=>by
  have h1:=aCy h h0 k (by omega)
  have h2:=h (k+1) (by omega) hk
  rw [Nat.add_sub_cancel] at h2
  omega
theorem aCn (ms:List MB) (k:Nat):(plI ms).getD k 0=(ms.getD k MB.zero).pl:=by
 unfold plI
 rw [List.getD_eq_getElem?_getD,List.getD_eq_getElem?_getD,List.getElem?_map]
 cases ms[k]? <;> rfl
theorem eG {ps:List PK} {ms:List MB} (h:cD ps ms=0):ps.length<=8/\(∀ p∈ps,p.fl.length<=2)/\(plI ms).Pairwise (· < ·)/\(∀ x∈plI ms,0<=x/\x<ps.length)/\ms.length<=8/\tK ps ms:=by
 have hok:=yQ h
 have ht:bZ ps=0:=by
  unfold cD at h
  by_cases e:bZ ps=0
  ·exact e
  ·rw [if_pos e] at h;exact h
 have hs:kE ps ms=0:=by unfold cD at h;rw [ht] at h;simpa using h
 have hz:=(dA ms.length 0).1 hs
 obtain ⟨h8,hp⟩:=cW ht
 have hup : ∀ k,0<k->k<(plI ms).length->(plI ms).getD (k-1) 0<(plI ms).getD k 0:=fun k h0 hk=>by
  have hk2:k<ms.length:=by simpa [plI] using hk
  have h1:=hz k hk2
  rw [Nat.zero_add] at h1
  rw [aCn,aCn]
  unfold mbE at h1
  by_cases e1:(ms.getD k MB.zero).pl<0∨(ps.length:Int)<=(ms.getD k MB.zero).pl
  ·rw [if_pos e1] at h1;omega
  ·rw [if_neg e1] at h1
   by_cases e2:0<k/\(ms.getD k MB.zero).pl<=(ms.getD (k-1) MB.zero).pl
   ·rw [if_pos e2] at h1;omega
   ·omega
 have hin : ∀ x∈plI ms,0<=x/\x<ps.length:=fun x hx=>by
  obtain ⟨m,hm,rfl⟩:=List.mem_map.1 hx
  obtain ⟨i,hi⟩:=List.mem_iff_getElem?.1 hm
  exact ⟨(hok i m hi).1,(hok i m hi).2.1⟩
 have hlen:ms.length<=8:=by
  by_cases h0:ms.length=0
  ·omega
  ·have hl:(plI ms).length=ms.length:=by simp [plI]
   have h1:=aCy hup (fun x hx=>(hin x hx).1) (ms.length-1) (by omega)
   have h2:=(hin ((plI ms).getD (ms.length-1) 0) (by rw [List.getD_eq_getElem?_getD,List.getElem?_eq_getElem (by omega)];exact List.getElem_mem _)).2
   omega
 refine ⟨h8,fun p hpm=> ?_,wD hup,hin,hlen,hok⟩
 have h1:=hp p hpm
 by_cases h2:2<p.fl.length
 ·have h3:cL p.fl=2:=by unfold cL;rw [if_pos h2]
  unfold dD at h1
  rw [h3] at h1
  split at h1
  ·omega
  ·split at h1
   ·omega
   ·simp at h1
 ·omega
theorem aIv {ms:List MB} (h:(plI ms).Pairwise (· < ·)) (h0 : ∀ x∈plI ms,0<=x):(ms.map fun m=>m.pl.toNat).Pairwise (· < ·):=by
 unfold plI at h
 rw [List.pairwise_map] at h ⊢
 refine h.imp_of_mem fun ha hb hab=> ?_
 have h1:=h0 _ (List.mem_map.2 ⟨_,ha,rfl⟩)
 have h2:=h0 _ (List.mem_map.2 ⟨_,hb,rfl⟩)
 omega
theorem jD {ps:List PK} {wi:WI} (h:cD ps wi.ins=0):(aB ps wi).Ok:=by
 obtain ⟨-,-,h1,h2,-,-⟩:=eG h
 refine ⟨aIv h1 fun x hx=>(h2 x hx).1,fun i hi=> ?_⟩
 obtain ⟨m,hm,rfl⟩:=List.mem_map.1 hi
 have:=h2 m.pl (List.mem_map.2 ⟨m,hm,rfl⟩)
 show m.pl.toNat<(ps.map fun p=>p.fl.length).length
 rw [List.length_map]
 omega
def fQ (ms:List MB):List (Nat × List Bool):=ms.map fun m=>(m.pl.toNat,m.on)
theorem sC {ps:List PK} {ms:List MB} (wi:WI) (h:cD ps ms=0):(aB ps wi).IsSet (fQ ms):=by
 obtain ⟨-,-,h1,h2,-,h3⟩:=eG h
 have hu:=aIv h1 fun x hx=>(h2 x hx).1
 refine ⟨?_,fun a ha=> ?_,fun a ha=> ?_⟩
 ·unfold fQ
  rw [List.pairwise_map] at hu ⊢
  exact hu
 ·obtain ⟨m,hm,rfl⟩:=List.mem_map.1 ha
  have:=h2 m.pl (List.mem_map.2 ⟨m,hm,rfl⟩)
  show m.pl.toNat<(ps.map fun p=>p.fl.length).length
  rw [List.length_map]
  omega
 ·obtain ⟨m,hm,rfl⟩:=List.mem_map.1 ha
  obtain ⟨i,hi⟩:=List.mem_iff_getElem?.1 hm
  have h4:=h3 i m hi
  have h5:m.pl.toNat<ps.length:=by omega
  show m.on.length=(ps.map fun p=>p.fl.length).getD m.pl.toNat 0
  rw [h4.2.2,dJ,List.getD_eq_getElem?_getD,List.getD_eq_getElem?_getD,List.getElem?_map,List.getElem?_eq_getElem h5]
  rfl
theorem aMu {ms:List MB} (h : ∀ x∈plI ms,0<=x):(fQ ms).map xW=ms:=by
 unfold fQ
 rw [List.map_map]
 conv=>rhs;rw [← List.map_id ms]
 refine List.map_congr_left fun m hm=> ?_
 have:=h m.pl (List.mem_map.2 ⟨m,hm,rfl⟩)
 have e:((m.pl.toNat:Nat):Int)=m.pl:=by omega
 show (⟨((m.pl.toNat:Nat):Int),m.on⟩:MB)=m
 rw [e]
end Go.Proofs.YthaaaecmeafofaaGreatDoor
namespace Go.Proofs
open Go.Shelf
end Go.Proofs
namespace Go.Proofs.YthaaaecmeafofaaGreatDoor
open Go.RowKit Go.Sort
theorem qX {F:Nat} {cap:Array Value} (S:Nat->Prop) (kids:List NT) (g:NT->Bool) (kp:Option Addr) (kc:Nat) (w:World) (hS : ∀ b,S b->b<w.heap.size)
  (hF : ∀ args w,(callFunc F args).run Tryz.prog w=.ok (.enter F args) w) (hmax:kids.length<=9223372036854775807) (hk:aY S w kids kp 0)
  (hc : ∀ (j:Nat) (h:j<kids.length) (cs:List Value) (W:World),aA w W->aF S W kids[j] cs->Calls Tryz.prog F (#[.agg cs.toArray]++cap) W fun e w'=>e=.returned (.bool (g kids[j]))/\aA W w') :
  Calls Tryz.prog 125 #[.slice kp kids.length kc,.func (.func F) #[] cap] w fun e w'=> ∃ n:Int,e=.returned (.int .i64 n)/\decide (0<=n)=kids.any g/\aA w w':=by
 have HK:=hid hk
 have HC:=hid hc
 clear hk hc
 go_enter Tryz.func125,Tryz.ntmps125
 go_wp2_with fail
 go_loopg [8] kids.length (fun gk i wr=> ∃ j:Nat,j+gk=kids.length/\i=.int .i64 j/\(kids.take j).any g=false/\aA w wr)
 case atStart=>exact ⟨0,by simp,rfl,by simp,aA.refl _⟩
 case round=>
  obtain ⟨j,hj,rfl,hno,hkp⟩:=hrel
  have HNO:=hid hno
  have HKP:=hid hkp
  clear hno hkp
  by_cases hlt:j<kids.length
  ·obtain ⟨p,cs,hp,hSp,hcell,hneed⟩:=cX (aY.mono (bD hS HKP.out) (fun _ h=>h) kids kp 0 HK.out) j hlt
   have HCALL:=hid (HC.out j hlt cs wr HKP.out hneed)
   have HST:Hid ((kids.take (j+1)).any g=g kids[j]):=by
    show _=_
    rw [List.take_succ_eq_append_getElem hlt,List.any_append,HNO.out];simp
   have HUP:Hid (g kids[j]=true->kids.any g=true):=fun h=>List.any_eq_true.2 ⟨kids[j],List.getElem_mem hlt,h⟩
   subst hp
   rw [Nat.zero_add] at hcell
   generalize g kids[j]=β at HCALL HST HUP
   cases hkid:kids[j] with
   | node k' a' fl' nt' kids'=>
   rw [hkid,aF] at hneed
   obtain ⟨kp',kc',rfl,-,-,-⟩:=hneed
   obtain ⟨c0,c1,c2,c3,c4,c5,c6,c7,c8,c9⟩:=fS hcell
   clear hcell hkid HNO
   go_wp2_with fail
   refine HCALL.out.mono ?_
   rintro e w1 ⟨rfl,k1⟩
   have K1:=hid (HKP.out.trans k1)
   clear k1 c0 c1 c2 c3 c4 c5 c6 c7 c8 c9 HCALL
   cases β
   ·go_wp2_with fail
    go_roundg (kids.length-(j+1))
    case rel=>exact ⟨j+1,by omega,by go_num,HST.out,K1.out⟩
    case measure=>omega
   ·go_wp2_with fail
    go_ret
    exact ⟨(j:Int),rfl,by rw [show kids.any g=true from HUP.out trivial];exact decide_eq_true (by omega),K1.out⟩
  ·obtain rfl:j=kids.length:=by omega
   go_wp2_with fail
   go_ret
   refine ⟨-1,rfl,?_,HKP.out⟩
   have:=HNO.out
   rw [List.take_length] at this
   rw [this];rfl
theorem iI {F:Nat} {cap:Array Value} (S:Nat->Prop) (kids:List NT) (g:NT->Bool) (kp:Option Addr) (kc:Nat) (w:World) (hS : ∀ b,S b->b<w.heap.size)
  (hF : ∀ args w,(callFunc F args).run Tryz.prog w=.ok (.enter F args) w) (hmax:kids.length<=9223372036854775807) (hk:aY S w kids kp 0)
  (hc : ∀ (j:Nat) (h:j<kids.length) (cs:List Value) (W:World),aA w W->aF S W kids[j] cs->Calls Tryz.prog F (#[.agg cs.toArray]++cap) W fun e w'=>e=.returned (.bool (g kids[j]))/\aA W w') :
  Calls Tryz.prog 62 #[.slice kp kids.length kc,.func (.func F) #[] cap] w fun e w'=>e=.returned (.bool (kids.any g))/\aA w w':=by
 have HI:=hid (qX S kids g kp kc w hS hF hmax hk hc)
 clear hk hc
 go_enter Tryz.func62,Tryz.ntmps62
 go_wp2_with fail
 refine HI.out.mono ?_
 rintro e w1 ⟨n,rfl,hn,k1⟩
 have HN:=hid hn
 have K1:=hid k1
 clear hn k1 HI
 go_wp2_with fail
 go_ret
 exact ⟨aI HN.out,K1.out⟩
theorem aEb (k:Int) (a:At) (fl:ByteArray) (nt:Bool) : ∀ (kids:List NT) (j:Nat) (h:j<kids.length) (f:ByteArray),f∈kids[j].flags->f∈(NT.node k a fl nt kids).flags:=by
 intro kids j h f hf
 rw [NT.flags]
 refine List.mem_append_right _ ?_
 induction kids generalizing j with
 | nil=>exact absurd h (Nat.not_lt_zero _)
 | cons t ts ih=>
  rw [bO]
  cases j with
  | zero=>exact List.mem_append_left _ hf
  | succ j=>exact List.mem_append_right _ (ih j (by simpa using h) hf)
theorem wI (ps:List PK) (ms:List MB) (k:Nat) : ∀ kids:List NT,aFw ps ms k kids=kids.any (bX ps ms k)
 | []=>by simp [aFw]
 | t :: ts=>by rw [aFw,wI ps ms k ts];simp
theorem qC (ps:List PK) (ms:List MB) (k:Nat) : ∀ kids:List NT,aFs ps ms k kids = !kids.any (fun t=> !bX ps ms k t)
 | []=>by simp [aFs]
 | t :: ts=>by rw [aFs,qC ps ms k ts];simp
structure jJ (S:Nat->Prop) (ps:List PK) (ms:List MB) (k:Nat) (tp lp:Option Addr) (tc lc ct cl ck ch cp cf:Nat) (pcs:Array Value) (w:World):Prop where
 tree:aE ct 24 (.slice tp ps.length tc) w
 set:aE cl 25 (.slice lp ms.length lc) w
 num:aE ck 3 (.int .i64 k) w
 self:aE ch 111 (.func (.func 130) #[] #[.pointer (some ⟨ct,0,none⟩),.pointer (some ⟨cl,0,none⟩),.pointer (some ⟨ck,0,none⟩),.pointer (some ⟨ch,0,none⟩),.pointer (some ⟨cp,0,none⟩),.pointer (some ⟨cf,0,none⟩)]) w
 pack:aJ cp pcs w
 fails:aE cf 111 (.func (.func 129) #[] #[.pointer (some ⟨ch,0,none⟩)]) w
 row:aU S w ps (.slice tp ps.length tc)
 mbs:bS S w ms (.slice lp ms.length lc)
 old : ∀ b,S b->b<w.heap.size
theorem jJ.keep {S:Nat->Prop} {ps:List PK} {ms:List MB} {k:Nat} {tp lp:Option Addr} {tc lc ct cl ck ch cp cf:Nat} {pcs:Array Value} {w w':World} (h:jJ S ps ms k tp lp tc lc ct cl ck ch cp cf pcs w) (k':aA w w'):jJ S ps ms k tp lp tc lc ct cl ck ch cp cf pcs w':=
 ⟨h.tree.keep k' h.tree.facts.2.2,h.set.keep k' h.set.facts.2.2,h.num.keep k' h.num.facts.2.2,h.self.keep k' h.self.facts.2.2,h.pack.keep k' h.pack.1,h.fails.keep k' h.fails.facts.2.2,h.row.keep h.old k',h.mbs.keep h.old k',fun b hb=>Nat.lt_of_lt_of_le (h.old b hb) k'.size⟩
theorem oY (args:Array Value) (w:World):(callFunc 129 args).run Tryz.prog w=.ok (.enter 129 args) w:=enters_of Tryz.func129 (by kernel_rfl) rfl args w
theorem iJ (args:Array Value) (w:World):(callFunc 130 args).run Tryz.prog w=.ok (.enter 130 args) w:=enters_of Tryz.func130 (by kernel_rfl) rfl args w
theorem aDq {S:Nat->Prop} {ps:List PK} {ms:List MB} {k:Nat} {tp lp:Option Addr} {tc lc ct cl ck ch cp cf:Nat} {pcs:Array Value} (t:NT) (cs:List Value) (w:World) (h:jJ S ps ms k tp lp tc lc ct cl ck ch cp cf pcs w) (hn:aF S w t cs)
  (hc : ∀ W,aA w W->Calls Tryz.prog 130 #[.agg cs.toArray,.pointer (some ⟨ct,0,none⟩),.pointer (some ⟨cl,0,none⟩),.pointer (some ⟨ck,0,none⟩),.pointer (some ⟨ch,0,none⟩),.pointer (some ⟨cp,0,none⟩),.pointer (some ⟨cf,0,none⟩)] W fun e w'=>e=.returned (.bool (bX ps ms k t))/\aA W w') :
  Calls Tryz.prog 129 #[.agg cs.toArray,.pointer (some ⟨ch,0,none⟩)] w fun e w'=>e=.returned (.bool (!bX ps ms k t))/\aA w w':=by
 obtain ⟨hc0,-,hl0⟩:=h.self.facts
 have hent:=iJ
 have HC:=hid hc
 rcases t with ⟨kd,a,fl,nt,kids⟩
 rw [aF] at hn
 obtain ⟨kp,kc,rfl,-,-,-⟩:=hn
 clear h hc
 generalize bX ps ms k (.node kd a fl nt kids)=β at HC ⊢
 go_enter Tryz.func129,Tryz.ntmps129
 go_wp2_with fail
 refine aV (fun W'=>aA w W') (aA.alloc _ _) ?_
 intro W0 k0
 refine (HC.out W0 k0).mono ?_
 rintro e w1 ⟨rfl,k1⟩
 have K1:=hid (k0.trans k1)
 clear k0 k1 hc0
 go_wp2_with fail
 go_ret
 exact ⟨aI (by simp),K1.out⟩
theorem aAk {S:Nat->Prop} {ps:List PK} {ms:List MB} {k:Nat} {tp lp:Option Addr} {tc lc ct cl ck ch cp cf:Nat} {pcs:Array Value} {fp:Option Addr} {fc:Nat} (hk:k<ms.length) (hok:tK ps ms)
  (hpc:pcs[3]? = some (.slice fp (dJ ps ms[k]).fl.length fc)) : ∀ (m:Nat) (t:NT),t.size<=m->(∀ f∈t.flags,aP (dJ ps ms[k]).fl f<(dJ ps ms[k]).fl.length)->∀ (cs:List Value) (w:World),jJ S ps ms k tp lp tc lc ct cl ck ch cp cf pcs w->cI S w (dJ ps ms[k]).fl (.slice fp (dJ ps ms[k]).fl.length fc)->aF S w t cs->
  Calls Tryz.prog 130 #[.agg cs.toArray,.pointer (some ⟨ct,0,none⟩),.pointer (some ⟨cl,0,none⟩),.pointer (some ⟨ck,0,none⟩),.pointer (some ⟨ch,0,none⟩),.pointer (some ⟨cp,0,none⟩),.pointer (some ⟨cf,0,none⟩)] w fun e w'=>e=.returned (.bool (bX ps ms k t))/\aA w w':=by
 intro m
 induction m with
 | zero=>
  rintro ⟨kd,a,fl,nt,kids⟩ hm
  rw [NT.size] at hm;omega
 | succ m ih=>
  rintro ⟨kd,a,fl,nt,kids⟩ hm hfl cs w hw hst hn
  rw [NT.size] at hm
  have hn':=hn
  rw [aF] at hn
  obtain ⟨kp,kc,rfl,hcap,hmax,hkids⟩:=hn
  have HK:=hid hkids
  have HW:=hid hw
  have HST:=hid hst
  have HPC:=hid hpc
  have hold:=hw.old
  have HKEEP:Hid (∀ W,aA w W->aY S W kids kp 0):=fun W kw=>aY.mono (bD hold kw) (fun _ h=>h) kids kp 0 HK.out
  have HIH:Hid (∀ (j:Nat) (h:j<kids.length) (cs:List Value) (W:World),aA w W->aF S W kids[j] cs->Calls Tryz.prog 130 (#[.agg cs.toArray]++#[.pointer (some ⟨ct,0,none⟩),.pointer (some ⟨cl,0,none⟩),.pointer (some ⟨ck,0,none⟩),.pointer (some ⟨ch,0,none⟩),.pointer (some ⟨cp,0,none⟩),.pointer (some ⟨cf,0,none⟩)]) W fun e w'=>e=.returned (.bool (bX ps ms k kids[j]))/\aA W w'):=fun j h cs W kw hnd=>
   ih kids[j] (by have:=dU kids j h;omega) (fun f hf=>hfl f (aEb kd a fl nt kids j h f hf)) cs W (hw.keep kw) (hst.keep hold kw) hnd
  have HFL:Hid (kd=5->aP (dJ ps ms[k]).fl fl<(dJ ps ms[k]).fl.length):=fun h5=>hfl fl (by rw [NT.flags,if_pos h5];simp)
  obtain ⟨hct,-,hlt⟩:=hw.tree.facts
  obtain ⟨hcl,-,hll⟩:=hw.set.facts
  obtain ⟨hck,-,hlk⟩:=hw.num.facts
  obtain ⟨hch,-,hlh⟩:=hw.self.facts
  obtain ⟨hcf,-,hlf⟩:=hw.fails.facts
  have hcp:=hw.pack.2
  have hlp:=hw.pack.1
  have e1:=oY
  have e2:=iJ
  clear ih hkids hw hst hn' hfl hpc
  by_cases h1:kd=1
  ·subst h1
   have HX:Hid (bX ps ms k (.node 1 a fl nt kids)=fK ps ms (-1) a):=by show _=_;rw [bX,if_pos rfl]
   go_enter Tryz.func130,Tryz.ntmps130
   go_wp2_with fail
   refine aV (fun W'=>aA w W') (aA.alloc _ _) ?_
   intro W0 k0
   refine (iS S ps ms _ _ (-1) a.n a.f a.op a.v a.sl a.on W0 (HW.out.keep k0).old (HW.out.keep k0).row (HW.out.keep k0).mbs hok).mono ?_
   rintro e w1 ⟨rfl,k1⟩
   have K1:=hid (k0.trans k1)
   clear k0 k1
   go_wp2_with fail
   go_ret
   exact ⟨aI HX.out.symm,K1.out⟩
  by_cases h2:kd=2
  ·subst h2
   have HX:Hid (bX ps ms k (.node 2 a fl nt kids) = !fK ps ms k a):=by show _=_;rw [bX,if_neg (by decide),if_pos rfl]
   clear h1
   go_enter Tryz.func130,Tryz.ntmps130
   go_wp2_with fail
   refine aV (fun W'=>aA w W') (aA.alloc _ _) ?_
   intro W0 k0
   refine (iS S ps ms _ _ k a.n a.f a.op a.v a.sl a.on W0 (HW.out.keep k0).old (HW.out.keep k0).row (HW.out.keep k0).mbs hok).mono ?_
   rintro e w1 ⟨rfl,k1⟩
   have K1:=hid (k0.trans k1)
   have HX2:Hid (bX ps ms k (.node 2 a fl nt kids) = !fK ps ms k ⟨a.n,a.op,a.v,a.sl,a.f,a.on⟩):=HX.out
   generalize fK ps ms k ⟨a.n,a.op,a.v,a.sl,a.f,a.on⟩=β at HX2 ⊢
   clear k0 k1
   go_wp2_with fail
   go_ret
   exact ⟨aI (by rw [HX2.out]),K1.out⟩
  by_cases h4:kd=4
  ·subst h4
   have HX:Hid (bX ps ms k (.node 4 a fl nt kids)=kids.any (bX ps ms k)):=by show _=_;rw [bX,if_neg (by decide),if_neg (by decide),if_pos rfl,wI]
   clear h1 h2
   go_enter Tryz.func130,Tryz.ntmps130
   go_wp2_with fail
   refine aV (fun W'=>aA w W') (aA.alloc _ _) ?_
   intro W0 k0
   refine (iI S kids (bX ps ms k) kp kc W0 (HW.out.keep k0).old iJ hmax (HKEEP.out W0 k0) (fun j h cs W kW hnd=>HIH.out j h cs W (k0.trans kW) hnd)).mono ?_
   rintro e w1 ⟨rfl,k1⟩
   have K1:=hid (k0.trans k1)
   generalize kids.any (bX ps ms k)=β at HX ⊢
   clear k0 k1
   go_wp2_with fail
   go_ret
   exact ⟨aI (by rw [HX.out]),K1.out⟩
  have HALL:Hid (∀ W,aA w W->Calls Tryz.prog 62 #[.slice kp kids.length kc,.func (.func 129) #[] #[.pointer (some ⟨ch,0,none⟩)]] W fun e w'=>e=.returned (.bool (kids.any fun t=> !bX ps ms k t))/\aA W w'):=fun W kW=>
   iI S kids (fun t=> !bX ps ms k t) kp kc W (HW.out.keep kW).old oY hmax (HKEEP.out W kW) (fun j h cs W' kW' hnd=>aDq kids[j] cs W' (HW.out.keep (kW.trans kW')) hnd (fun W2 k2=>HIH.out j h cs W2 (kW.trans (kW'.trans k2)) (hnd.keep (HW.out.keep (kW.trans kW')).old k2)))
  clear HIH HKEEP HK
  have b1:(kd==1)=false:=by simp [h1]
  have b2:(kd==2)=false:=by simp [h2]
  have b4:(kd==4)=false:=by simp [h4]
  by_cases h5:kd=5
  ·have HFA:=hid (HFL.out h5)
   subst h5
   clear h1 h2 h4 b1 b2 b4 HFL
   have HX:Hid (bX ps ms k (.node 5 a fl nt kids)=if ((ms.getD k MB.zero).on.getD (aP (dJ ps (ms.getD k MB.zero)).fl fl) false==nt)=true then true else !kids.any (fun t=> !bX ps ms k t)):=by
    show _=_
    rw [bX,if_neg (by decide),if_neg (by decide),if_neg (by decide),qC]
    simp only [true_and]
   rw [fB ms k hk] at HX
   obtain ⟨mb,moff,mcap,hmv,hmS,-,hrow⟩:=HW.out.mbs.get hk
   cases hmv
   obtain ⟨op,oc,hm0,hm1,hon,hbl⟩:=hrow k _ (List.getElem?_eq_getElem hk)
   obtain ⟨-,-,hol⟩:=hok k _ (List.getElem?_eq_getElem hk)
   have hqo:aP (dJ ps ms[k]).fl fl<ms[k].on.length:=by rw [hol];exact HFA.out
   obtain ⟨ob,ooff,hop,hSo,hcell⟩:=hbl.cell hqo
   subst hop
   have hmlt:=hold mb hmS
   have holt:=hold ob hSo
   have hc3:w.cell? ⟨cp,3,none⟩=some (.slice fp (dJ ps ms[k]).fl.length fc):=(hcp 3).trans HPC.out
   generalize hqe:aP (dJ ps ms[k]).fl fl=q at hqo hcell HX HFA
   have HQE:=hid hqe
   generalize (dJ ps ms[k]).fl=fs at HST HPC HFA HQE hc3
   generalize ms[k].on.getD q false=β at hcell HX
   generalize ms[k].on.length=ol at hm1 hon hqo
   clear hrow hbl hol hm0 hqe hcp
   go_enter Tryz.func130,Tryz.ntmps130
   go_upto_region 9 with fail
   refine bH (fun W'=>aA w W'/\aJ w.heap.size #[.int .i64 5,.string a.n,.int .i64 a.op,.int .i64 a.v,.int .i64 a.sl,.string a.f,.bool a.on,.string fl,.bool nt,.slice kp kids.length kc] W') ⟨aA.alloc _ _,aJ.new _ _ _⟩ ?_
   rintro W2 ⟨k2,bx2⟩
   have K2:=hid k2
   have B2:=hid bx2
   have H2:=hid (HW.out.keep k2)
   have g1:=(k2.cell (p:=⟨cl,0,none⟩) hll).trans hcl
   have g2:=(k2.cell (p:=⟨ck,0,none⟩) hlk).trans hck
   have g3:=(k2.cell (p:=⟨mb,moff+k*2+1,none⟩) hmlt).trans hm1
   have g4:=(k2.cell (p:=⟨ob,ooff+q,none⟩) holt).trans hcell
   have g5:=(k2.cell (p:=⟨cp,3,none⟩) hlp).trans hc3
   have g6:=bx2.2
   have g7:=bx2.1
   have hq:=hid (show ∀ n,Calls Tryz.prog 61 #[.slice fp fs.length fc,.string fl] (W2.drewN n) fun e w''=>e=.returned (.int .i64 (q:Int))/\∃ n',w''=W2.drewN n' from fun n=>by
    refine (oG S fs _ fl (W2.drewN n) (HST.out.keep hold (k2.trans (aA.drewN (aA.refl _) _)))).mono ?_
    rintro e w' ⟨rfl,rfl⟩
    exact ⟨by rw [HQE.out,if_pos HFA.out],n,rfl⟩)
   clear hct hcl hck hch hcf hm1 hcell hc3 k2 bx2 HST HPC HQE
   go_quiet ((go_at_call 61;exact hq.out _))
   have k3:aA W2 (W2.drewN nq):=aA.drewN (aA.refl _) _
   generalize W2.drewN nq=W3 at k3
   have K3:=hid (K2.out.trans k3)
   have B3:=hid (B2.out.keep k3 B2.out.1)
   have H3:=hid (H2.out.keep k3)
   have hc3:=B3.out.2
   have hl3:=B3.out.1
   obtain ⟨hcf3,-,hlf3⟩:=H3.out.fails.facts
   clear k3 g1 g2 g3 g4 g5 g6 g7 hq
   cases hβ:(β==nt)
   ·rw [hβ] at HX
    go_wp2_with fail
    refine (HALL.out W3 K3.out).mono ?_
    rintro e w4 ⟨rfl,k4⟩
    have K4:=hid (K3.out.trans k4)
    have HX2:Hid (bX ps ms k (.node 5 a fl nt kids) = !kids.any (fun t=> !bX ps ms k t)):=HX.out
    generalize (kids.any fun t=> !bX ps ms k t)=γ at HX2 ⊢
    clear k4 hc3 hcf3 HX
    go_wp2_with fail
    go_ret
    exact ⟨aI (by rw [HX2.out]),K4.out⟩
   ·rw [hβ] at HX
    go_wp2_with fail
    go_ret
    exact ⟨aI (by rw [HX.out];rfl),K3.out⟩
  ·have HX:Hid (bX ps ms k (.node kd a fl nt kids) = !kids.any (fun t=> !bX ps ms k t)):=by
    show _=_
    rw [bX,if_neg h1,if_neg h2,if_neg h4,if_neg (fun h=>h5 h.1),qC]
   have b5:(kd==5)=false:=by simp [h5]
   clear h1 h2 h4 h5 HFL
   go_enter Tryz.func130,Tryz.ntmps130
   go_wp2_with fail
   refine aV (fun W'=>aA w W') (aA.alloc _ _) ?_
   intro W0 k0
   refine (HALL.out W0 k0).mono ?_
   rintro e w1 ⟨rfl,k1⟩
   have K1:=hid (k0.trans k1)
   generalize (kids.any fun t=> !bX ps ms k t)=γ at HX ⊢
   clear k0 k1
   go_wp2_with fail
   go_ret
   exact ⟨aI (by rw [HX.out]),K1.out⟩
end Go.Proofs.YthaaaecmeafofaaGreatDoor
