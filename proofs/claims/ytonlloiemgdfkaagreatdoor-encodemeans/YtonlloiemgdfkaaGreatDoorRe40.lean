/- Steps of the proof: EncLiterals. -/
import Derived.Test.YtonlloiemgdfkaaGreatDoorRe29
import Derived.Test.YtonlloiemgdfkaaGreatDoorRe20
import Derived.Test.YtonlloiemgdfkaaGreatDoorRe14
import Derived.Test.YtonlloiemgdfkaaGreatDoorRe26
set_option maxHeartbeats 16000000
set_option maxRecDepth 100000
namespace Go.Proofs.YtonlloiemgdfkaaGreatDoor
open Go.RowKit
theorem aBw (args:Array Value) (w:World):(callFunc 114 args).run Tryz.prog w=.ok (.enter 114 args) w:=enters_of Tryz.func114 (by kernel_rfl) rfl args w
def aSo (ps:List PK) (wi:WI) (ms:List MB) (w:World) (e:Ending) (w':World):Prop:=
 aA w w'/\((bK ps wi ms≠0/\e=.returned (.tuple #[.slice none 0 0,.int .i64 (bK ps wi ms)]))∨(bK ps wi ms=0/\∃ rb,e=.returned (.tuple #[.slice (some ⟨rb,0,none⟩) (aB ps wi).many (aB ps wi).many,.int .i64 0])/\w.heap.size<=rb/\aD rb 3 ((Cn.chL ((aB ps wi).mod (fA ms))).map (Value.int .i64)).toArray w'))
theorem yU {c:Nat} {T:TypeId} {v:Value} {w w':World} {O O':Nat->Prop} (h:aE c T v w) (k:Cn.aF O O' w w') (hc : ¬ O c):aE c T v w':=by
 have hl:=h.facts.2.2
 unfold aE at *;rw [k.block c hl hc];exact h
structure LB (ps:List PK) (wi:WI) (cb tb g lb rb:Nat) (W:World):Prop where
 bx:aD cb 158 #[.int .i64 (aB ps wi).many,.slice (some ⟨tb,0,none⟩) ps.length ps.length,.map (some g)] W
 tk:Cn.aG (fun b=>b=tb) W (aB ps wi).tks (.slice (some ⟨tb,0,none⟩) ps.length ps.length)
 fg : ∃ k,Cn.hY g k ((aB ps wi).fgs wi.on) W
 lv:aE lb 27 (.slice (some ⟨rb,0,none⟩) (aB ps wi).many (aB ps wi).many) W
theorem LB.turn {ps:List PK} {wi:WI} {cb tb g lb rb:Nat} {W W':World} (h:LB ps wi cb tb g lb rb W) (hn:rb≠cb/\rb≠tb/\rb≠g/\rb≠lb) (htl:tb<W.heap.size) (t:Cn.aF (fun c=>c=rb) (fun c=>c=rb) W W'):LB ps wi cb tb g lb rb W':=by
 obtain ⟨h1,h2,h3,h4⟩:=hn
 obtain ⟨k,hf⟩:=h.fg
 exact ⟨Cn.aD.turn h.bx t (Ne.symm h1),h.tk.mono (fun p hp=>by have e:p.block=tb:=hp;exact World.cell?_of_block (w:=W) (t.block _ (by omega) (by omega))) (fun _ h=>h),⟨k,hf.at (t.block _ hf.lt (Ne.symm h3))⟩,yU h.lv t (Ne.symm h4)⟩
def aWs (s2 s8 g s3 s4:Nat):Prop:=s3≠s8/\s3≠s2+3/\s3≠g/\s3≠s4
theorem jH (S:Nat->Prop) (ps:List PK) (wi:WI) (ms:List MB) (pv tsv inv mav onv lv:Value) (w:World) (hS : ∀ b,S b->b<w.heap.size) (hp:aY S w ps pv) (hw:dE S w wi tsv inv mav onv) (hm:bL S w ms lv) :
  Calls Tryz.prog 54 #[.agg #[pv],.agg #[tsv,inv,mav,onv],lv] w fun e w'=>aSo ps wi ms w e w':=by
 obtain ⟨i0,hi,hz0,hz1,hz2⟩:=info_parts dN
 have HP:=hid hp
 have HW:=hid hw
 have HM:=hid hm
 have hent:=aBw
 obtain ⟨lp,lc,hlv,⟨hlc,hlen⟩,-⟩:=id hm
 subst hlv
 clear hp hw hm
 go_enter Tryz.func54,Tryz.ntmps54
 go_upto_region 1 with fail
 refine bH (fun W'=>aA w W'/\aE w.heap.size 24 pv W'/\aD (w.heap.size+1) 30 #[tsv,inv,mav,onv] W') ⟨(aA.alloc _ _).alloc' _,(aE.new _ _ _).keep (aA.alloc _ _) (by simp),?_⟩ ?_
 ·have:=aD.new (w.alloc (.cells #[pv] 24)) 30 #[tsv,inv,mav,onv]
  rw [aC] at this;exact this
 rintro W1 ⟨k1,v1,b1⟩
 have K1:=hid k1
 have V1:=hid v1
 have B1:=hid b1
 obtain ⟨b,hb⟩ : ∃ b,b=w.heap.size:=⟨_,rfl⟩
 rw [← hb] at V1 B1 ⊢
 have HB:=hid hb
 clear k1 v1 b1 hb
 have ht0:=V1.out.facts.1
 have htl:=V1.out.facts.2.2
 have hw0:W1.cell? ⟨b+1,0,none⟩=some tsv:=B1.out.facts.1 0
 have hw1:W1.cell? ⟨b+1,1,none⟩=some inv:=B1.out.facts.1 1
 have hw2:W1.cell? ⟨b+1,2,none⟩=some mav:=B1.out.facts.1 2
 have hw3:W1.cell? ⟨b+1,3,none⟩=some onv:=B1.out.facts.1 3
 have hwl:=B1.out.facts.2.2
 go_wp2_with fail
 refine (jP S ps wi ms _ _ _ _ _ _ W1 (fun c hc=>Nat.lt_of_lt_of_le (hS c hc) K1.out.size) (HP.out.keep hS K1.out) (HW.out.keep hS K1.out) (HM.out.keep hS K1.out)).mono ?_
 rintro e W2 ⟨rfl,k2⟩
 have K2:=hid (K1.out.trans k2)
 have V2:=hid (V1.out.keep k2 V1.out.facts.2.2)
 have B2:=hid (B1.out.keep k2 B1.out.facts.2.2)
 clear ht0 htl hw0 hw1 hw2 hw3 hwl V1 B1 K1 k2
 generalize eR ps wi ms=vr
 by_cases hz:bK ps wi ms=0
 ·have hz1':(bK ps wi ms==0)=true:=by simpa using hz
  have hz2':(bK ps wi ms != 0)=false:=by simp [bne,hz1']
  have HZ:=hid hz
  rw [hz] at hz1' hz2' ⊢
  have hzw:bA ps wi=0:=by unfold bK at hz;by_cases e:bA ps wi=0;exact e;rw [if_pos e] at hz;exact hz
  have hzm:bO ps ms=0:=by unfold bK at hz;rw [if_neg (by simp [hzw])] at hz;exact hz
  obtain ⟨hT,hTS,-,-,-,-,-,hone⟩:=bI hzw
  obtain ⟨h8,hf2,-,hin,hil,-⟩:=cW hTS
  have hok:=eH hTS
  have h14:=(mZ wi hT).1
  have hon:=xZ hone h8 hf2
  have HSET:=hid (tD wi hzm)
  have hms:=cW hzm
  have HMS:=hid hms
  have ht0:=V2.out.facts.1
  have htl:=V2.out.facts.2.2
  have hw0:W2.cell? ⟨b+1,0,none⟩=some tsv:=B2.out.facts.1 0
  have hw1:W2.cell? ⟨b+1,1,none⟩=some inv:=B2.out.facts.1 1
  have hw2:W2.cell? ⟨b+1,2,none⟩=some mav:=B2.out.facts.1 2
  have hw3:W2.cell? ⟨b+1,3,none⟩=some onv:=B2.out.facts.1 3
  have hwl:=B2.out.facts.2.2
  clear hz hone hms
  go_wp2_with fail
  refine (qN S ps wi _ _ _ _ _ W2 (fun c hc=>Nat.lt_of_lt_of_le (hS c hc) K2.out.size) (HP.out.keep hS K2.out) (HW.out.keep hS K2.out) h8 hf2 hok hin hil h14 hon).mono ?_
  rintro e w8 ⟨g,kk,rfl,htk,hfg,hge,k8⟩
  have G1:=hid htk
  have G2:=hid hfg
  have G3:=hid hge
  have K8:=hid (K2.out.trans k8)
  have K28:=hid k8.size
  clear htk hfg hge k8 ht0 htl hw0 hw1 hw2 hw3 hwl V2 B2
  go_upto_region 5 with fail
  refine bH (fun W'=>aA w8 W'/\W'.heap.size=w8.heap.size+1/\aD w8.heap.size 158 #[.int .i64 (aB ps wi).many,.slice (some ⟨W2.heap.size+3,0,none⟩) ps.length ps.length,.map (some g)] W') ⟨aA.alloc _ _,aC _ _,aD.new _ _ _⟩ ?_
  rintro W3 ⟨k3,z3,b3⟩
  have hc0:W3.cell? ⟨w8.heap.size,0,none⟩=some (.int .i64 (aB ps wi).many):=b3.facts.1 0
  have hcl:=b3.facts.2.2
  have K3:=hid k3
  have Z3:=hid z3
  have B3:=hid b3
  clear k3 z3 b3
  go_upto_region 6 with (at_make;refine wpList_make_full _ rfl _ _ 27 rfl W3.heap.size 3 i0 (.int .i64 0) 1 Tryz.underlying27 hi hz0 hz1 .i64 .i64 ((aB ps wi).many:Int) ((aB ps wi).many:Int) (aB ps wi).many rfl rfl rfl rfl (by rw [hz2];omega) (by unfold maxLen;omega) (Nat.le_refl _) ?_;intro w4 h1 h2;have K4:=hid (Cn.jM h2);have F4:=hid (Cn.fK (v:= .int .i64 0) rfl h1);clear h1 h2)
  have h24:=K28.out
  have h34:=Z3.out
  have h44:=K4.out.size
  have hgl:=G2.out.lt
  have hg4:=G3.out
  have hf4:=F4.out.facts.2.2
  have HPL:=hid (show aWs W2.heap.size w8.heap.size g W3.heap.size w4.heap.size from ⟨by omega,by omega,by omega,by omega⟩)
  refine bH (fun W'=>LB ps wi w8.heap.size (W2.heap.size+3) g w4.heap.size W3.heap.size W'/\aD W3.heap.size 3 ((Cn.yF (aB ps wi).many 0).map (Value.int .i64)).toArray W'/\aA w W'/\w4.heap.size<W'.heap.size) ?_ ?_
  ·have ka:=aA.alloc w4 (.cells #[.slice (some ⟨W3.heap.size,0,none⟩) (aB ps wi).many (aB ps wi).many] 27)
   have k34:aA W3 w4:=K4.out
   have k35:aA W3 _:=k34.trans ka
   have k85:aA w8 _:=K3.out.trans k35
   refine ⟨⟨B3.out.keep k35 B3.out.facts.2.2,?_,⟨_,G2.out.keep k85⟩,aE.new _ _ _⟩,?_,K8.out.trans k85,by rw [aC];omega⟩
   ·exact G1.out.keep (B:=w8.heap.size) (fun c hc=>by have:c=W2.heap.size+3:=hc;omega) k85
   ·have h5:aD W3.heap.size 3 (List.replicate (aB ps wi).many (Value.int .i64 0)).toArray w4:=F4.out
    unfold Cn.yF
    rw [List.map_replicate]
    exact h5.keep ka h5.facts.2.2
  rintro W5 ⟨l5,r5,k5,z5⟩
  have L5:=hid l5
  have F5:=hid r5
  have K5:=hid k5
  obtain ⟨hn1,hn2,hn3,hn4⟩:=HPL.out
  have hrw:w.heap.size<=W3.heap.size:=by have:=K8.out.size;omega
  have htw:W2.heap.size+3<W5.heap.size:=by omega
  generalize W2.heap.size+3=tb at L5 hn2 htw
  generalize w8.heap.size=cb at L5 hn1 ⊢
  generalize w4.heap.size=lb at L5 hn4 ⊢
  generalize W3.heap.size=rb at L5 F5 hn1 hn2 hn3 hn4 hrw ⊢
  clear h24 h34 h44 hgl hg4 hf4 HPL l5 r5 k5 z5 G1 G2 G3 K8 K28 K3 Z3 B3 K4 F4 hc0 hcl K2
  have HLB:=hid (show ∀ W,Cn.aF (fun c=>c=rb) (fun c=>c=rb) W5 W->LB ps wi cb tb g lb rb W/\aA w W/\tb<W.heap.size from fun W t=>⟨L5.out.turn ⟨hn1,hn2,hn3,hn4⟩ htw t,Below.trans K5.out (t.below (B:=w.heap.size) K5.out.size fun c hc e=>by have e:c=rb:=e;omega),Nat.lt_of_lt_of_le htw t.size⟩)
  have hx0:W5.cell? ⟨cb,0,none⟩=some (.int .i64 (aB ps wi).many):=L5.out.bx.facts.1 0
  have hxl:=L5.out.bx.facts.2.2
  go_wp2_with fail
  go_loopg [39] (aB ps wi).many (fun gk iv wr=> ∃ j:Nat,j+gk=(aB ps wi).many/\iv=.int .i64 j/\aD rb 3 ((Cn.yF (aB ps wi).many j).map (Value.int .i64)).toArray wr/\Cn.aF (fun c=>c=rb) (fun c=>c=rb) W5 wr)
  case atStart=>exact ⟨0,by omega,rfl,F5.out,Cn.aF.refl _ _⟩
  case round=>
  obtain ⟨j,hj,rfl,hf,ht⟩:=hrel
  have F1:=hid hf
  have T1:=hid ht
  clear hf ht hx0 hxl
  by_cases hlt:j<(aB ps wi).many
  ·have hjI:(j:Int)<((aB ps wi).many:Int):=by omega
   have hlen:=Cn.sZ (aB ps wi).many j
   have HST:=hid (gH (Cn.yF (aB ps wi).many j) lb rb (-((j:Int)+1)) wr (by rw [hlen];exact (HLB.out wr T1.out).1.lv) F1.out (Ne.symm hn4) (by omega) (by omega) (by omega))
   clear hlen
   have hw1:IntKind.i64.wrap ((j:Int)+1)=(j:Int)+1:=bX (by omega)
   have hw2:IntKind.i64.wrap (-((j:Int)+1)) = -((j:Int)+1):=bX (by omega)
   go_wp2_with fail
   refine HST.out.mono ?_
   rintro e w9 ⟨rfl,f9,t9⟩
   have F9:=hid f9
   have T9:=hid (T1.out.trans t9)
   clear f9 t9
   go_wp2_with fail
   clear hw1 hw2
   go_roundg ((aB ps wi).many-(j+1))
   case rel=>exact ⟨j+1,by omega,by go_num,F9.out,T9.out⟩
   case measure=>omega
  have hje:j=(aB ps wi).many:=by omega
  have hnl : ¬ ((j:Int)<((aB ps wi).many:Int)):=by omega
  have F2:=hid (show aD rb 3 ((Cn.chL ((aB ps wi).l2 0)).map (Value.int .i64)).toArray wr from by
   have:=F1.out
   rw [hje,Cn.aNu] at this
   exact this)
  have hx1:wr.cell? ⟨cb,1,none⟩=some (.slice (some ⟨tb,0,none⟩) ps.length ps.length):=(HLB.out wr T1.out).1.bx.facts.1 1
  have hxl:=(HLB.out wr T1.out).1.bx.facts.2.2
  clear hje F1 hlt hj
  go_wp2_with fail
  obtain ⟨wo,rfl⟩ : ∃ wo:World,wo=wr:=⟨_,rfl⟩
  go_loopg [51] ps.length (fun gk iv wr=> ∃ j:Nat,j+gk=ps.length/\iv=.int .i64 j/\aD rb 3 ((Cn.chL ((aB ps wi).l2 j)).map (Value.int .i64)).toArray wr/\Cn.aF (fun c=>c=rb) (fun c=>c=rb) W5 wr)
  case atStart=>exact ⟨0,by omega,rfl,F2.out,T1.out⟩
  case round=>
  clear hnl hx1 hxl F2 T1
  obtain ⟨j2,hj,rfl,hf,ht⟩:=hrel
  have F1:=hid hf
  have T1:=hid ht
  clear hf ht
  by_cases hlt:j2<ps.length
  ·obtain ⟨L1,-,htbl⟩:=HLB.out wr T1.out
   have hnl2:=cK ps wi
   obtain ⟨tb',tof,htp,htb',htc⟩:=(show Cn.aG (fun b=>b=tb) wr (aB ps wi).tks (.slice (some ⟨tb,0,none⟩) (aB ps wi).tks.length ps.length) from by rw [Cn.CT.tks_len,hnl2];exact L1.tk).nth (k:=j2) (by rw [Cn.CT.tks_len];omega)
   cases htp
   have hct:=htc j2 _ (Cn.CT.tks_get (aB ps wi) (i:=j2) (by omega))
   rw [Nat.zero_add] at hct
   have htk:=Cn.CT.tk_lit hok (i:=j2) (by omega)
   have hml:=Cn.CT.l2_len (aB ps wi) j2
   have HSTE:=hid (Cn.CT.set_tkN hok hml (i:=j2) (by omega))
   have HN2:=hid (show (aB ps wi).l2 (j2+1)=(aB ps wi).stT ((aB ps wi).l2 j2) j2 from rfl)
   have hlen:(Cn.chL ((aB ps wi).l2 j2)).length=(aB ps wi).many:=by rw [Cn.dT,hml]
   obtain ⟨htk0,htkn⟩:=htk
   have HST:=hid (gH (Cn.chL ((aB ps wi).l2 j2)) lb rb (-(aB ps wi).tkL j2) wr (by rw [hlen];exact L1.lv) F1.out (Ne.symm hn4) (by omega) (by omega) (by omega))
   rw [HSTE.out] at HST
   have hjI:(j2:Int)<(ps.length:Int):=by omega
   clear hlen hml htc htb' L1 hnl2
   generalize (aB ps wi).tkL j2=tn at hct htk0 htkn HST HSTE
   have hwn:IntKind.i64.wrap (-tn) = -tn:=bX (by omega)
   go_wp2_with fail
   refine HST.out.mono ?_
   rintro e w9 ⟨rfl,f9,t9⟩
   have F9:=hid f9
   have T9:=hid (T1.out.trans t9)
   clear f9 t9
   go_wp2_with fail
   go_roundg (ps.length-(j2+1))
   case rel=>exact ⟨j2+1,by omega,by go_num,by rw [HN2.out];exact F9.out,T9.out⟩
   case measure=>omega
  have hje:j2=ps.length:=by omega
  have hnl : ¬ ((j2:Int)<(ps.length:Int)):=by omega
  have F2:=hid (show aD rb 3 ((Cn.chL ((aB ps wi).l3 (fA ms) 0)).map (Value.int .i64)).toArray wr from by
   have:=F1.out
   rw [hje,← cK ps wi] at this
   exact this)
  clear hje F1 hlt hj
  go_wp2_with fail
  obtain ⟨wp,rfl⟩ : ∃ wp:World,wp=wr:=⟨_,rfl⟩
  go_loopg [62] ms.length (fun gk iv wr=> ∃ j:Nat,j+gk=ms.length/\iv=.int .i64 j/\aD rb 3 ((Cn.chL ((aB ps wi).l3 (fA ms) j)).map (Value.int .i64)).toArray wr/\Cn.aF (fun c=>c=rb) (fun c=>c=rb) W5 wr)
  case atStart=>exact ⟨0,by omega,rfl,F2.out,T1.out⟩
  case round=>
  clear hnl F2 T1
  obtain ⟨j3,hj,rfl,hf,ht⟩:=hrel
  have F1:=hid hf
  have T1:=hid ht
  clear hf ht
  by_cases hlt:j3<ms.length
  ·obtain ⟨L1,hkw,htbl⟩:=HLB.out wr T1.out
   obtain ⟨lb',lo,lc',hlv',hSl,-,hlrow⟩:=(HM.out.keep hS hkw).get hlt
   cases hlv'
   obtain ⟨op,oc,hc0,hc1,hol,hob⟩:=hlrow j3 _ (List.getElem?_eq_getElem hlt)
   have hlbl:lb'<wr.heap.size:=Nat.lt_of_lt_of_le (hS lb' hSl) hkw.size
   have hpl:=HMS.out.2.2.2.1 ms[j3].pl (List.mem_map.2 ⟨_,List.getElem_mem hlt,rfl⟩)
   have HN3:=hid (show (aB ps wi).l3 (fA ms) (j3+1)=(aB ps wi).stF ms[j3].pl.toNat ms[j3].on ((aB ps wi).stY ((aB ps wi).l3 (fA ms) j3) ms[j3].pl.toNat) ms[j3].on.length by
    rw [Cn.CT.l3]
    have:(fA ms).getD j3 (0,[])=(ms[j3].pl.toNat,ms[j3].on):=by simp [fA,List.getD_eq_getElem?_getD,List.getElem?_eq_getElem hlt]
    rw [this])
   have hfle:ms[j3].on.length=(aB ps wi).nf.getD ms[j3].pl.toNat 0:=HSET.out.fl (ms[j3].pl.toNat,ms[j3].on) (List.mem_map.2 ⟨ms[j3],List.getElem_mem hlt,rfl⟩)
   generalize ms[j3]=mm at hc0 hc1 hol hob hpl HN3 hfle
   obtain ⟨i,hi'⟩ : ∃ i:Nat,mm.pl=(i:Int):=⟨mm.pl.toNat,by omega⟩
   rw [hi'] at hc0 HN3 hpl hfle
   rw [Int.toNat_natCast] at HN3 hfle
   have HFLE:=hid hfle
   clear hfle
   have hiP:i<ps.length:=by omega
   have hiI:(i:Int)<(ps.length:Int):=by omega
   have hnl2:=cK ps wi
   obtain ⟨tb',tof,htp,htb',htc⟩:=(show Cn.aG (fun b=>b=tb) wr (aB ps wi).tks (.slice (some ⟨tb,0,none⟩) (aB ps wi).tks.length ps.length) from by rw [Cn.CT.tks_len,hnl2];exact L1.tk).nth (k:=i) (by rw [Cn.CT.tks_len];omega)
   cases htp
   have hct:=htc i _ (Cn.CT.tks_get (aB ps wi) (i:=i) (by omega))
   rw [Nat.zero_add] at hct
   obtain ⟨htk0,htkn⟩:=Cn.CT.tk_lit hok (i:=i) (by omega)
   have hml:=Cn.CT.l3_len (aB ps wi) (fA ms) j3
   have HSTE:=hid (Cn.CT.set_tkY hok hml (i:=i) (by omega))
   have hlen:(Cn.chL ((aB ps wi).l3 (fA ms) j3)).length=(aB ps wi).many:=by rw [Cn.dT,hml]
   have HST:=hid (show ∀ W,aA wr W->Calls Tryz.prog 114 #[.int .i64 ((aB ps wi).tkL i),.pointer (some ⟨lb,0,none⟩)] W _ from fun W kW=>gH (Cn.chL ((aB ps wi).l3 (fA ms) j3)) lb rb ((aB ps wi).tkL i) W (by rw [hlen];exact L1.lv.keep kW L1.lv.facts.2.2) (F1.out.keep kW F1.out.facts.2.2) (Ne.symm hn4) (by omega) (by omega) (by omega))
   rw [HSTE.out] at HST
   have hm0l:((aB ps wi).stY ((aB ps wi).l3 (fA ms) j3) i).length=(aB ps wi).many:=by rw [Cn.CT.stY,List.length_set,hml]
   generalize (aB ps wi).stY ((aB ps wi).l3 (fA ms) j3) i=m0 at HST HN3 hm0l
   have hx1:wr.cell? ⟨cb,1,none⟩=some (.slice (some ⟨tb,0,none⟩) ps.length ps.length):=L1.bx.facts.1 1
   have hxl:=L1.bx.facts.2.2
   have hjI:(j3:Int)<(ms.length:Int):=by omega
   have HOB:=hid hob
   have HWW:=hid (show ∀ W,Cn.aF (fun c=>c=rb) (fun c=>c=rb) W5 W->∀ p:Addr,S p.block->W.cell? p=wr.cell? p from fun W t p hp=>((HLB.out W t).2.1.cell (hS _ hp)).trans (hkw.cell (hS _ hp)).symm)
   have HKW:=hid hkw
   have HOK:=hid hok
   generalize (aB ps wi).tkL i=tn at hct htk0 htkn HST HSTE
   clear hlen hml htc htb' L1 hlrow hpl hi' hob hkw
   go_upto_region 20 with fail
   refine bH (fun W'=>aA wr W'/\aD wr.heap.size 68 #[.int .i64 i,.slice op mm.on.length oc] W') ⟨aA.alloc _ _,aD.new _ _ _⟩ ?_
   rintro W6 ⟨k6,b6⟩
   have B6:=hid b6
   have K6:=hid k6
   have hp0:W6.cell? ⟨wr.heap.size,0,none⟩=some (.int .i64 i):=b6.facts.1 0
   have hpl:=b6.facts.2.2
   have hct6:=(k6.cell (p:=⟨tb,i,none⟩) htbl).trans hct
   have hx16:=(k6.cell (p:=⟨cb,1,none⟩) hxl).trans hx1
   have hxl6:cb<W6.heap.size:=Nat.lt_of_lt_of_le hxl k6.size
   have htbl6:tb<W6.heap.size:=Nat.lt_of_lt_of_le htbl k6.size
   have hmr:wr.heap.size≠rb:=by have:=F1.out.facts.2.2;omega
   clear hct hx1 hxl htbl k6 b6 hc0 hc1 hlbl
   generalize wr.heap.size=mb at B6 hp0 hpl hmr ⊢
   go_wp2_with fail
   refine (HST.out W6 K6.out).mono ?_
   rintro e w7 ⟨rfl,f7,t7⟩
   have F7:=hid f7
   have T7:=hid ((T1.out.trans (Cn.aF.keep K6.out)).trans t7)
   have B7:=hid (Cn.aD.turn B6.out t7 hmr)
   have hp1:w7.cell? ⟨mb,1,none⟩=some (.slice op mm.on.length oc):=B7.out.facts.1 1
   have hpl7:=B7.out.facts.2.2
   clear f7 t7 hp0 hpl hct6 hx16 hxl6 htbl6 B6 K6 HST T1 F1
   go_wp2_with fail
   clear hp1 hpl7
   obtain ⟨wq,rfl⟩ : ∃ wq:World,wq=wr:=⟨_,rfl⟩
   go_loopg [77] mm.on.length (fun gk iv wr=> ∃ k:Nat,k+gk=mm.on.length/\iv=.int .i64 k/\aD rb 3 ((Cn.chL ((aB ps wi).stF i mm.on m0 k)).map (Value.int .i64)).toArray wr/\Cn.aF (fun c=>c=rb) (fun c=>c=rb) W5 wr/\aD mb 68 #[.int .i64 i,.slice op mm.on.length oc] wr)
   case atStart=>exact ⟨0,by omega,rfl,F7.out,T7.out,B7.out⟩
   case round=>
   clear F7 T7 B7
   obtain ⟨k,hk,rfl,hf,ht,hbx⟩:=hrel
   have F1:=hid hf
   have T1:=hid ht
   have B1:=hid hbx
   clear hf ht hbx
   by_cases hlt2:k<mm.on.length
   ·obtain ⟨L1,hkw,htbl⟩:=HLB.out wr T1.out
    have hfle:=HFLE.out
    obtain ⟨ob,oo,hop,hobS,hoc⟩:=((HOB.out.mono (S':=S) (fun _ _=>rfl) (fun _ h=>h)).cell (q:=k) hlt2)
    subst hop
    have hocw:=(HWW.out wr T1.out ⟨ob,oo+k,none⟩ hobS).trans hoc
    have hobl:ob<wr.heap.size:=Nat.lt_of_lt_of_le (hS ob hobS) hkw.size
    have hkI:(k:Int)<(mm.on.length:Int):=by omega
    have hp0:wr.cell? ⟨mb,0,none⟩=some (.int .i64 i):=B1.out.facts.1 0
    have hpl:=B1.out.facts.2.2
    have hx2:wr.cell? ⟨cb,2,none⟩=some (.map (some g)):=L1.bx.facts.1 2
    have hxl:=L1.bx.facts.2.2
    obtain ⟨nk,hfg⟩:=L1.fg
    have hfl2:(aB ps wi).nf.getD i 0<=100:=by rw [lP wi hiP];have:=hf2 (ps.getD i PK.zero) (by rw [List.getD_eq_getElem?_getD,List.getElem?_eq_getElem hiP];exact List.getElem_mem hiP);omega
    have hlk:=hfg.look tH (x:=(i:Int)) (y:=(k:Int)) (by unfold Cn.SmP;omega) (by unfold Cn.SmP;omega)
    rw [Cn.CT.fgs_get (c:=aB ps wi) (on:=wi.on) (fun _ _=>rfl) (by rw [cK];exact hiP) (show k<(aB ps wi).nf.getD i 0 by omega)] at hlk
    obtain ⟨hfg0,hfgn⟩:=Cn.CT.fg_lit (aB ps wi) (i:=i) (k:=k) (by rw [cK];exact hiP) (by omega)
    have hfr0:((aB ps wi).fgL i k).natAbs<=900000:=by omega
    have hml:((aB ps wi).stF i mm.on m0 k).length=(aB ps wi).many:=by rw [Cn.CT.stF_len,hm0l]
    have hlen:(Cn.chL ((aB ps wi).stF i mm.on m0 k)).length=(aB ps wi).many:=by rw [Cn.dT,hml]
    have HSTE:=hid (Cn.CT.set_fg (aB ps wi) hm0l (i:=i) (k:=k) (by rw [cK];exact hiP) (by omega) mm.on)
    have hsab:=Cn.oV ((aB ps wi).fgL i k) (mm.on.getD k false)
    have HST:=hid (gH (Cn.chL ((aB ps wi).stF i mm.on m0 k)) lb rb (Cn.sg ((aB ps wi).fgL i k) (mm.on.getD k false)) wr (by rw [hlen];exact L1.lv) F1.out (Ne.symm hn4) (by omega) (by omega) (by omega))
    rw [HSTE.out] at HST
    generalize mm.on.getD k false=bk at hocw hoc HST HSTE hsab
    generalize (aB ps wi).fgL i k=fr at hlk hfg0 hfgn hfr0 HST HSTE hsab
    clear hlen hml hsab L1 hfg hoc hkw hfle
    go_wp2_with fail
    refine (qY fr bk _ hfr0).mono ?_
    rintro e w8 ⟨rfl,hw8⟩
    rw [hw8]
    clear hw8
    go_wp2_with fail
    refine HST.out.mono ?_
    rintro e w9 ⟨rfl,f9,t9⟩
    have F9:=hid f9
    have T9:=hid (T1.out.trans t9)
    have B9:=hid (Cn.aD.turn B1.out t9 hmr)
    clear f9 t9 hlk hocw hp0 hx2 HST T1 F1 B1
    go_wp2_with fail
    go_roundg (mm.on.length-(k+1))
    case rel=>exact ⟨k+1,by omega,by go_num,F9.out,T9.out,B9.out⟩
    case measure=>omega
   have hke:k=mm.on.length:=by omega
   have hnl : ¬ ((k:Int)<(mm.on.length:Int)):=by omega
   have F9:=hid (show aD rb 3 ((Cn.chL ((aB ps wi).l3 (fA ms) (j3+1))).map (Value.int .i64)).toArray wr from by
    have:=F1.out
    rw [hke,← HN3.out] at this
    exact this)
   have T9:=hid T1.out
   clear hke F1 T1 hk hlt2
   go_wp2_with fail
   go_roundg (ms.length-(j3+1))
   case rel=>exact ⟨j3+1,by omega,by go_num,F9.out,T9.out⟩
   case measure=>omega
  have hje:j3=ms.length:=by omega
  have hnl : ¬ ((j3:Int)<(ms.length:Int)):=by omega
  obtain ⟨L1,hkw,-⟩:=HLB.out wr T1.out
  have hlv:=L1.lv.facts.1
  have hll:=L1.lv.facts.2.2
  have HFIN:=hid (show aD rb 3 ((Cn.chL ((aB ps wi).mod (fA ms))).map (Value.int .i64)).toArray wr from by
   have:=F1.out
   rw [hje,show ms.length=(fA ms).length by simp [fA],Cn.CT.l3_done hok HSET.out] at this
   exact this)
  have HKF:=hid hkw
  clear hje hj L1 hkw F1
  go_wp2_with fail
  refine cT (v:= .tuple #[.slice (some ⟨rb,0,none⟩) (aB ps wi).many (aB ps wi).many,.int .i64 0]) (fun W'=>aA w W'/\aD rb 3 ((Cn.chL ((aB ps wi).mod (fA ms))).map (Value.int .i64)).toArray W') ⟨HKF.out,HFIN.out⟩ rfl ?_
  rintro W ⟨hkW,hbW⟩
  exact ⟨by simp [results,Tryz.results54,go_sem],hkW,.inr ⟨HZ.out,rb,rfl,hrw,hbW⟩⟩
 ·have hz1':(bK ps wi ms==0)=false:=by simpa using hz
  have hz2':(bK ps wi ms != 0)=true:=by simp [bne,hz1']
  have HZ:=hid hz
  generalize hve:bK ps wi ms=ve at hz1' hz2' ⊢
  have HVE:=hid hve
  clear hz hve
  go_wp2_with fail
  refine cT (v:= .tuple #[.slice none 0 0,.int .i64 ve]) (fun W'=>aA w W') K2.out rfl ?_
  rintro W hkW
  exact ⟨by simp [results,Tryz.results54,go_sem],hkW,.inl ⟨HZ.out,by rw [HVE.out]⟩⟩
end Go.Proofs.YtonlloiemgdfkaaGreatDoor
