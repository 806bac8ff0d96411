/- Steps of the proof: EncMeansWalk, EncOpenI. -/
import Derived.Test.YtonlloiemgdfkaaGreatDoorRe41
import Derived.Test.YtonlloiemgdfkaaGreatDoorRe20
import Derived.Test.YtonlloiemgdfkaaGreatDoorRe18
import Derived.Test.YtonlloiemgdfkaaGreatDoorRe16
import Derived.Test.YtonlloiemgdfkaaGreatDoorRe19
import Derived.Test.YtonlloiemgdfkaaGreatDoorRe36
set_option maxHeartbeats 16000000
set_option maxRecDepth 100000
namespace Go.Proofs.YtonlloiemgdfkaaGreatDoor
open Go.RowKit
theorem aMe {n:Nat} {F:List (List Int)} {A l:List Int} (h:Cn.lY n F A l) (hl:l.length=n) {j:Nat} (hj:j<l.length):l[j].natAbs=j+1:=by
 classical
 have hv:=h.vars
 have hlen:=congrArg List.length hv
 rw [List.length_map,hl] at hlen
 rw [List.filter_eq_self.2 (List.length_filter_eq_length_iff.1 (by rw [← hlen,List.length_range']))] at hv
 have h1:=congrArg (fun q=>q[j]?) hv
 simp only [List.getElem?_map,List.getElem?_eq_getElem hj,List.getElem?_range' (show j<n by omega),Option.map_some] at h1
 have:=Option.some.inj h1
 omega
theorem wP {f:Int->Value} {A:List Int} {b:Nat} {T:TypeId} {w:World} (h:Cn.cQ f A A.length b T w):aD b T (A.map f).toArray w:=by
 obtain ⟨cs,h1,h2,h3⟩:=h
 have e:cs=A.map f:=by
  refine List.ext_getElem? fun i=> ?_
  by_cases hi:i<A.length
  ·rw [h2 i A[i] hi (List.getElem?_eq_getElem hi),List.getElem?_map,List.getElem?_eq_getElem hi];rfl
  ·rw [List.getElem?_eq_none (by omega),List.getElem?_eq_none (by rw [List.length_map];omega)]
 rw [← e]
 exact h3
theorem aPl (m:List Bool):(Cn.chL m).map (fun x=>Value.bool (decide (0<x)))=m.map Value.bool:=by
 refine List.ext_getElem? fun v=> ?_
 by_cases hv:v<m.length
 ·rw [List.getElem?_map,Cn.iO hv,List.getElem?_map,List.getElem?_eq_getElem hv,List.getD_eq_getElem?_getD,List.getElem?_eq_getElem hv]
  cases m[v]<;>simp<;>omega
 ·rw [List.getElem?_eq_none (by rw [List.length_map,Cn.dT];omega),List.getElem?_eq_none (by rw [List.length_map];omega)]
theorem tN {b n:Nat} {m:List Bool} {w:World} {S:Nat->Prop} (h:aD b 4 (m.map Value.bool).toArray w) (hn:m.length=n) (hs:n<=1000) (hS:S b):aS S w m (.slice (some ⟨b,0,none⟩) n n):=by
 subst hn
 refine ⟨_,_,rfl,by omega,fun _=>⟨b,0,rfl,hS,fun j x hx=> ?_⟩⟩
 rw [Nat.zero_add,h.facts.1,List.getElem?_toArray,List.getElem?_map,hx];rfl
theorem zK (S:Nat->Prop) (ps:List PK) (wi:WI) (ms:List MB) (fs:List Int) (pv tsv inv mav onv lv fv:Value) (w:World) (hS : ∀ b,S b->b<w.heap.size) (hp:aY S w ps pv) (hw:dE S w wi tsv inv mav onv) (hm:bL S w ms lv) (hfs:aG S w fs fv) (hcap:fB pv) (hcf:fB fv) (hE:Env w) (hM:fQ w) :
  Calls Tryz.prog 14 #[.agg #[pv],.agg #[tsv,inv,mav,onv],lv,fv] w fun e w'=>e=.returned (.bool true)/\aA w w':=by
 obtain ⟨i0,hi,hz0,hz1,hz2⟩:=info_parts aPz
 have HP:=hid hp
 have HW:=hid hw
 have HL:=hid hm
 have HFS:=hid hfs
 have HE:=hid hE
 have HM:=hid hM
 have HCF:=hid hcf
 obtain ⟨lp,lc,hlv,-,-⟩:=id hm
 subst hlv
 obtain ⟨fp,fc,hfv,hflen,-⟩:=id hfs
 subst hfv
 clear hp hw hm hfs hE hM hcf
 go_enter Tryz.func14,Tryz.ntmps14
 go_upto_region 1 with fail
 refine bH (fun W'=>aA w W'/\aE w.heap.size 24 pv W'/\aD (w.heap.size+1) 30 #[tsv,inv,mav,onv] W') ⟨(aA.alloc _ _).alloc' _,(aE.new _ _ _).keep (aA.alloc _ _) (by simp),?_⟩ ?_
 ·have:=aD.new (w.alloc (.cells #[pv] 24)) 30 #[tsv,inv,mav,onv]
  rw [aC] at this;exact this
 rintro W1 ⟨k1,v1,b1⟩
 have K1:=hid k1
 have V1:=hid v1
 have B1:=hid b1
 generalize w.heap.size=b at V1 B1 ⊢
 clear k1 v1 b1
 have ht0:=V1.out.facts.1
 have htl:=V1.out.facts.2.2
 have hw0:W1.cell? ⟨b+1,0,none⟩=some tsv:=B1.out.facts.1 0
 have hw1:W1.cell? ⟨b+1,1,none⟩=some inv:=B1.out.facts.1 1
 have hw2:W1.cell? ⟨b+1,2,none⟩=some mav:=B1.out.facts.1 2
 have hw3:W1.cell? ⟨b+1,3,none⟩=some onv:=B1.out.facts.1 3
 have hwl:=B1.out.facts.2.2
 go_wp2_with fail
 refine (mT S ps wi _ _ _ _ _ W1 (fun c hc=>Nat.lt_of_lt_of_le (hS c hc) K1.out.size) (HP.out.keep hS K1.out) (HW.out.keep hS K1.out) hcap).mono ?_
 rintro e W2 ⟨k2,h2o⟩
 have K2:=hid (K1.out.trans k2)
 have V2:=hid (V1.out.keep k2 V1.out.facts.2.2)
 have B2:=hid (B1.out.keep k2 B1.out.facts.2.2)
 clear ht0 htl hw0 hw1 hw2 hw3 hwl V1 B1 k2
 obtain ⟨vn,cv,er,rfl,hcv,h2⟩ : ∃ (vn:Int) (cv:Value) (er:Int),e=.returned (.tuple #[.agg #[.int .i64 vn,cv],.int .i64 er])/\(∃ p n c,cv=.slice p n c)/\er=bA ps wi/\(bA ps wi=0->vn=((bF ps wi).n:Nat)/\Cn.eA (fun b=>W1.heap.size<=b/\b<W2.heap.size) W2 (bF ps wi).cl cv):=by
  rcases h2o with ⟨hz,rfl⟩ | ⟨hz,cv,rfl,hcls⟩
  ·exact ⟨0,_,_,rfl,⟨none,0,0,rfl⟩,rfl,fun h=>absurd h hz⟩
  ·obtain ⟨p,c,e,-⟩:=hcls.len
   exact ⟨_,cv,0,rfl,⟨p,_,c,e⟩,hz.symm,fun _=>⟨rfl,hcls⟩⟩
 obtain ⟨cp,cn,cc,rfl⟩:=hcv
 have H2:=hid h2
 clear h2 h2o
 go_upto_region 2 with fail
 refine bH (fun W'=>aA W2 W'/\aD W2.heap.size 99 #[.int .i64 vn,.slice cp cn cc] W') ⟨aA.alloc _ _,aD.new _ _ _⟩ ?_
 rintro W3 ⟨k3,b3⟩
 have K23:=hid k3
 have K3:=hid (K2.out.trans k3)
 have F3:=hid b3
 have V3:=hid (V2.out.keep k3 V2.out.facts.2.2)
 have B3:=hid (B2.out.keep k3 B2.out.facts.2.2)
 have ht0:=V3.out.facts.1
 have htl:=V3.out.facts.2.2
 have hw0:W3.cell? ⟨b+1,0,none⟩=some tsv:=B3.out.facts.1 0
 have hw1:W3.cell? ⟨b+1,1,none⟩=some inv:=B3.out.facts.1 1
 have hw2:W3.cell? ⟨b+1,2,none⟩=some mav:=B3.out.facts.1 2
 have hw3:W3.cell? ⟨b+1,3,none⟩=some onv:=B3.out.facts.1 3
 have hwl:=B3.out.facts.2.2
 generalize W2.heap.size=fb at F3 ⊢
 clear k3 b3 V2 B2
 go_wp2_with fail
 refine (jH S ps wi ms _ _ _ _ _ _ W3 (fun c hc=>Nat.lt_of_lt_of_le (hS c hc) K3.out.size) (HP.out.keep hS K3.out) (HW.out.keep hS K3.out) (HL.out.keep hS K3.out)).mono ?_
 rintro e W4 ⟨k4,h4⟩
 have K34:=hid k4
 have K4:=hid (K3.out.trans k4)
 have F4:=hid (F3.out.keep k4 F3.out.facts.2.2)
 have V4:=hid (V3.out.keep k4 V3.out.facts.2.2)
 have B4:=hid (B3.out.keep k4 B3.out.facts.2.2)
 have HB3L:=hid (show b+1<W3.heap.size/\fb<W3.heap.size from ⟨B3.out.facts.2.2,F3.out.facts.2.2⟩)
 clear ht0 htl hw0 hw1 hw2 hw3 hwl V3 B3 F3 k4
 rcases h4 with ⟨hz,rfl⟩ | ⟨hz,rb,rfl,hrb,hrow⟩
 ·have hz1:(bK ps wi ms==0)=false:=by simpa using hz
  have hz2:(bK ps wi ms != 0)=true:=by simp [bne,hz1]
  generalize bK ps wi ms=cw at hz1 hz2 ⊢
  clear hz H2
  go_wp2_with fail
  refine (lB W4 (HE.out.keep K4.out) (HM.out.keep K4.out)).mono ?_
  rintro e W5 ⟨rfl,k5⟩
  have K5:=hid (K4.out.trans k5)
  clear k5
  cases her:(er != 0)
  ·have her2:(er==0)=true:=by simpa [bne] using her
   go_wp2_with fail
   refine (lB W5 (HE.out.keep K5.out) (HM.out.keep K5.out)).mono ?_
   rintro e W6 ⟨rfl,k6⟩
   have K6:=hid (K5.out.trans k6)
   clear k6
   go_wp2_with fail
   go_ret
   exact ⟨rfl,K6.out⟩
  ·have her2:(er==0)=false:=by simpa [bne] using her
   go_wp2_with fail
   refine (lB W5 (HE.out.keep K5.out) (HM.out.keep K5.out)).mono ?_
   rintro e W6 ⟨rfl,k6⟩
   have K6:=hid (K5.out.trans k6)
   clear k6
   go_wp2_with fail
   go_ret
   exact ⟨rfl,K6.out⟩
 have hzw:bA ps wi=0:=by unfold bK at hz;by_cases e:bA ps wi=0;exact e;rw [if_pos e] at hz;exact hz
 have hzm:bO ps ms=0:=by unfold bK at hz;rw [if_neg (by simp [hzw])] at hz;exact hz
 obtain ⟨her,hform⟩:=H2.out
 obtain ⟨rfl,hcls⟩:=hform hzw
 rw [hzw] at her
 subst her
 obtain ⟨hT,hTS,-,-,-,-,-,-⟩:=bI hzw
 have h14:=(mZ wi hT).1
 have HCLS:=hid hcls
 have R4:=hid hrow
 have HRB:=hid hrb
 have HZW:=hid hzw
 have HZM:=hid hzm
 clear hform hcls hrow hz hzw hzm hT hTS hrb H2
 go_wp2_with fail
 refine (lB W4 (HE.out.keep K4.out) (HM.out.keep K4.out)).mono ?_
 rintro e W5 ⟨rfl,k5⟩
 have K5:=hid (K4.out.trans k5)
 have KC5:=hid ((K23.out.trans K34.out).trans k5)
 have F5:=hid (F4.out.keep k5 F4.out.facts.2.2)
 have V5:=hid (V4.out.keep k5 V4.out.facts.2.2)
 have B5:=hid (B4.out.keep k5 B4.out.facts.2.2)
 have R5:=hid (R4.out.keep k5 R4.out.facts.2.2)
 clear k5 F4 V4 B4 R4
 go_wp2_with (at_make;refine wpList_make_full _ rfl _ _ 66 rfl W5.heap.size 4 i0 (.bool false) 1 Tryz.underlying66 hi hz0 hz1 .i64 .i64 ((aB ps wi).many:Int) ((aB ps wi).many:Int) (aB ps wi).many rfl rfl rfl rfl (by rw [hz2];omega) (by unfold maxLen;omega) (Nat.le_refl _) ?_;intro w6 h1 h2;have K56:=hid (Cn.jM h2);have M6:=hid (Cn.fK (v:= .bool false) rfl h1);clear h1 h2)
 obtain ⟨m0,hm0⟩ : ∃ m0,m0=(aB ps wi).mod (fA ms):=⟨_,rfl⟩
 have hlen0:m0.length=(aB ps wi).many:=by
  rw [hm0];exact Cn.CT.mod_len (eH (bI HZW.out).2.1) _
 have HM0:=hid hm0
 rw [← hm0] at R5
 clear hm0
 have hcl0:(Cn.chL m0).length=(aB ps wi).many:=by rw [Cn.dT,hlen0]
 have hrb5:=R5.out.facts.2.2
 have hmne:rb≠W5.heap.size:=by omega
 have HFI:=hid (show Cn.cQ (fun x=> .bool (decide (0<x))) (Cn.chL m0) 0 W5.heap.size 4 w6 from Cn.cQ.start (z:= .bool false) (by rw [hcl0];exact M6.out))
 have k56:aA W5 w6:=K56.out
 have K6:=hid (K5.out.trans k56)
 have KC6:=hid (KC5.out.trans k56)
 have h2mb:W2.heap.size<=W5.heap.size:=KC5.out.size
 have h2rb:W2.heap.size<=rb:=by have:=HRB.out;have:=K23.out.size;omega
 have F6:=hid (F5.out.keep k56 F5.out.facts.2.2)
 have V6:=hid (V5.out.keep k56 V5.out.facts.2.2)
 have B6:=hid (B5.out.keep k56 B5.out.facts.2.2)
 have R6:=hid (R5.out.keep k56 R5.out.facts.2.2)
 have hbb:b+1<W5.heap.size:=B5.out.facts.2.2
 have hfbb:fb<W5.heap.size:=F5.out.facts.2.2
 have hwb:w.heap.size<=W5.heap.size:=K5.out.size
 generalize W5.heap.size=mb at HFI hmne hbb hfbb hwb h2mb ⊢
 clear F5 V5 B5 R5 k56 hrb5 M6
 go_loopg [56] (aB ps wi).many (fun gk iv wr=> ∃ j:Nat,j+gk=(aB ps wi).many/\iv=.int .i64 j/\Cn.cQ (fun x=> .bool (decide (0<x))) (Cn.chL m0) j mb 4 wr/\Cn.aF (fun c=>c=mb) (fun c=>c=mb) w6 wr)
 case atStart=>exact ⟨0,by omega,rfl,HFI.out,Cn.aF.refl _ _⟩
 case round=>
 obtain ⟨j,hj,rfl,hf,ht⟩:=hrel
 have F1:=hid hf
 have T1:=hid ht
 clear hf ht
 have R1:=hid (Cn.aD.turn R6.out T1.out hmne)
 by_cases hlt:j<(aB ps wi).many
 ·have hjI:(j:Int)<((aB ps wi).many:Int):=by omega
  have hg:=List.getElem?_eq_getElem (l:=Cn.chL m0) (i:=j) (by omega)
  have hcr:wr.cell? ⟨rb,j,none⟩=some (.int .i64 ((Cn.chL m0)[j]'(by omega))):=by rw [R1.out.facts.1,List.getElem?_toArray,List.getElem?_map,hg];rfl
  have hrl:=R1.out.facts.2.2
  have hnx:=F1.out.next hg
  have HN:=hid (show Cn.cQ (fun x=> .bool (decide (0<x))) (Cn.chL m0) (j+1) mb 4 _ from hnx)
  obtain ⟨⟨old,hold⟩,hfz,hml⟩:=F1.out.cell (i:=j) (by omega)
  have HT:=hid (T1.out.trans (Cn.aF.set (fun c=>c=mb) wr mb j (.bool (decide (0<(Cn.chL m0)[j]'(by omega)))) rfl))
  clear hnx hg
  generalize (Cn.chL m0)[j]'(by omega)=xj at hcr HN HT
  go_wp2_with fail
  generalize wr.setCell ⟨mb,j,none⟩ (.bool (decide (0<xj)))=W7 at HN HT ⊢
  go_roundg ((aB ps wi).many-(j+1))
  case rel=>exact ⟨j+1,by omega,by go_num,HN.out,HT.out⟩
  case measure=>omega
 have hje:j=(aB ps wi).many:=by omega
 have hnl : ¬ ((j:Int)<((aB ps wi).many:Int)):=by omega
 have M1:=hid (show aD mb 4 (m0.map Value.bool).toArray wr from by
  have:=F1.out
  rw [hje,← hcl0] at this
  have h5:=wP this
  rw [aPl] at h5
  exact h5)
 clear hje hj F1 hlt
 have hT2 : ∀ c,c≠mb->¬ (c=mb):=fun c h e=>h e
 have K7:=hid (show aA w wr from Below.trans K6.out (T1.out.below (B:=w.heap.size) K6.out.size fun c hc e=>by have e:c=mb:=e;omega))
 have KC7:=hid (show aA W2 wr from Below.trans KC6.out (T1.out.below (B:=W2.heap.size) KC6.out.size fun c hc e=>by have e:c=mb:=e;omega))
 have F7:=hid (Cn.aD.turn F6.out T1.out (fun e=>by have e:fb=mb:=e;omega))
 have V7:=hid (yU V6.out T1.out (fun e=>by have e:b=mb:=e;omega))
 have B7:=hid (Cn.aD.turn B6.out T1.out (fun e=>by have e:b+1=mb:=e;omega))
 clear R6 F6 V6 B6 HFI hT2
 have ht0:=V7.out.facts.1
 have htl:=V7.out.facts.2.2
 have hw0:wr.cell? ⟨b+1,0,none⟩=some tsv:=B7.out.facts.1 0
 have hw1:wr.cell? ⟨b+1,1,none⟩=some inv:=B7.out.facts.1 1
 have hw2:wr.cell? ⟨b+1,2,none⟩=some mav:=B7.out.facts.1 2
 have hw3:wr.cell? ⟨b+1,3,none⟩=some onv:=B7.out.facts.1 3
 have hwl:=B7.out.facts.2.2
 go_wp2_with fail
 refine (vY (fun c=>S c∨c=mb) ps wi m0 _ _ _ _ _ _ wr (fun c hc=>hc.elim (fun h=>Nat.lt_of_lt_of_le (hS c h) K7.out.size) fun h=>h ▸ M1.out.facts.2.2) ((HP.out.keep hS K7.out).mono (fun _ _=>rfl) fun _ h=> .inl h) ((HW.out.keep hS K7.out).mono fun _ h=> .inl h) (tN M1.out hlen0 (by omega) (.inr rfl))).mono ?_
 rintro e W8 ⟨k8,⟨h0,-⟩ | ⟨-,h0,-⟩ | ⟨-,-,-,v8,rfl,hm8⟩⟩
 ·exact absurd HZW.out h0
 ·exact absurd h0 (by omega)
 have hset:bN ps wi m0=ms:=by
  unfold bN
  rw [HM0.out,Cn.CT.set_mod (eH (bI HZW.out).2.1) (tD wi HZM.out)]
  exact aUq fun x hx=>((cW HZM.out).2.2.2.1 x hx).1
 rw [hset] at hm8
 obtain ⟨p8,c8,rfl,-,-⟩:=id hm8
 have M8:=hid hm8
 have K8:=hid (K7.out.trans k8)
 have HK8:=hid k8
 clear hset hm8 k8 ht0 htl hw0 hw1 hw2 hw3 hwl
 go_wp2_with fail
 refine (jI (fun c=>c<W8.heap.size) ms ms _ _ W8 (fun _ h=>h) (M8.out.mono (fun _ _=>rfl) fun c hc=>hc.2) ((HL.out.keep hS K8.out).mono (fun _ _=>rfl) fun c hc=>Nat.lt_of_lt_of_le (hS c hc) K8.out.size)).mono ?_
 rintro e W9 ⟨β,rfl,hβ,k9⟩
 obtain rfl:β=true:=hβ.2 rfl
 have K89:=hid (HK8.out.trans k9)
 have K9:=hid (K8.out.trans k9)
 have KC9:=hid (KC7.out.trans K89.out)
 clear hβ k9
 have hfc:fs.length<=fc:=HCF.out _ _ _ rfl
 obtain ⟨kf,hkf⟩ : ∃ kf:Nat,kf=min fs.length 20:=⟨_,rfl⟩
 have hmin:min (fs.length:Int) 20=kf:=by omega
 have hkI:(kf:Int)<=(fc:Int):=by omega
 have hkl:kf<=fs.length:=by omega
 have hk20:kf<=20:=by omega
 clear hkf hfc
 go_wp2_with fail
 have hmb9:mb<W9.heap.size:=Nat.lt_of_lt_of_le M1.out.facts.2.2 K89.out.size
 have hrb9:rb<W9.heap.size:=Nat.lt_of_lt_of_le R1.out.facts.2.2 K89.out.size
 have M9:=hid (M1.out.keep K89.out M1.out.facts.2.2)
 have R9:=hid (R1.out.keep K89.out R1.out.facts.2.2)
 have F9:=hid (F7.out.keep K89.out F7.out.facts.2.2)
 have V9:=hid (V7.out.keep K89.out V7.out.facts.2.2)
 have B9:=hid (B7.out.keep K89.out B7.out.facts.2.2)
 have HFR:=hid (show b+1<rb/\fb<rb from ⟨by have:=HRB.out;have:=HB3L.out;omega,by have:=HRB.out;have:=HB3L.out;omega⟩)
 have hrbw:w.heap.size<=rb:=by have:=HRB.out;have:=K3.out.size;omega
 clear M1 R1 F7 V7 B7 M8 K8 HK8 K7 T1
 obtain ⟨wo,rfl⟩ : ∃ wo:World,wo=wr:=⟨_,rfl⟩
 go_loopg [88] kf (fun gk iv wr=> ∃ (j:Nat) (m:List Bool),j+gk=kf/\iv=.int .i64 j/\m.length=(aB ps wi).many/\aD rb 3 ((Cn.chL m).map (Value.int .i64)).toArray wr/\aD mb 4 (m.map Value.bool).toArray wr/\Cn.aF (fun c=>c=rb∨c=mb) (fun c=>c=rb∨c=mb) W9 wr)
 case atStart=>exact ⟨0,m0,by omega,rfl,hlen0,R9.out,M9.out,Cn.aF.refl _ _⟩
 case round=>
 obtain ⟨j2,m,hj,rfl,hml,hr,hmb,ht⟩:=hrel
 have R1:=hid hr
 have M1:=hid hmb
 have T1:=hid ht
 have K1w:=hid (show aA w wr from Below.trans K9.out (ht.below (B:=w.heap.size) K9.out.size fun c hc e=>by rcases e with e | e<;>omega))
 clear hr hmb ht
 by_cases hlt:j2<kf
 ·obtain ⟨_,_,e,-,hfrow⟩:=HFS.out
  cases e
  obtain ⟨ab,ao,rfl,hSa,hcs⟩:=hfrow (by omega)
  have g0:=hcs j2 fs[j2] (List.getElem?_eq_getElem (by omega))
  have q0:=(K1w.out.cell (p:=⟨ab,ao+j2,none⟩) (hS ab hSa)).trans g0
  have hal:ab<wr.heap.size:=Nat.lt_of_lt_of_le (hS ab hSa) K1w.out.size
  have hjI:(j2:Int)<(kf:Int):=by omega
  generalize fs[j2]'(by omega)=x at q0
  clear g0 hcs hfrow
  by_cases h0:(aB ps wi).many=0
  ·have h0I : ¬ ((0:Int)<((aB ps wi).many:Int)):=by omega
   have HRel:=hid (show m.length=(aB ps wi).many from hml)
   clear h0 hml
   go_wp2_with fail
   go_roundg (kf-(j2+1))
   case rel=>exact ⟨j2+1,m,by omega,by go_num,HRel.out,R1.out,M1.out,T1.out⟩
   case measure=>omega
  have h0I:(0:Int)<((aB ps wi).many:Int):=by omega
  go_wp2_with fail
  refine (aOy x (aB ps wi).many wr (by omega) (by omega)).mono ?_
  rintro e w8 ⟨k,hk,rfl,hw8⟩
  rw [hw8]
  clear hw8
  have hkI:(k:Int)<((aB ps wi).many:Int):=by omega
  have hcle:(Cn.chL m).length=(aB ps wi).many:=by rw [Cn.dT,hml]
  have hlit:=Cn.fH m ((Cn.chL m)[k]'(by omega)) (List.getElem_mem _)
  have HCT:=hid (show Cn.chL (m.set k !(m.getD k false))=(Cn.chL m).set k (-((Cn.chL m)[k]'(by omega))) by rw [Cn.aPk (by omega),List.getD_eq_getElem?_getD (l:=Cn.chL m),List.getElem?_eq_getElem (by omega)];rfl)
  have hcr:wr.cell? ⟨rb,k,none⟩=some (.int .i64 ((Cn.chL m)[k]'(by omega))):=by rw [R1.out.facts.1,List.getElem?_toArray,List.getElem?_map,List.getElem?_eq_getElem (by omega)];rfl
  have hcm:wr.cell? ⟨mb,k,none⟩=some (.bool (m.getD k false)):=by rw [M1.out.facts.1,List.getElem?_toArray,List.getElem?_map,List.getD_eq_getElem?_getD,List.getElem?_eq_getElem (by omega)];rfl
  have hfr:=R1.out.facts.2.1 k
  have hfm:=M1.out.facts.2.1 k
  have hrl:=R1.out.facts.2.2
  have hml2:=M1.out.facts.2.2
  have HSL:=hid (show (m.set k !(m.getD k false)).length=(aB ps wi).many by rw [List.length_set,hml])
  have hcb:((Cn.chL m)[k]'(by omega)).natAbs<=1000:=by have:=hlit.2;omega
  have HMS:=hid (show (m.set k !(m.getD k false)).map Value.bool=(m.map Value.bool).set k (.bool !(m.getD k false)) from List.map_set ..)
  generalize (Cn.chL m)[k]'(by omega)=ck at hcr HCT hcb hlit
  generalize m.getD k false=bk at hcm HCT HSL HMS
  clear hlit hcle hml q0 hal
  have hwn:IntKind.i64.wrap (-ck) = -ck:=bX (by omega)
  have hne2:mb≠rb:=Ne.symm hmne
  have HQ:=hid (show aD rb 3 ((Cn.chL (m.set k !bk)).map (Value.int .i64)).toArray ((wr.setCell ⟨rb,k,none⟩ (.int .i64 (-ck))).setCell ⟨mb,k,none⟩ (.bool (!bk))).drew/\aD mb 4 ((m.set k !bk).map Value.bool).toArray ((wr.setCell ⟨rb,k,none⟩ (.int .i64 (-ck))).setCell ⟨mb,k,none⟩ (.bool (!bk))).drew/\Cn.aF (fun c=>c=rb∨c=mb) (fun c=>c=rb∨c=mb) W9 ((wr.setCell ⟨rb,k,none⟩ (.int .i64 (-ck))).setCell ⟨mb,k,none⟩ (.bool (!bk))).drew from by
   have t1:=Cn.aF.set (fun c=>c=rb∨c=mb) wr rb k (.int .i64 (-ck)) (.inl rfl)
   have t2:=Cn.aF.set (fun c=>c=rb∨c=mb) (wr.setCell ⟨rb,k,none⟩ (.int .i64 (-ck))) mb k (.bool (!bk)) (.inr rfl)
   have r1:=R1.out.set k (.int .i64 (-ck))
   have m1:=Cn.aD.turn M1.out (Cn.aF.set (fun c=>c=rb) wr rb k (.int .i64 (-ck)) rfl) (fun e=>hne2 e)
   have m2:=aD.set m1 k (.bool (!bk))
   have r2:=Cn.aD.turn r1 (Cn.aF.set (fun c=>c=mb) (wr.setCell ⟨rb,k,none⟩ (.int .i64 (-ck))) mb k (.bool (!bk)) rfl) (fun e=>hmne e)
   rw [List.setIfInBounds_toArray,← List.map_set,← HCT.out] at r2
   rw [List.setIfInBounds_toArray,← HMS.out] at m2
   exact ⟨r2,m2,((T1.out.trans t1).trans t2).trans (Cn.aF.keep (aA.drew (aA.refl _)))⟩)
  go_upto_region 19 with fail
  go_region
  generalize ((wr.setCell ⟨rb,k,none⟩ (.int .i64 (-ck))).setCell ⟨mb,k,none⟩ (.bool (!bk))).drew=W10 at HQ ⊢
  clear hcr hcm hfr hfm hrl hml2
  go_wp2_with fail
  go_roundg (kf-(j2+1))
  case rel=>exact ⟨j2+1,_,by omega,by go_num,HSL.out,HQ.out.1,HQ.out.2.1,HQ.out.2.2⟩
  case measure=>omega
 have hje:j2=kf:=by omega
 have hnl : ¬ ((j2:Int)<(kf:Int)):=by omega
 clear hje hj hlt
 have KC10:=hid (show aA W2 wr from Below.trans KC9.out (T1.out.below (B:=W2.heap.size) KC9.out.size fun c hc e=>by rcases e with e | e<;>omega))
 have F10:=hid (Cn.aD.turn F9.out T1.out (fun e=>by rcases e with e | e<;>first | omega | (have:=HFR.out;omega)))
 have V10:=hid (yU V9.out T1.out (fun e=>by rcases e with e | e<;>first | omega | (have:=HFR.out;omega)))
 have B10:=hid (Cn.aD.turn B9.out T1.out (fun e=>by rcases e with e | e<;>first | omega | (have:=HFR.out;omega)))
 have ht0:=V10.out.facts.1
 have htl:=V10.out.facts.2.2
 have hw0:wr.cell? ⟨b+1,0,none⟩=some tsv:=B10.out.facts.1 0
 have hw1:wr.cell? ⟨b+1,1,none⟩=some inv:=B10.out.facts.1 1
 have hw2:wr.cell? ⟨b+1,2,none⟩=some mav:=B10.out.facts.1 2
 have hw3:wr.cell? ⟨b+1,3,none⟩=some onv:=B10.out.facts.1 3
 have hwl:=B10.out.facts.2.2
 clear F9 V9 B9 R9 M9
 go_wp2_with fail
 refine (vY (fun c=>S c∨c=mb) ps wi m _ _ _ _ _ _ wr (fun c hc=>hc.elim (fun h=>Nat.lt_of_lt_of_le (hS c h) K1w.out.size) fun h=>h ▸ M1.out.facts.2.2) ((HP.out.keep hS K1w.out).mono (fun _ _=>rfl) fun _ h=> .inl h) ((HW.out.keep hS K1w.out).mono fun _ h=> .inl h) (tN M1.out hml (by omega) (.inr rfl))).mono ?_
 rintro e W11 ⟨k11,⟨h0,-⟩ | ⟨-,h0,-⟩ | ⟨-,-,-,v11,rfl,hm11⟩⟩
 ·exact absurd HZW.out h0
 ·exact absurd h0 (by omega)
 obtain ⟨p11,c11,rfl,-,-⟩:=id hm11
 have M11:=hid hm11
 have K11:=hid (K1w.out.trans k11)
 have HK11:=hid k11
 have V11:=hid (V10.out.keep k11 V10.out.facts.2.2)
 have B11:=hid (B10.out.keep k11 B10.out.facts.2.2)
 have F11:=hid (F10.out.keep k11 F10.out.facts.2.2)
 have R11:=hid (R1.out.keep k11 R1.out.facts.2.2)
 clear hm11 k11 ht0 htl hw0 hw1 hw2 hw3 hwl V10 B10 F10
 have ht0:=V11.out.facts.1
 have htl:=V11.out.facts.2.2
 have hw0:W11.cell? ⟨b+1,0,none⟩=some tsv:=B11.out.facts.1 0
 have hw1:W11.cell? ⟨b+1,1,none⟩=some inv:=B11.out.facts.1 1
 have hw2:W11.cell? ⟨b+1,2,none⟩=some mav:=B11.out.facts.1 2
 have hw3:W11.cell? ⟨b+1,3,none⟩=some onv:=B11.out.facts.1 3
 have hwl:=B11.out.facts.2.2
 go_wp2_with fail
 refine (jP (fun c=>c<W11.heap.size) ps wi (bN ps wi m) _ _ _ _ _ _ W11 (fun _ h=>h) ((HP.out.keep hS K11.out).mono (fun _ _=>rfl) fun c hc=>Nat.lt_of_lt_of_le (hS c hc) K11.out.size) ((HW.out.keep hS K11.out).mono fun c hc=>Nat.lt_of_lt_of_le (hS c hc) K11.out.size) (M11.out.mono (fun _ _=>rfl) fun c hc=>hc.2)).mono ?_
 rintro e W12 ⟨rfl,k12⟩
 rw [(nK HZW.out m).1,(nK HZW.out m).2]
 have HEM:=hid (show (cN ps wi (bN ps wi m)=true->¬ Cn.bJ (bF ps wi).cl (Cn.chL m)/\Cn.jA (bF ps wi).n (bF ps wi).cl (Cn.chL m)=none)/\(cN ps wi (bN ps wi m)=false->Cn.bJ (bF ps wi).cl (Cn.chL m)) from tP HZW.out m hml)
 have K12:=hid (K11.out.trans k12)
 have KC12:=hid ((KC10.out.trans HK11.out).trans k12)
 have F12:=hid (F11.out.keep k12 F11.out.facts.2.2)
 have R12:=hid (R11.out.keep k12 R11.out.facts.2.2)
 generalize cN ps wi (bN ps wi m)=may at HEM ⊢
 clear k12 ht0 htl hw0 hw1 hw2 hw3 hwl V11 B11 F11 R11 M11
 have hf0:W12.cell? ⟨fb,0,none⟩=some (.int .i64 ((bF ps wi).n:Nat)):=F12.out.facts.1 0
 have hf1:W12.cell? ⟨fb,1,none⟩=some (.slice cp cn cc):=F12.out.facts.1 1
 have hfl:=F12.out.facts.2.2
 obtain ⟨_,_,ecn,-⟩:=HCLS.out.len
 cases ecn
 obtain ⟨gm,g2,g3,g4,-⟩:=fZ HZW.out
 have hfo:Cn.aMr ((bF ps wi).n:Nat) (bF ps wi).cl (Cn.chL m)=0:=by
  unfold Cn.aMr
  rw [if_neg (by rw [Cn.qP g2 g3 fun c hc=>⟨(g4 c hc).2,(g4 c hc).1⟩];simp),if_neg (by rw [Cn.dT,hml];omega)]
  exact Cn.qU.2 fun x hx=>⟨(Cn.fH m x hx).1,by have:=(Cn.fH m x hx).2;omega⟩
 have HFOL:=hid (show Calls Tryz.prog 61 #[.agg #[.int .i64 ((bF ps wi).n:Nat),.slice cp (bF ps wi).cl.length cc],.slice (some ⟨rb,0,none⟩) (aB ps wi).many (aB ps wi).many] W12 fun e w'=>Cn.aJy ((bF ps wi).n:Nat) (bF ps wi).cl (Cn.chL m) W12 e w' from by
  refine Cn.aEy (fun c=>(W1.heap.size<=c/\c<W2.heap.size)∨c=rb) _ (bF ps wi).cl (Cn.chL m) cp cc _ W12 (fun c hc=>hc.elim (fun h=>Nat.lt_of_lt_of_le h.2 KC12.out.size) fun h=>h ▸ R12.out.facts.2.2) ⟨(HCLS.out.keep (B:=W2.heap.size) (fun c hc=>hc.2) KC12.out).mono (fun _ _=>rfl) fun c hc=> .inl hc,fun c hc x hx=> ?_⟩ ?_ fun x hx=> ?_
  ·have:=((g4 c hc).1 x hx).2
   unfold Cn.InR
   omega
  ·refine ⟨_,_,by rw [Cn.dT,hml],by rw [Cn.dT,hml];omega,fun _=>⟨rb,0,rfl,.inr rfl,fun j x hx=> ?_⟩⟩
   rw [Nat.zero_add,R12.out.facts.1,List.getElem?_toArray,List.getElem?_map,hx];rfl
  ·have:=(Cn.fH m x hx).2
   unfold Cn.InR
   omega)
 have HFO:=hid hfo
 have HN:=hid (And.intro gm g2)
 clear hfo g3 g4 gm g2
 go_wp2_with fail
 refine HFOL.out.mono ?_
 rintro e W13 ⟨k13,⟨h0,-⟩ | ⟨-,n,hn,h13⟩⟩
 ·exact absurd HFO.out h0
 have k13:aA W12 W13:=k13
 have K13:=hid (K12.out.trans k13)
 have F13:=hid (F12.out.keep k13 F12.out.facts.2.2)
 obtain rfl:(bF ps wi).n=n:=by omega
 rcases h13 with ⟨v,K,L,rfl,hgood,hder,hnf,hnums⟩ | ⟨rfl,hfails⟩
 ·obtain rfl:may=true:=by
   cases may with
   | true=>rfl
   | false=>exact absurd (HEM.out.2 rfl) hnf
  have hbv:=Cn.uJ hgood hder
  have hlow:=(HEM.out.1 rfl).2
  have hll:(Cn.cG K).length=(bF ps wi).n:=hbv.full.2 hlow
  have HNTH:=hid (fun j (hj:j<(Cn.cG K).length)=>aMe hbv hll hj)
  have HMD:=hid (show Cn.qR ((bF ps wi).n:Nat) (bF ps wi).cl ((Cn.cG K).map fun x=>decide (0<x))=0/\Cn.bP ((bF ps wi).n:Nat) (bF ps wi).cl ((Cn.cG K).map fun x=>decide (0<x))=true from by
   obtain ⟨gm,g2,g3,g4,-⟩:=fZ HZW.out
   have hmd:=(Cn.xR (n:=(bF ps wi).n) (F:=(bF ps wi).cl) (A:=Cn.chL m) (fun c hc=>(g4 c hc).1) (fun x hx=>⟨(Cn.fH m x hx).1,by have:=(Cn.fH m x hx).2;omega⟩) hnf hlow).1
   rw [← hbv.model hnf hlow] at hmd
   have he:Cn.qR ((bF ps wi).n:Nat) (bF ps wi).cl ((Cn.cG K).map fun x=>decide (0<x))=0:=by
    unfold Cn.qR
    rw [if_neg (by rw [Cn.qP g2 g3 fun c hc=>⟨(g4 c hc).2,(g4 c hc).1⟩];simp),if_neg (by rw [hmd.1];simp)]
   refine ⟨he,?_⟩
   unfold Cn.bP
   rw [he,Bool.and_eq_true,List.all_eq_true]
   refine ⟨rfl,fun c hc=>List.any_eq_true.2 ?_⟩
   exact hmd.2 c hc)
  obtain ⟨kp,kc,hkv,-⟩:=hnums.shape
  subst hkv
  have HNU:=hid hnums
  have hf0:W13.cell? ⟨fb,0,none⟩=some (.int .i64 ((bF ps wi).n:Nat)):=F13.out.facts.1 0
  have hf1:W13.cell? ⟨fb,1,none⟩=some (.slice cp (bF ps wi).cl.length cc):=F13.out.facts.1 1
  have hfl:=F13.out.facts.2.2
  have hn4:=HN.out.2
  have KC13:=hid (KC12.out.trans k13)
  rw [hll] at HNU ⊢
  have HLL:=hid hll
  clear hbv hlow hgood hder hnf hnums hll hn
  go_wp2_with (at_make;refine wpList_make_full _ rfl _ _ 66 rfl W13.heap.size 4 i0 (.bool false) 1 Tryz.underlying66 hi hz0 hz1 .i64 .i64 (((bF ps wi).n:Nat):Int) (((bF ps wi).n:Nat):Int) (bF ps wi).n rfl rfl rfl rfl (by rw [hz2];omega) (by unfold maxLen;omega) (Nat.le_refl _) ?_;intro w14 h1 h2;have K14:=hid (Cn.jM h2);have M14:=hid (Cn.fK (v:= .bool false) rfl h1);clear h1 h2)
  have k14:aA W13 w14:=K14.out
  have HFI:=hid (show Cn.cQ (fun x=> .bool (decide (0<x))) (Cn.cG K) 0 W13.heap.size 4 w14 from Cn.cQ.start (z:= .bool false) (by rw [HLL.out];exact M14.out))
  have F14:=hid (F13.out.keep k14 F13.out.facts.2.2)
  have K14w:=hid (K13.out.trans k14)
  have KC14:=hid (KC13.out.trans k14)
  have HNU14:=hid (Cn.aG.mono (S':=fun c=>c<W13.heap.size) (fun p hp=>k14.cell (p:=p) hp.2) (fun c hc=>hc.2) HNU.out)
  have hfbu:fb<W13.heap.size:=F13.out.facts.2.2
  have hwu:w.heap.size<=W13.heap.size:=K13.out.size
  have h2u:W2.heap.size<=W13.heap.size:=KC13.out.size
  have hl14:W13.heap.size<=w14.heap.size:=k14.size
  generalize W13.heap.size=ub at HFI HNU14 hfbu hwu h2u hl14 ⊢
  clear k14 F13 hf0 hf1 hfl M14
  obtain ⟨wo2,rfl⟩ : ∃ wo2:World,wo2=wr:=⟨_,rfl⟩
  go_loopg [159] (bF ps wi).n (fun gk iv wr=> ∃ j:Nat,j+gk=(bF ps wi).n/\iv=.int .i64 j/\Cn.cQ (fun x=> .bool (decide (0<x))) (Cn.cG K) j ub 4 wr/\Cn.aF (fun c=>c=ub) (fun c=>c=ub) w14 wr)
  case atStart=>exact ⟨0,by omega,rfl,HFI.out,Cn.aF.refl _ _⟩
  case round=>
  obtain ⟨j,hj,rfl,hf,ht⟩:=hrel
  have F1:=hid hf
  have T2:=hid ht
  clear hf ht
  have hlk:=HLL.out
  by_cases hlt:j<(bF ps wi).n
  ·have hjI:(j:Int)<(((bF ps wi).n:Nat):Int):=by omega
   obtain ⟨ab,ao,hkp,hab,hkc⟩:=HNU14.out.nth (k:=j) (by omega)
   subst hkp
   have hg:=List.getElem?_eq_getElem (l:=Cn.cG K) (i:=j) (by omega)
   have hcx:=(T2.out.cell ⟨ab,ao+j,none⟩ (Nat.lt_of_lt_of_le hab hl14) (fun e=>by have e:ab=ub:=e;omega)).trans (hkc j _ hg)
   have hal:ab<wr.heap.size:=Nat.lt_of_lt_of_le (Nat.lt_of_lt_of_le hab hl14) T2.out.size
   have hnx:=F1.out.next hg
   have HNX:=hid (show Cn.cQ (fun x=> .bool (decide (0<x))) (Cn.cG K) (j+1) ub 4 _ from hnx)
   obtain ⟨⟨old,hold⟩,hfz,hul⟩:=F1.out.cell (i:=j) (by omega)
   have HT:=hid (T2.out.trans (Cn.aF.set (fun c=>c=ub) wr ub j (.bool (decide (0<(Cn.cG K)[j]'(by omega)))) rfl))
   have hnat:=HNTH.out j (by omega)
   clear hnx hg hkc
   generalize (Cn.cG K)[j]'(by omega)=x at hcx HNX HT hnat
   obtain ⟨u,hu⟩ : ∃ u:Int,u=(j:Int)+1:=⟨_,rfl⟩
   have hmax:max x (-x)=u:=by omega
   have hwn:IntKind.i64.wrap (-x) = -x:=bX (by omega)
   have hsub:IntKind.i64.wrap (u-1)=j:=by rw [hu,Int.add_sub_cancel];exact bX (by omega)
   clear hu hnat hlk
   go_wp2_with fail
   generalize wr.setCell ⟨ub,j,none⟩ (.bool (decide (0<x)))=W15 at HNX HT ⊢
   clear hmax hwn hsub
   go_roundg ((bF ps wi).n-(j+1))
   case rel=>exact ⟨j+1,by omega,by go_num,HNX.out,HT.out⟩
   case measure=>omega
  have hje:j=(bF ps wi).n:=by omega
  have hnl3 : ¬ ((j:Int)<(((bF ps wi).n:Nat):Int)):=by omega
  have U1:=hid (show aD ub 4 (((Cn.cG K).map fun x=>decide (0<x)).map Value.bool).toArray wr from by
   have:=F1.out
   rw [hje,← hlk] at this
   have h5:=wP this
   rw [List.map_map]
   exact h5)
  have F15:=hid (Cn.aD.turn F14.out T2.out (fun e=>by have e:fb=ub:=e;omega))
  have K15:=hid (show aA w wr from Below.trans K14w.out (T2.out.below (B:=w.heap.size) K14w.out.size fun c hc e=>by have e:c=ub:=e;omega))
  have KC15:=hid (show aA W2 wr from Below.trans KC14.out (T2.out.below (B:=W2.heap.size) KC14.out.size fun c hc e=>by have e:c=ub:=e;omega))
  have hf0:wr.cell? ⟨fb,0,none⟩=some (.int .i64 ((bF ps wi).n:Nat)):=F15.out.facts.1 0
  have hf1:wr.cell? ⟨fb,1,none⟩=some (.slice cp (bF ps wi).cl.length cc):=F15.out.facts.1 1
  have hfl:=F15.out.facts.2.2
  have HHO:=hid (show Calls Tryz.prog 62 #[.agg #[.int .i64 ((bF ps wi).n:Nat),.slice cp (bF ps wi).cl.length cc],.slice (some ⟨ub,0,none⟩) (bF ps wi).n (bF ps wi).n] wr fun e w'=>e=.returned (.tuple #[.bool true,.int .i64 0])/\aA wr w' from by
   have h:=Cn.tS (fun c=>(W1.heap.size<=c/\c<W2.heap.size)∨c=ub) ((bF ps wi).n:Nat) (bF ps wi).cl cp cc ((Cn.cG K).map fun x=>decide (0<x)) (.slice (some ⟨ub,0,none⟩) (bF ps wi).n (bF ps wi).n) wr (fun c hc=>hc.elim (fun h=>Nat.lt_of_lt_of_le h.2 KC15.out.size) fun h=>h ▸ U1.out.facts.2.2) ⟨(HCLS.out.keep (B:=W2.heap.size) (fun c hc=>hc.2) KC15.out).mono (fun _ _=>rfl) fun c hc=> .inl hc,fun c hc x hx=>by
    obtain ⟨-,g2,-,g4,-⟩:=fZ HZW.out
    have:=((g4 c hc).1 x hx).2
    unfold Cn.InR
    omega⟩ (tN U1.out (by rw [List.length_map];exact hlk) (by omega) (.inr rfl))
   rw [HMD.out.1,HMD.out.2] at h
   exact h)
  clear hje hj hlt hlk F1
  go_wp2_with fail
  refine HHO.out.mono ?_
  rintro e W16 ⟨rfl,k16⟩
  have K16:=hid (K15.out.trans k16)
  have hf0:W16.cell? ⟨fb,0,none⟩=some (.int .i64 ((bF ps wi).n:Nat)):=(k16.cell (p:=⟨fb,0,none⟩) hfl).trans hf0
  have hfl:fb<W16.heap.size:=Nat.lt_of_lt_of_le hfl k16.size
  clear k16
  go_wp2_with fail
  go_ret
  exact ⟨rfl,K16.out⟩
 ·obtain rfl:may=false:=by
   cases may with
   | false=>rfl
   | true=>exact absurd hfails (HEM.out.1 rfl).1
  clear hfails hn k13 F13
  go_wp2_with fail
  go_ret
  exact ⟨rfl,K13.out⟩
end Go.Proofs.YtonlloiemgdfkaaGreatDoor
namespace Go.Proofs.YtonlloiemgdfkaaGreatDoor
open Go.ChangeShapes Go.WideShapes Go.ChangeAt Go.RowKit Go.Joins
theorem aNo {H:Type} {enc:TypeId × Value->H} {w:World} {base b0:Nat} {sp:Nat->Bool} {held:Bool} {x:Value} {d:DataW H} {p:List MemPlace} (hv:Value.okWide Tryz.prog w .any b0 27 x) (h:DataW.Trod enc Tryz.prog w base sp held 27 x d p) :
  ∃ zs:List Int,aG (fun b=>b<w.heap.size) w zs x/\fB x:=by
 obtain ⟨a,len,cap,rfl⟩:=okWide_slice Tryz.underlying27 hv
 obtain ⟨fuel,hf⟩:=h
 obtain ⟨zs,v,e,hm⟩:=aBa hf
 have hx:Value.slice a len cap=v:=by simpa [Value.cells] using e
 refine ⟨zs,by rw [hx];exact hm,?_⟩
 rcases DataW.trod_slice Tryz.underlying27 hf with ⟨e,-⟩ | ⟨ad,len',cap',elems,rest,mm,hmm,e,-,-,hlc,-⟩
 ·have e:Value.slice a len cap=.slice none 0 0:=by simpa [Value.cells] using e
  rw [e];exact iG
 ·have e:Value.slice a len cap=.slice (some ad) len' cap':=by simpa [Value.cells] using e
  intro p n c e'
  rw [e] at e'
  cases e'
  exact hlc
end Go.Proofs.YtonlloiemgdfkaaGreatDoor
