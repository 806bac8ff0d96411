/- Steps of the proof: EncChoose, EncEncodeM. -/
import Derived.Test.YthaaaecmeafofaaGreatDoorRb23
import Derived.Test.YthaaaecmeafofaaGreatDoorRb22
import Derived.Deep.RegionHeld3
import Derived.Test.YthaaaecmeafofaaGreatDoorRb24
import Derived.Test.YthaaaecmeafofaaGreatDoorRb19
import Derived.Deep.CutBlock
set_option maxHeartbeats 16000000
set_option maxRecDepth 100000
namespace Go.Proofs.YthaaaecmeafofaaGreatDoor
open Go.RowKit
theorem aMj {w:World} {pv tsv inv mav onv:Value} {n:Nat} {w3:World} (h:((((w.alloc (.cells #[pv] 24)).alloc (.cells #[tsv,inv,mav,onv] 46)).alloc (.cells #[.int .i64 0,.slice none 0 0,.map none] 134))).grownBy w3 none) (hr:aD (w.heap.size+3) 3 (List.replicate n (Value.int .i64 0)).toArray w3) :
  CM w.heap.size w3.heap.size pv tsv inv mav onv n (List.replicate n 0) 0 (fun _ _=>0) 0 ((w3.alloc (.map #[] 0)).alloc (.cells #[.int .i64 0,.slice (some ⟨w.heap.size+3,0,none⟩) n n,.map (some w3.heap.size)] 134))/\aA w ((w3.alloc (.map #[] 0)).alloc (.cells #[.int .i64 0,.slice (some ⟨w.heap.size+3,0,none⟩) n n,.map (some w3.heap.size)] 134)):=by
 have b0:=aE.new w 24 pv
 have z0:=aC w (.cells #[pv] 24)
 have k0:=aA.alloc w (.cells #[pv] 24)
 generalize w.alloc (.cells #[pv] 24)=a0 at *
 have b1:=aD.new a0 46 #[tsv,inv,mav,onv]
 have z1:=aC a0 (.cells #[tsv,inv,mav,onv] 46)
 have k1:=aA.alloc a0 (.cells #[tsv,inv,mav,onv] 46)
 generalize a0.alloc (.cells #[tsv,inv,mav,onv] 46)=a1 at *
 have b2:=aD.new a1 134 #[.int .i64 0,.slice none 0 0,.map none]
 have z2:=aC a1 (.cells #[.int .i64 0,.slice none 0 0,.map none] 134)
 have k2:=aA.alloc a1 (.cells #[.int .i64 0,.slice none 0 0,.map none] 134)
 generalize a1.alloc (.cells #[.int .i64 0,.slice none 0 0,.map none] 134)=a2 at *
 have k3:aA a2 w3:=⟨h.os,h.tape,h.output,h.size,fun b hb=>h.block b hb (by simp)⟩
 have hrl:=hr.facts.2.2
 have b4:=Cn.rO w3
 have z4:=aC w3 (.map #[] 0)
 have k4:=aA.alloc w3 (.map #[] 0)
 have b5:=aD.new (w3.alloc (.map #[] 0)) 134 #[.int .i64 0,.slice (some ⟨w.heap.size+3,0,none⟩) n n,.map (some w3.heap.size)]
 have k5:=aA.alloc (w3.alloc (.map #[] 0)) (.cells #[.int .i64 0,.slice (some ⟨w.heap.size+3,0,none⟩) n n,.map (some w3.heap.size)] 134)
 rw [z0] at b1
 rw [z1,z0] at b2
 rw [z4] at b5
 have k35:=(k3.trans k4).trans k5
 refine ⟨⟨b0.keep ((k1.trans k2).trans k35) (by omega),b1.keep (k2.trans k35) (by omega),b2.keep k35 (by omega),?_,b4.keep k5,b5,by omega⟩,((k0.trans k1).trans k2).trans k35⟩
 rw [List.map_replicate]
 exact hr.keep (k4.trans k5) hrl
theorem oY (S:Nat->Prop) (ps:List PK) (wi:WI) (pv tsv inv mav onv:Value) (w:World) (hS : ∀ b,S b->b<w.heap.size) (hp:bC S w ps pv) (hw:dZ S w wi tsv inv mav onv) (h8:ps.length<=8) (hfl : ∀ p∈ps,p.fl.length<=2) (hok:(aB ps wi).Ok) (hin : ∀ x∈plI wi.ins,0<=x/\x<ps.length) (hil:wi.ins.length<=8) (hmany:(aB ps wi).many<=14) (hon:(∀ q∈wi.on,0<=q.1/\q.1<ps.length/\0<=q.2/\q.2<(ps.getD q.1.toNat PK.zero).fl.length)/\wi.on.Nodup/\wi.on.length<=32) :
  Calls Tryz.prog 81 #[.agg #[pv],.agg #[tsv,inv,mav,onv]] w fun e w'=> ∃ g k,e=.returned (.agg #[.int .i64 (aB ps wi).many,.slice (some ⟨w.heap.size+3,0,none⟩) ps.length ps.length,.map (some g)])/\Cn.aH (fun b=>b=w.heap.size+3) w' (aB ps wi).tks (.slice (some ⟨w.heap.size+3,0,none⟩) ps.length ps.length)/\Cn.gH g k ((aB ps wi).fgs wi.on) w'/\w.heap.size+4<=g/\aA w w':=by
 obtain ⟨i0,hi,hz0,hz1,hz2⟩:=info_parts dG
 have HP:=hid hp
 have HW:=hid hw
 have HOK:=hid hok
 have HIN:=hid hin
 have HON:=hid hon
 have HFL:=hid hfl
 have hent:=aEw
 have hmm:= @run_makeMap Tryz.prog
 have hnl:=cB ps wi
 have HIL:=hid (show (aB ps wi).ins.length=wi.ins.length by simp [aB])
 obtain ⟨pp,pc,hpv,hplen⟩:=hp.len
 obtain ⟨ip,ic,hiv,hilen⟩:=hw.ins.len
 subst hpv
 subst hiv
 obtain ⟨ct,hct⟩ : ∃ ct,ct=aB ps wi:=⟨_,rfl⟩
 have hnfg : ∀ (i:Nat) (hi:i<ps.length),(aB ps wi).nf.getD i 0=ps[i].fl.length:=fun i hi=>by rw [kN wi hi,fD ps i hi]
 rw [← hct] at HOK HIL hnl hnfg hmany ⊢
 have HNFG:=hid hnfg
 have HOC:=hid (show ∀ i k:Nat,ct.on i k=wi.on.contains ((i:Int),(k:Int)) by rw [hct];intro i k;rfl)
 clear hnfg
 have HCT:=hid hct
 clear hp hw hok hin hon hfl hct
 go_enter Tryz.func81,Tryz.ntmps81
 go_upto_region 3 with (at_make;refine wpList_make_full _ rfl _ _ 37 rfl w.heap.size 3 i0 (.int .i64 0) 1 Tryz.underlying37 hi hz0 hz1 .i64 .i64 (ps.length:Int) (ps.length:Int) ps.length rfl rfl rfl rfl (by rw [hz2];omega) (by unfold maxLen;omega) (by rw [aC,aC,aC];omega) ?_;intro w3 h1 h2;have HST:=hid (aMj h2 (by have e:=Cn.gD (v:= .int .i64 0) rfl h1;rw [aC,aC,aC] at e;exact e));clear h1 h2)
 refine bF (fun W'=>CM w.heap.size w3.heap.size (.slice pp ps.length pc) tsv (.slice ip wi.ins.length ic) mav onv ps.length (List.replicate ps.length 0) 0 (fun _ _=>0) 0 W'/\aA w W') ?_ ?_
 ·exact HST.out
 rintro W4 ⟨c4,k4⟩
 have C4:=hid c4
 have K4:=hid k4
 clear c4 k4 HST
 generalize w3.heap.size=g at C4 ⊢
 have HNL:=hid hnl
 clear hnl
 obtain ⟨b,hb⟩ : ∃ b,b=w.heap.size:=⟨_,rfl⟩
 rw [← hb] at C4 ⊢
 have HB:=hid hb
 clear hb
 have hw1:W4.cell? ⟨b+1,1,none⟩=some (.slice ip wi.ins.length ic):=C4.out.wi.facts.1 1
 have hwl:=C4.out.wi.facts.2.2
 go_wp2_with fail
 clear hw1 hwl
 go_loopg [25] wi.ins.length (fun gk iv wr=> ∃ j:Nat,j+gk=wi.ins.length/\iv=.int .i64 j/\CM b g (.slice pp ps.length pc) tsv (.slice ip wi.ins.length ic) mav onv ps.length (ct.t1 j) j (fun _ _=>0) 0 wr/\aA w wr)
 case atStart=>exact ⟨0,by omega,rfl,by have:=C4.out;unfold Cn.CT.t1;rw [HNL.out];exact this,K4.out⟩
 case round=>
  obtain ⟨j,hj,rfl,hcm,hk⟩:=hrel
  have C1:=hid hcm
  have K1:=hid hk
  clear hcm hk C4 K4
  by_cases hlt:j<wi.ins.length
  ·obtain ⟨ib,io,ic2,hiv2,hib,-,hrow⟩:=(HW.out.ins.keep hS K1.out).get hlt
   cases hiv2
   obtain ⟨op,oc,hc0,hc1,hol,-⟩:=hrow j _ (List.getElem?_eq_getElem hlt)
   have hmi:=HIN.out wi.ins[j].pl (List.mem_map.2 ⟨_,List.getElem_mem hlt,rfl⟩)
   have HT1:=hid (show ct.t1 (j+1)=(ct.t1 j).set wi.ins[j].pl.toNat (-((j:Int)+1)) by
    rw [Cn.CT.t1,HCT.out]
    have:(aB ps wi).ins.getD j 0=wi.ins[j].pl.toNat:=by simp [aB,List.getD_eq_getElem?_getD,List.getElem?_eq_getElem hlt]
    rw [this])
   have hibl:=Nat.lt_of_lt_of_le (hS ib hib) K1.out.size
   generalize wi.ins[j]=mm at hc0 hc1 hol hmi HT1
   obtain ⟨i,hi'⟩ : ∃ i:Nat,mm.pl=(i:Int):=⟨mm.pl.toNat,by omega⟩
   rw [hi'] at hc0 HT1
   rw [Int.toNat_natCast] at HT1
   have hiI:(i:Int)<(ps.length:Int):=by omega
   have hjI:(j:Int)<(wi.ins.length:Int):=by omega
   have hwr:IntKind.i64.wrap (-((j:Int)+1)) = -((j:Int)+1):=cJ (by omega)
   clear hrow hmi hi'
   go_upto_region 6 with fail
   refine bF (fun W'=>aA wr W'/\aD wr.heap.size 64 #[.int .i64 i,.slice op mm.on.length oc] W') ⟨aA.alloc _ _,aD.new _ _ _⟩ ?_
   rintro W5 ⟨k5,b5⟩
   have C5:=hid (C1.out.keep k5)
   have K5:=hid (K1.out.trans k5)
   have hm0:W5.cell? ⟨wr.heap.size,0,none⟩=some (.int .i64 i):=b5.facts.1 0
   have hml:=b5.facts.2.2
   have hlt1:=C1.out.lt
   generalize wr.heap.size=bm at hm0 hml hlt1 ⊢
   have hs1:W5.cell? ⟨g+1,1,none⟩=some (.slice (some ⟨b+3,0,none⟩) ps.length ps.length):=C5.out.bx.facts.1 1
   have hsl:=C5.out.bx.facts.2.2
   have HS:=hid (show W5.cell? ⟨g+1,1,none⟩=some (.slice (some ⟨b+3,0,none⟩) ps.length ps.length)/\W5.cell? ⟨bm,0,none⟩=some (.int .i64 i) from ⟨hs1,hm0⟩)
   have HSd:=hid (show W5.drew.cell? ⟨g+1,1,none⟩=some (.slice (some ⟨b+3,0,none⟩) ps.length ps.length)/\W5.drew.cell? ⟨bm,0,none⟩=some (.int .i64 i) from ⟨hs1,hm0⟩)
   clear k5 b5 hc0 hc1 hibl
   go_region_held3 (fun W'=>W'.cell? ⟨g+1,1,none⟩=some (.slice (some ⟨b+3,0,none⟩) ps.length ps.length)/\W'.cell? ⟨bm,0,none⟩=some (.int .i64 i))
    (first | with_reducible exact HS.out | with_reducible exact HSd.out | with_reducible exact HS6.out | with_reducible exact HS7.out | go_keep)
    (first | (go_at_call 132;refine (rK (g+1) (j:Int) _ _ W5.drew (C5.out.keep (aA.drew (aA.refl _))).bx (by omega) (by omega)).mono ?_;rintro e w6 ⟨rfl,hw6⟩;have C6:=hid (show CM b g (.slice pp ps.length pc) tsv (.slice (some ⟨ib,io,none⟩) wi.ins.length ic) mav onv ps.length (ct.t1 j) ((j:Int)+1) (fun _ _=>0) 0 w6 from by rw [hw6];exact (C5.out.keep (aA.drew (aA.refl _))).next);have K6:=hid (show aA w w6 from by rw [hw6];exact aA.set (K5.out.trans (aA.drew (aA.refl _))) (by have:=HB.out;have:=hlt1;show _<=g+1;omega) _);have HS6:=hid (show w6.cell? ⟨g+1,1,none⟩=some (.slice (some ⟨b+3,0,none⟩) ps.length ps.length)/\w6.cell? ⟨bm,0,none⟩=some (.int .i64 i) from ⟨C6.out.bx.facts.1 1,by rw [hw6,Cn.eU _ _ _ _ (by omega)];exact hm0⟩);have hsz6:w6.heap.size=W5.drew.heap.size:=(by rw [hw6,Cn.fV]);clear hw6;obtain ⟨hcr6,hfr6⟩:=C6.out.at (i:=i) (by rw [Cn.CT.t1_len,HNL.out];omega);have hrl6:=C6.out.row.facts.2.2;have HS7:=hid (show (w6.setCell ⟨b+3,i,none⟩ (.int .i64 (-((j:Int)+1)))).cell? ⟨g+1,1,none⟩=some (.slice (some ⟨b+3,0,none⟩) ps.length ps.length)/\(w6.setCell ⟨b+3,i,none⟩ (.int .i64 (-((j:Int)+1)))).cell? ⟨bm,0,none⟩=some (.int .i64 i) from ⟨by rw [Cn.eU _ _ _ _ (by omega)];exact HS6.out.1,by rw [Cn.eU _ _ _ _ (by omega)];exact HS6.out.2⟩)))
   have C7:=hid (C6.out.set i (-((j:Int)+1)))
   have K7:=hid (aA.set K6.out (p:=⟨b+3,i,none⟩) (by have:=HB.out;show _<=b+3;omega) (.int .i64 (-((j:Int)+1))))
   go_wp2_with fail
   go_roundg (wi.ins.length-(j+1))
   case rel=>exact ⟨j+1,by omega,by go_num,by rw [HT1.out];have:=C7.out;rwa [show ((j+1:Nat):Int)=(j:Int)+1 by omega],K7.out⟩
   case measure=>omega
  ·obtain rfl:j=wi.ins.length:=by omega
   have ht0:wr.cell? ⟨b,0,none⟩=some (.slice pp ps.length pc):=C1.out.tr.facts.1
   have htl:=C1.out.tr.facts.2.2
   have C2:Hid (CM b g (.slice pp ps.length pc) tsv (.slice ip wi.ins.length ic) mav onv ps.length (ct.t2 0).1 (ct.t2 0).2 (fun _ _=>0) 0 wr):=by
    show CM _ _ _ _ _ _ _ _ _ _ _ _ _
    rw [Cn.CT.t2,HIL.out]
    exact C1.out
   have HT2:=hid (fun (k:Nat) (hk:k<=ct.nf.length)=>Cn.CT.t2_le HOK.out hk)
   clear C1
   obtain ⟨w1,hw1⟩ : ∃ w1:World,w1=wr:=⟨_,rfl⟩
   go_wp2_with fail
   clear ht0 htl
   go_loopg [41] ps.length (fun gk iv wr=> ∃ k:Nat,k+gk=ps.length/\iv=.int .i64 k/\CM b g (.slice pp ps.length pc) tsv (.slice ip wi.ins.length ic) mav onv ps.length (ct.t2 k).1 (ct.t2 k).2 (fun _ _=>0) 0 wr/\aA w wr)
   case atStart=>exact ⟨0,by omega,rfl,C2.out,K1.out⟩
   case round=>
    clear hw1 C2 K1
    obtain ⟨k,hk,rfl,hcm,hkp⟩:=hrel
    have C1:=hid hcm
    have K1:=hid hkp
    clear hcm hkp
    by_cases hkl:k<ps.length
    ·obtain ⟨hcr,hfr⟩:=C1.out.at (i:=k) (by rw [Cn.CT.t2_len,HNL.out];omega)
     have hrl:=C1.out.row.facts.2.2
     have hs1:wr.cell? ⟨g+1,1,none⟩=some (.slice (some ⟨b+3,0,none⟩) ps.length ps.length):=C1.out.bx.facts.1 1
     have hsl:=C1.out.bx.facts.2.2
     have hkI:(k:Int)<(ps.length:Int):=by omega
     have hcb:=HT2.out k (by rw [HNL.out];omega)
     have HN2:=hid (show ct.t2 (k+1)=if (ct.t2 k).1.getD k 0=0 then ((ct.t2 k).1.set k ((ct.t2 k).2+1),(ct.t2 k).2+1) else ct.t2 k from rfl)
     rw [HNL.out] at hcb
     by_cases h0:(ct.t2 k).1.getD k 0=0
     ·have h0':((ct.t2 k).1.getD k 0==0)=true:=by simpa using h0
      rw [h0] at hcr
      have HN3:=hid (HN2.out.trans (if_pos h0))
      have HL2:=hid (Cn.CT.t2_len ct k)
      generalize (ct.t2 k).2=cn at C1 hcb HN3
      generalize (ct.t2 k).1=tkk at C1 HN3 HL2
      clear h0 h0' HN2
      have HS:=hid hs1
      have HSd:=hid (show wr.drew.cell? ⟨g+1,1,none⟩=some (.slice (some ⟨b+3,0,none⟩) ps.length ps.length) from hs1)
      have hlt1:=C1.out.lt
      go_upto_region 12 with fail
      go_region_held3 (fun W'=>W'.cell? ⟨g+1,1,none⟩=some (.slice (some ⟨b+3,0,none⟩) ps.length ps.length))
       (first | with_reducible exact HS.out | with_reducible exact HSd.out | with_reducible exact HS6.out | with_reducible exact HS7.out | go_keep)
       (first | (go_at_call 132;refine (rK (g+1) cn _ _ wr.drew (C1.out.keep (aA.drew (aA.refl _))).bx (by omega) (by omega)).mono ?_;rintro e w6 ⟨rfl,hw6⟩;have C6:=hid (show CM b g (.slice pp ps.length pc) tsv (.slice ip wi.ins.length ic) mav onv ps.length tkk (cn+1) (fun _ _=>0) 0 w6 from by rw [hw6];exact (C1.out.keep (aA.drew (aA.refl _))).next);have K6:=hid (show aA w w6 from by rw [hw6];exact aA.set (K1.out.trans (aA.drew (aA.refl _))) (by have:=HB.out;show _<=g+1;omega) _);clear hw6;have HS6:=hid (show w6.cell? ⟨g+1,1,none⟩=some (.slice (some ⟨b+3,0,none⟩) ps.length ps.length) from C6.out.bx.facts.1 1);obtain ⟨hcr6,hfr6⟩:=C6.out.at (i:=k) (by rw [HL2.out,HNL.out];omega);have hrl6:=C6.out.row.facts.2.2;have HS7:=hid (show (w6.setCell ⟨b+3,k,none⟩ (.int .i64 (cn+1))).cell? ⟨g+1,1,none⟩=some (.slice (some ⟨b+3,0,none⟩) ps.length ps.length) from (by rw [Cn.eU _ _ _ _ (by omega)];exact HS6.out))))
      have C7:=hid (C6.out.set k (cn+1))
      have K7:=hid (aA.set K6.out (p:=⟨b+3,k,none⟩) (by have:=HB.out;show _<=b+3;omega) (.int .i64 (cn+1)))
      go_wp2_with fail
      go_roundg (ps.length-(k+1))
      case rel=>exact ⟨k+1,by omega,by go_num,by rw [HN3.out];exact C7.out,K7.out⟩
      case measure=>omega
     ·have h0':((ct.t2 k).1.getD k 0==0)=false:=by simpa using h0
      have HN3:=hid (HN2.out.trans (if_neg h0))
      generalize (ct.t2 k).1.getD k 0=q at hcr h0 h0'
      go_wp2_with fail
      go_roundg (ps.length-(k+1))
      case rel=>exact ⟨k+1,by omega,by go_num,by rw [HN3.out];exact C1.out,K1.out⟩
      case measure=>omega
    ·obtain rfl:k=ps.length:=by omega
     have ht0:wr.cell? ⟨b,0,none⟩=some (.slice pp ps.length pc):=C1.out.tr.facts.1
     have htl:=C1.out.tr.facts.2.2
     have HD2:=hid (Cn.CT.t2_done HOK.out)
     have C2:Hid (CM b g (.slice pp ps.length pc) tsv (.slice ip wi.ins.length ic) mav onv ps.length ct.tks ((ct.base 0:Nat):Int) (ct.f3 0 0) (ct.base 0) wr):=by
      have h1:=C1.out
      rw [← HNL.out,HD2.out,HNL.out] at h1
      rw [Cn.CT.f3_zero]
      have h2:ct.base 0=ps.length:=by unfold Cn.CT.base;simp [HNL.out]
      rw [h2]
      exact h1.more (Nat.zero_le _)
     clear C1 HD2 HT2
     go_wp2_with fail
     clear ht0 htl
     go_loopg [60] ps.length (fun gk iv wr=> ∃ i:Nat,i+gk=ps.length/\iv=.int .i64 i/\CM b g (.slice pp ps.length pc) tsv (.slice ip wi.ins.length ic) mav onv ps.length ct.tks ((ct.base i:Nat):Int) (ct.f3 i 0) (ct.base i) wr/\aA w wr)
     case atStart=>exact ⟨0,by omega,rfl,C2.out,K1.out⟩
     case round=>
      clear C2 K1
      obtain ⟨i,hii,rfl,hcm,hkp⟩:=hrel
      have C1:=hid hcm
      have K1:=hid hkp
      clear hcm hkp
      by_cases hil2:i<ps.length
      ·obtain ⟨pb,po,pc2,hpv2,hpb,-,hrow⟩:=(HP.out.keep hS K1.out).get hil2
       cases hpv2
       obtain ⟨cs,hcs,hpj⟩:=hrow i hil2
       obtain ⟨kk,aa,fl,nt,kids,kp,fp,kc,fc,-,hflb,rfl,-,-⟩:=hpj.spelt
       obtain ⟨c0,c1,c2,c3,c4,c5,c6,c7,c8,c9,c10,c11,c12,c13⟩:=eO hcs
       have hpbl:=Nat.lt_of_lt_of_le (hS pb hpb) K1.out.size
       have hiI:(i:Int)<(ps.length:Int):=by omega
       have HNF:=hid (HNFG.out i hil2)
       have hf2:=HFL.out ps[i] (List.getElem_mem hil2)
       have HBS:=hid (aIx ct (i:=i) (by rw [HNL.out];exact hil2))
       generalize ps[i]=q at c0 c1 c2 c3 HNF hf2 hflb
       clear hrow hcs hpj
       go_upto_region 17 with fail
       refine bF (fun W'=>aA wr W'/\aN wr.heap.size #[.string q.n,.int .i64 q.v,.int .i64 q.sl,.slice fp q.fl.length fc,.int .i64 kk,.string aa.n,.int .i64 aa.op,.int .i64 aa.v,.int .i64 aa.sl,.string aa.f,.bool aa.on,.string fl,.bool nt,.slice kp kids.length kc] W') ⟨aA.alloc _ _,aN.new _ _ _⟩ ?_
       rintro W5 ⟨k5,b5⟩
       have C5:=hid (show CM b g (.slice (some ⟨pb,po,none⟩) ps.length pc) tsv (.slice ip wi.ins.length ic) mav onv ps.length ct.tks ((ct.base i+0:Nat):Int) (ct.f3 i 0) (ct.base i+0) W5 from C1.out.keep k5)
       have K5:=hid (K1.out.trans k5)
       have hq3:W5.cell? ⟨wr.heap.size,3,none⟩=some (.slice fp q.fl.length fc):=b5.2 3
       have hql:=b5.1
       clear k5 b5 c0 c1 c2 c3 c4 c5 c6 c7 c8 c9 c10 c11 c12 c13 hpbl C1 K1
       obtain ⟨bq,hbq⟩ : ∃ bq,bq=wr.heap.size:=⟨_,rfl⟩
       rw [← hbq] at hq3 hql ⊢
       clear hbq
       go_wp2_with fail
       clear hq3 hql
       go_loopg [68] q.fl.length (fun gk iv wr=> ∃ k:Nat,k+gk=q.fl.length/\iv=.int .i64 k/\CM b g (.slice (some ⟨pb,po,none⟩) ps.length pc) tsv (.slice ip wi.ins.length ic) mav onv ps.length ct.tks ((ct.base i+k:Nat):Int) (ct.f3 i k) (ct.base i+k) wr/\aA w wr)
       case atStart=>exact ⟨0,by omega,rfl,C5.out,K5.out⟩
       case round=>
        clear C5 K5
        obtain ⟨k,hk,rfl,hcm,hkp⟩:=hrel
        have C1:=hid hcm
        have K1:=hid hkp
        clear hcm hkp
        by_cases hkl:k<q.fl.length
        ·have hs1:wr.cell? ⟨g+1,2,none⟩=some (.map (some g)):=C1.out.bx.facts.1 2
         have hsl:=C1.out.bx.facts.2.2
         have hkI:(k:Int)<(q.fl.length:Int):=by omega
         have hbl:=aPq ct (i+1)
         have HPUT:=hid (Cn.CT.f3_put ct (i:=i) (k:=k) (by rw [HNF.out];exact hkl))
         have hsi:Cn.SmP ((i:Nat):Int):=by unfold Cn.SmP;omega
         have hsk:Cn.SmP ((k:Nat):Int):=by unfold Cn.SmP;omega
         have hbb:ct.base i+k<=14:=by rw [HBS.out,HNF.out] at hbl;omega
         have HS:=hid hs1
         have HSd:=hid (show wr.drew.cell? ⟨g+1,2,none⟩=some (.map (some g)) from hs1)
         have hlt1:=C1.out.lt
         generalize ct.f3 i k=ff at C1 HPUT
         obtain ⟨cn,hcn⟩ : ∃ cn,cn=ct.base i+k:=⟨_,rfl⟩
         rw [← hcn] at C1 HPUT hbb
         have HCN:=hid hcn
         clear hcn hbl
         go_upto_region 20 with fail
         go_region_held3 (fun W'=>W'.cell? ⟨g+1,2,none⟩=some (.map (some g)))
          (first | with_reducible exact HS.out | with_reducible exact HSd.out | with_reducible exact HS6.out | with_reducible exact HS7.out | go_keep)
          (first | (go_at_call 132;refine (rK (g+1) (cn:Int) _ _ wr.drew (C1.out.keep (aA.drew (aA.refl _))).bx (by omega) (by omega)).mono ?_;rintro e w6 ⟨rfl,hw6⟩;have C6:=hid (show CM b g (.slice (some ⟨pb,po,none⟩) ps.length pc) tsv (.slice ip wi.ins.length ic) mav onv ps.length ct.tks ((cn:Int)+1) ff cn w6 from by rw [hw6];exact (C1.out.keep (aA.drew (aA.refl _))).next);have K6:=hid (show aA w w6 from by rw [hw6];exact aA.set (K1.out.trans (aA.drew (aA.refl _))) (by have:=HB.out;show _<=g+1;omega) _);clear hw6;have HS6:=hid (show w6.cell? ⟨g+1,2,none⟩=some (.map (some g)) from C6.out.bx.facts.1 2);obtain ⟨w7,hrun7,hm7,hg7⟩:=C6.out.mp.put Cn.rQ hsi hsk (v:=(cn:Int)+1) (by unfold Cn.SmP;omega) (by omega);have C7:=hid (C6.out.put hm7 hg7);have K7:=hid (show aA w w7 from Below.grown K6.out hg7 K6.out.size (fun g' hg'=>by have:=Option.some.inj hg';have:=HB.out;omega));have HS7:=hid (show w7.cell? ⟨g+1,2,none⟩=some (.map (some g)) from C7.out.bx.facts.1 2);clear hm7 hg7))
         go_wp2_with fail
         go_roundg (q.fl.length-(k+1))
         case rel=>exact ⟨k+1,by omega,by go_num,by
          have h7:=C7.out
          rw [HPUT.out] at h7
          have e:=HCN.out
          rw [show ct.base i+(k+1)=cn+1 by omega]
          exact h7,K7.out⟩
         case measure=>omega
        ·obtain rfl:k=q.fl.length:=by omega
         have C2:Hid (CM b g (.slice (some ⟨pb,po,none⟩) ps.length pc) tsv (.slice ip wi.ins.length ic) mav onv ps.length ct.tks ((ct.base (i+1):Nat):Int) (ct.f3 (i+1) 0) (ct.base (i+1)) wr):=by
          have h1:=C1.out
          rw [Cn.CT.f3_next ct (i:=i) HNF.out.symm] at h1
          rw [HBS.out,HNF.out]
          exact h1
         clear C1
         go_wp2_with fail
         go_roundg (ps.length-(i+1))
         case rel=>exact ⟨i+1,by omega,by go_num,C2.out,K1.out⟩
         case measure=>omega
      ·obtain rfl:i=ps.length:=by omega
       have hw3:wr.cell? ⟨b+1,3,none⟩=some onv:=C1.out.wi.facts.1 3
       have hwl:=C1.out.wi.facts.2.2
       have C2:Hid (CM b g (.slice pp ps.length pc) tsv (.slice ip wi.ins.length ic) mav onv ps.length ct.tks ((ct.many:Nat):Int) (ct.f4 wi.on 0) (14+0) wr):=by
        have h1:=C1.out
        rw [Cn.CT.f4_zero]
        have h2:=aLz ct
        rw [HNL.out] at h2 ⊢
        rw [h2] at h1
        exact h1.more (by omega)
       obtain ⟨op,oc,hov,holen⟩:=HW.out.on.len
       have HOV:=hid hov
       rw [hov] at hw3
       clear C1 hov
       go_wp2_with fail
       clear hw3 hwl
       go_loopg [83] wi.on.length (fun gk iv wr=> ∃ j:Nat,j+gk=wi.on.length/\iv=.int .i64 j/\CM b g (.slice pp ps.length pc) tsv (.slice ip wi.ins.length ic) mav onv ps.length ct.tks ((ct.many:Nat):Int) (ct.f4 wi.on j) (14+j) wr/\aA w wr)
       case atStart=>exact ⟨0,by omega,rfl,C2.out,K1.out⟩
       case round=>
        clear C2 K1
        obtain ⟨j,hj,rfl,hcm,hkp⟩:=hrel
        have C1:=hid hcm
        have K1:=hid hkp
        clear hcm hkp
        by_cases hjl:j<wi.on.length
        ·obtain ⟨ob,oo,hop,hob,hocc⟩:=((HOV.out ▸ HW.out.on).keep hS K1.out).get (by omega)
         subst hop
         obtain ⟨hc0,hc1⟩:=hocc j hjl
         have hobl:=Nat.lt_of_lt_of_le (hS ob hob) K1.out.size
         have hjI:(j:Int)<(wi.on.length:Int):=by omega
         have e1:wi.on.getD j (0,0)=wi.on[j]:=by simp [List.getD_eq_getElem?_getD,hjl]
         rw [e1] at hc0 hc1
         have hq:=HON.out.1 wi.on[j] (List.getElem_mem hjl)
         have HPUT:=hid (Cn.CT.f4_put ct HON.out.2.1 hjl)
         have hq2:wi.on[j].2<1000:=by
          have h3:(ps.getD wi.on[j].1.toNat PK.zero).fl.length<=2:=HFL.out _ (by rw [List.getD_eq_getElem?_getD,List.getElem?_eq_getElem (show wi.on[j].1.toNat<ps.length by omega)];exact List.getElem_mem _)
          omega
         generalize wi.on[j]=q at hc0 hc1 hq hq2 HPUT
         obtain ⟨qx,qy⟩:=q
         dsimp only at hc0 hc1 hq hq2 HPUT
         have hsx:Cn.SmP qx:=by unfold Cn.SmP;omega
         have hsy:Cn.SmP qy:=by unfold Cn.SmP;omega
         have hf4:=Cn.CT.f4_le ct wi.on j qx qy
         have hol2:=HON.out.2.2
         clear hocc e1 hq hq2
         go_upto_region 26 with fail
         refine bF (fun W'=>aA wr W'/\aD wr.heap.size 65 #[.int .i64 qx,.int .i64 qy] W') ⟨aA.alloc _ _,aD.new _ _ _⟩ ?_
         rintro W5 ⟨k5,b5⟩
         have C5:=hid (C1.out.keep k5)
         have K5:=hid (K1.out.trans k5)
         have hm0:W5.cell? ⟨wr.heap.size,0,none⟩=some (.int .i64 qx):=b5.facts.1 0
         have hm1:W5.cell? ⟨wr.heap.size,1,none⟩=some (.int .i64 qy):=b5.facts.1 1
         have hml:=b5.facts.2.2
         have hlt1:=C1.out.lt
         obtain ⟨bm,hbm⟩ : ∃ bm,bm=wr.heap.size:=⟨_,rfl⟩
         rw [← hbm] at hm0 hm1 hml hlt1 ⊢
         clear hbm
         have hs1:W5.cell? ⟨g+1,2,none⟩=some (.map (some g)):=C5.out.bx.facts.1 2
         have hsl:=C5.out.bx.facts.2.2
         have hlkd:=(C5.out.keep (aA.drew (aA.refl W5))).mp.look Cn.rQ hsx hsy
         have hwr:IntKind.i64.wrap (-(ct.f4 wi.on j qx qy)) = -(ct.f4 wi.on j qx qy):=cJ (by omega)
         obtain ⟨w7,hrun7,hm7,hg7⟩:=(C5.out.keep (aA.drew (aA.refl W5))).mp.put Cn.rQ hsx hsy (v:= -(ct.f4 wi.on j qx qy)) (by unfold Cn.SmP;omega) (by omega)
         have C7:=hid ((C5.out.keep (aA.drew (aA.refl W5))).put hm7 hg7)
         have K7:=hid (show aA w w7 from Below.grown (K5.out.trans (aA.drew (aA.refl W5))) hg7 (K5.out.trans (aA.drew (aA.refl W5))).size (fun g' hg'=>by have:=Option.some.inj hg';have:=HB.out;omega))
         have HS:=hid (show W5.cell? ⟨g+1,2,none⟩=some (.map (some g))/\W5.cell? ⟨bm,0,none⟩=some (.int .i64 qx)/\W5.cell? ⟨bm,1,none⟩=some (.int .i64 qy) from ⟨hs1,hm0,hm1⟩)
         have HSd:=hid (show W5.drew.cell? ⟨g+1,2,none⟩=some (.map (some g))/\W5.drew.cell? ⟨bm,0,none⟩=some (.int .i64 qx)/\W5.drew.cell? ⟨bm,1,none⟩=some (.int .i64 qy) from ⟨hs1,hm0,hm1⟩)
         have HS7:=hid (show w7.cell? ⟨g+1,2,none⟩=some (.map (some g))/\w7.cell? ⟨bm,0,none⟩=some (.int .i64 qx)/\w7.cell? ⟨bm,1,none⟩=some (.int .i64 qy) from ⟨C7.out.bx.facts.1 2,(Cn.jC hg7 (b:=bm) (o:=0) hml (by omega)).trans hm0,(Cn.jC hg7 (b:=bm) (o:=1) hml (by omega)).trans hm1⟩)
         clear k5 b5 hc0 hc1 hobl hm7 hg7
         generalize ct.f4 wi.on j qx qy=fv at hlkd hwr hrun7 C7 HPUT
         go_region_held3 (fun W'=>W'.cell? ⟨g+1,2,none⟩=some (.map (some g))/\W'.cell? ⟨bm,0,none⟩=some (.int .i64 qx)/\W'.cell? ⟨bm,1,none⟩=some (.int .i64 qy))
          (first | with_reducible exact HS.out | with_reducible exact HSd.out | with_reducible exact HS7.out | go_keep)
          (fail)
         go_wp2_with fail
         go_roundg (wi.on.length-(j+1))
         case rel=>exact ⟨j+1,by omega,by go_num,by have h7:=C7.out;rw [HPUT.out] at h7;exact h7,K7.out⟩
         case measure=>omega
        ·obtain rfl:j=wi.on.length:=by omega
         have h50:wr.cell? ⟨g+1,0,none⟩=some (.int .i64 ((ct.many:Nat):Int)):=C1.out.bx.facts.1 0
         have h51:wr.cell? ⟨g+1,1,none⟩=some (.slice (some ⟨b+3,0,none⟩) ps.length ps.length):=C1.out.bx.facts.1 1
         have h52:wr.cell? ⟨g+1,2,none⟩=some (.map (some g)):=C1.out.bx.facts.1 2
         have h5l:=C1.out.bx.facts.2.2
         have hr0:wr.cell? ⟨b+2,0,none⟩=some (.int .i64 0):=C1.out.rs.facts.1 0
         have hr1:wr.cell? ⟨b+2,1,none⟩=some (.slice none 0 0):=C1.out.rs.facts.1 1
         have hr2:wr.cell? ⟨b+2,2,none⟩=some (.map none):=C1.out.rs.facts.1 2
         have hrf0:=C1.out.rs.facts.2.1 0
         have hrf1:=C1.out.rs.facts.2.1 1
         have hrf2:=C1.out.rs.facts.2.1 2
         have hrl:=C1.out.rs.facts.2.2
         have hlt1:=C1.out.lt
         go_wp2_with fail
         refine cE (v:= .agg #[.int .i64 ((ct.many:Nat):Int),.slice (some ⟨b+3,0,none⟩) ps.length ps.length,.map (some g)]) (fun W'=>aD (b+2) 134 #[.int .i64 ((ct.many:Nat):Int),.slice (some ⟨b+3,0,none⟩) ps.length ps.length,.map (some g)] W'/\aA w W'/\∀ c,c≠b+2->W'.heap[c]? = wr.heap[c]?) ⟨((C1.out.rs.set 0 (.int .i64 ((ct.many:Nat):Int))).set 1 (.slice (some ⟨b+3,0,none⟩) ps.length ps.length)).set 2 (.map (some g)),aA.set (aA.set (aA.set K1.out (p:=⟨b+2,0,none⟩) (by have:=HB.out;show _<=b+2;omega) _) (p:=⟨b+2,1,none⟩) (by have:=HB.out;show _<=b+2;omega) _) (p:=⟨b+2,2,none⟩) (by have:=HB.out;show _<=b+2;omega) _,fun c hc=>by rw [Cn.dM _ _ _ _ hc,Cn.dM _ _ _ _ hc,Cn.dM _ _ _ _ hc]⟩ rfl ?_
         rintro W ⟨hbW,hkW,hoW⟩
         have hW0:W.cell? ⟨b+2,0,none⟩=some (.int .i64 ((ct.many:Nat):Int)):=hbW.facts.1 0
         have hW1:W.cell? ⟨b+2,1,none⟩=some (.slice (some ⟨b+3,0,none⟩) ps.length ps.length):=hbW.facts.1 1
         have hW2:W.cell? ⟨b+2,2,none⟩=some (.map (some g)):=hbW.facts.1 2
         refine ⟨by simp [results,Tryz.results81,go_sem,hW0,hW1,hW2],g,14+wi.on.length,by rw [← HB.out],?_,C1.out.mp.at (hoW g (by omega)),by rw [← HB.out];omega,hkW⟩
         rw [← HB.out]
         exact aMh (by have:=C1.out.row;unfold aD at *;rw [hoW _ (by omega)];exact this) (by rw [Cn.CT.tks_len,HNL.out]) (by omega)
theorem aMd (ct:Cn.CT):Cn.Bd (sR ct) ct.many 0:=⟨Nat.le_refl _,by simp [sR],fun a b=>by simp [sR]⟩
theorem aRf {ps:List PK} {wi:WI} (hok:(aB ps wi).Ok) (h8:ps.length<=8) : ∀ (ts:List At) (s:Cn.DS) (m c:Nat),Cn.Bd s m c->(aB ps wi).many<=m->Cn.Bd (ts.foldl (tgS ps (aB ps wi)) s) (m+8*ts.length) (c+25*ts.length)
 | [],s,m,c,h,_=>h.mono (by omega) (by omega)
 | a :: ts,s,m,c,h,hm=>by
  rw [List.foldl_cons,List.length_cons]
  have h1:=(pP hok h8 h hm (-1) a).1
  exact (aRf hok h8 ts _ _ _ (h1.clause _) (by omega)).mono (by omega) (by omega)
theorem aRc {ct:Cn.CT} : ∀ (zs:List Int) (s:Cn.DS) (m c:Nat),Cn.Bd s m c->Cn.Bd (zs.foldl (maS ct) s) m (c+zs.length)
 | [],s,m,c,h=>h
 | z :: zs,s,m,c,h=>by
  rw [List.foldl_cons,List.length_cons]
  exact (aRc zs _ _ _ (h.clause _)).mono (Nat.le_refl _) (by omega)
theorem aRe {ps:List PK} {wi:WI} (hok:(aB ps wi).Ok) (hT:dA ps=0) {i:Nat} (hi:i<ps.length) {s:Cn.DS} {m c:Nat} (h:Cn.Bd s m c) (hm:(aB ps wi).many<=m):Cn.Bd (ndC ps (aB ps wi) i s) (m+200) (c+2001)/\Cn.Bd (pkS ps (aB ps wi) s i) (m+200) (c+2010)/\(ndS ps (aB ps wi) i (ps.getD i PK.zero).nd s).2.natAbs<=m+200:=by
 obtain ⟨h8,hp⟩:=dN hT
 have hP:=hp (ps.getD i PK.zero) (by rw [List.getD_eq_getElem?_getD,List.getElem?_eq_getElem hi];exact List.getElem_mem hi)
 obtain ⟨-,-,-,-,hN⟩:=iY hP
 have hs:=(jN (cZ.1 hN).1).1
 obtain ⟨g1,g2⟩:=aRd hok h8 hi (ps.getD i PK.zero).nd s m c h hm (nB hP) (by omega)
 have g3:Cn.Bd (ndC ps (aB ps wi) i s) (m+200) (c+2001):=(g1.clause _).mono (by omega) (by omega)
 exact ⟨g3,(aMc g3 i).mono (by omega) (by omega),by omega⟩
theorem aMb {ps:List PK} {wi:WI} (hok:(aB ps wi).Ok) (hT:dA ps=0) {s:Cn.DS} {m c:Nat} (h:Cn.Bd s m c) (hm:(aB ps wi).many<=m) : ∀ j,j<=ps.length->Cn.Bd ((List.range j).foldl (pkS ps (aB ps wi)) s) (m+200*j) (c+2010*j)
 | 0,_=>h
 | j+1,hj=>by
  rw [lX]
  exact (aRe hok hT (by omega) (aMb hok hT h hm j (by omega)) (by omega)).2.1.mono (by omega) (by omega)
def aPg (ps:List PK) (wi:WI) (w:World) (e:Ending) (w':World):Prop:=
 aA w w'/\((bE ps wi≠0/\e=.returned (.tuple #[.agg #[.int .i64 0,.slice none 0 0],.int .i64 (bE ps wi)]))∨(bE ps wi=0/\∃ cv,e=.returned (.tuple #[.agg #[.int .i64 ((dQ ps wi).n:Nat),cv],.int .i64 0])/\Cn.eE (fun b=>w.heap.size<=b/\b<w'.heap.size) w' (dQ ps wi).cl cv))
structure EB (ps:List PK) (wi:WI) (pv tsv inv mav onv:Value) (b bx tb tc g1 g2:Nat) (n:Int) (w:World):Prop where
 tr:aE b 24 pv w
 ws:aD (b+1) 46 #[tsv,inv,mav,onv] w
 rs:aD (b+2) 79 #[.int .i64 0,.slice none 0 0] w
 dx:aD bx 148 #[.int .i64 (aB ps wi).many,.slice (some ⟨tb,0,none⟩) ps.length tc,.map (some g1),pv,.int .i64 n,.slice none 0 0,.map (some g2)] w
 tk:Cn.aH (fun c=>c=tb) w (aB ps wi).tks (.slice (some ⟨tb,0,none⟩) ps.length tc)
 fg : ∃ k,Cn.gH g1 k ((aB ps wi).fgs wi.on) w
 pr:Cn.gH g2 0 (fun _ _=>0) w
 far:b+3<=bx/\b+3<=tb/\b+3<=g1/\b+3<=g2/\bx≠tb/\bx≠g1/\bx≠g2/\tb≠g2/\g1≠g2/\tb<w.heap.size
def EB.x (ps:List PK) (wi:WI) (pv:Value) (bx tb tc g1 g2:Nat):Cn.DD:=⟨bx,(aB ps wi).many,.slice (some ⟨tb,0,none⟩) ps.length tc,g1,pv,.slice none 0 0,g2,0,fun _=>False,fun c=>c=tb∨c=g1⟩
theorem EB.dm {ps:List PK} {wi:WI} {pv tsv inv mav onv:Value} {b bx tb tc g1 g2:Nat} {w:World} (h:EB ps wi pv tsv inv mav onv b bx tb tc g1 g2 (aB ps wi).many w):Cn.DM (EB.x ps wi pv bx tb tc g1 g2) b (sR (aB ps wi)) w:=by
 have hf:=h.far
 exact ⟨⟨by show b<=bx;omega,by show b<=g2;omega,hf.2.2.2.2.2.2.1⟩,Nat.zero_le _,⟨by simp [EB.x,Value.ownBlock],by simp [EB.x,Value.ownBlock]⟩,h.dx,Cn.oQ.nil _ _ _,fun c hc=>hc.elim,h.pr⟩
theorem EB.own {ps:List PK} {wi:WI} {pv:Value} {bx tb tc g1 g2 c:Nat} (h:(EB.x ps wi pv bx tb tc g1 g2).own c):c=bx∨c=g2:=by
 rcases h with h | h | h | h
 ·exact .inl h
 ·simp [EB.x,Value.ownBlock] at h
 ·exact .inr h
 ·exact h.elim
theorem EB.dr {ps:List PK} {wi:WI} {pv tsv inv mav onv:Value} {b bx tb tc g1 g2:Nat} {n:Int} {w:World} (h:EB ps wi pv tsv inv mav onv b bx tb tc g1 g2 n w) (hp:bC (fun c=>c<b) w ps pv) (hc:kV pv):DR ps wi (EB.x ps wi pv bx tb tc g1 g2) b w:=by
 have hf:=h.far
 obtain ⟨k,hfg⟩:=h.fg
 refine ⟨h.tk.mono (fun _ _=>rfl) fun c hc=> .inl hc,h.fg,.inr rfl,hp,rfl,hc,fun c hr=>⟨?_,fun ho=> ?_⟩⟩
 ·rcases hr with rfl | rfl
  ·exact hf.2.2.2.2.2.2.2.2.2
  ·exact hfg.lt
 ·rcases EB.own ho with rfl | rfl<;>rcases hr with rfl | rfl<;>omega
end Go.Proofs.YthaaaecmeafofaaGreatDoor
