/- Steps of the proof: ResResolve, ResUnm, RefSame, TreeSame, TreeSet, EqualInts, ResClosed. -/
import Derived.Test.YtonlloiemgdfkaaGreatDoorRp21
import Derived.Test.YtonlloiemgdfkaaGreatDoorRp24
import Derived.Test.YtonlloiemgdfkaaGreatDoorRp25
import Derived.Test.YtonlloiemgdfkaaGreatDoorRp28
import Derived.BigQuiet
import Derived.Test.YtonlloiemgdfkaaGreatDoorRp19
import Derived.Test.YtonlloiemgdfkaaGreatDoorRp17
import Derived.Test.YtonlloiemgdfkaaGreatDoorRp10
import Derived.Test.YtonlloiemgdfkaaGreatDoorRp09
import Derived.Shelf.Spec.SlicesGrow
import Derived.Laws.AppendOwnNone
import Derived.Sort.OwnSortedInts
set_option maxHeartbeats 16000000
set_option maxRecDepth 100000
namespace Go.Proofs.YtonlloiemgdfkaaGreatDoor
open Go.RowKit
def iF (ps:List PK) (wi:WI) (s:Int) (w:World) (e:Ending) (w':World):Prop:=
 aA w w'/\((bF ps wi≠0/\e=.returned (.tuple #[.slice none 0 0,.slice none 0 0,.int .i64 (bF ps wi)]))
  ∨(bF ps wi=0/\(cM ps wi s).er≠0/\e=.returned (.tuple #[.slice none 0 0,.slice none 0 0,.int .i64 (cM ps wi s).er]))
  ∨(bF ps wi=0/\(cM ps wi s).er=0/\(cM ps wi s).P ≠ []/\∃ pv,e=.returned (.tuple #[.slice none 0 0,pv,.int .i64 7])/\Cn.dU (fun b=>w.heap.size<=b/\b<w'.heap.size) w' (cM ps wi s).P pv)
  ∨(bF ps wi=0/\(cM ps wi s).er=0/\(cM ps wi s).P = []/\∃ v,e=.returned (.tuple #[v,.slice none 0 0,.int .i64 0])/\bI (fun b=>w.heap.size<=b/\b<w'.heap.size) w' (bU ps wi (cM ps wi s).m) v))
theorem fS (S:Nat->Prop) (ps:List PK) (wi:WI) (s:Int) (pv tsv inv mav onv:Value) (w:World) (hS : ∀ b,S b->b<w.heap.size) (hp:bC S w ps pv) (hw:eH S w wi tsv inv mav onv) (hcap:kP pv) :
  Calls Tryz.prog 15 #[.agg #[pv],.agg #[tsv,inv,mav,onv],.int .i64 s] w fun e w'=>iF ps wi s w e w':=by
 have HP:=hid hp
 have HW:=hid hw
 clear hp hw
 go_enter Tryz.func15,Tryz.ntmps15
 go_upto_region 1 with fail
 refine bO (fun W'=>aA w W'/\aD w.heap.size 24 pv W'/\aE (w.heap.size+1) 30 #[tsv,inv,mav,onv] W') ⟨(aA.alloc _ _).alloc' _,(aD.new _ _ _).keep (aA.alloc _ _) (by simp),?_⟩ ?_
 ·have:=aE.new (w.alloc (.cells #[pv] 24)) 30 #[tsv,inv,mav,onv]
  rw [aC] at this;exact this
 rintro W1 ⟨k1,v1,b1⟩
 have K1:=hid k1
 have V1:=hid v1
 have B1:=hid b1
 generalize w.heap.size=b at V1 B1 ⊢
 clear k1 v1 b1
 have ht0:=V1.out.facts.1
 have htl:=V1.out.facts.2.2
 have hw0:W1.cell? ⟨b+1,0,none⟩=some tsv:=B1.out.facts.1 0
 have hw1:W1.cell? ⟨b+1,1,none⟩=some inv:=B1.out.facts.1 1
 have hw2:W1.cell? ⟨b+1,2,none⟩=some mav:=B1.out.facts.1 2
 have hw3:W1.cell? ⟨b+1,3,none⟩=some onv:=B1.out.facts.1 3
 have hwl:=B1.out.facts.2.2
 go_wp2_with fail
 refine (tM S ps wi _ _ _ _ _ W1 (fun c hc=>Nat.lt_of_lt_of_le (hS c hc) K1.out.size) (HP.out.keep hS K1.out) (HW.out.keep hS K1.out) hcap).mono ?_
 rintro e W2 ⟨k2,h2⟩
 have K2:=hid (K1.out.trans k2)
 have V2:=hid (V1.out.keep k2 V1.out.facts.2.2)
 have B2:=hid (B1.out.keep k2 B1.out.facts.2.2)
 clear ht0 htl hw0 hw1 hw2 hw3 hwl V1 B1 k2
 rcases h2 with ⟨hz,rfl⟩ | ⟨hz,cv,rfl,hcls⟩
 ·have hz1:(bF ps wi==0)=false:=by simpa using hz
  have hz2:(bF ps wi != 0)=true:=by simp [bne,hz1]
  have HZ:=hid hz
  obtain ⟨cw,hcw⟩ : ∃ cw,cw=bF ps wi:=⟨_,rfl⟩
  have HCW:=hid hcw
  rw [← hcw] at hz1 hz2 ⊢
  clear hz hcw
  go_wp2_with fail
  refine cE (v:= .tuple #[.slice none 0 0,.slice none 0 0,.int .i64 cw]) (fun W'=>aA w W') (K2.out.alloc' _) rfl ?_
  intro W hkW
  exact ⟨by simp [results,Tryz.results15,go_sem],hkW,.inl ⟨HZ.out,by rw [HCW.out]⟩⟩
 obtain ⟨cp,cc,rfl,hcl⟩:=hcls.len
 have HCLS:=hid hcls
 have HZ:=hid hz
 have HF:=hid (show ∀ c∈(cY ps wi).cl,∀ x∈c,Cn.InR x from fun c hc x hx=>by
  obtain ⟨-,g2,-,g4,-⟩:=jV hz
  have:=((g4 c hc).1 x hx).2
  unfold Cn.InR
  omega)
 clear hcls hz
 go_wp2_with fail
 refine aU (fun W'=>aA W2 W') (aA.alloc _ _) ?_
 intro W3 k3
 refine (Cn.aKa (fun b=>W1.heap.size<=b/\b<W2.heap.size) _ (cY ps wi).cl cp cc s W3 (fun c hc=>Nat.lt_of_lt_of_le hc.2 k3.size) ⟨HCLS.out.keep (B:=W2.heap.size) (fun c hc=>hc.2) k3,HF.out⟩).mono ?_
 rintro e W4 ⟨k4,mv,pv4,rfl,hbo,hpr⟩
 have k4:aA W3 W4:=k4
 have hpr:Cn.dU (fun c=>W3.heap.size<=c/\c<W4.heap.size) W4 (cM ps wi s).P pv4:=hpr
 have hbo:Cn.aZ (fun c=>W3.heap.size<=c/\c<W4.heap.size) W4 (cM ps wi s).m mv:=hbo
 have KS:=hid (K2.out.trans k3).size
 rw [show Cn.oC ((cY ps wi).n:Nat) (cY ps wi).cl s=cM ps wi s from rfl]
 have K4:=hid ((K2.out.trans k3).trans k4)
 have V4:=hid (V2.out.keep (k3.trans k4) V2.out.facts.2.2)
 have B4:=hid (B2.out.keep (k3.trans k4) B2.out.facts.2.2)
 obtain ⟨pp4,pc4,rfl,hpl⟩:=hpr.len
 obtain ⟨mp4,mc4,rfl,hml,-⟩:=id hbo
 have HBO:=hid hbo
 have HPR:=hid hpr
 clear V2 B2 HCLS HF hbo hpr k3 k4
 obtain ⟨er,her⟩ : ∃ er,er=(cM ps wi s).er:=⟨_,rfl⟩
 have HER:=hid her
 rw [← her]
 clear her
 by_cases he:er=0
 ·subst he
  obtain ⟨pl,hpe⟩ : ∃ pl:Nat,pl=(cM ps wi s).P.length:=⟨_,rfl⟩
  have HPE:=hid hpe
  rw [← hpe] at HPR hpl ⊢
  clear hpe
  go_upto_region 7 with fail
  refine bO (fun W'=>aA W4 W'/\aE W4.heap.size 117 #[.slice mp4 (cM ps wi s).m.length mc4,.slice pp4 pl pc4] W') ⟨aA.alloc _ _,aE.new _ _ _⟩ ?_
  rintro W5 ⟨k5,b5⟩
  have K5:=hid (K4.out.trans k5)
  have HK5:=hid k5
  have V5:=hid (V4.out.keep k5 V4.out.facts.2.2)
  have B5:=hid (B4.out.keep k5 B4.out.facts.2.2)
  have X5:=hid b5
  have ha4:w.heap.size<=W4.heap.size:=K4.out.size
  generalize W4.heap.size=ab at X5 ha4 ⊢
  clear V4 B4 k5 b5
  have ha0:W5.cell? ⟨ab,0,none⟩=some (.slice mp4 (cM ps wi s).m.length mc4):=X5.out.facts.1 0
  have ha1:W5.cell? ⟨ab,1,none⟩=some (.slice pp4 pl pc4):=X5.out.facts.1 1
  have hal:=X5.out.facts.2.2
  by_cases hp0:0<pl
  ·have hp1:(0:Int)<(pl:Int):=by omega
   go_upto_region 8 with fail
   go_quiet (fail)
   go_wp2_with fail
   refine cE (v:= .tuple #[.slice none 0 0,.slice pp4 pl pc4,.int .i64 7]) (fun W'=>aA W5 W') ((aA.refl _).drewN _) rfl ?_
   intro W hkW
   refine ⟨by simp [results,Tryz.results15,go_sem],K5.out.trans hkW,.inr (.inr (.inl ⟨HZ.out,HER.out.symm,fun e=> ?_,_,rfl,?_⟩))⟩
   ·have:=HPE.out;rw [e] at this;simp at this;omega
   ·exact HPR.out.mono (fun p hp=>(HK5.out.trans hkW).cell (p:=p) hp.2) fun c hc=>⟨Nat.le_trans KS.out hc.1,Nat.lt_of_lt_of_le hc.2 (HK5.out.trans hkW).size⟩
  have hp1 : ¬ (0:Int)<(pl:Int):=by omega
  have ht0:=V5.out.facts.1
  have htl:=V5.out.facts.2.2
  have hw0:W5.cell? ⟨b+1,0,none⟩=some tsv:=B5.out.facts.1 0
  have hw1:W5.cell? ⟨b+1,1,none⟩=some inv:=B5.out.facts.1 1
  have hw2:W5.cell? ⟨b+1,2,none⟩=some mav:=B5.out.facts.1 2
  have hw3:W5.cell? ⟨b+1,3,none⟩=some onv:=B5.out.facts.1 3
  have hwl:=B5.out.facts.2.2
  have hPn:(cM ps wi s).P = []:=by
   have:=HPE.out
   exact List.length_eq_zero_iff.1 (by omega)
  have HPN:=hid hPn
  clear hPn
  go_wp2_with fail
  refine (aPx (fun c=>c<W5.heap.size) ps wi (cM ps wi s).m _ _ _ _ _ _ W5 (fun _ h=>h) ((HP.out.keep hS K5.out).mono (fun _ _=>rfl) fun c hc=>Nat.lt_of_lt_of_le (hS c hc) K5.out.size) ((HW.out.keep hS K5.out).mono fun c hc=>Nat.lt_of_lt_of_le (hS c hc) K5.out.size) (aZ.mono (S:=fun c=>W3.heap.size<=c/\c<W4.heap.size) (fun p hp=>HK5.out.cell (p:=p) hp.2) (fun c hc=>Nat.lt_of_lt_of_le hc.2 HK5.out.size) HBO.out)).mono ?_
  have HOK:=hid ((uW HZ.out HER.out.symm).resolve_right fun h=>h.1 HPN.out)
  rintro e W6 ⟨k6,⟨h0,-⟩ | ⟨-,h0,-⟩ | ⟨-,-,-,v6,rfl,hm6⟩⟩
  ·exact absurd HZ.out h0
  ·have:=HOK.out;omega
  have K6:=hid (K5.out.trans k6)
  have HM6:=hid hm6
  clear hm6 k6
  go_wp2_with fail
  refine cE (v:= .tuple #[v6,.slice none 0 0,.int .i64 0]) (fun W'=>W'=W6) rfl rfl ?_
  rintro W rfl
  exact ⟨by simp [results,Tryz.results15,go_sem],K6.out,.inr (.inr (.inr ⟨HZ.out,HER.out.symm,HPN.out,_,rfl,HM6.out.mono (fun _ _=>rfl) fun c hc=>⟨Nat.le_trans K5.out.size hc.1,hc.2⟩⟩))⟩
 ·have hz1:(er==0)=false:=by simpa using he
  have hz2:(er != 0)=true:=by simp [bne,hz1]
  have HE:=hid he
  clear he
  go_wp2_with fail
  refine cE (v:= .tuple #[.slice none 0 0,.slice none 0 0,.int .i64 er]) (fun W'=>aA w W') (K4.out.alloc' _) rfl ?_
  intro W hkW
  exact ⟨by simp [results,Tryz.results15,go_sem],hkW,.inr (.inl ⟨HZ.out,by rw [← HER.out];exact HE.out,by rw [HER.out]⟩)⟩
def mkW (wi:WI) (l:List Int):WI:= { wi with ma:=l }
noncomputable def cT (ps:List PK) (wi:WI) (s:Int):Int:=
 if bF ps wi≠0 then bF ps wi else if (cM ps wi s).er≠0 then (cM ps wi s).er else if (cM ps wi s).P = [] then 0 else 7
theorem xI {ps:List PK} {wi:WI} {c:List Bool} (h:bF ps wi=0) (hb:pD ps wi c):cT ps wi 40000=0:=by
 have he:=lV h
 unfold cT
 rw [if_neg (by simp [h]),if_neg (by simp [he]),if_pos (qH h he hb).1]
theorem aJv {ps:List PK} {wi:WI} (h:bF ps wi=0) (hn:mG ps wi):cT ps wi 40000=7:=by
 have he:=lV h
 unfold cT
 rw [if_neg (by simp [h]),if_neg (by simp [he]),if_neg (qI h he hn)]
theorem iF.err {ps:List PK} {wi:WI} {s:Int} {w w':World} {e:Ending} (h:iF ps wi s w e w'):aA w w'/\∃ v pv,e=.returned (.tuple #[v,pv,.int .i64 (cT ps wi s)]):=by
 obtain ⟨k,h⟩:=h
 refine ⟨k,?_⟩
 unfold cT
 rcases h with ⟨h1,rfl⟩ | ⟨h1,h2,rfl⟩ | ⟨h1,h2,h3,pv,rfl,-⟩ | ⟨h1,h2,h3,v,rfl,-⟩
 ·rw [if_pos h1];exact ⟨_,_,rfl⟩
 ·rw [if_neg (by simp [h1]),if_pos h2];exact ⟨_,_,rfl⟩
 ·rw [if_neg (by simp [h1]),if_neg (by simp [h2]),if_neg h3];exact ⟨_,_,rfl⟩
 ·rw [if_neg (by simp [h1]),if_neg (by simp [h2]),if_pos h3];exact ⟨_,_,rfl⟩
theorem oH (S:Nat->Prop) (ps:List PK) (wi:WI) (l:List Int) (s:Int) (pv tsv inv mav onv mv:Value) (w:World) (hS : ∀ b,S b->b<w.heap.size) (hp:bC S w ps pv) (hw:eH S w wi tsv inv mav onv) (hm:aH S w l mv) (hcap:kP pv) :
  Calls Tryz.prog 64 #[.agg #[pv],.agg #[tsv,inv,mav,onv],mv,.int .i64 s] w fun e w'=>e=.returned (.int .i64 (cT ps (mkW wi l) s))/\aA w w':=by
 have HP:=hid hp
 obtain ⟨mp,mc,rfl,-⟩:=hm.len
 have HW:=hid (show eH S w (mkW wi l) tsv inv (.slice mp l.length mc) onv from ⟨hw.ts,hw.ins,hm,hw.on⟩)
 clear hp hw hm
 go_enter Tryz.func64,Tryz.ntmps64
 go_upto_region 1 with fail
 obtain ⟨b,hb⟩ : ∃ b,b=w.heap.size:=⟨_,rfl⟩
 have hbw:w.heap.size<=b:=by omega
 refine bO (fun W'=>aA w W'/\aD w.heap.size 24 pv W'/\aE (w.heap.size+1) 30 #[tsv,inv,mav,onv] W') ⟨(aA.alloc _ _).alloc' _,(aD.new _ _ _).keep (aA.alloc _ _) (by simp),?_⟩ ?_
 ·have:=aE.new (w.alloc (.cells #[pv] 24)) 30 #[tsv,inv,mav,onv]
  rw [aC] at this;exact this
 rintro W1 ⟨k1,v1,b1⟩
 have K1:=hid k1
 have V1:=hid v1
 have B1:=hid b1
 rw [← hb] at V1 B1 ⊢
 clear k1 v1 b1 hb
 have hw2:W1.cell? ⟨b+1,2,none⟩=some mav:=B1.out.facts.1 2
 have hf2:=B1.out.facts.2.1 2
 have hwl:=B1.out.facts.2.2
 go_upto_region 2 with fail
 refine bO (fun W'=>aA w W'/\aD b 24 pv W'/\aE (b+1) 30 #[tsv,inv,.slice mp l.length mc,onv] W') ⟨Below.trans K1.out ((aM W1 (b+1) 2 (.slice mp l.length mc)).mono (by omega)),V1.out.keep (aM W1 (b+1) 2 (.slice mp l.length mc)) (by omega),B1.out.set 2 (.slice mp l.length mc)⟩ ?_
 rintro W2 ⟨k2,v2,b2⟩
 have K2:=hid k2
 clear K1 V1 B1 hw2 hf2 hwl k2
 have ht0:=v2.facts.1
 have htl:=v2.facts.2.2
 have hw0:W2.cell? ⟨b+1,0,none⟩=some tsv:=b2.facts.1 0
 have hw1:W2.cell? ⟨b+1,1,none⟩=some inv:=b2.facts.1 1
 have hw2:W2.cell? ⟨b+1,2,none⟩=some (.slice mp l.length mc):=b2.facts.1 2
 have hw3:W2.cell? ⟨b+1,3,none⟩=some onv:=b2.facts.1 3
 have hwl:=b2.facts.2.2
 clear v2 b2
 go_wp2_with fail
 refine (fS S ps (mkW wi l) s _ _ _ _ _ W2 (fun c hc=>Nat.lt_of_lt_of_le (hS c hc) K2.out.size) (HP.out.keep hS K2.out) (HW.out.keep hS K2.out) hcap).mono ?_
 rintro e W3 h3
 obtain ⟨k3,v3,p3,rfl⟩:=h3.err
 have K3:=hid (K2.out.trans k3)
 clear h3 k3
 go_wp2_with fail
 go_ret
 exact ⟨rfl,K3.out⟩
noncomputable def eI (ps:List PK) (wi:WI) (s:Int):Nat->List Int × List Int
 | 0=>([],[])
 | j+1=>if cT ps (mkW wi ((eI ps wi s j).1 ++ [wi.ma.getD j 0])) s=0 then ((eI ps wi s j).1 ++ [wi.ma.getD j 0],(eI ps wi s j).2) else ((eI ps wi s j).1,(eI ps wi s j).2 ++ [wi.ma.getD j 0])
noncomputable def nH (ps:List PK) (wi:WI) (s:Int) (j:Nat):Int:=cT ps (mkW wi ((eI ps wi s j).1 ++ [wi.ma.getD j 0])) s
theorem aDi (ps:List PK) (wi:WI) (s:Int) : ∀ j,(eI ps wi s j).1.length<=j/\(eI ps wi s j).2.length<=j
 | 0=>by simp [eI]
 | j+1=>by
  have:=aDi ps wi s j
  rw [eI]
  split<;>simp<;>omega
theorem aDj {ps:List PK} {wi:WI} {s:Int} {j:Nat} (h:nH ps wi s j=0):eI ps wi s (j+1)=((eI ps wi s j).1 ++ [wi.ma.getD j 0],(eI ps wi s j).2):=by
 unfold nH at h
 rw [eI,if_pos h]
theorem aHr {ps:List PK} {wi:WI} {s:Int} {j:Nat} (h:nH ps wi s j≠0):eI ps wi s (j+1)=((eI ps wi s j).1,(eI ps wi s j).2 ++ [wi.ma.getD j 0]):=by
 unfold nH at h
 rw [eI,if_neg h]
def aOm (ps:List PK) (wi:WI) (s:Int) (w:World) (e:Ending) (w':World):Prop:=
 aA w w'/\((bF ps wi≠0/\e=.returned (.tuple #[.slice none 0 0,.int .i64 (bF ps wi)]))
  ∨(bF ps wi=0/\cT ps (mkW wi []) s≠0/\e=.returned (.tuple #[.slice none 0 0,.int .i64 (cT ps (mkW wi []) s)]))
  ∨(bF ps wi=0/\cT ps (mkW wi []) s=0/\∃ j,j<wi.ma.length/\nH ps wi s j≠0/\nH ps wi s j≠7/\e=.returned (.tuple #[.slice none 0 0,.int .i64 (nH ps wi s j)]))
  ∨(bF ps wi=0/\cT ps (mkW wi []) s=0/\(∀ j,j<wi.ma.length->nH ps wi s j=0∨nH ps wi s j=7)/\∃ v,e=.returned (.tuple #[v,.int .i64 0])/\eX v (eI ps wi s wi.ma.length).2 w'/\aH (fun c=>w.heap.size<=c/\c<w'.heap.size) w' (eI ps wi s wi.ma.length).2 v))
theorem jE (S:Nat->Prop) (w:World):aH S w [] (.slice none 0 0):=⟨_,_,rfl,by simp,fun h=>absurd h (by simp)⟩
theorem aEy {S:Nat->Prop} {zs:List Int} {v x:Value} {w w':World} {o:Obj} (h:aH S w zs v) (hS : ∀ b,S b->b<w.heap.size/\x.ownBlock≠some b) (hg:(w.alloc o).grownBy w' x.ownBlock):aH S w' zs v:=
 h.mono (fun p hp=>by
  have h1:=hS _ hp
  exact (World.cell?_of_block (w:=w.alloc o) (hg.block p.block (by rw [aC];omega) (fun e=>h1.2 e.symm))).trans ((aA.alloc w o).cell (p:=p) h1.1)) fun _ h=>h
theorem aFw (S:Nat->Prop) (ps:List PK) (wi:WI) (s:Int) (pv tsv inv mav onv:Value) (w:World) (hS : ∀ b,S b->b<w.heap.size) (hp:bC S w ps pv) (hw:eH S w wi tsv inv mav onv) (hcap:kP pv) :
  Calls Tryz.prog 16 #[.agg #[pv],.agg #[tsv,inv,mav,onv],.int .i64 s] w fun e w'=>aOm ps wi s w e w':=by
 obtain ⟨i0,hi,hz0,hz1,hz2⟩:=info_parts dC
 have HP:=hid hp
 have HW:=hid hw
 clear hp hw
 go_enter Tryz.func16,Tryz.ntmps16
 go_upto_region 1 with fail
 obtain ⟨b,hb⟩ : ∃ b,b=w.heap.size:=⟨_,rfl⟩
 have hbw:w.heap.size<=b:=by omega
 refine bO (fun W'=>aA w W'/\aD w.heap.size 24 pv W'/\aE (w.heap.size+1) 30 #[tsv,inv,mav,onv] W') ⟨(aA.alloc _ _).alloc' _,(aD.new _ _ _).keep (aA.alloc _ _) (by simp),?_⟩ ?_
 ·have:=aE.new (w.alloc (.cells #[pv] 24)) 30 #[tsv,inv,mav,onv]
  rw [aC] at this;exact this
 rintro W1 ⟨k1,v1,b1⟩
 have K1:=hid k1
 have V1:=hid v1
 have B1:=hid b1
 rw [← hb] at V1 B1 ⊢
 clear k1 v1 b1 hb
 have ht0:=V1.out.facts.1
 have htl:=V1.out.facts.2.2
 have hw0:W1.cell? ⟨b+1,0,none⟩=some tsv:=B1.out.facts.1 0
 have hw1:W1.cell? ⟨b+1,1,none⟩=some inv:=B1.out.facts.1 1
 have hw2:W1.cell? ⟨b+1,2,none⟩=some mav:=B1.out.facts.1 2
 have hw3:W1.cell? ⟨b+1,3,none⟩=some onv:=B1.out.facts.1 3
 have hwl:=B1.out.facts.2.2
 go_wp2_with fail
 refine (eZ S ps wi _ _ _ _ _ W1 (fun c hc=>Nat.lt_of_lt_of_le (hS c hc) K1.out.size) (HP.out.keep hS K1.out) (HW.out.keep hS K1.out)).mono ?_
 rintro e W2 ⟨rfl,k2⟩
 have K2:=hid (K1.out.trans k2)
 have V2:=hid (V1.out.keep k2 V1.out.facts.2.2)
 have B2:=hid (B1.out.keep k2 B1.out.facts.2.2)
 clear ht0 htl hw0 hw1 hw2 hw3 hwl V1 B1 k2
 obtain ⟨cw,hcw⟩ : ∃ cw,cw=bF ps wi:=⟨_,rfl⟩
 have HCW:=hid hcw
 rw [← hcw]
 clear hcw
 by_cases hz:cw=0
 ·subst hz
  have ht0:=V2.out.facts.1
  have htl:=V2.out.facts.2.2
  have hw0:W2.cell? ⟨b+1,0,none⟩=some tsv:=B2.out.facts.1 0
  have hw1:W2.cell? ⟨b+1,1,none⟩=some inv:=B2.out.facts.1 1
  have hw2:W2.cell? ⟨b+1,2,none⟩=some mav:=B2.out.facts.1 2
  have hw3:W2.cell? ⟨b+1,3,none⟩=some onv:=B2.out.facts.1 3
  have hwl:=B2.out.facts.2.2
  go_wp2_with fail
  refine (oH S ps wi [] s _ _ _ _ _ _ W2 (fun c hc=>Nat.lt_of_lt_of_le (hS c hc) K2.out.size) (HP.out.keep hS K2.out) (HW.out.keep hS K2.out) (jE _ _) hcap).mono ?_
  rintro e W3 ⟨rfl,k3⟩
  have K3:=hid (K2.out.trans k3)
  have V3:=hid (V2.out.keep k3 V2.out.facts.2.2)
  have B3:=hid (B2.out.keep k3 B2.out.facts.2.2)
  clear ht0 htl hw0 hw1 hw2 hw3 hwl V2 B2 k3
  obtain ⟨er,her⟩ : ∃ er,er=cT ps (mkW wi []) s:=⟨_,rfl⟩
  have HER:=hid her
  have HER0:=hid her
  rw [← her]
  clear her
  by_cases he:er=0
  ·subst he
   obtain ⟨mp,mc,rfl,hml⟩:=HW.out.ma.len
   have hw2:W3.cell? ⟨b+1,2,none⟩=some (.slice mp wi.ma.length mc):=B3.out.facts.1 2
   have hwl:=B3.out.facts.2.2
   go_wp2_with fail
   go_loopg [10,11,32] wi.ma.length (fun gk ag iw i wr=> ∃ j:Nat,j+gk=wi.ma.length/\i=.int .i64 j/\(∀ t,t<j->nH ps wi s t=0∨nH ps wi s t=7)/\aR (b+2) iw (eI ps wi s j).2 wr/\aH (fun c=>w.heap.size<=c/\c<wr.heap.size/\iw.ownBlock≠some c) wr (eI ps wi s j).1 ag/\aD b 24 pv wr/\aE (b+1) 30 #[tsv,inv,.slice mp wi.ma.length mc,onv] wr/\aA w wr)
   case atStart=>exact ⟨0,by omega,rfl,fun t ht=>by omega,World.ownsRow_nil _ _ _ _,jE _ _,V3.out,B3.out,K3.out⟩
   case round=>
   obtain ⟨j,hj,rfl,hall,hiw,hag,hv,hbx,hk⟩:=hrel
   have HALL:=hid hall
   have HIW:=hid hiw
   have HK:=hid hk
   have HV:=hid hv
   have HBX:=hid hbx
   have hma8:=(dN HCW.out.symm).2.2.2.2.2.1
   have hun:=aDi ps wi s j
   obtain ⟨apt,ac,rfl,hal⟩:=hag.len
   have HAG:=hid hag
   have hbl:b+2<=wr.heap.size:=hbx.facts.2.2
   clear hall hiw hk hv hbx hag hw2 hwl
   by_cases hlt:j<wi.ma.length
   ·have hjI:(j:Int)<(wi.ma.length:Int):=by omega
    obtain ⟨mb,mo,hmp,hSm,hmc⟩:=HW.out.ma.get (by omega)
    subst hmp
    have hcx:=(HK.out.cell (p:=⟨mb,mo+j,none⟩) (hS mb hSm)).trans (hmc j hlt)
    have hmbl:mb<wr.heap.size:=Nat.lt_of_lt_of_le (hS mb hSm) HK.out.size
    obtain ⟨k,hkk⟩ : ∃ k,k=wi.ma.getD j 0:=⟨_,rfl⟩
    have HKK:=hid hkk
    rw [← hkk] at hcx
    clear hmc hkk
    go_wp2_with fail
    refine (Cn.lJ _ (eI ps wi s j).1 apt ac wr (fun c hc=>hc.2.1) HAG.out (by omega)).mono ?_
    rintro e W4 ⟨v4,rfl,hown4,k4⟩
    have k4:aA wr W4:=k4
    have hown4:aR wr.heap.size v4 (eI ps wi s j).1 W4:=hown4
    have HK4:=hid k4
    have HO4:=hid hown4
    have hs4:=k4.size
    clear k4 hown4 hcx hmbl
    go_wp2_with (at_builtin;refine wpList_append_own_at _ rfl _ _ 27 rfl wr.heap.size 3 i0 (.int .i64 0) 1 8 Tryz.underlying27 hi hz0 hz1 hz2 rfl (by decide) v4 (eI ps wi s j).1.length ((eI ps wi s j).1.map (Value.int .i64)) rfl (World.ownsRow.alloc HO4.out _) ⟨W4.heap.size,0,none⟩ 1 1 [.int .i64 k] rfl rfl qF cI (by unfold maxLen;omega) (by omega) (by have:=aC W4 (.cells #[.int .i64 k] 3);omega) ?_)
    intro v5 w5 h5 h6 _ _
    obtain ⟨h7,h8⟩:=fM hs4 HO4.out h5 h6
    have k5:aA wr w5:=Below.trans HK4.out h8
    have hnu:=Cn.aR.nums (B:=wr.heap.size) h7 (by simp;omega)
    have HNU:=hid (show aH (fun c=>wr.heap.size<=c/\c<w5.heap.size) w5 ((eI ps wi s j).1 ++ [k]) v5 from hnu)
    have K5:=hid (HK.out.trans k5)
    have HK5:=hid k5
    have V5:=hid (HV.out.keep k5 HV.out.facts.2.2)
    have B5:=hid (HBX.out.keep k5 HBX.out.facts.2.2)
    clear h5 h6 h7 h8 k5 hnu HV HBX HO4 HK4
    have ht0:=V5.out.facts.1
    have htl:=V5.out.facts.2.2
    have hw0:w5.cell? ⟨b+1,0,none⟩=some tsv:=B5.out.facts.1 0
    have hw1:w5.cell? ⟨b+1,1,none⟩=some inv:=B5.out.facts.1 1
    have hw2:w5.cell? ⟨b+1,2,none⟩=some (.slice (some ⟨mb,mo,none⟩) wi.ma.length mc):=B5.out.facts.1 2
    have hw3:w5.cell? ⟨b+1,3,none⟩=some onv:=B5.out.facts.1 3
    have hwl:=B5.out.facts.2.2
    go_wp2_with fail
    refine (oH (fun c=>c<w5.heap.size) ps wi ((eI ps wi s j).1 ++ [k]) s _ _ _ _ _ _ w5 (fun _ h=>h) ((HP.out.keep hS K5.out).mono (fun _ _=>rfl) fun c hc=>Nat.lt_of_lt_of_le (hS c hc) K5.out.size) ((HW.out.keep hS K5.out).mono fun c hc=>Nat.lt_of_lt_of_le (hS c hc) K5.out.size) (HNU.out.mono (fun _ _=>rfl) fun c hc=>hc.2) hcap).mono ?_
    rintro e w6 ⟨rfl,k6⟩
    have HUE:=hid (show nH ps wi s j=cT ps (mkW wi ((eI ps wi s j).1 ++ [k])) s by rw [HKK.out];rfl)
    have K6:=hid (K5.out.trans k6)
    have V6:=hid (V5.out.keep k6 V5.out.facts.2.2)
    have B6:=hid (B5.out.keep k6 B5.out.facts.2.2)
    have IW6:=hid (show aR (b+2) u11 (eI ps wi s j).2 w6 from bP HIW.out (HK5.out.trans k6))
    have AG6:=hid (show aH (fun c=>w.heap.size<=c/\c<wr.heap.size/\u11.ownBlock≠some c) w6 (eI ps wi s j).1 (.slice apt (eI ps wi s j).1.length ac) from HAG.out.mono (fun p hp=>(HK5.out.trans k6).cell (p:=p) hp.2.1) fun _ h=>h)
    have NU6:=hid (HNU.out.mono (S':=fun c=>wr.heap.size<=c/\c<w6.heap.size) (fun p hp=>k6.cell (p:=p) hp.2) fun c hc=>⟨hc.1,Nat.lt_of_lt_of_le hc.2 k6.size⟩)
    have hs6:wr.heap.size<=w6.heap.size:=(HK5.out.trans k6).size
    have HFAR:=hid (show ∀ g,u11.ownBlock=some g->g<wr.heap.size from fun g hg=>(dL HIW.out hg).2)
    clear ht0 htl hw0 hw1 hw2 hw3 hwl V5 B5 k6 HNU HIW HAG
    obtain ⟨er,her⟩ : ∃ er,er=cT ps (mkW wi ((eI ps wi s j).1 ++ [k])) s:=⟨_,rfl⟩
    have HER:=hid her
    rw [← her] at HUE ⊢
    clear her
    by_cases h0:er=0
    ·subst h0
     have HUS:=hid (aDj HUE.out)
     go_wp2_with fail
     go_roundg (wi.ma.length-(j+1))
     case rel=>exact ⟨j+1,by omega,by go_num,fun t ht=>by by_cases e:t=j;(subst e;exact .inl HUE.out);exact HALL.out t (by omega),by rw [HUS.out];exact IW6.out,by rw [HUS.out,← HKK.out];exact NU6.out.mono (fun _ _=>rfl) fun c hc=>⟨Nat.le_trans HK.out.size hc.1,hc.2,fun e=>by have:=HFAR.out c e;omega⟩,V6.out,B6.out,K6.out⟩
     case measure=>omega
    ·have ha1:(er==0)=false:=by simpa using h0
     have ha2:(er != 0)=true:=by simp [bne,ha1]
     have HUS:=hid (aHr (by rw [HUE.out];exact h0))
     have H0:=hid h0
     clear h0
     by_cases h7:er=7
     ·subst h7
      go_wp2_with (at_builtin;refine wpList_append_own_at _ rfl _ _ 27 rfl (b+2) 3 i0 (.int .i64 0) 1 8 Tryz.underlying27 hi hz0 hz1 hz2 rfl (by decide) u11 (eI ps wi s j).2.length ((eI ps wi s j).2.map (Value.int .i64)) rfl (World.ownsRow.alloc IW6.out _) ⟨w6.heap.size,0,none⟩ 1 1 [.int .i64 k] rfl rfl qF cI (by unfold maxLen;omega) (by omega) (by have:=aC w6 (.cells #[.int .i64 k] 3);omega) ?_)
      intro v7 w7 h5 h6 _ h9
      obtain ⟨h7,h8⟩:=fM (by omega) IW6.out h5 h6
      have AG7:=hid (aEy AG6.out (fun c hc=>⟨by omega,hc.2.2⟩) h6)
      have H7:=hid h7
      have K7:=hid (show aA w w7 from Below.trans K6.out (h8.mono (by omega)))
      have V7:=hid (V6.out.keep h8 (by omega))
      have B7:=hid (B6.out.keep h8 (by omega))
      have HF7:=hid (show ∀ c,c<wr.heap.size->u11.ownBlock≠some c->v7.ownBlock≠some c from fun c h1 h2 h3=>by
       rcases h9 with h9 | h9
       ·exact h2 (h9 ▸ h3)
       ·rw [h9] at h3
        have:=Option.some.inj h3
        (try rw [aC] at this)
        omega)
      have hs7:=h8.size
      clear h5 h6 h7 h8
      go_wp2_with fail
      go_roundg (wi.ma.length-(j+1))
      case rel=>exact ⟨j+1,by omega,by go_num,fun t ht=>by by_cases e:t=j;(subst e;exact .inr HUE.out);exact HALL.out t (by omega),by rw [HUS.out,← HKK.out];exact H7.out,by rw [HUS.out];exact AG7.out.mono (fun _ _=>rfl) fun c hc=>⟨hc.1,by have:=K7.out.size;omega,HF7.out c hc.2.1 hc.2.2⟩,V7.out,B7.out,K7.out⟩
      case measure=>omega
     ·have hy1:(er==7)=false:=by simpa using h7
      have hy2:(er != 7)=true:=by simp [bne,hy1]
      have H7:=hid h7
      clear h7
      go_wp2_with fail
      refine cE (v:= .tuple #[.slice none 0 0,.int .i64 er]) (fun W'=>W'=w6) rfl rfl ?_
      rintro W rfl
      exact ⟨by simp [results,Tryz.results16,go_sem],K6.out,.inr (.inr (.inl ⟨HCW.out.symm,HER0.out.symm,j,hlt,by rw [HUE.out];exact H0.out,by rw [HUE.out];exact H7.out,by rw [HUE.out]⟩))⟩
   have hje:j=wi.ma.length:=by omega
   have hnl : ¬ ((j:Int)<(wi.ma.length:Int)):=by omega
   have HJE:=hid hje
   have hun8:(eI ps wi s j).2.length<=8:=by omega
   clear hje hlt hj
   go_wp2_with fail
   obtain ⟨xp,xc,hxv⟩:=(aR.ints HIW.out).len
   refine cE (v:= .tuple #[u11,.int .i64 0]) (fun W'=>W'=wr) rfl rfl ?_
   rintro W rfl
   have hnu:=Cn.aR.nums (B:=b+2) HIW.out (by omega)
   exact ⟨by simp [results,Tryz.results16,go_sem],HK.out,.inr (.inr (.inr ⟨HCW.out.symm,HER0.out.symm,by rw [← HJE.out];exact HALL.out,_,rfl,by rw [← HJE.out];exact aR.ints HIW.out,by rw [← HJE.out];exact aH.mono (S:=fun c=>b+2<=c/\c<_) (fun _ _=>rfl) (fun c hc=>⟨by omega,hc.2⟩) hnu⟩))⟩
  ·have hz1:(er==0)=false:=by simpa using he
   have hz2:(er != 0)=true:=by simp [bne,hz1]
   have HE:=hid he
   clear he
   go_wp2_with fail
   refine cE (v:= .tuple #[.slice none 0 0,.int .i64 er]) (fun W'=>W'=W3) rfl rfl ?_
   rintro W rfl
   exact ⟨by simp [results,Tryz.results16,go_sem],K3.out,.inr (.inl ⟨HCW.out.symm,by rw [← HER.out];exact HE.out,by rw [HER.out]⟩)⟩
 ·have hz1:(cw==0)=false:=by simpa using hz
  have hz2:(cw != 0)=true:=by simp [bne,hz1]
  have HZ:=hid hz
  clear hz
  go_wp2_with fail
  refine cE (v:= .tuple #[.slice none 0 0,.int .i64 cw]) (fun W'=>W'=W2) rfl rfl ?_
  rintro W rfl
  exact ⟨by simp [results,Tryz.results16,go_sem],K2.out,.inl ⟨by rw [← HCW.out];exact HZ.out,by rw [HCW.out]⟩⟩
end Go.Proofs.YtonlloiemgdfkaaGreatDoor
namespace Go.Proofs.YtonlloiemgdfkaaGreatDoor
open Go.RowKit
end Go.Proofs.YtonlloiemgdfkaaGreatDoor
namespace Go.Proofs.YtonlloiemgdfkaaGreatDoor
open Go.RowKit
end Go.Proofs.YtonlloiemgdfkaaGreatDoor
namespace Go.Proofs.YtonlloiemgdfkaaGreatDoor
open Go.RowKit
theorem oU {α:Type} {xs ys:List α} (hl:xs.length=ys.length) (h : ∀ i,i<xs.length->xs[i]? = ys[i]?):xs=ys:=by
 refine List.ext_getElem? fun i=> ?_
 by_cases hi:i<xs.length
 ·exact h i hi
 ·rw [List.getElem?_eq_none (by omega),List.getElem?_eq_none (by omega)]
theorem aGn (S:Nat->Prop) (xs ys:List Bool) (v1 v2:Value) (w:World) (hS : ∀ b,S b->b<w.heap.size) (h1:aZ S w xs v1) (h2:aZ S w ys v2) :
  Calls Tryz.prog 98 #[v1,v2] w fun e w'=> ∃ β:Bool,e=.returned (.bool β)/\(β=true↔xs=ys)/\aA w w':=by
 have H1:=hid h1
 have H2:=hid h2
 obtain ⟨p1,c1,rfl,hl1,-⟩:=h1
 obtain ⟨p2,c2,rfl,hl2,-⟩:=h2
 by_cases hl:xs.length=ys.length
 ·have HL:=hid hl
  have HW:Hid (aA w w):=aA.refl _
  rw [← hl]
  clear hl
  go_enter Tryz.func98,Tryz.ntmps98
  go_wp2_with fail
  go_loopg [13] xs.length (fun gk i wr=> ∃ j:Nat,j+gk=xs.length/\i=.int .i64 j/\(∀ i,i<j->xs[i]? = ys[i]?)/\aA w wr)
  case atStart=>exact ⟨0,by simp,rfl,fun i hi=>absurd hi (Nat.not_lt_zero _),HW.out⟩
  case round=>
   obtain ⟨j,hj,rfl,hal,hkp⟩:=hrel
   have HKP:=hid hkp
   have HAL:=hid hal
   clear hkp hal
   by_cases hlt:j<xs.length
   ·obtain ⟨q1,d1,hv1,-,hr1⟩:=H1.out.keep hS HKP.out
    obtain ⟨q2,d2,hv2,-,hr2⟩:=H2.out.keep hS HKP.out
    rw [← HL.out] at hv2 hr2
    cases hv1
    cases hv2
    obtain ⟨b1,o1,rfl,hb1,hc1⟩:=hr1 (by omega)
    obtain ⟨b2,o2,rfl,hb2,hc2⟩:=hr2 (by omega)
    have hlt2:j<ys.length:=by rw [← HL.out];exact hlt
    have e1:xs[j]? = some xs[j]:=List.getElem?_eq_getElem hlt
    have e2:ys[j]? = some ys[j]:=List.getElem?_eq_getElem hlt2
    have g1:=hc1 j _ e1
    have g2:=hc2 j _ e2
    have E1:=hid e1
    have E2:=hid e2
    clear hc1 hc2 hr1 hr2 e1 e2
    generalize xs[j]=x at g1 E1
    generalize ys[j]=y at g2 E2
    by_cases hxy:x=y
    ·subst hxy
     have HN:Hid (∀ i,i<j+1->xs[i]? = ys[i]?):=fun i hi=>by
      by_cases e:i=j
      ·subst e;rw [E1.out,E2.out]
      ·exact HAL.out i (by omega)
     go_wp2_with fail
     go_quiet (fail)
     go_wp2_with fail
     go_roundg (xs.length-(j+1))
     case rel=>exact ⟨j+1,by omega,by go_num,HN.out,aA.drewN HKP.out _⟩
     case measure=>omega
    ·have hxy1:(x==y)=false:=by simp [hxy]
     have hxy2:(x != y)=true:=by simp [hxy]
     have HF:Hid (¬ xs=ys):=fun e=>hxy (by have h1:=E1.out;rw [e,E2.out] at h1;exact (Option.some.inj h1).symm)
     clear hxy
     go_wp2_with fail
     go_quiet (fail)
     go_wp2_with fail
     go_ret
     exact ⟨false,rfl,⟨fun h=>Bool.noConfusion h,fun h=>absurd h HF.out⟩,aA.drewN HKP.out _⟩
   ·have HF:Hid (xs=ys):=oU HL.out fun i hi=>HAL.out i (by omega)
    go_wp2_with fail
    go_ret
    exact ⟨true,rfl,⟨fun _=>HF.out,fun _=>rfl⟩,HKP.out⟩
 ·have hz1:((xs.length:Int)==(ys.length:Int))=false:=beq_eq_false_iff_ne.2 fun e=>hl (by omega)
  have hz2:((xs.length:Int) != (ys.length:Int))=true:=bne_iff_ne.2 fun e=>hl (by omega)
  have HF:Hid (¬ xs=ys):=fun e=>hl (by rw [e])
  clear hl
  go_enter Tryz.func98,Tryz.ntmps98
  go_wp2_with fail
  go_ret
  exact ⟨false,rfl,⟨fun h=>Bool.noConfusion h,fun h=>absurd h HF.out⟩,aA.refl _⟩
theorem aEd (args:Array Value) (w:World):(callFunc 71 args).run Tryz.prog w=.ok (.enter 71 args) w:=enters_of Tryz.func71 (by kernel_rfl) rfl args w
theorem aFh (S:Nat->Prop) (x y:MB) (v1 v2:Value) (w:World) (hS : ∀ b,S b->b<w.heap.size) (h1:aZ S w x.on v1) (h2:aZ S w y.on v2) :
  Calls Tryz.prog 71 #[.agg #[.int .i64 x.pl,v1],.agg #[.int .i64 y.pl,v2]] w fun e w'=> ∃ β:Bool,e=.returned (.bool β)/\(β=true↔x=y)/\aA w w':=by
 have H1:=hid h1
 have H2:=hid h2
 obtain ⟨p1,c1,rfl,-,-⟩:=h1
 obtain ⟨p2,c2,rfl,-,-⟩:=h2
 rcases x with ⟨xp,xs⟩
 rcases y with ⟨yp,ys⟩
 simp only at H1 H2 ⊢
 by_cases hp:xp=yp
 ·subst hp
  go_enter Tryz.func71,Tryz.ntmps71
  go_wp2_with fail
  refine aU (fun W'=>aA w W') ((aA.alloc _ _).alloc' _) ?_
  intro W2 k2
  refine (aGn S xs ys _ _ W2 (fun b hb=>Nat.lt_of_lt_of_le (hS b hb) k2.size) (H1.out.keep hS k2) (H2.out.keep hS k2)).mono ?_
  rintro e w3 ⟨β,rfl,hβ,k3⟩
  have K3:=hid (k2.trans k3)
  have HB:=hid hβ
  clear k2 k3 hβ
  go_wp2_with fail
  go_ret
  exact ⟨β,rfl,⟨fun h=>by rw [HB.out.1 h],fun h=>HB.out.2 (by cases h;rfl)⟩,K3.out⟩
 ·have hz1:(xp==yp)=false:=by simp [hp]
  have HF:Hid (¬ (⟨xp,xs⟩:MB)=⟨yp,ys⟩):=fun e=>hp (by cases e;rfl)
  have HW:Hid (aA w ((w.alloc (.cells #[.int .i64 xp,.slice p1 xs.length c1] 68)).alloc (.cells #[.int .i64 yp,.slice p2 ys.length c2] 68))):=(aA.alloc _ _).alloc' _
  clear hp
  go_enter Tryz.func71,Tryz.ntmps71
  go_wp2_with fail
  go_ret
  exact ⟨false,rfl,⟨fun h=>Bool.noConfusion h,fun h=>absurd h HF.out⟩,HW.out⟩
theorem aBb (S:Nat->Prop) (xs ys:List MB) (v1 v2:Value) (w:World) (hS : ∀ b,S b->b<w.heap.size) (h1:bI S w xs v1) (h2:bI S w ys v2) :
  Calls Tryz.prog 69 #[v1,v2,.func (.func 71) #[] #[]] w fun e w'=> ∃ β:Bool,e=.returned (.bool β)/\(β=true↔xs=ys)/\aA w w':=by
 have H1:=hid h1
 have H2:=hid h2
 obtain ⟨p1,c1,rfl,⟨-,hl1⟩,-⟩:=h1
 obtain ⟨p2,c2,rfl,⟨-,hl2⟩,-⟩:=h2
 have hent:=aEd
 by_cases hl:xs.length=ys.length
 ·have HL:=hid hl
  have HW:Hid (aA w w):=aA.refl _
  rw [← hl]
  clear hl
  go_enter Tryz.func69,Tryz.ntmps69
  go_wp2_with fail
  go_loopg [17] xs.length (fun gk i wr=> ∃ j:Nat,j+gk=xs.length/\i=.int .i64 j/\(∀ i,i<j->xs[i]? = ys[i]?)/\aA w wr)
  case atStart=>exact ⟨0,by simp,rfl,fun i hi=>absurd hi (Nat.not_lt_zero _),HW.out⟩
  case round=>
   obtain ⟨j,hj,rfl,hal,hkp⟩:=hrel
   have HKP:=hid hkp
   have HAL:=hid hal
   clear hkp hal
   by_cases hlt:j<xs.length
   ·obtain ⟨q1,d1,hv1,-,hr1⟩:=H1.out.keep hS HKP.out
    obtain ⟨q2,d2,hv2,-,hr2⟩:=H2.out.keep hS HKP.out
    rw [← HL.out] at hv2 hr2
    cases hv1
    cases hv2
    obtain ⟨b1,o1,rfl,hb1,hc1⟩:=hr1 (by omega)
    obtain ⟨b2,o2,rfl,hb2,hc2⟩:=hr2 (by omega)
    have hlt2:j<ys.length:=by rw [← HL.out];exact hlt
    have e1:xs[j]? = some xs[j]:=List.getElem?_eq_getElem hlt
    have e2:ys[j]? = some ys[j]:=List.getElem?_eq_getElem hlt2
    obtain ⟨ov1,g1,g1',hbo1⟩:=hc1 j _ e1
    obtain ⟨ov2,g2,g2',hbo2⟩:=hc2 j _ e2
    have E1:=hid e1
    have E2:=hid e2
    have hb1':b1<wr.heap.size:=Nat.lt_of_lt_of_le (hS _ hb1) HKP.out.size
    have hb2':b2<wr.heap.size:=Nat.lt_of_lt_of_le (hS _ hb2) HKP.out.size
    generalize xs[j]=x at g1 E1 hbo1
    generalize ys[j]=y at g2 E2 hbo2
    have HO1:=hid hbo1
    have HO2:=hid hbo2
    obtain ⟨r1,s1,rfl,-,-⟩:=hbo1
    obtain ⟨r2,s2,rfl,-,-⟩:=hbo2
    clear hc1 hc2 hr1 hr2 e1 e2
    go_wp2_with fail
    refine aU (fun W'=>aA wr W') ((aA.alloc _ _).alloc' _) ?_
    intro W2 k2
    have hS2 : ∀ b,S b->b<wr.heap.size:=fun b hb=>Nat.lt_of_lt_of_le (hS b hb) HKP.out.size
    refine (aFh S x y _ _ W2 (fun b hb=>Nat.lt_of_lt_of_le (hS2 b hb) k2.size) (HO1.out.keep hS2 k2) (HO2.out.keep hS2 k2)).mono ?_
    rintro e w3 ⟨β,rfl,hβ,k3⟩
    have K3:=hid (HKP.out.trans (k2.trans k3))
    clear k2 k3 hS2 g1 g1' g2 g2'
    cases β
    ·have HF:Hid (¬ xs=ys):=fun e=>Bool.noConfusion (hβ.2 (by have h1:=E1.out;rw [e,E2.out] at h1;exact (Option.some.inj h1).symm))
     clear hβ
     go_wp2_with fail
     go_ret
     exact ⟨false,rfl,⟨fun h=>Bool.noConfusion h,fun h=>absurd h HF.out⟩,K3.out⟩
    ·have HN:Hid (∀ i,i<j+1->xs[i]? = ys[i]?):=fun i hi=>by
      by_cases e:i=j
      ·subst e;rw [E1.out,E2.out,hβ.1 rfl]
      ·exact HAL.out i (by omega)
     clear hβ
     go_wp2_with fail
     go_roundg (xs.length-(j+1))
     case rel=>exact ⟨j+1,by omega,by go_num,HN.out,K3.out⟩
     case measure=>omega
   ·have HF:Hid (xs=ys):=oU HL.out fun i hi=>HAL.out i (by omega)
    go_wp2_with fail
    go_ret
    exact ⟨true,rfl,⟨fun _=>HF.out,fun _=>rfl⟩,HKP.out⟩
 ·have hz1:((xs.length:Int)==(ys.length:Int))=false:=beq_eq_false_iff_ne.2 fun e=>hl (by omega)
  have hz2:((xs.length:Int) != (ys.length:Int))=true:=bne_iff_ne.2 fun e=>hl (by omega)
  have HF:Hid (¬ xs=ys):=fun e=>hl (by rw [e])
  clear hl
  go_enter Tryz.func69,Tryz.ntmps69
  go_wp2_with fail
  go_ret
  exact ⟨false,rfl,⟨fun h=>Bool.noConfusion h,fun h=>absurd h HF.out⟩,aA.refl _⟩
theorem zF (S:Nat->Prop) (xs ys:List MB) (v1 v2:Value) (w:World) (hS : ∀ b,S b->b<w.heap.size) (h1:bI S w xs v1) (h2:bI S w ys v2) :
  Calls Tryz.prog 25 #[v1,v2] w fun e w'=> ∃ β:Bool,e=.returned (.bool β)/\(β=true↔xs=ys)/\aA w w':=by
 have H1:=hid h1
 have H2:=hid h2
 clear h1 h2
 go_enter Tryz.func25,Tryz.ntmps25
 go_wp2_with fail
 refine (aBb S xs ys _ _ w hS H1.out H2.out).mono ?_
 rintro e w3 ⟨β,rfl,hβ,k3⟩
 have K3:=hid k3
 have HB:=hid hβ
 clear k3 hβ
 go_wp2_with fail
 go_ret
 exact ⟨β,rfl,HB.out,K3.out⟩
theorem aEc (args:Array Value) (w:World):(callFunc 40 args).run Tryz.prog w=.ok (.enter 40 args) w:=enters_of Tryz.func40 (by kernel_rfl) rfl args w
theorem aFg (S:Nat->Prop) (x y:MB) (v1 v2:Value) (w:World) (hS : ∀ b,S b->b<w.heap.size) (h1:aZ S w x.on v1) (h2:aZ S w y.on v2) :
  Calls Tryz.prog 40 #[.agg #[.int .i64 x.pl,v1],.agg #[.int .i64 y.pl,v2]] w fun e w'=> ∃ β:Bool,e=.returned (.bool β)/\(β=true↔x=y)/\aA w w':=by
 have H1:=hid h1
 have H2:=hid h2
 obtain ⟨p1,c1,rfl,-,-⟩:=h1
 obtain ⟨p2,c2,rfl,-,-⟩:=h2
 rcases x with ⟨xp,xs⟩
 rcases y with ⟨yp,ys⟩
 simp only at H1 H2 ⊢
 by_cases hp:xp=yp
 ·subst hp
  go_enter Tryz.func40,Tryz.ntmps40
  go_wp2_with fail
  refine aU (fun W'=>aA w W') ((aA.alloc _ _).alloc' _) ?_
  intro W2 k2
  refine (aGn S xs ys _ _ W2 (fun b hb=>Nat.lt_of_lt_of_le (hS b hb) k2.size) (H1.out.keep hS k2) (H2.out.keep hS k2)).mono ?_
  rintro e w3 ⟨β,rfl,hβ,k3⟩
  have K3:=hid (k2.trans k3)
  have HB:=hid hβ
  clear k2 k3 hβ
  go_wp2_with fail
  go_ret
  exact ⟨β,rfl,⟨fun h=>by rw [HB.out.1 h],fun h=>HB.out.2 (by cases h;rfl)⟩,K3.out⟩
 ·have hz1:(xp==yp)=false:=by simp [hp]
  have HF:Hid (¬ (⟨xp,xs⟩:MB)=⟨yp,ys⟩):=fun e=>hp (by cases e;rfl)
  have HW:Hid (aA w ((w.alloc (.cells #[.int .i64 xp,.slice p1 xs.length c1] 68)).alloc (.cells #[.int .i64 yp,.slice p2 ys.length c2] 68))):=(aA.alloc _ _).alloc' _
  clear hp
  go_enter Tryz.func40,Tryz.ntmps40
  go_wp2_with fail
  go_ret
  exact ⟨false,rfl,⟨fun h=>Bool.noConfusion h,fun h=>absurd h HF.out⟩,HW.out⟩
theorem aBa (S:Nat->Prop) (xs ys:List MB) (v1 v2:Value) (w:World) (hS : ∀ b,S b->b<w.heap.size) (h1:bI S w xs v1) (h2:bI S w ys v2) :
  Calls Tryz.prog 69 #[v1,v2,.func (.func 40) #[] #[]] w fun e w'=> ∃ β:Bool,e=.returned (.bool β)/\(β=true↔xs=ys)/\aA w w':=by
 have H1:=hid h1
 have H2:=hid h2
 obtain ⟨p1,c1,rfl,⟨-,hl1⟩,-⟩:=h1
 obtain ⟨p2,c2,rfl,⟨-,hl2⟩,-⟩:=h2
 have hent:=aEc
 by_cases hl:xs.length=ys.length
 ·have HL:=hid hl
  have HW:Hid (aA w w):=aA.refl _
  rw [← hl]
  clear hl
  go_enter Tryz.func69,Tryz.ntmps69
  go_wp2_with fail
  go_loopg [17] xs.length (fun gk i wr=> ∃ j:Nat,j+gk=xs.length/\i=.int .i64 j/\(∀ i,i<j->xs[i]? = ys[i]?)/\aA w wr)
  case atStart=>exact ⟨0,by simp,rfl,fun i hi=>absurd hi (Nat.not_lt_zero _),HW.out⟩
  case round=>
   obtain ⟨j,hj,rfl,hal,hkp⟩:=hrel
   have HKP:=hid hkp
   have HAL:=hid hal
   clear hkp hal
   by_cases hlt:j<xs.length
   ·obtain ⟨q1,d1,hv1,-,hr1⟩:=H1.out.keep hS HKP.out
    obtain ⟨q2,d2,hv2,-,hr2⟩:=H2.out.keep hS HKP.out
    rw [← HL.out] at hv2 hr2
    cases hv1
    cases hv2
    obtain ⟨b1,o1,rfl,hb1,hc1⟩:=hr1 (by omega)
    obtain ⟨b2,o2,rfl,hb2,hc2⟩:=hr2 (by omega)
    have hlt2:j<ys.length:=by rw [← HL.out];exact hlt
    have e1:xs[j]? = some xs[j]:=List.getElem?_eq_getElem hlt
    have e2:ys[j]? = some ys[j]:=List.getElem?_eq_getElem hlt2
    obtain ⟨ov1,g1,g1',hbo1⟩:=hc1 j _ e1
    obtain ⟨ov2,g2,g2',hbo2⟩:=hc2 j _ e2
    have E1:=hid e1
    have E2:=hid e2
    have hb1':b1<wr.heap.size:=Nat.lt_of_lt_of_le (hS _ hb1) HKP.out.size
    have hb2':b2<wr.heap.size:=Nat.lt_of_lt_of_le (hS _ hb2) HKP.out.size
    generalize xs[j]=x at g1 E1 hbo1
    generalize ys[j]=y at g2 E2 hbo2
    have HO1:=hid hbo1
    have HO2:=hid hbo2
    obtain ⟨r1,s1,rfl,-,-⟩:=hbo1
    obtain ⟨r2,s2,rfl,-,-⟩:=hbo2
    clear hc1 hc2 hr1 hr2 e1 e2
    go_wp2_with fail
    refine aU (fun W'=>aA wr W') ((aA.alloc _ _).alloc' _) ?_
    intro W2 k2
    have hS2 : ∀ b,S b->b<wr.heap.size:=fun b hb=>Nat.lt_of_lt_of_le (hS b hb) HKP.out.size
    refine (aFg S x y _ _ W2 (fun b hb=>Nat.lt_of_lt_of_le (hS2 b hb) k2.size) (HO1.out.keep hS2 k2) (HO2.out.keep hS2 k2)).mono ?_
    rintro e w3 ⟨β,rfl,hβ,k3⟩
    have K3:=hid (HKP.out.trans (k2.trans k3))
    clear k2 k3 hS2 g1 g1' g2 g2'
    cases β
    ·have HF:Hid (¬ xs=ys):=fun e=>Bool.noConfusion (hβ.2 (by have h1:=E1.out;rw [e,E2.out] at h1;exact (Option.some.inj h1).symm))
     clear hβ
     go_wp2_with fail
     go_ret
     exact ⟨false,rfl,⟨fun h=>Bool.noConfusion h,fun h=>absurd h HF.out⟩,K3.out⟩
    ·have HN:Hid (∀ i,i<j+1->xs[i]? = ys[i]?):=fun i hi=>by
      by_cases e:i=j
      ·subst e;rw [E1.out,E2.out,hβ.1 rfl]
      ·exact HAL.out i (by omega)
     clear hβ
     go_wp2_with fail
     go_roundg (xs.length-(j+1))
     case rel=>exact ⟨j+1,by omega,by go_num,HN.out,K3.out⟩
     case measure=>omega
   ·have HF:Hid (xs=ys):=oU HL.out fun i hi=>HAL.out i (by omega)
    go_wp2_with fail
    go_ret
    exact ⟨true,rfl,⟨fun _=>HF.out,fun _=>rfl⟩,HKP.out⟩
 ·have hz1:((xs.length:Int)==(ys.length:Int))=false:=beq_eq_false_iff_ne.2 fun e=>hl (by omega)
  have hz2:((xs.length:Int) != (ys.length:Int))=true:=bne_iff_ne.2 fun e=>hl (by omega)
  have HF:Hid (¬ xs=ys):=fun e=>hl (by rw [e])
  clear hl
  go_enter Tryz.func69,Tryz.ntmps69
  go_wp2_with fail
  go_ret
  exact ⟨false,rfl,⟨fun h=>Bool.noConfusion h,fun h=>absurd h HF.out⟩,aA.refl _⟩
theorem qJ (S:Nat->Prop) (xs ys:List MB) (v1 v2:Value) (w:World) (hS : ∀ b,S b->b<w.heap.size) (h1:bI S w xs v1) (h2:bI S w ys v2) :
  Calls Tryz.prog 20 #[v1,v2] w fun e w'=> ∃ β:Bool,e=.returned (.bool β)/\(β=true↔xs=ys)/\aA w w':=by
 have H1:=hid h1
 have H2:=hid h2
 clear h1 h2
 go_enter Tryz.func20,Tryz.ntmps20
 go_wp2_with fail
 refine (aBa S xs ys _ _ w hS H1.out H2.out).mono ?_
 rintro e w3 ⟨β,rfl,hβ,k3⟩
 have K3:=hid k3
 have HB:=hid hβ
 clear k3 hβ
 go_wp2_with fail
 go_ret
 exact ⟨β,rfl,HB.out,K3.out⟩
end Go.Proofs.YtonlloiemgdfkaaGreatDoor
namespace Go.Proofs.YtonlloiemgdfkaaGreatDoor
open Go.RowKit Go.Lib
theorem eX.get0 {v:Value} {zs:List Int} {w:World} (h:eX v zs w) (hn:0<zs.length) : ∃ g cap,v=.slice (some ⟨g,0,none⟩) zs.length cap/\g<w.heap.size/\(∀ j,j<zs.length->w.cell? ⟨g,0+j,none⟩=some (.int .i64 (zs.getD j 0))):=by
 rcases h with ⟨rfl,-⟩ | ⟨g,cap,h1,h2,h3⟩
 ·exact absurd hn (Nat.not_lt_zero _)
 ·refine ⟨g,cap,h1,h2,fun j hj=> ?_⟩
  rw [Nat.zero_add,List.getD_eq_getElem?_getD,List.getElem?_eq_getElem hj,Option.getD_some]
  exact h3 j _ (List.getElem?_eq_getElem hj)
theorem vZ (v u:Value) (xs ys:List Int) (w:World) (h:eX v xs w) (h':eX u ys w) (hl:xs.length<=2000) (hl':ys.length<=2000) :
  Calls Tryz.prog 22 #[v,u] w fun e w'=>e=.returned (.bool (xs==ys))/\∃ q,w'=w.drewN q:=by
 obtain ⟨q,d,rfl⟩:=h'.len
 obtain ⟨p,c,rfl⟩:=h.len
 by_cases hne:xs.length=ys.length
 ·by_cases h0:xs = []
  ·subst h0
   have hy:ys = []:=List.length_eq_zero_iff.1 hne.symm
   subst hy
   refine (Tryz.slices_Equal_int_empty p q c 0 d w (by omega)).mono ?_
   rintro e w' ⟨rfl,rfl⟩
   exact ⟨rfl,0,rfl⟩
  ·have hp:=List.length_pos_iff.2 h0
   obtain ⟨g,cap,e1,-,hc⟩:=h.get0 hp
   obtain ⟨g',cap',e2,-,hc'⟩:=h'.get0 (by omega)
   cases e1
   cases e2
   refine (Tryz.slices_Equal_int g 0 xs.length c g' 0 ys.length d xs ys w (Nat.le_refl _) (Nat.le_refl _) (by omega) (by omega) hc hc').mono ?_
   rintro e w' ⟨rfl,q,rfl⟩
   exact ⟨aK (by rw [List.take_length,List.take_length]),q,rfl⟩
 ·refine (Tryz.slices_Equal_int_lens p q xs.length c ys.length d w hne).mono ?_
  rintro e w' ⟨rfl,rfl⟩
  refine ⟨aK ?_,0,rfl⟩
  symm
  exact beq_eq_false_iff_ne.2 fun e=>hne (by rw [e])
end Go.Proofs.YtonlloiemgdfkaaGreatDoor
namespace Go.Proofs.YtonlloiemgdfkaaGreatDoor
open Go.RowKit
theorem aLl {W:World} {n:Nat} (h:W.heap.size=n) (T:TypeId) (cs:Array Value):aE n T cs (W.alloc (.cells cs T)):=h ▸ aE.new W T cs
theorem jS {w:World} {b o:Nat} {x:Value} {p:Addr} (h:p.block≠b):(w.setCell ⟨b,o,none⟩ x).cell? p=w.cell? p:=World.cell?_of_block (lB w b o x p.block h)
theorem yE {b:Nat} {a:At} {W:World} (hb:aN b #[.string a.n,.int .i64 a.op,.int .i64 a.v,.int .i64 a.sl,.string a.f,.bool a.on] W):jN (inW W) W [a] (.slice (some ⟨b,0,none⟩) 1 1):=by
 refine ⟨_,_,rfl,by simp,fun _=>⟨b,0,rfl,hb.1,fun j x hx=> ?_⟩⟩
 match j,hx with
 | 0,hx=>cases hx;exact ⟨hb.2 0,hb.2 1,hb.2 2,hb.2 3,hb.2 4,hb.2 5⟩
theorem uK {c:Nat} {z:Int} {W:World} (hc:aN c #[.int .i64 z,.slice none 0 0] W):bI (inW W) W [⟨z,[]⟩] (.slice (some ⟨c,0,none⟩) 1 1):=by
 refine ⟨_,_,rfl,by simp,fun _=>⟨c,0,rfl,hc.1,fun j m hm=> ?_⟩⟩
 match j,hm with
 | 0,hm=>cases hm;exact ⟨_,hc.2 0,hc.2 1,none,0,rfl,by simp,fun h=>absurd h (by simp)⟩
theorem aHd {b c:Nat} {x:Bool} {z:Int} {W:World} (hb:aN b #[.int .i64 1,.slice (some ⟨c,0,none⟩) 1 1,.int .i64 z,.slice none 0 0] W) (hc:aN c #[.bool x] W):bI (inW W) W [⟨1,[x]⟩,⟨z,[]⟩] (.slice (some ⟨b,0,none⟩) 2 2):=by
 refine ⟨_,_,rfl,by simp,fun _=>⟨b,0,rfl,hb.1,fun j m hm=> ?_⟩⟩
 match j,hm with
 | 0,hm=>
  cases hm
  refine ⟨_,hb.2 0,hb.2 1,_,_,rfl,by simp,fun _=>⟨c,0,rfl,hc.1,fun j y hy=> ?_⟩⟩
  match j,hy with
  | 0,hy=>cases hy;exact hc.2 0
 | 1,hm=>cases hm;exact ⟨_,hb.2 2,hb.2 3,none,0,rfl,by simp,fun h=>absurd h (by simp)⟩
theorem aMu {b:Nat} {W:World} (hb:aN b #[.int .i64 0,.int .i64 2] W):aH (inW W) W [0,2] (.slice (some ⟨b,0,none⟩) 2 2):=by
 refine ⟨_,_,rfl,by simp,fun _=>⟨b,0,rfl,hb.1,fun j z hz=> ?_⟩⟩
 match j,hz with
 | 0,hz=>cases hz;exact hb.2 0
 | 1,hz=>cases hz;exact hb.2 1
theorem yZ (S:Nat->Prop) (w:World):jQ S w [] (.slice none 0 0):=⟨_,_,rfl,by simp,fun h=>absurd h (by simp)⟩
theorem iF.best {ps:List PK} {wi:WI} {c:List Bool} {w w':World} {e:Ending} (h:iF ps wi 40000 w e w') (h0:bF ps wi=0) (hb:pD ps wi c):aA w w'/\∃ v,e=.returned (.tuple #[v,.slice none 0 0,.int .i64 0])/\bI (fun b=>w.heap.size<=b/\b<w'.heap.size) w' (bU ps wi c) v:=by
 have he:=lV h0
 obtain ⟨k,h⟩:=h
 obtain ⟨g1,g2⟩:=qH h0 he hb
 rcases h with ⟨h1,-⟩ | ⟨-,h2,-⟩ | ⟨-,-,h3,-⟩ | ⟨-,-,-,v,rfl,h5⟩
 ·exact absurd h0 h1
 ·exact absurd he h2
 ·exact absurd g1 h3
 ·exact ⟨k,v,rfl,g2 ▸ h5⟩
theorem iF.none {ps:List PK} {wi:WI} {w w':World} {e:Ending} (h:iF ps wi 40000 w e w') (h0:bF ps wi=0) (hn:mG ps wi):aA w w'/\(cM ps wi 40000).P ≠ []/\∃ pv,e=.returned (.tuple #[.slice none 0 0,pv,.int .i64 7])/\Cn.dU (fun b=>w.heap.size<=b/\b<w'.heap.size) w' (cM ps wi 40000).P pv:=by
 have he:=lV h0
 obtain ⟨k,h⟩:=h
 have g1:=qI h0 he hn
 rcases h with ⟨h1,-⟩ | ⟨-,h2,-⟩ | ⟨-,-,h3,pv,rfl,h5⟩ | ⟨-,-,h3,-⟩
 ·exact absurd h0 h1
 ·exact absurd he h2
 ·exact ⟨k,h3,pv,rfl,h5⟩
 ·exact absurd h3 g1
theorem aSy:cT bA (mkW (wX [0,2]) []) 40000=0/\nH bA (wX [0,2]) 40000 0=0/\nH bA (wX [0,2]) 40000 1=7/\(eI bA (wX [0,2]) 40000 2).2 = [2]:=by
 have h1:nH bA (wX [0,2]) 40000 0=0:=xI (wi:=wX [0]) (qV (.inr (.inl rfl))) (aDq (.inr rfl))
 have e1:=aDj h1
 have h2:nH bA (wX [0,2]) 40000 1=7:=by
  unfold nH
  rw [e1]
  exact aJv (wi:=wX [0,2]) (qV (.inr (.inr rfl))) aMt
 have e2:=aHr (j:=1) (by rw [h2];decide)
 refine ⟨xI (wi:=wX []) (qV (.inl rfl)) (aDq (.inl rfl)),h1,h2,?_⟩
 rw [e2,e1]
 rfl
theorem zD (w:World) (hE:Env w) (hM:kQ w) :
  Calls Tryz.prog 18 #[] w fun e w'=>e=.returned (.bool true)/\aA w w':=by
 go_enter Tryz.func18,Tryz.ntmps18
 go_wp2_with fail
 refine (aFm w hE hM).mono ?_
 rintro e w1 ⟨v1,rfl,hp1,k1,hcap⟩
 obtain ⟨p1,c1,rfl,-⟩:=hp1.len
 have HP1:=hid (bC.mono (S':=inW w1) (fun _ _=>rfl) (fun b hb=>hb.2) hp1)
 have K1:=hid k1
 have HCAP:=hid hcap
 clear hp1 k1 hE hM hcap
 go_wp2_with fail
 refine aU (fun W'=>aA w1 W'/\aD w1.heap.size 24 (.slice p1 bA.length c1) W'/\aN (w1.heap.size+1) #[.string ⟨#[97]⟩,.int .i64 0,.int .i64 0,.int .i64 0,.string ⟨#[]⟩,.bool false] W'/\aN (w1.heap.size+1+1) #[.int .i64 3,.slice none 0 0] W'/\aE (w1.heap.size+1+1+1) 30 #[.slice (some ⟨w1.heap.size+1,0,none⟩) 1 1,.slice (some ⟨w1.heap.size+1+1,0,none⟩) 1 1,.slice none 0 0,.slice none 0 0] W')
  ⟨(((aA.alloc _ _).alloc' _).alloc' _).alloc' _,(aD.new _ _ _).keep (((aA.alloc _ _).alloc' _).alloc' _) (by simp),(kS (by simp) _ _).keep ((aA.alloc _ _).alloc' _) (by simp),(kS (by simp) _ _).keep (aA.alloc _ _) (by simp),aLl (by simp) _ _⟩ ?_
 rintro W2 ⟨k2,v2,b2,m2,x2⟩
 refine (fS (inW W2) bA wR 40000 _ _ _ _ _ W2 (fun _ h=>h) (bC.mono (bG (fun _ h=>h) k2) (fun b hb=>Nat.lt_of_lt_of_le hb k2.size) HP1.out) ⟨yE (a:=atA) b2,uK m2,jE _ _,yZ _ _⟩ HCAP.out).mono ?_
 rintro e w3 h3
 obtain ⟨k3,a3,rfl,ha3⟩:=h3.best aQs aQq
 rw [aSv] at ha3
 have HB1:w1.heap.size+1+1+1<W2.heap.size:=x2.facts.2.2
 have K3:=hid (k2.trans k3)
 have V3:=hid (v2.keep k3 v2.facts.2.2)
 have M3:=hid (m2.keep k3 m2.1)
 have X3:=hid (x2.keep k3 x2.facts.2.2)
 have A3:=hid (ha3.mono (S':=fun c=>W2.heap.size<=c/\c<w3.heap.size) (fun _ _=>rfl) fun _ h=>h)
 have hs3:=k3.size
 clear k2 v2 b2 m2 x2 k3 ha3 h3
 generalize W2.heap.size=n2 at HB1 A3 hs3
 obtain ⟨ap3,ac3,rfl,-⟩:=A3.out.len
 obtain ⟨hcv,-,hlv⟩:=V3.out.facts
 obtain ⟨hcx,hfx,hlx⟩:=X3.out.facts
 have hx0:=hcx 0
 have hx1:=hcx 1
 have hx2:=hcx 2
 have hx3:=hcx 3
 have hf0:=hfx 0
 clear hcx hfx
 go_wp2_with fail
 refine aU (fun W'=>aA w1 W'/\aD w1.heap.size 24 (.slice p1 bA.length c1) W'/\aN w3.heap.size #[.string ⟨#[97]⟩,.int .i64 0,.int .i64 0,.int .i64 0,.string ⟨#[120]⟩,.bool true] W'/\aN (w1.heap.size+1+1) #[.int .i64 3,.slice none 0 0] W'/\aE (w1.heap.size+1+1+1) 30 #[.slice (some ⟨w3.heap.size,0,none⟩) 1 1,.slice (some ⟨w1.heap.size+1+1,0,none⟩) 1 1,.slice none 0 0,.slice none 0 0] W'/\bI (fun c=>n2<=c/\c<w3.heap.size) W' [⟨1,[false]⟩,⟨3,[]⟩] (.slice ap3 2 ac3))
  ⟨aA.alloc' (show aA w1 _ from Below.trans K3.out ((aM w3 (w1.heap.size+1+1+1) 0 _).mono (by omega))) _,(V3.out.keep (aM w3 (w1.heap.size+1+1+1) 0 _) (by omega)).keep (aA.alloc _ _) (by rw [cP];omega),kS (cP _ _ _ _) _ _,(M3.out.keep (aM w3 (w1.heap.size+1+1+1) 0 _) (by omega)).keep (aA.alloc _ _) (by rw [cP];omega),(X3.out.set 0 _).keep (aA.alloc _ _) (by rw [cP];omega),A3.out.mono (fun p hp=>((aA.alloc _ _).cell (p:=p) (by rw [cP];exact hp.2)).trans (jS (by omega))) fun _ h=>h⟩ ?_
 clear V3 M3 X3 A3 K3 hcv hlv hx0 hx1 hx2 hx3 hf0 hlx
 rintro W4 ⟨k4,v4,b4,m4,x4,a4⟩
 have hn4:w3.heap.size<=W4.heap.size:=Nat.le_of_lt b4.1
 refine (fS (inW W4) bA (wX []) 40000 _ _ _ _ _ W4 (fun _ h=>h) (bC.mono (bG (fun _ h=>h) k4) (fun b hb=>Nat.lt_of_lt_of_le hb k4.size) HP1.out) ⟨yE (a:=aIa) b4,uK m4,jE _ _,yZ _ _⟩ HCAP.out).mono ?_
 rintro e w5 h5
 obtain ⟨k5,a5,rfl,ha5⟩:=h5.best (qV (.inl rfl)) (aDq (.inl rfl))
 rw [aSw] at ha5
 have K5:=hid (k4.trans k5)
 have V5:=hid (v4.keep k5 v4.facts.2.2)
 have B5:=hid (b4.keep k5 b4.1)
 have M5:=hid (m4.keep k5 m4.1)
 have X5:=hid (x4.keep k5 x4.facts.2.2)
 have A5:=hid (a4.mono (S':=fun c=>n2<=c/\c<w3.heap.size) (fun p hp=>k5.cell (p:=p) (Nat.lt_of_lt_of_le hp.2 hn4)) fun _ h=>h)
 have C5:=hid (ha5.mono (S':=fun c=>W4.heap.size<=c/\c<w5.heap.size) (fun _ _=>rfl) fun _ h=>h)
 have hs5:=k5.size
 have hb4:=b4.1
 clear k4 v4 b4 m4 x4 a4 k5 ha5 h5
 obtain ⟨ap5,ac5,rfl,-⟩:=C5.out.len
 obtain ⟨hcv,-,hlv⟩:=V5.out.facts
 obtain ⟨hcx,hfx,hlx⟩:=X5.out.facts
 have hx0:=hcx 0
 have hx1:=hcx 1
 have hx2:=hcx 2
 have hx3:=hcx 3
 have hf0:=hfx 2
 clear hcx hfx
 go_wp2_with fail
 refine aU (fun W'=>aA w1 W'/\aD w1.heap.size 24 (.slice p1 bA.length c1) W'/\aN w3.heap.size #[.string ⟨#[97]⟩,.int .i64 0,.int .i64 0,.int .i64 0,.string ⟨#[120]⟩,.bool true] W'/\aN (w1.heap.size+1+1) #[.int .i64 3,.slice none 0 0] W'/\aE (w1.heap.size+1+1+1) 30 #[.slice (some ⟨w3.heap.size,0,none⟩) 1 1,.slice (some ⟨w1.heap.size+1+1,0,none⟩) 1 1,.slice (some ⟨w5.heap.size,0,none⟩) 2 2,.slice none 0 0] W'/\bI (fun c=>n2<=c/\c<w3.heap.size) W' [⟨1,[false]⟩,⟨3,[]⟩] (.slice ap3 2 ac3)/\bI (fun c=>W4.heap.size<=c/\c<w5.heap.size) W' [⟨1,[true]⟩,⟨2,[]⟩] (.slice ap5 2 ac5)/\aN w5.heap.size #[.int .i64 0,.int .i64 2] W')
  ⟨aA.alloc' (show aA w1 _ from Below.trans K5.out ((aM w5 (w1.heap.size+1+1+1) 2 _).mono (by omega))) _,(V5.out.keep (aM w5 (w1.heap.size+1+1+1) 2 _) (by omega)).keep (aA.alloc _ _) (by rw [cP];omega),⟨by rw [aC,cP];omega,fun o=>((aA.alloc _ _).cell (p:=⟨w3.heap.size,o,none⟩) (by show w3.heap.size<_;rw [cP];omega)).trans ((jS (by show w3.heap.size≠_;omega)).trans (B5.out.2 o))⟩,(M5.out.keep (aM w5 (w1.heap.size+1+1+1) 2 _) (by omega)).keep (aA.alloc _ _) (by rw [cP];omega),(X5.out.set 2 _).keep (aA.alloc _ _) (by rw [cP];omega),A5.out.mono (fun p hp=>((aA.alloc _ _).cell (p:=p) (by rw [cP];omega)).trans (jS (by omega))) fun _ h=>h,C5.out.mono (fun p hp=>((aA.alloc _ _).cell (p:=p) (by rw [cP];exact hp.2)).trans (jS (by omega))) fun _ h=>h,kS (cP _ _ _ _) _ _⟩ ?_
 clear V5 M5 X5 A5 B5 C5 K5 hcv hlv hx0 hx1 hx2 hx3 hf0 hlx
 rintro W6 ⟨k6,v6,b6,m6,x6,a6,c6,z6⟩
 have hn6:w5.heap.size<=W6.heap.size:=Nat.le_of_lt z6.1
 have HW6:=hid (show eH (inW W6) W6 (wX [0,2]) _ _ _ _ from ⟨yE (a:=aIa) b6,uK m6,aMu z6,yZ _ _⟩)
 have HP6:=hid (bC.mono (S':=inW W6) (bG (fun _ h=>h) k6) (fun b hb=>Nat.lt_of_lt_of_le hb k6.size) HP1.out)
 refine (fS (inW W6) bA (wX [0,2]) 40000 _ _ _ _ _ W6 (fun _ h=>h) HP6.out HW6.out HCAP.out).mono ?_
 rintro e w7 h7
 obtain ⟨k7,hP7,p7,rfl,hp7⟩:=h7.none (qV (.inr (.inr rfl))) aMt
 obtain ⟨pp7,pc7,rfl,-⟩:=hp7.len
 obtain ⟨pl,hpl⟩ : ∃ pl:Nat,pl=(cM bA (wX [0,2]) 40000).P.length:=⟨_,rfl⟩
 have hpl1:(0:Int)<(pl:Int):=by have:=List.length_pos_iff.2 hP7;omega
 rw [← hpl]
 have K7:=hid (k6.trans k7)
 have V7:=hid (v6.keep k7 v6.facts.2.2)
 have X7:=hid (x6.keep k7 x6.facts.2.2)
 have A7:=hid (a6.mono (S':=inW w7) (fun p hp=>k7.cell (p:=p) (by omega)) fun c hc=>by have:=k7.size;show c<_;omega)
 have C7:=hid (c6.mono (S':=inW w7) (fun p hp=>k7.cell (p:=p) (by omega)) fun c hc=>by have:=k7.size;show c<_;omega)
 have HW7:=hid ((HW6.out.keep (fun _ h=>h) k7).mono (S':=inW w7) fun c hc=>Nat.lt_of_lt_of_le hc k7.size)
 have HP7:=hid ((HP6.out.keep (fun _ h=>h) k7).mono (S':=inW w7) (fun _ _=>rfl) fun c hc=>Nat.lt_of_lt_of_le hc k7.size)
 clear k6 v6 b6 m6 x6 a6 c6 z6 k7 h7 hp7 hP7 hpl HW6 HP6
 obtain ⟨hcv,-,hlv⟩:=V7.out.facts
 obtain ⟨hcx,-,hlx⟩:=X7.out.facts
 have hx0:=hcx 0
 have hx1:=hcx 1
 have hx2:=hcx 2
 have hx3:=hcx 3
 clear hcx
 go_wp2_with fail
 refine (aFw (inW w7) bA (wX [0,2]) 40000 _ _ _ _ _ w7 (fun _ h=>h) HP7.out HW7.out HCAP.out).mono ?_
 obtain ⟨hu0,hu1,hu2,hu3⟩:=aSy
 rintro e w8 ⟨k8,⟨h0,-⟩ | ⟨-,h0,-⟩ | ⟨-,-,j,hj,h1,h2,-⟩ | ⟨-,-,-,v8,rfl,h8,-⟩⟩
 ·exact absurd (qV (.inr (.inr rfl))) h0
 ·exact absurd hu0 h0
 ·match j,hj with
  | 0,_=>exact absurd hu1 h1
  | 1,_=>exact absurd hu2 h2
 rw [show (wX [0,2]).ma.length=2 from rfl,hu3] at h8
 have I8:=hid h8
 have K8:=hid (K1.out.trans (K7.out.trans k8))
 have A8:=hid ((A7.out.keep (fun _ h=>h) k8).mono (S':=inW w8) (fun _ _=>rfl) fun c hc=>Nat.lt_of_lt_of_le hc k8.size)
 have C8:=hid ((C7.out.keep (fun _ h=>h) k8).mono (S':=inW w8) (fun _ _=>rfl) fun c hc=>Nat.lt_of_lt_of_le hc k8.size)
 obtain ⟨up,uc,rfl⟩:=h8.len
 have hs8:=k8.size
 clear k8 h8 hcv hlv hx0 hx1 hx2 hx3 hlx V7 X7 A7 C7 HW7 HP7 hu0 hu1 hu2 hu3
 go_wp2_with fail
 refine aU (fun W'=>aA w8 W'/\bI (inW W') W' [⟨1,[false]⟩,⟨3,[]⟩] (.slice (some ⟨w8.heap.size+1,0,none⟩) 2 2)) ⟨(aA.alloc _ _).alloc' _,aHd (kS (by simp) _ _) ((aN.new _ _ _).keep (aA.alloc _ _) (by simp))⟩ ?_
 rintro W9 ⟨k9,m9⟩
 refine (qJ (inW W9) [⟨1,[false]⟩,⟨3,[]⟩] [⟨1,[false]⟩,⟨3,[]⟩] _ _ W9 (fun _ h=>h) ((A8.out.keep (fun _ h=>h) k9).mono (fun _ _=>rfl) fun c hc=>Nat.lt_of_lt_of_le hc k9.size) m9).mono ?_
 rintro e w10 ⟨β,rfl,hβ,k10⟩
 obtain rfl:β=true:=hβ.2 rfl
 have K10:=hid (k9.trans k10)
 have C10:=hid ((C8.out.keep (fun _ h=>h) K10.out).mono (S':=inW w10) (fun _ _=>rfl) fun c hc=>Nat.lt_of_lt_of_le hc K10.out.size)
 clear k9 m9 k10 hβ A8 C8
 go_wp2_with fail
 refine aU (fun W'=>aA w10 W'/\bI (inW W') W' [⟨1,[true]⟩,⟨2,[]⟩] (.slice (some ⟨w10.heap.size+1,0,none⟩) 2 2)) ⟨(aA.alloc _ _).alloc' _,aHd (kS (by simp) _ _) ((aN.new _ _ _).keep (aA.alloc _ _) (by simp))⟩ ?_
 rintro W11 ⟨k11,m11⟩
 refine (qJ (inW W11) [⟨1,[true]⟩,⟨2,[]⟩] [⟨1,[true]⟩,⟨2,[]⟩] _ _ W11 (fun _ h=>h) ((C10.out.keep (fun _ h=>h) k11).mono (fun _ _=>rfl) fun c hc=>Nat.lt_of_lt_of_le hc k11.size) m11).mono ?_
 rintro e w12 ⟨β,rfl,hβ,k12⟩
 obtain rfl:β=true:=hβ.2 rfl
 have K12:=hid (K10.out.trans (k11.trans k12))
 clear k11 m11 k12 hβ C10
 go_wp2_with fail
 refine aU (fun W'=>aA w12 W'/\eX (.slice (some ⟨w12.heap.size,0,none⟩) 1 1) [2] W') ⟨aA.alloc _ _,.inr ⟨_,1,rfl,by simp,fun j x hx=> ?_⟩⟩ ?_
 ·match j,hx with
  | 0,hx=>cases hx;exact (aN.new w12 #[.int .i64 2] _).2 0
 rintro W13 ⟨k13,i13⟩
 refine (vZ _ _ [2] [2] W13 (I8.out.keep (K12.out.trans k13)) i13 (by decide) (by decide)).mono ?_
 rintro e w14 ⟨rfl,q,rfl⟩
 rw [show (([2]:List Int) == [2])=true by decide]
 have KF:=hid (((K8.out.trans K12.out).trans k13).trans ((aA.refl W13).drewN q))
 generalize W13.drewN q=w14 at KF ⊢
 clear k13 i13
 go_wp2_with fail
 go_ret
 exact ⟨rfl,KF.out⟩
end Go.Proofs.YtonlloiemgdfkaaGreatDoor
