/- Steps of the proof: ResResolve, ResUnm, ResGen, ResOn, NeedNeeded, TreeForest, ValidSmall, ValidAllowed, ResSmall, RefSame, TreeSame. -/
import Derived.Test.YthaaaecmeafofaaGreatDoorRb21
import Derived.Test.YthaaaecmeafofaaGreatDoorRb26
import Derived.Test.YthaaaecmeafofaaGreatDoorRb27
import Derived.Test.YthaaaecmeafofaaGreatDoorRb29
import Derived.BigQuiet
import Derived.Test.YthaaaecmeafofaaGreatDoorRb19
import Derived.Test.YthaaaecmeafofaaGreatDoorRb17
import Derived.Test.YthaaaecmeafofaaGreatDoorRb07
import Derived.Test.YthaaaecmeafofaaGreatDoorRb09
import Derived.BigRegion
set_option maxHeartbeats 16000000
set_option maxRecDepth 100000
namespace Go.Proofs.YthaaaecmeafofaaGreatDoor
open Go.RowKit
def iK (ps:List PK) (wi:WI) (s:Int) (w:World) (e:Ending) (w':World):Prop:=
 aA w w'/\((bE ps wi≠0/\e=.returned (.tuple #[.slice none 0 0,.slice none 0 0,.int .i64 (bE ps wi)]))
  ∨(bE ps wi=0/\(cO ps wi s).er≠0/\e=.returned (.tuple #[.slice none 0 0,.slice none 0 0,.int .i64 (cO ps wi s).er]))
  ∨(bE ps wi=0/\(cO ps wi s).er=0/\(cO ps wi s).P ≠ []/\∃ pv,e=.returned (.tuple #[.slice none 0 0,pv,.int .i64 7])/\Cn.eE (fun b=>w.heap.size<=b/\b<w'.heap.size) w' (cO ps wi s).P pv)
  ∨(bE ps wi=0/\(cO ps wi s).er=0/\(cO ps wi s).P = []/\∃ v,e=.returned (.tuple #[v,.slice none 0 0,.int .i64 0])/\bI (fun b=>w.heap.size<=b/\b<w'.heap.size) w' (bN ps wi (cO ps wi s).m) v))
theorem fU (S:Nat->Prop) (ps:List PK) (wi:WI) (s:Int) (pv tsv inv mav onv:Value) (w:World) (hS : ∀ b,S b->b<w.heap.size) (hp:bC S w ps pv) (hw:dZ S w wi tsv inv mav onv) (hcap:kV pv) :
  Calls Tryz.prog 21 #[.agg #[pv],.agg #[tsv,inv,mav,onv],.int .i64 s] w fun e w'=>iK ps wi s w e w':=by
 have HP:=hid hp
 have HW:=hid hw
 clear hp hw
 go_enter Tryz.func21,Tryz.ntmps21
 go_upto_region 1 with fail
 refine bF (fun W'=>aA w W'/\aE w.heap.size 24 pv W'/\aD (w.heap.size+1) 46 #[tsv,inv,mav,onv] W') ⟨(aA.alloc _ _).alloc' _,(aE.new _ _ _).keep (aA.alloc _ _) (by simp),?_⟩ ?_
 ·have:=aD.new (w.alloc (.cells #[pv] 24)) 46 #[tsv,inv,mav,onv]
  rw [aC] at this;exact this
 rintro W1 ⟨k1,v1,b1⟩
 have K1:=hid k1
 have V1:=hid v1
 have B1:=hid b1
 generalize w.heap.size=b at V1 B1 ⊢
 clear k1 v1 b1
 have ht0:=V1.out.facts.1
 have htl:=V1.out.facts.2.2
 have hw0:W1.cell? ⟨b+1,0,none⟩=some tsv:=B1.out.facts.1 0
 have hw1:W1.cell? ⟨b+1,1,none⟩=some inv:=B1.out.facts.1 1
 have hw2:W1.cell? ⟨b+1,2,none⟩=some mav:=B1.out.facts.1 2
 have hw3:W1.cell? ⟨b+1,3,none⟩=some onv:=B1.out.facts.1 3
 have hwl:=B1.out.facts.2.2
 go_wp2_with fail
 refine (aEt S ps wi _ _ _ _ _ W1 (fun c hc=>Nat.lt_of_lt_of_le (hS c hc) K1.out.size) (HP.out.keep hS K1.out) (HW.out.keep hS K1.out) hcap).mono ?_
 rintro e W2 ⟨k2,h2⟩
 have K2:=hid (K1.out.trans k2)
 have V2:=hid (V1.out.keep k2 V1.out.facts.2.2)
 have B2:=hid (B1.out.keep k2 B1.out.facts.2.2)
 clear ht0 htl hw0 hw1 hw2 hw3 hwl V1 B1 k2
 rcases h2 with ⟨hz,rfl⟩ | ⟨hz,cv,rfl,hcls⟩
 ·have hz1:(bE ps wi==0)=false:=by simpa using hz
  have hz2:(bE ps wi != 0)=true:=by simp [bne,hz1]
  have HZ:=hid hz
  obtain ⟨cw,hcw⟩ : ∃ cw,cw=bE ps wi:=⟨_,rfl⟩
  have HCW:=hid hcw
  rw [← hcw] at hz1 hz2 ⊢
  clear hz hcw
  go_wp2_with fail
  refine cE (v:= .tuple #[.slice none 0 0,.slice none 0 0,.int .i64 cw]) (fun W'=>aA w W') (K2.out.alloc' _) rfl ?_
  intro W hkW
  exact ⟨by simp [results,Tryz.results21,go_sem],hkW,.inl ⟨HZ.out,by rw [HCW.out]⟩⟩
 obtain ⟨cp,cc,rfl,hcl⟩:=hcls.len
 have HCLS:=hid hcls
 have HZ:=hid hz
 have HF:=hid (show ∀ c∈(dQ ps wi).cl,∀ x∈c,Cn.InR x from fun c hc x hx=>by
  obtain ⟨-,g2,-,g4,-⟩:=tA hz
  have:=((g4 c hc).1 x hx).2
  unfold Cn.InR
  omega)
 clear hcls hz
 go_wp2_with fail
 refine aX (fun W'=>aA W2 W') (aA.alloc _ _) ?_
 intro W3 k3
 refine (Cn.aKv (fun b=>W1.heap.size<=b/\b<W2.heap.size) _ (dQ ps wi).cl cp cc s W3 (fun c hc=>Nat.lt_of_lt_of_le hc.2 k3.size) ⟨HCLS.out.keep (B:=W2.heap.size) (fun c hc=>hc.2) k3,HF.out⟩).mono ?_
 rintro e W4 ⟨k4,mv,pv4,rfl,hbo,hpr⟩
 have k4:aA W3 W4:=k4
 have hpr:Cn.eE (fun c=>W3.heap.size<=c/\c<W4.heap.size) W4 (cO ps wi s).P pv4:=hpr
 have hbo:Cn.aZ (fun c=>W3.heap.size<=c/\c<W4.heap.size) W4 (cO ps wi s).m mv:=hbo
 have KS:=hid (K2.out.trans k3).size
 rw [show Cn.oJ ((dQ ps wi).n:Nat) (dQ ps wi).cl s=cO ps wi s from rfl]
 have K4:=hid ((K2.out.trans k3).trans k4)
 have V4:=hid (V2.out.keep (k3.trans k4) V2.out.facts.2.2)
 have B4:=hid (B2.out.keep (k3.trans k4) B2.out.facts.2.2)
 obtain ⟨pp4,pc4,rfl,hpl⟩:=hpr.len
 obtain ⟨mp4,mc4,rfl,hml,-⟩:=id hbo
 have HBO:=hid hbo
 have HPR:=hid hpr
 clear V2 B2 HCLS HF hbo hpr k3 k4
 obtain ⟨er,her⟩ : ∃ er,er=(cO ps wi s).er:=⟨_,rfl⟩
 have HER:=hid her
 rw [← her]
 clear her
 by_cases he:er=0
 ·subst he
  obtain ⟨pl,hpe⟩ : ∃ pl:Nat,pl=(cO ps wi s).P.length:=⟨_,rfl⟩
  have HPE:=hid hpe
  rw [← hpe] at HPR hpl ⊢
  clear hpe
  go_upto_region 7 with fail
  refine bF (fun W'=>aA W4 W'/\aD W4.heap.size 90 #[.slice mp4 (cO ps wi s).m.length mc4,.slice pp4 pl pc4] W') ⟨aA.alloc _ _,aD.new _ _ _⟩ ?_
  rintro W5 ⟨k5,b5⟩
  have K5:=hid (K4.out.trans k5)
  have HK5:=hid k5
  have V5:=hid (V4.out.keep k5 V4.out.facts.2.2)
  have B5:=hid (B4.out.keep k5 B4.out.facts.2.2)
  have X5:=hid b5
  have ha4:w.heap.size<=W4.heap.size:=K4.out.size
  generalize W4.heap.size=ab at X5 ha4 ⊢
  clear V4 B4 k5 b5
  have ha0:W5.cell? ⟨ab,0,none⟩=some (.slice mp4 (cO ps wi s).m.length mc4):=X5.out.facts.1 0
  have ha1:W5.cell? ⟨ab,1,none⟩=some (.slice pp4 pl pc4):=X5.out.facts.1 1
  have hal:=X5.out.facts.2.2
  by_cases hp0:0<pl
  ·have hp1:(0:Int)<(pl:Int):=by omega
   go_upto_region 8 with fail
   go_quiet (fail)
   go_wp2_with fail
   refine cE (v:= .tuple #[.slice none 0 0,.slice pp4 pl pc4,.int .i64 7]) (fun W'=>aA W5 W') ((aA.refl _).drewN _) rfl ?_
   intro W hkW
   refine ⟨by simp [results,Tryz.results21,go_sem],K5.out.trans hkW,.inr (.inr (.inl ⟨HZ.out,HER.out.symm,fun e=> ?_,_,rfl,?_⟩))⟩
   ·have:=HPE.out;rw [e] at this;simp at this;omega
   ·exact HPR.out.mono (fun p hp=>(HK5.out.trans hkW).cell (p:=p) hp.2) fun c hc=>⟨Nat.le_trans KS.out hc.1,Nat.lt_of_lt_of_le hc.2 (HK5.out.trans hkW).size⟩
  have hp1 : ¬ (0:Int)<(pl:Int):=by omega
  have ht0:=V5.out.facts.1
  have htl:=V5.out.facts.2.2
  have hw0:W5.cell? ⟨b+1,0,none⟩=some tsv:=B5.out.facts.1 0
  have hw1:W5.cell? ⟨b+1,1,none⟩=some inv:=B5.out.facts.1 1
  have hw2:W5.cell? ⟨b+1,2,none⟩=some mav:=B5.out.facts.1 2
  have hw3:W5.cell? ⟨b+1,3,none⟩=some onv:=B5.out.facts.1 3
  have hwl:=B5.out.facts.2.2
  have hPn:(cO ps wi s).P = []:=by
   have:=HPE.out
   exact List.length_eq_zero_iff.1 (by omega)
  have HPN:=hid hPn
  clear hPn
  go_wp2_with fail
  refine (aQu (fun c=>c<W5.heap.size) ps wi (cO ps wi s).m _ _ _ _ _ _ W5 (fun _ h=>h) ((HP.out.keep hS K5.out).mono (fun _ _=>rfl) fun c hc=>Nat.lt_of_lt_of_le (hS c hc) K5.out.size) ((HW.out.keep hS K5.out).mono fun c hc=>Nat.lt_of_lt_of_le (hS c hc) K5.out.size) (aZ.mono (S:=fun c=>W3.heap.size<=c/\c<W4.heap.size) (fun p hp=>HK5.out.cell (p:=p) hp.2) (fun c hc=>Nat.lt_of_lt_of_le hc.2 HK5.out.size) HBO.out)).mono ?_
  have HOK:=hid ((zT HZ.out HER.out.symm).resolve_right fun h=>h.1 HPN.out)
  rintro e W6 ⟨k6,⟨h0,-⟩ | ⟨-,h0,-⟩ | ⟨-,-,-,v6,rfl,hm6⟩⟩
  ·exact absurd HZ.out h0
  ·have:=HOK.out;omega
  have K6:=hid (K5.out.trans k6)
  have HM6:=hid hm6
  clear hm6 k6
  go_wp2_with fail
  refine cE (v:= .tuple #[v6,.slice none 0 0,.int .i64 0]) (fun W'=>W'=W6) rfl rfl ?_
  rintro W rfl
  exact ⟨by simp [results,Tryz.results21,go_sem],K6.out,.inr (.inr (.inr ⟨HZ.out,HER.out.symm,HPN.out,_,rfl,HM6.out.mono (fun _ _=>rfl) fun c hc=>⟨Nat.le_trans K5.out.size hc.1,hc.2⟩⟩))⟩
 ·have hz1:(er==0)=false:=by simpa using he
  have hz2:(er != 0)=true:=by simp [bne,hz1]
  have HE:=hid he
  clear he
  go_wp2_with fail
  refine cE (v:= .tuple #[.slice none 0 0,.slice none 0 0,.int .i64 er]) (fun W'=>aA w W') (K4.out.alloc' _) rfl ?_
  intro W hkW
  exact ⟨by simp [results,Tryz.results21,go_sem],hkW,.inr (.inl ⟨HZ.out,by rw [← HER.out];exact HE.out,by rw [HER.out]⟩)⟩
def mkW (wi:WI) (l:List Int):WI:= { wi with ma:=l }
noncomputable def eC (ps:List PK) (wi:WI) (s:Int):Int:=
 if bE ps wi≠0 then bE ps wi else if (cO ps wi s).er≠0 then (cO ps wi s).er else if (cO ps wi s).P = [] then 0 else 7
theorem xS {ps:List PK} {wi:WI} {c:List Bool} (h:bE ps wi=0) (hb:mG ps wi c):eC ps wi 40000=0:=by
 have he:=qP h
 unfold eC
 rw [if_neg (by simp [h]),if_neg (by simp [he]),if_pos (aDe h he hb).1]
theorem aKr {ps:List PK} {wi:WI} (h:bE ps wi=0) (hn:rT ps wi):eC ps wi 40000=7:=by
 have he:=qP h
 unfold eC
 rw [if_neg (by simp [h]),if_neg (by simp [he]),if_neg (aDf h he hn)]
theorem iK.err {ps:List PK} {wi:WI} {s:Int} {w w':World} {e:Ending} (h:iK ps wi s w e w'):aA w w'/\∃ v pv,e=.returned (.tuple #[v,pv,.int .i64 (eC ps wi s)]):=by
 obtain ⟨k,h⟩:=h
 refine ⟨k,?_⟩
 unfold eC
 rcases h with ⟨h1,rfl⟩ | ⟨h1,h2,rfl⟩ | ⟨h1,h2,h3,pv,rfl,-⟩ | ⟨h1,h2,h3,v,rfl,-⟩
 ·rw [if_pos h1];exact ⟨_,_,rfl⟩
 ·rw [if_neg (by simp [h1]),if_pos h2];exact ⟨_,_,rfl⟩
 ·rw [if_neg (by simp [h1]),if_neg (by simp [h2]),if_neg h3];exact ⟨_,_,rfl⟩
 ·rw [if_neg (by simp [h1]),if_neg (by simp [h2]),if_pos h3];exact ⟨_,_,rfl⟩
theorem oM (S:Nat->Prop) (ps:List PK) (wi:WI) (l:List Int) (s:Int) (pv tsv inv mav onv mv:Value) (w:World) (hS : ∀ b,S b->b<w.heap.size) (hp:bC S w ps pv) (hw:dZ S w wi tsv inv mav onv) (hm:aH S w l mv) (hcap:kV pv) :
  Calls Tryz.prog 73 #[.agg #[pv],.agg #[tsv,inv,mav,onv],mv,.int .i64 s] w fun e w'=>e=.returned (.int .i64 (eC ps (mkW wi l) s))/\aA w w':=by
 have HP:=hid hp
 obtain ⟨mp,mc,rfl,-⟩:=hm.len
 have HW:=hid (show dZ S w (mkW wi l) tsv inv (.slice mp l.length mc) onv from ⟨hw.ts,hw.ins,hm,hw.on⟩)
 clear hp hw hm
 go_enter Tryz.func73,Tryz.ntmps73
 go_upto_region 1 with fail
 obtain ⟨b,hb⟩ : ∃ b,b=w.heap.size:=⟨_,rfl⟩
 have hbw:w.heap.size<=b:=by omega
 refine bF (fun W'=>aA w W'/\aE w.heap.size 24 pv W'/\aD (w.heap.size+1) 46 #[tsv,inv,mav,onv] W') ⟨(aA.alloc _ _).alloc' _,(aE.new _ _ _).keep (aA.alloc _ _) (by simp),?_⟩ ?_
 ·have:=aD.new (w.alloc (.cells #[pv] 24)) 46 #[tsv,inv,mav,onv]
  rw [aC] at this;exact this
 rintro W1 ⟨k1,v1,b1⟩
 have K1:=hid k1
 have V1:=hid v1
 have B1:=hid b1
 rw [← hb] at V1 B1 ⊢
 clear k1 v1 b1 hb
 have hw2:W1.cell? ⟨b+1,2,none⟩=some mav:=B1.out.facts.1 2
 have hf2:=B1.out.facts.2.1 2
 have hwl:=B1.out.facts.2.2
 go_upto_region 2 with fail
 refine bF (fun W'=>aA w W'/\aE b 24 pv W'/\aD (b+1) 46 #[tsv,inv,.slice mp l.length mc,onv] W') ⟨Below.trans K1.out ((aM W1 (b+1) 2 (.slice mp l.length mc)).mono (by omega)),V1.out.keep (aM W1 (b+1) 2 (.slice mp l.length mc)) (by omega),B1.out.set 2 (.slice mp l.length mc)⟩ ?_
 rintro W2 ⟨k2,v2,b2⟩
 have K2:=hid k2
 clear K1 V1 B1 hw2 hf2 hwl k2
 have ht0:=v2.facts.1
 have htl:=v2.facts.2.2
 have hw0:W2.cell? ⟨b+1,0,none⟩=some tsv:=b2.facts.1 0
 have hw1:W2.cell? ⟨b+1,1,none⟩=some inv:=b2.facts.1 1
 have hw2:W2.cell? ⟨b+1,2,none⟩=some (.slice mp l.length mc):=b2.facts.1 2
 have hw3:W2.cell? ⟨b+1,3,none⟩=some onv:=b2.facts.1 3
 have hwl:=b2.facts.2.2
 clear v2 b2
 go_wp2_with fail
 refine (fU S ps (mkW wi l) s _ _ _ _ _ W2 (fun c hc=>Nat.lt_of_lt_of_le (hS c hc) K2.out.size) (HP.out.keep hS K2.out) (HW.out.keep hS K2.out) hcap).mono ?_
 rintro e W3 h3
 obtain ⟨k3,v3,p3,rfl⟩:=h3.err
 have K3:=hid (K2.out.trans k3)
 clear h3 k3
 go_wp2_with fail
 go_ret
 exact ⟨rfl,K3.out⟩
noncomputable def eM (ps:List PK) (wi:WI) (s:Int):Nat->List Int × List Int
 | 0=>([],[])
 | j+1=>if eC ps (mkW wi ((eM ps wi s j).1 ++ [wi.ma.getD j 0])) s=0 then ((eM ps wi s j).1 ++ [wi.ma.getD j 0],(eM ps wi s j).2) else ((eM ps wi s j).1,(eM ps wi s j).2 ++ [wi.ma.getD j 0])
noncomputable def nJ (ps:List PK) (wi:WI) (s:Int) (j:Nat):Int:=eC ps (mkW wi ((eM ps wi s j).1 ++ [wi.ma.getD j 0])) s
theorem aDz (ps:List PK) (wi:WI) (s:Int) : ∀ j,(eM ps wi s j).1.length<=j/\(eM ps wi s j).2.length<=j
 | 0=>by simp [eM]
 | j+1=>by
  have:=aDz ps wi s j
  rw [eM]
  split<;>simp<;>omega
theorem aEa {ps:List PK} {wi:WI} {s:Int} {j:Nat} (h:nJ ps wi s j=0):eM ps wi s (j+1)=((eM ps wi s j).1 ++ [wi.ma.getD j 0],(eM ps wi s j).2):=by
 unfold nJ at h
 rw [eM,if_pos h]
theorem aIn {ps:List PK} {wi:WI} {s:Int} {j:Nat} (h:nJ ps wi s j≠0):eM ps wi s (j+1)=((eM ps wi s j).1,(eM ps wi s j).2 ++ [wi.ma.getD j 0]):=by
 unfold nJ at h
 rw [eM,if_neg h]
def aPl (ps:List PK) (wi:WI) (s:Int) (w:World) (e:Ending) (w':World):Prop:=
 aA w w'/\((bE ps wi≠0/\e=.returned (.tuple #[.slice none 0 0,.int .i64 (bE ps wi)]))
  ∨(bE ps wi=0/\eC ps (mkW wi []) s≠0/\e=.returned (.tuple #[.slice none 0 0,.int .i64 (eC ps (mkW wi []) s)]))
  ∨(bE ps wi=0/\eC ps (mkW wi []) s=0/\∃ j,j<wi.ma.length/\nJ ps wi s j≠0/\nJ ps wi s j≠7/\e=.returned (.tuple #[.slice none 0 0,.int .i64 (nJ ps wi s j)]))
  ∨(bE ps wi=0/\eC ps (mkW wi []) s=0/\(∀ j,j<wi.ma.length->nJ ps wi s j=0∨nJ ps wi s j=7)/\∃ v,e=.returned (.tuple #[v,.int .i64 0])/\eZ v (eM ps wi s wi.ma.length).2 w'/\aH (fun c=>w.heap.size<=c/\c<w'.heap.size) w' (eM ps wi s wi.ma.length).2 v))
theorem jK (S:Nat->Prop) (w:World):aH S w [] (.slice none 0 0):=⟨_,_,rfl,by simp,fun h=>absurd h (by simp)⟩
theorem aFr {S:Nat->Prop} {zs:List Int} {v x:Value} {w w':World} {o:Obj} (h:aH S w zs v) (hS : ∀ b,S b->b<w.heap.size/\x.ownBlock≠some b) (hg:(w.alloc o).grownBy w' x.ownBlock):aH S w' zs v:=
 h.mono (fun p hp=>by
  have h1:=hS _ hp
  exact (World.cell?_of_block (w:=w.alloc o) (hg.block p.block (by rw [aC];omega) (fun e=>h1.2 e.symm))).trans ((aA.alloc w o).cell (p:=p) h1.1)) fun _ h=>h
theorem aGq (S:Nat->Prop) (ps:List PK) (wi:WI) (s:Int) (pv tsv inv mav onv:Value) (w:World) (hS : ∀ b,S b->b<w.heap.size) (hp:bC S w ps pv) (hw:dZ S w wi tsv inv mav onv) (hcap:kV pv) :
  Calls Tryz.prog 22 #[.agg #[pv],.agg #[tsv,inv,mav,onv],.int .i64 s] w fun e w'=>aPl ps wi s w e w':=by
 obtain ⟨i0,hi,hz0,hz1,hz2⟩:=info_parts dG
 have HP:=hid hp
 have HW:=hid hw
 clear hp hw
 go_enter Tryz.func22,Tryz.ntmps22
 go_upto_region 1 with fail
 obtain ⟨b,hb⟩ : ∃ b,b=w.heap.size:=⟨_,rfl⟩
 have hbw:w.heap.size<=b:=by omega
 refine bF (fun W'=>aA w W'/\aE w.heap.size 24 pv W'/\aD (w.heap.size+1) 46 #[tsv,inv,mav,onv] W') ⟨(aA.alloc _ _).alloc' _,(aE.new _ _ _).keep (aA.alloc _ _) (by simp),?_⟩ ?_
 ·have:=aD.new (w.alloc (.cells #[pv] 24)) 46 #[tsv,inv,mav,onv]
  rw [aC] at this;exact this
 rintro W1 ⟨k1,v1,b1⟩
 have K1:=hid k1
 have V1:=hid v1
 have B1:=hid b1
 rw [← hb] at V1 B1 ⊢
 clear k1 v1 b1 hb
 have ht0:=V1.out.facts.1
 have htl:=V1.out.facts.2.2
 have hw0:W1.cell? ⟨b+1,0,none⟩=some tsv:=B1.out.facts.1 0
 have hw1:W1.cell? ⟨b+1,1,none⟩=some inv:=B1.out.facts.1 1
 have hw2:W1.cell? ⟨b+1,2,none⟩=some mav:=B1.out.facts.1 2
 have hw3:W1.cell? ⟨b+1,3,none⟩=some onv:=B1.out.facts.1 3
 have hwl:=B1.out.facts.2.2
 go_wp2_with fail
 refine (gU S ps wi _ _ _ _ _ W1 (fun c hc=>Nat.lt_of_lt_of_le (hS c hc) K1.out.size) (HP.out.keep hS K1.out) (HW.out.keep hS K1.out)).mono ?_
 rintro e W2 ⟨rfl,k2⟩
 have K2:=hid (K1.out.trans k2)
 have V2:=hid (V1.out.keep k2 V1.out.facts.2.2)
 have B2:=hid (B1.out.keep k2 B1.out.facts.2.2)
 clear ht0 htl hw0 hw1 hw2 hw3 hwl V1 B1 k2
 obtain ⟨cw,hcw⟩ : ∃ cw,cw=bE ps wi:=⟨_,rfl⟩
 have HCW:=hid hcw
 rw [← hcw]
 clear hcw
 by_cases hz:cw=0
 ·subst hz
  have ht0:=V2.out.facts.1
  have htl:=V2.out.facts.2.2
  have hw0:W2.cell? ⟨b+1,0,none⟩=some tsv:=B2.out.facts.1 0
  have hw1:W2.cell? ⟨b+1,1,none⟩=some inv:=B2.out.facts.1 1
  have hw2:W2.cell? ⟨b+1,2,none⟩=some mav:=B2.out.facts.1 2
  have hw3:W2.cell? ⟨b+1,3,none⟩=some onv:=B2.out.facts.1 3
  have hwl:=B2.out.facts.2.2
  go_wp2_with fail
  refine (oM S ps wi [] s _ _ _ _ _ _ W2 (fun c hc=>Nat.lt_of_lt_of_le (hS c hc) K2.out.size) (HP.out.keep hS K2.out) (HW.out.keep hS K2.out) (jK _ _) hcap).mono ?_
  rintro e W3 ⟨rfl,k3⟩
  have K3:=hid (K2.out.trans k3)
  have V3:=hid (V2.out.keep k3 V2.out.facts.2.2)
  have B3:=hid (B2.out.keep k3 B2.out.facts.2.2)
  clear ht0 htl hw0 hw1 hw2 hw3 hwl V2 B2 k3
  obtain ⟨er,her⟩ : ∃ er,er=eC ps (mkW wi []) s:=⟨_,rfl⟩
  have HER:=hid her
  have HER0:=hid her
  rw [← her]
  clear her
  by_cases he:er=0
  ·subst he
   obtain ⟨mp,mc,rfl,hml⟩:=HW.out.ma.len
   have hw2:W3.cell? ⟨b+1,2,none⟩=some (.slice mp wi.ma.length mc):=B3.out.facts.1 2
   have hwl:=B3.out.facts.2.2
   go_wp2_with fail
   go_loopg [10,11,32] wi.ma.length (fun gk ag iw i wr=> ∃ j:Nat,j+gk=wi.ma.length/\i=.int .i64 j/\(∀ t,t<j->nJ ps wi s t=0∨nJ ps wi s t=7)/\aU (b+2) iw (eM ps wi s j).2 wr/\aH (fun c=>w.heap.size<=c/\c<wr.heap.size/\iw.ownBlock≠some c) wr (eM ps wi s j).1 ag/\aE b 24 pv wr/\aD (b+1) 46 #[tsv,inv,.slice mp wi.ma.length mc,onv] wr/\aA w wr)
   case atStart=>exact ⟨0,by omega,rfl,fun t ht=>by omega,World.ownsRow_nil _ _ _ _,jK _ _,V3.out,B3.out,K3.out⟩
   case round=>
   obtain ⟨j,hj,rfl,hall,hiw,hag,hv,hbx,hk⟩:=hrel
   have HALL:=hid hall
   have HIW:=hid hiw
   have HK:=hid hk
   have HV:=hid hv
   have HBX:=hid hbx
   have hma8:=(cI HCW.out.symm).2.2.2.2.2.1
   have hun:=aDz ps wi s j
   obtain ⟨apt,ac,rfl,hal⟩:=hag.len
   have HAG:=hid hag
   have hbl:b+2<=wr.heap.size:=hbx.facts.2.2
   clear hall hiw hk hv hbx hag hw2 hwl
   by_cases hlt:j<wi.ma.length
   ·have hjI:(j:Int)<(wi.ma.length:Int):=by omega
    obtain ⟨mb,mo,hmp,hSm,hmc⟩:=HW.out.ma.get (by omega)
    subst hmp
    have hcx:=(HK.out.cell (p:=⟨mb,mo+j,none⟩) (hS mb hSm)).trans (hmc j hlt)
    have hmbl:mb<wr.heap.size:=Nat.lt_of_lt_of_le (hS mb hSm) HK.out.size
    obtain ⟨k,hkk⟩ : ∃ k,k=wi.ma.getD j 0:=⟨_,rfl⟩
    have HKK:=hid hkk
    rw [← hkk] at hcx
    clear hmc hkk
    go_wp2_with fail
    refine (Cn.lN _ (eM ps wi s j).1 apt ac wr (fun c hc=>hc.2.1) HAG.out (by omega)).mono ?_
    rintro e W4 ⟨v4,rfl,hown4,k4⟩
    have k4:aA wr W4:=k4
    have hown4:aU wr.heap.size v4 (eM ps wi s j).1 W4:=hown4
    have HK4:=hid k4
    have HO4:=hid hown4
    have hs4:=k4.size
    clear k4 hown4 hcx hmbl
    go_wp2_with (at_builtin;refine wpList_append_own_at _ rfl _ _ 37 rfl wr.heap.size 3 i0 (.int .i64 0) 1 8 Tryz.underlying37 hi hz0 hz1 hz2 rfl (by decide) v4 (eM ps wi s j).1.length ((eM ps wi s j).1.map (Value.int .i64)) rfl (World.ownsRow.alloc HO4.out _) ⟨W4.heap.size,0,none⟩ 1 1 [.int .i64 k] rfl rfl qN dB (by unfold maxLen;omega) (by omega) (by have:=aC W4 (.cells #[.int .i64 k] 3);omega) ?_)
    intro v5 w5 h5 h6 _ _
    obtain ⟨h7,h8⟩:=gN hs4 HO4.out h5 h6
    have k5:aA wr w5:=Below.trans HK4.out h8
    have hnu:=Cn.aU.nums (B:=wr.heap.size) h7 (by simp;omega)
    have HNU:=hid (show aH (fun c=>wr.heap.size<=c/\c<w5.heap.size) w5 ((eM ps wi s j).1 ++ [k]) v5 from hnu)
    have K5:=hid (HK.out.trans k5)
    have HK5:=hid k5
    have V5:=hid (HV.out.keep k5 HV.out.facts.2.2)
    have B5:=hid (HBX.out.keep k5 HBX.out.facts.2.2)
    clear h5 h6 h7 h8 k5 hnu HV HBX HO4 HK4
    have ht0:=V5.out.facts.1
    have htl:=V5.out.facts.2.2
    have hw0:w5.cell? ⟨b+1,0,none⟩=some tsv:=B5.out.facts.1 0
    have hw1:w5.cell? ⟨b+1,1,none⟩=some inv:=B5.out.facts.1 1
    have hw2:w5.cell? ⟨b+1,2,none⟩=some (.slice (some ⟨mb,mo,none⟩) wi.ma.length mc):=B5.out.facts.1 2
    have hw3:w5.cell? ⟨b+1,3,none⟩=some onv:=B5.out.facts.1 3
    have hwl:=B5.out.facts.2.2
    go_wp2_with fail
    refine (oM (fun c=>c<w5.heap.size) ps wi ((eM ps wi s j).1 ++ [k]) s _ _ _ _ _ _ w5 (fun _ h=>h) ((HP.out.keep hS K5.out).mono (fun _ _=>rfl) fun c hc=>Nat.lt_of_lt_of_le (hS c hc) K5.out.size) ((HW.out.keep hS K5.out).mono fun c hc=>Nat.lt_of_lt_of_le (hS c hc) K5.out.size) (HNU.out.mono (fun _ _=>rfl) fun c hc=>hc.2) hcap).mono ?_
    rintro e w6 ⟨rfl,k6⟩
    have HUE:=hid (show nJ ps wi s j=eC ps (mkW wi ((eM ps wi s j).1 ++ [k])) s by rw [HKK.out];rfl)
    have K6:=hid (K5.out.trans k6)
    have V6:=hid (V5.out.keep k6 V5.out.facts.2.2)
    have B6:=hid (B5.out.keep k6 B5.out.facts.2.2)
    have IW6:=hid (show aU (b+2) u11 (eM ps wi s j).2 w6 from bK HIW.out (HK5.out.trans k6))
    have AG6:=hid (show aH (fun c=>w.heap.size<=c/\c<wr.heap.size/\u11.ownBlock≠some c) w6 (eM ps wi s j).1 (.slice apt (eM ps wi s j).1.length ac) from HAG.out.mono (fun p hp=>(HK5.out.trans k6).cell (p:=p) hp.2.1) fun _ h=>h)
    have NU6:=hid (HNU.out.mono (S':=fun c=>wr.heap.size<=c/\c<w6.heap.size) (fun p hp=>k6.cell (p:=p) hp.2) fun c hc=>⟨hc.1,Nat.lt_of_lt_of_le hc.2 k6.size⟩)
    have hs6:wr.heap.size<=w6.heap.size:=(HK5.out.trans k6).size
    have HFAR:=hid (show ∀ g,u11.ownBlock=some g->g<wr.heap.size from fun g hg=>(cV HIW.out hg).2)
    clear ht0 htl hw0 hw1 hw2 hw3 hwl V5 B5 k6 HNU HIW HAG
    obtain ⟨er,her⟩ : ∃ er,er=eC ps (mkW wi ((eM ps wi s j).1 ++ [k])) s:=⟨_,rfl⟩
    have HER:=hid her
    rw [← her] at HUE ⊢
    clear her
    by_cases h0:er=0
    ·subst h0
     have HUS:=hid (aEa HUE.out)
     go_wp2_with fail
     go_roundg (wi.ma.length-(j+1))
     case rel=>exact ⟨j+1,by omega,by go_num,fun t ht=>by by_cases e:t=j;(subst e;exact .inl HUE.out);exact HALL.out t (by omega),by rw [HUS.out];exact IW6.out,by rw [HUS.out,← HKK.out];exact NU6.out.mono (fun _ _=>rfl) fun c hc=>⟨Nat.le_trans HK.out.size hc.1,hc.2,fun e=>by have:=HFAR.out c e;omega⟩,V6.out,B6.out,K6.out⟩
     case measure=>omega
    ·have ha1:(er==0)=false:=by simpa using h0
     have ha2:(er != 0)=true:=by simp [bne,ha1]
     have HUS:=hid (aIn (by rw [HUE.out];exact h0))
     have H0:=hid h0
     clear h0
     by_cases h7:er=7
     ·subst h7
      go_wp2_with (at_builtin;refine wpList_append_own_at _ rfl _ _ 37 rfl (b+2) 3 i0 (.int .i64 0) 1 8 Tryz.underlying37 hi hz0 hz1 hz2 rfl (by decide) u11 (eM ps wi s j).2.length ((eM ps wi s j).2.map (Value.int .i64)) rfl (World.ownsRow.alloc IW6.out _) ⟨w6.heap.size,0,none⟩ 1 1 [.int .i64 k] rfl rfl qN dB (by unfold maxLen;omega) (by omega) (by have:=aC w6 (.cells #[.int .i64 k] 3);omega) ?_)
      intro v7 w7 h5 h6 _ h9
      obtain ⟨h7,h8⟩:=gN (by omega) IW6.out h5 h6
      have AG7:=hid (aFr AG6.out (fun c hc=>⟨by omega,hc.2.2⟩) h6)
      have H7:=hid h7
      have K7:=hid (show aA w w7 from Below.trans K6.out (h8.mono (by omega)))
      have V7:=hid (V6.out.keep h8 (by omega))
      have B7:=hid (B6.out.keep h8 (by omega))
      have HF7:=hid (show ∀ c,c<wr.heap.size->u11.ownBlock≠some c->v7.ownBlock≠some c from fun c h1 h2 h3=>by
       rcases h9 with h9 | h9
       ·exact h2 (h9 ▸ h3)
       ·rw [h9] at h3
        have:=Option.some.inj h3
        (try rw [aC] at this)
        omega)
      have hs7:=h8.size
      clear h5 h6 h7 h8
      go_wp2_with fail
      go_roundg (wi.ma.length-(j+1))
      case rel=>exact ⟨j+1,by omega,by go_num,fun t ht=>by by_cases e:t=j;(subst e;exact .inr HUE.out);exact HALL.out t (by omega),by rw [HUS.out,← HKK.out];exact H7.out,by rw [HUS.out];exact AG7.out.mono (fun _ _=>rfl) fun c hc=>⟨hc.1,by have:=K7.out.size;omega,HF7.out c hc.2.1 hc.2.2⟩,V7.out,B7.out,K7.out⟩
      case measure=>omega
     ·have hy1:(er==7)=false:=by simpa using h7
      have hy2:(er != 7)=true:=by simp [bne,hy1]
      have H7:=hid h7
      clear h7
      go_wp2_with fail
      refine cE (v:= .tuple #[.slice none 0 0,.int .i64 er]) (fun W'=>W'=w6) rfl rfl ?_
      rintro W rfl
      exact ⟨by simp [results,Tryz.results22,go_sem],K6.out,.inr (.inr (.inl ⟨HCW.out.symm,HER0.out.symm,j,hlt,by rw [HUE.out];exact H0.out,by rw [HUE.out];exact H7.out,by rw [HUE.out]⟩))⟩
   have hje:j=wi.ma.length:=by omega
   have hnl : ¬ ((j:Int)<(wi.ma.length:Int)):=by omega
   have HJE:=hid hje
   have hun8:(eM ps wi s j).2.length<=8:=by omega
   clear hje hlt hj
   go_wp2_with fail
   obtain ⟨xp,xc,hxv⟩:=(aU.ints HIW.out).len
   refine cE (v:= .tuple #[u11,.int .i64 0]) (fun W'=>W'=wr) rfl rfl ?_
   rintro W rfl
   have hnu:=Cn.aU.nums (B:=b+2) HIW.out (by omega)
   exact ⟨by simp [results,Tryz.results22,go_sem],HK.out,.inr (.inr (.inr ⟨HCW.out.symm,HER0.out.symm,by rw [← HJE.out];exact HALL.out,_,rfl,by rw [← HJE.out];exact aU.ints HIW.out,by rw [← HJE.out];exact aH.mono (S:=fun c=>b+2<=c/\c<_) (fun _ _=>rfl) (fun c hc=>⟨by omega,hc.2⟩) hnu⟩))⟩
  ·have hz1:(er==0)=false:=by simpa using he
   have hz2:(er != 0)=true:=by simp [bne,hz1]
   have HE:=hid he
   clear he
   go_wp2_with fail
   refine cE (v:= .tuple #[.slice none 0 0,.int .i64 er]) (fun W'=>W'=W3) rfl rfl ?_
   rintro W rfl
   exact ⟨by simp [results,Tryz.results22,go_sem],K3.out,.inr (.inl ⟨HCW.out.symm,by rw [← HER.out];exact HE.out,by rw [HER.out]⟩)⟩
 ·have hz1:(cw==0)=false:=by simpa using hz
  have hz2:(cw != 0)=true:=by simp [bne,hz1]
  have HZ:=hid hz
  clear hz
  go_wp2_with fail
  refine cE (v:= .tuple #[.slice none 0 0,.int .i64 cw]) (fun W'=>W'=W2) rfl rfl ?_
  rintro W rfl
  exact ⟨by simp [results,Tryz.results22,go_sem],K2.out,.inl ⟨by rw [← HCW.out];exact HZ.out,by rw [HCW.out]⟩⟩
def Er (x:Int):Prop:=0<=x/\x<=6
theorem iZ {f:Nat->Int} (h : ∀ k,Er (f k)) : ∀ (m i:Nat),Er (aT f i m)
 | 0,i=>by unfold Er;rw [aT];omega
 | m+1,i=>by
  rw [aT]
  split
  ·exact iZ h m (i+1)
  ·exact h i
theorem aHg (a:At):Er (iE a):=by
 unfold iE chk Er
 repeat (first | split | omega)
theorem aCq : ∀ t:NT,Er (dF t)
 | .node k a fl nt kids=>by
  rw [dF]
  split
  ·unfold Er;omega
  ·split
   ·unfold Er;omega
   ·split
    ·exact aHg a
    ·unfold Er;omega
mutual
theorem aAj (inc:Int->Int) : ∀ (t:NT) (s d:Int),Er (bW inc fE s t d).1
 | .node k a fl nt kids,s,d=>by
  rw [bW]
  split
  ·exact aHw inc kids _ _ (aCq (.node k a fl nt kids))
  ·exact aCq (.node k a fl nt kids)
theorem aHw (inc:Int->Int) : ∀ (ts:List NT) (s d:Int),Er s->Er (bT inc fE s ts d).1
 | [],s,d,h=>by rw [bT];exact h
 | t :: ts,s,d,h=>by
  rw [bT]
  split
  ·exact aHw inc ts _ _ (aAj inc t s d)
  ·exact aAj inc t s d
end
theorem aPt (ps:List PK):Er (dA ps):=by
 unfold dA
 split
 ·unfold Er;omega
 ·refine iZ (fun k=> ?_) _ _
  have hP:Er (eQ (ps.getD k PK.zero)):=by
   generalize ps.getD k PK.zero=p
   have hF:Er (dT p.fl):=by
    unfold dT
    split
    ·unfold Er;omega
    ·refine iZ (fun k=> ?_) _ _
     unfold flE Er
     repeat (first | split | omega)
   have hN:Er (gI p.nd p.fl):=by
    have h1:Er (eH p.nd):=by
     unfold eH
     split
     ·unfold Er;omega
     ·exact aAj _ _ _ _
    unfold gI
    split
    ·unfold Er;omega
    ·split
     ·exact h1
     ·unfold Er;split<;>omega
   unfold eQ
   split
   ·unfold Er;omega
   ·split
    ·unfold Er;omega
    ·split
     ·exact hF
     ·exact hN
  unfold pkE
  split
  ·exact hP
  ·unfold Er;repeat (first | split | omega)
theorem aHh (ps:List PK) (wi:WI):Er (bE ps wi):=by
 unfold bE
 split
 ·unfold bV
  split
  ·exact aPt ps
  ·refine iZ (fun k=> ?_) _ _
   unfold mbE Er
   repeat (first | split | omega)
 ·split
  ·unfold taE
   split
   ·unfold Er;omega
   ·exact iZ (fun k=>aHg _) _ _
  ·split
   ·refine iZ (fun k=> ?_) _ _
    unfold maE Er
    repeat (first | split | omega)
   ·refine iZ (fun k=> ?_) _ _
    unfold onE Er
    repeat (first | split | omega)
noncomputable def qO (ps:List PK) (wi:WI) (s:Int):List MB:=if eC ps wi s=0 then bN ps wi (cO ps wi s).m else []
noncomputable def aFy (ps:List PK) (wi:WI) (s:Int):List (List Int):=if eC ps wi s=7 then (cO ps wi s).P else []
theorem tG {ps:List PK} {wi:WI} {s:Int} (h:bE ps wi=0) (he:(cO ps wi s).er=0):eC ps wi s=if (cO ps wi s).P = [] then 0 else 7:=by
 unfold eC
 rw [if_neg (by simp [h]),if_neg (by simp [he])]
theorem zF (S:Nat->Prop) (w:World):bI S w [] (.slice none 0 0):=⟨_,_,rfl,by simp,fun h=>absurd h (by simp)⟩
theorem iK.gen {ps:List PK} {wi:WI} {s:Int} {w w':World} {e:Ending} (h:iK ps wi s w e w') (hs:1<=s) (hs2:s<=40000):aA w w'/\∃ v pv,e=.returned (.tuple #[v,pv,.int .i64 (eC ps wi s)])/\bI (fun b=>w.heap.size<=b/\b<w'.heap.size) w' (qO ps wi s) v/\Cn.eE (fun b=>w.heap.size<=b/\b<w'.heap.size) w' (aFy ps wi s) pv:=by
 obtain ⟨k,h⟩:=h
 refine ⟨k,?_⟩
 have hW:=aHh ps wi
 unfold Er at hW
 rcases h with ⟨h1,rfl⟩ | ⟨h1,h2,rfl⟩ | ⟨h1,h2,h3,pv,rfl,h5⟩ | ⟨h1,h2,h3,v,rfl,h5⟩
 ·have e:eC ps wi s=bE ps wi:=by unfold eC;rw [if_pos h1]
  refine ⟨_,_,by rw [e],?_,?_⟩
  ·unfold qO;rw [e,if_neg h1];exact zF _ _
  ·unfold aFy;rw [e,if_neg (by omega)];exact Cn.gW _ _
 ·have e:eC ps wi s=(cO ps wi s).er:=by unfold eC;rw [if_neg (by simp [h1]),if_pos h2]
  have e8:(cO ps wi s).er=8:=(aSr h1 hs hs2).resolve_left h2
  refine ⟨_,_,by rw [e],?_,?_⟩
  ·unfold qO;rw [e,if_neg h2];exact zF _ _
  ·unfold aFy;rw [e,e8,if_neg (by decide)];exact Cn.gW _ _
 ·have e:eC ps wi s=7:=by rw [tG h1 h2,if_neg h3]
  refine ⟨_,_,by rw [e],?_,?_⟩
  ·unfold qO;rw [e,if_neg (by decide)];exact zF _ _
  ·unfold aFy;rw [e,if_pos rfl];exact h5
 ·have e:eC ps wi s=0:=by rw [tG h1 h2,if_pos h3]
  refine ⟨_,_,by rw [e],?_,?_⟩
  ·unfold qO;rw [e,if_pos rfl];exact h5
  ·unfold aFy;rw [e,if_neg (by decide)];exact Cn.gW _ _
theorem xT (ps:List PK) (wi:WI):(bE ps wi≠0/\eC ps wi 40000=bE ps wi/\eC ps wi 40000≠7/\qO ps wi 40000 = [])∨(bE ps wi=0/\eC ps wi 40000=0/\∃ c,mG ps wi c/\qO ps wi 40000=bN ps wi c)∨(bE ps wi=0/\eC ps wi 40000=7/\rT ps wi/\qO ps wi 40000 = []/\aFy ps wi 40000=(cO ps wi 40000).P/\Cn.aGx (dQ ps wi).cl (cO ps wi 40000).P/\(cO ps wi 40000).P.length<=40000/\∀ c∈(cO ps wi 40000).P,c.length<=60/\Cn.aL (dQ ps wi).n c):=by
 by_cases h:bE ps wi=0
 ·have he:=qP h
  rcases zT h he with ⟨h1,h2,h3,h4⟩ | ⟨h1,h2,h3,h4,h5⟩
  ·have e:eC ps wi 40000=0:=by rw [tG h he,if_pos h1]
   refine .inr (.inl ⟨h,e,_,h4,?_⟩)
   unfold qO
   rw [e,if_pos rfl,xX (gB (cI h).2.1)]
  ·have e:eC ps wi 40000=7:=by rw [tG h he,if_neg h1]
   refine .inr (.inr ⟨h,e,h2,?_,?_,h3,h4,h5⟩)
   ·unfold qO;rw [e,if_neg (by decide)]
   ·unfold aFy;rw [e,if_pos rfl]
 ·have e:eC ps wi 40000=bE ps wi:=by unfold eC;rw [if_pos h]
  have hW:=aHh ps wi
  unfold Er at hW
  refine .inl ⟨h,e,by rw [e];omega,?_⟩
  unfold qO
  rw [e,if_neg h]
def onK (m:MB) (k:Nat):List (Int × Int):=(List.range k).filterMap fun (j:Nat)=>if m.on.getD j false=true then some (m.pl,(j:Int)) else none
theorem vB (m:MB) (k:Nat):onK m (k+1)=onK m k++(if m.on.getD k false=true then [(m.pl,(k:Int))] else []):=by
 unfold onK
 rw [List.range_succ,List.filterMap_append]
 congr 1
 by_cases h:m.on.getD k false=true
 ·simp only [List.filterMap_cons,List.filterMap_nil,if_pos h]
 ·simp only [List.filterMap_cons,List.filterMap_nil,if_neg h]
theorem qM {m:MB} {k:Nat} {x:Int × Int}:x∈onK m k ↔ ∃ j,j<k/\m.on.getD j false=true/\x=(m.pl,(j:Int)):=by
 unfold onK
 rw [List.mem_filterMap]
 constructor
 ·rintro ⟨j,hj,h⟩
  by_cases e:m.on.getD j false=true
  ·rw [if_pos e] at h;exact ⟨j,List.mem_range.1 hj,e,(Option.some.inj h).symm⟩
  ·rw [if_neg e] at h;cases h
 ·rintro ⟨j,hj,e,rfl⟩
  exact ⟨j,List.mem_range.2 hj,by rw [if_pos e]⟩
def onN (ms:List MB) (i:Nat):List (Int × Int):=(ms.take i).flatMap fun m=>onK m m.on.length
theorem aCu {ms:List MB} {i:Nat} (hi:i<ms.length):onN ms (i+1)=onN ms i++onK ms[i] ms[i].on.length:=by
 unfold onN
 rw [List.take_succ_eq_append_getElem hi,List.flatMap_append]
 simp
theorem aIa (ms:List MB):onN ms ms.length=ms.flatMap fun m=>onK m m.on.length:=by unfold onN;rw [List.take_length]
def pC (ms:List MB):List (Int × Int):=onN ms ms.length
theorem aCv {ms:List MB} {x:Int × Int}:x∈pC ms ↔ ∃ m∈ms,∃ j,j<m.on.length/\m.on.getD j false=true/\x=(m.pl,(j:Int)):=by
 unfold pC
 rw [aIa,List.mem_flatMap]
 constructor
 ·rintro ⟨m,hm,h⟩;exact ⟨m,hm,qM.1 h⟩
 ·rintro ⟨m,hm,h⟩;exact ⟨m,hm,qM.2 h⟩
def ltP (x y:Int × Int):Prop:=x.1<y.1∨x.1=y.1/\x.2<y.2
theorem aNt (m:MB) : ∀ k,(onK m k).Pairwise ltP
 | 0=>by simp [onK]
 | k+1=>by
  rw [vB,List.pairwise_append]
  refine ⟨aNt m k,by split<;>simp,fun x hx y hy=> ?_⟩
  obtain ⟨j,hj,-,rfl⟩:=qM.1 hx
  by_cases h:m.on.getD k false=true
  ·rw [if_pos h] at hy
   rw [List.mem_singleton.1 hy]
   exact .inr ⟨rfl,by show (j:Int)<(k:Int);omega⟩
  ·rw [if_neg h] at hy;cases hy
theorem aNu : ∀ {ms:List MB},(ms.Pairwise fun a b=>a.pl<b.pl)->(ms.flatMap fun m=>onK m m.on.length).Pairwise ltP
 | [],_=>by simp
 | m :: ms,h=>by
  rw [List.flatMap_cons,List.pairwise_append]
  obtain ⟨h1,h2⟩:=List.pairwise_cons.1 h
  refine ⟨aNt m _,aNu h2,fun x hx y hy=> ?_⟩
  obtain ⟨j,-,-,rfl⟩:=qM.1 hx
  obtain ⟨m',hm',hy⟩:=List.mem_flatMap.1 hy
  obtain ⟨j',-,-,rfl⟩:=qM.1 hy
  exact .inl (h1 m' hm')
theorem aNz {ms:List MB} (h:(plI ms).Pairwise (· < ·)):ms.Pairwise fun a b=>a.pl<b.pl:=by
 unfold plI at h
 rw [List.pairwise_map] at h
 exact h
theorem aFt {ps:List PK} {ms:List MB} (h:bV ps ms=0):aT (onE ps (pC ms)) 0 (pC ms).length=0:=by
 obtain ⟨-,-,hup,hin,-,hok⟩:=dD h
 have hU:(pC ms).Pairwise ltP:=by unfold pC;rw [aIa];exact aNu (aNz hup)
 refine (cK _ 0).2 fun j hj=> ?_
 rw [Nat.zero_add]
 have hg:(pC ms).getD j (0,0)=(pC ms)[j]:=by rw [List.getD_eq_getElem?_getD,List.getElem?_eq_getElem hj];rfl
 obtain ⟨m,hm,k,hk,-,hx⟩:=aCv.1 (List.getElem_mem hj)
 obtain ⟨i,hi⟩:=List.mem_iff_getElem?.1 hm
 have h1:=hok i m hi
 unfold onE
 rw [hg,hx]
 rw [if_neg (by show ¬ (m.pl<0∨(ps.length:Int)<=m.pl);omega),if_neg,if_neg]
 ·rintro ⟨h0,hn⟩
  have hg1:(pC ms).getD (j-1) (0,0)=(pC ms)[j-1]:=by rw [List.getD_eq_getElem?_getD,List.getElem?_eq_getElem (by omega)];rfl
  have h2:=List.pairwise_iff_getElem.1 hU (j-1) j (by omega) hj (by omega)
  rw [hx] at h2
  rw [hg1] at hn
  exact hn h2
 ·show ¬ ((k:Int)<0∨((ps.getD m.pl.toNat PK.zero).fl.length:Int)<=(k:Int))
  have h3:=h1.2.2
  unfold cN at h3
  omega
def dO (wi:WI) (ms:List MB):WI:= { wi with ins:=ms,on:=pC ms }
theorem aMx {ps:List PK} {wi:WI} {ms:List MB} (h:bE ps wi=0) (hs:bV ps ms=0):bE ps (dO wi ms)=0:=by
 obtain ⟨-,h2,-,-,-,-,-,-⟩:=cI h
 unfold bE at h
 rw [if_neg (by simp [h2])] at h
 have hta:taE wi.ts=0:=by
  by_cases e:taE wi.ts=0
  ·exact e
  ·rw [if_pos e] at h;exact h
 rw [if_neg (by simp [hta])] at h
 have hma:aT (maE ps wi.ma) 0 wi.ma.length=0:=by
  by_cases e:aT (maE ps wi.ma) 0 wi.ma.length=0
  ·exact e
  ·rw [if_pos e] at h;exact h
 unfold bE
 rw [if_neg (by show ¬ bV ps ms≠0;simp [hs]),if_neg (by show ¬ taE wi.ts≠0;simp [hta]),if_neg (by show ¬ aT (maE ps wi.ma) 0 wi.ma.length≠0;simp [hma])]
 exact aFt hs
theorem aMy {ps:List PK} {wi:WI} {ms:List MB} (hs:bV ps ms=0):(aB ps (dO wi ms)).mod (eW ms)=List.replicate (aB ps (dO wi ms)).many false:=by
 have hok:(aB ps (dO wi ms)).Ok:=gB (wi:=dO wi ms) hs
 have hset:=vL (dO wi ms) hs
 obtain ⟨-,-,-,hin,-,-⟩:=dD hs
 refine Cn.lA (by rw [Cn.CT.mod_len hok,List.length_replicate]) fun v hv=> ?_
 rw [Cn.CT.mod_len hok] at hv
 rw [show (List.replicate (aB ps (dO wi ms)).many false).getD v false=false from by
  rw [List.getD_eq_getElem?_getD,List.getElem?_replicate];split<;>rfl]
 by_cases hvN:v<(aB ps (dO wi ms)).nf.length
 ·have hvo:v<(aB ps (dO wi ms)).order.length:=by rw [Cn.CT.order_len hok];exact hvN
  rw [Cn.CT.mod_take hok (eW ms) (List.getElem?_eq_getElem hvo)]
  generalize (aB ps (dO wi ms)).order[v]=i
  have e:Cn.uC (eW ms) i=(aB ps (dO wi ms)).ins.contains i:=by
   rw [Bool.eq_iff_iff,Cn.qA,List.contains_iff_mem]
   show _↔i∈ms.map fun m=>m.pl.toNat
   unfold eW
   simp only [List.mem_map]
   constructor
   ·rintro ⟨a,⟨m,hm,rfl⟩,rfl⟩;exact ⟨m,hm,rfl⟩
   ·rintro ⟨m,hm,rfl⟩;exact ⟨_,⟨m,hm,rfl⟩,rfl⟩
  rw [e]
  cases (aB ps (dO wi ms)).ins.contains i<;>rfl
 ·obtain ⟨i,k,hi,hk,hvk⟩:=Cn.oF (nf:=(aB ps (dO wi ms)).nf) (v:=v-(aB ps (dO wi ms)).nf.length) (by unfold Cn.CT.many at hv;omega)
  have hve:v=(aB ps (dO wi ms)).base i+k:=by unfold Cn.CT.base;omega
  rw [hve,Cn.CT.mod_flag hok (eW ms) hi hk]
  unfold Cn.oK
  cases hf:(eW ms).find? fun a=>a.1==i with
  | none=>rfl
  | some a=>
   have ha:=List.mem_of_find?_eq_some hf
   have hai:a.1=i:=by simpa using List.find?_some hf
   obtain ⟨m,hm,rfl⟩:=List.mem_map.1 ha
   have hml:k<m.on.length:=by
    have:=hset.fl _ ha
    rw [hai] at this
    show k<m.on.length
    have h5:m.on.length=(aB ps (dO wi ms)).nf.getD i 0:=this
    omega
   have hpl:=(hin m.pl (List.mem_map.2 ⟨m,hm,rfl⟩)).1
   have hpi:m.pl=(i:Int):=by have hai:m.pl.toNat=i:=hai;omega
   have e:(aB ps (dO wi ms)).on i k=m.on.getD k false:=by
    show (pC ms).contains ((i:Int),(k:Int))=_
    rw [Bool.eq_iff_iff,List.contains_iff_mem,aCv]
    constructor
    ·rintro ⟨m',hm',j,hj,hb,hx⟩
     have h1:(i:Int)=m'.pl:=congrArg Prod.fst hx
     have h2:(k:Int)=(j:Int):=congrArg Prod.snd hx
     have hmm:m'=m:=by
      have hup:=aNz (dD hs).2.2.1
      obtain ⟨x,hx1⟩:=List.mem_iff_getElem?.1 hm
      obtain ⟨y,hy1⟩:=List.mem_iff_getElem?.1 hm'
      obtain ⟨hxl,rfl⟩:=List.getElem?_eq_some_iff.1 hx1
      obtain ⟨hyl,rfl⟩:=List.getElem?_eq_some_iff.1 hy1
      rcases Nat.lt_trichotomy x y with h | h | h
      ·have:=List.pairwise_iff_getElem.1 hup x y hxl hyl h;omega
      ·subst h;rfl
      ·have:=List.pairwise_iff_getElem.1 hup y x hyl hxl h;omega
     subst hmm
     rw [show k=j by omega];exact hb
    ·intro hb
     exact ⟨m,hm,k,hml,hb,by rw [hpi]⟩
   show (m.on.getD k false != (aB ps (dO wi ms)).on i k)=false
   rw [e]
   cases m.on.getD k false<;>rfl
theorem aJs {ps:List PK} {wi:WI} {ms:List MB} (hs:bV ps ms=0) (hv:fM ps wi ms=true):mG ps (dO wi ms) (List.replicate (aB ps (dO wi ms)).many false)/\bN ps (dO wi ms) (List.replicate (aB ps (dO wi ms)).many false)=ms:=by
 have hok:(aB ps (dO wi ms)).Ok:=gB (wi:=dO wi ms) hs
 have e:bN ps (dO wi ms) (List.replicate (aB ps (dO wi ms)).many false)=ms:=by rw [← aMy hs,set_mod hok hs]
 refine ⟨⟨by simp,?_,fun d hd _=>aFi (by rw [hd];simp) fun v _ ht=> ?_⟩,e⟩
 ·rw [e];exact hv
 ·exfalso
  rw [List.getD_eq_getElem?_getD,List.getElem?_replicate] at ht
  split at ht<;>cases ht
def zC (c:UInt8):NT:= .node 1 ⟨⟨#[c]⟩,0,0,0,⟨#[]⟩,false⟩ ⟨#[]⟩ false []
end Go.Proofs.YthaaaecmeafofaaGreatDoor
namespace Go.Proofs.YthaaaecmeafofaaGreatDoor
def nIf:NT:= .node 5 At.zero ⟨#[120]⟩ false [zC 98]
def uW:NT:= .node 3 At.zero ⟨#[]⟩ false [nIf]
def mY:NT:= .node 3 At.zero ⟨#[]⟩ false []
def F1:List UInt8:= [97,32,49,32,49,32,120,44,121,32,120,63,32,40,32,98,32,41,10]
def F2:List UInt8:= [97,32,49,32,49,32,120,44,121,32,40,32,120,63,32,40,32,98,32,41,32,41,10,98,32,50,32,49,32,32,40,32,41,10]
theorem aHv {c:UInt8} (h:aQ [c]=true):(zC c).ok:=by
 unfold zC
 rw [NT.ok]
 exact ⟨lT 1 _ (Or.inl rfl) (by show chk [c] 0 0 0 [] false=0;unfold chk;rw [if_neg (by simp [h]),if_neg (by decide),if_neg (by decide)]),trivial⟩
theorem aSg:nIf.ok:=by
 unfold nIf
 rw [NT.ok,okL,okL]
 exact ⟨aCr _ _ _ (by decide),aHv (by decide),trivial⟩
theorem aQi:uW.ok:=by
 unfold uW
 rw [NT.ok,okL,okL]
 exact ⟨fR 3 _ (Or.inl rfl),aSg,trivial⟩
theorem aNm:mY.ok:=by
 unfold mY
 rw [NT.ok,okL]
 exact ⟨fR 3 _ (Or.inl rfl),trivial⟩
theorem sI:fI nIf=false/\fI uW=false/\fI mY=false:=by
 have i1:aP 1=2:=kF (by decide) (by decide)
 have i2:aP 2=3:=kF (by decide) (by decide)
 refine ⟨?_,?_,?_⟩<;>simp [fI,nIf,uW,mY,zC,bW,bT,fN,i1,i2]
theorem aNl:eH uW=0:=cZ.2 ⟨sI.2.1,aQi⟩
theorem aKb:eH mY=0:=cZ.2 ⟨sI.2.2,aNm⟩
theorem aTo:Lib.itoa 1 = [49]:=aCh (k:=1) (by decide)
theorem aTp:Lib.itoa 2 = [50]:=aCh (k:=2) (by decide)
theorem aDn:uW.sorted = [[120]]:=by
 have:uW.flags = [⟨#[120]⟩]:=by simp [uW,nIf,zC,NT.flags,dE]
 unfold NT.sorted
 rw [this,List.map_cons,List.map_nil,List.mergeSort_singleton]
 rfl
theorem zZ:mY.sorted = []:=by
 have:mY.flags = []:=by simp [mY,NT.flags,dE]
 unfold NT.sorted
 rw [this,List.map_nil,List.mergeSort_nil];exact jY
theorem zH:aQ [97]=true:=by decide
theorem aSh:aQ [98]=true:=by decide
end Go.Proofs.YthaaaecmeafofaaGreatDoor
namespace Go.Proofs.YthaaaecmeafofaaGreatDoor
open Go.RowKit
end Go.Proofs.YthaaaecmeafofaaGreatDoor
namespace Go.Proofs.YthaaaecmeafofaaGreatDoor
def nB1:NT:= .node 3 At.zero ⟨#[]⟩ false [zC 98]
def aJr:NT:= .node 2 ⟨⟨#[99]⟩,0,0,0,⟨#[]⟩,false⟩ ⟨#[]⟩ false []
def uX:NT:= .node 3 At.zero ⟨#[]⟩ false [aJr]
def q0:PK:=⟨⟨#[97]⟩,1,1,[],nB1⟩
def q1:PK:=⟨⟨#[97]⟩,2,1,[⟨#[120]⟩],uW⟩
def q2:PK:=⟨⟨#[98]⟩,1,1,[],uX⟩
def q3:PK:=⟨⟨#[99]⟩,1,1,[],mY⟩
def bA:List PK:= [q0,q1,q2,q3]
def F3:List UInt8:= [97,32,49,32,49,32,32,40,32,98,32,41,10,97,32,50,32,49,32,120,32,40,32,120,63,32,40,32,98,32,41,32,41,10,98,32,49,32,49,32,32,40,32,33,99,32,41,10,99,32,49,32,49,32,32,40,32,41,10]
theorem aQb:aJr.ok:=by
 unfold aJr
 rw [NT.ok]
 have h:aQ [99]=true:=by decide
 exact ⟨lT 2 _ (Or.inr rfl) (by show chk [99] 0 0 0 [] false=0;unfold chk;rw [if_neg (by simp [h]),if_neg (by decide),if_neg (by decide)]),trivial⟩
theorem aSf:nB1.ok:=by
 unfold nB1
 rw [NT.ok,okL,okL]
 exact ⟨fR 3 _ (Or.inl rfl),aHv (by decide),trivial⟩
theorem aQk:uX.ok:=by
 unfold uX
 rw [NT.ok,okL,okL]
 exact ⟨fR 3 _ (Or.inl rfl),aQb,trivial⟩
theorem qV:fI nB1=false/\fI uX=false:=by
 have i1:aP 1=2:=kF (by decide) (by decide)
 refine ⟨?_,?_⟩<;>simp [fI,nB1,uX,aJr,zC,bW,bT,fN,i1]
theorem aQj:eH nB1=0:=cZ.2 ⟨qV.1,aSf⟩
theorem aNn:eH uX=0:=cZ.2 ⟨qV.2,aQk⟩
theorem aGw:oN bA=F3:=by
 simp [oN,mU,bA,q0,q1,q2,q3,nB1,uX,aJr,uW,nIf,mY,NT.text,zC,NT.words,bP,fB,cA,aTo,aTp,F3,Lib.join]
theorem aGk:nB1.sorted = []:=by
 have:nB1.flags = []:=by simp [nB1,zC,NT.flags,dE]
 unfold NT.sorted
 rw [this,List.map_nil,List.mergeSort_nil];exact jY
theorem aDo:uX.sorted = []:=by
 have:uX.flags = []:=by simp [uX,aJr,NT.flags,dE]
 unfold NT.sorted
 rw [this,List.map_nil,List.mergeSort_nil];exact jY
theorem aMp:dT [(⟨#[120]⟩:ByteArray)]=0:=by
 have n1:aQ [120]=true:=by decide
 simp [dT,aT,flE,n1]
theorem aRx:hD [(⟨#[120]⟩:ByteArray)] [120]=true:=by unfold hD;rw [Lib.containsS_iff];simp
theorem aSi:aQ [99]=true:=by decide
theorem aRp:eQ q0=0:=by
 have hk:nB1.kind=3:=rfl
 simp [eQ,q0,zH,dT,aT,gI,hk,aQj,aGk]
theorem aRq:eQ q1=0:=by
 have hk:uW.kind=3:=rfl
 simp [eQ,q1,zH,aMp,gI,hk,aNl,aDn,aRx]
theorem aRr:eQ q2=0:=by
 have hk:uX.kind=3:=rfl
 simp [eQ,q2,aSh,dT,aT,gI,hk,aNn,aDo]
theorem aRs:eQ q3=0:=by
 have hk:mY.kind=3:=rfl
 simp [eQ,q3,aSi,dT,aT,gI,hk,aKb,zZ]
theorem aIy:eN q1 q0=true:=by simp [eN,q0,q1]
theorem aIz:eN q2 q1=true:=by
 have h1:leS ⟨#[98]⟩ ⟨#[97]⟩=false:=by unfold leS;rw [Lib.toList_data,Lib.toList_data];decide
 simp [eN,q1,q2,h1]
theorem aJa:eN q3 q2=true:=by
 have h1:leS ⟨#[99]⟩ ⟨#[98]⟩=false:=by unfold leS;rw [Lib.toList_data,Lib.toList_data];decide
 simp [eN,q3,q2,h1]
theorem tS:dA bA=0:=by
 have s1:eT bA 1=0:=rfl
 have s2:eT bA 2=1:=rfl
 have s3:eT bA 3=1:=rfl
 have s4:eT bA 4=1:=rfl
 have h8 : ¬ 8<bA.length:=by decide
 have hl:bA.length=4:=rfl
 unfold dA
 rw [if_neg h8]
 have e0:pkE bA 0=0:=by unfold pkE;rw [show bA.getD 0 PK.zero=q0 from rfl,aRp];simp [s1,hl]
 have e1:pkE bA 1=0:=by unfold pkE;rw [show bA.getD 1 PK.zero=q1 from rfl,show bA.getD (1-1) PK.zero=q0 from rfl,aRq,aIy];simp [s2,hl]
 have e2:pkE bA 2=0:=by unfold pkE;rw [show bA.getD 2 PK.zero=q2 from rfl,show bA.getD (2-1) PK.zero=q1 from rfl,aRr,aIz];simp [s3,hl]
 have e3:pkE bA 3=0:=by unfold pkE;rw [show bA.getD 3 PK.zero=q3 from rfl,show bA.getD (3-1) PK.zero=q2 from rfl,aRs,aJa];simp [s4,hl]
 rw [hl]
 simp [aT,e0,e1,e2,e3]
theorem aPh:rdT F3=(0,0,bA):=by
 rw [← aGw]
 exact aOb tS (by rw [aGw];decide)
def atA:At:=⟨⟨#[97]⟩,0,0,0,⟨#[]⟩,false⟩
end Go.Proofs.YthaaaecmeafofaaGreatDoor
namespace Go.Proofs.YthaaaecmeafofaaGreatDoor
open Go.RowKit Go.Sort
theorem aGg (w:World) (hE:Env w) (hM:kX w) :
  Calls Tryz.prog 58 #[] w fun e w'=> ∃ v,e=.returned (.tuple #[.agg #[v],.bool true])/\bC (fun b=>w.heap.size<=b/\b<w'.heap.size) w' bA v/\aA w w'/\kV v:=by
 have HE:=hid hE
 have HM:=hid hM
 clear hE hM
 go_enter Tryz.func58,Tryz.ntmps58
 go_wp2_with fail
 refine aX (fun W'=>aA w W'/\aE w.heap.size 24 (.slice none 0 0) W') ⟨aA.alloc _ _,aE.new _ _ _⟩ ?_
 rintro W0 ⟨k0,v0⟩
 refine (vR _ W0 (HE.out.keep k0) (HM.out.keep k0)).mono ?_
 rintro e w1 ⟨v1,rfl,-,hp1,k1,hcap1⟩
 have hrd:rdT (ByteArray.mk #[97,32,49,32,49,32,32,40,32,98,32,41,10,97,32,50,32,49,32,120,32,40,32,120,63,32,40,32,98,32,41,32,41,10,98,32,49,32,49,32,32,40,32,33,99,32,41,10,99,32,49,32,49,32,32,40,32,41,10]).data.toList=(0,0,bA):=aPh
 rw [hrd] at hp1 ⊢
 simp only at hp1 ⊢
 obtain ⟨p1,c1,rfl,-⟩:=hp1.len
 have hlen:bA.length=4:=rfl
 rw [hlen] at hp1 hcap1 ⊢
 have HCAP:=hid hcap1
 clear hcap1
 have K0s:=k0.size
 have hW0:w.heap.size+1<=W0.heap.size:=v0.facts.2.2
 have HP1:Hid (bC (fun b=>w.heap.size+1<=b/\b<w1.heap.size) w1 bA (.slice p1 4 c1)):=bC.mono (fun _ _=>rfl) (fun b hb=>⟨Nat.le_trans hW0 hb.1,hb.2⟩) hp1
 have K1:=hid (k0.trans k1)
 have V1:=hid (v0.keep k1 v0.facts.2.2)
 have hsz1:w.heap.size+1<=w1.heap.size:=by have:=V1.out.facts.2.2;omega
 clear k0 v0 hp1 k1 hrd hlen
 go_upto_region 2 with fail
 refine bF (fun W'=>aA w W'/\aA w1 W'/\aE w.heap.size 24 (.slice none 0 0) W'/\aE w1.heap.size 24 (.slice p1 4 c1) W') ⟨K1.out.alloc' _,aA.alloc _ _,V1.out.keep (aA.alloc _ _) V1.out.facts.2.2,aE.new _ _ _⟩ ?_
 rintro W2 ⟨k2,k12,v2,t2⟩
 have K2:=hid k2
 have K12:=hid k12
 have V2:=hid v2
 obtain ⟨g1,z1,l1⟩:=v2.facts
 obtain ⟨g2,z2,l2⟩:=t2.facts
 clear k2 k12 v2 t2
 go_region
 have v3:=V2.out.set (.slice p1 4 c1)
 have HQ:Hid (aE w.heap.size 24 (.slice p1 4 c1) (W2.setCell ⟨w.heap.size,0,none⟩ (.slice p1 4 c1)).drew/\aA w (W2.setCell ⟨w.heap.size,0,none⟩ (.slice p1 4 c1)).drew/\bC (fun b=>w.heap.size<=b/\b<(W2.setCell ⟨w.heap.size,0,none⟩ (.slice p1 4 c1)).drew.heap.size) (W2.setCell ⟨w.heap.size,0,none⟩ (.slice p1 4 c1)).drew bA (.slice p1 4 c1)):=by
  have ap:=gX w.heap.size W2 (.slice p1 4 c1)
  have hz:W2.heap.size<=(W2.setCell ⟨w.heap.size,0,none⟩ (.slice p1 4 c1)).heap.size:=ap.size
  refine ⟨v3.keep (lB _) v3.facts.2.2,aA.trans (show aA w (W2.setCell ⟨w.heap.size,0,none⟩ (.slice p1 4 c1)) from Below.trans K2.out (ap.below K2.out.size fun b hb e=>by have:b=w.heap.size:=e;omega)) (lB _),?_⟩
  refine bC.mono (fun p hp=> ?_) (fun b hb=>⟨by omega,Nat.lt_of_lt_of_le hb.2 (Nat.le_trans K12.out.size hz)⟩) HP1.out
  exact (ap.cell p (Nat.lt_of_lt_of_le hp.2 K12.out.size) (fun e=>by have e':p.block=w.heap.size:=e;have:=hp.1;omega)).trans (K12.out.cell (p:=p) hp.2)
 clear v3 g1 z1 g2 z2
 go_wp2_with fail
 refine cE (v:= .tuple #[.agg #[.slice p1 4 c1],.bool true]) (fun W'=>aE w.heap.size 24 (.slice p1 4 c1) W'/\aA w W'/\bC (fun b=>w.heap.size<=b/\b<W'.heap.size) W' bA (.slice p1 4 c1)) ?_ rfl ?_
 ·exact HQ.out
 rintro W ⟨hb,hk,hp⟩
 obtain ⟨hcW,-,-⟩:=hb.facts
 exact ⟨by simp [results,Tryz.results58,go_sem,hcW],_,rfl,hp,hk,HCAP.out⟩
theorem kZ {W:World} {n:Nat} (h:W.heap.size=n) (cs:Array Value) (T:TypeId):aN n cs (W.alloc (.cells cs T)):=h ▸ aN.new W cs T
def inW (W:World) (b:Nat):Prop:=b<W.heap.size
end Go.Proofs.YthaaaecmeafofaaGreatDoor
namespace Go.Proofs.YthaaaecmeafofaaGreatDoor
open Go.RowKit
def aGs:Nat->List (List Bool)
 | 0=> [[]]
 | n+1=>(aGs n).map (false :: ·)++(aGs n).map (true :: ·)
theorem uU : ∀ {d:List Bool},d∈aGs d.length
 | []=>by simp [aGs]
 | a :: d=>by
  have:=uU (d:=d)
  rw [List.length_cons,aGs,List.mem_append]
  cases a
  ·exact .inl (List.mem_map.2 ⟨d,this,rfl⟩)
  ·exact .inr (List.mem_map.2 ⟨d,this,rfl⟩)
def aQg:List Bool->List Bool->Bool
 | a :: m,b :: o=>if a=b then aQg m o else !a
 | _,_=>true
theorem aHx : ∀ {m o:List Bool},m.length=o.length->aQg m o=true->Cn.jT m o
 | [],[],_,_=> .inl rfl
 | a :: m,b :: o,hl,h=>by
  rw [aQg] at h
  by_cases e:a=b
  ·subst e
   rw [if_pos rfl] at h
   rcases aHx (by simpa using hl) h with rfl | ⟨j,hj,h1,h2,h3⟩
   ·exact .inl rfl
   ·refine .inr ⟨j+1,by simpa using hj,fun i hi=> ?_,by simpa using h2,by simpa using h3⟩
    cases i with
    | zero=>rfl
    | succ i=>simpa using h1 i (by omega)
  ·rw [if_neg e] at h
   have ha:a=false:=by simpa using h
   subst ha
   have hb:b=true:=by cases b;exact absurd rfl e;rfl
   subst hb
   exact .inr ⟨0,by simp,fun i hi=>by omega,rfl,rfl⟩
theorem aHe {ps:List PK} {wi:WI} {c:List Bool} {n:Nat} (hn:(aB ps wi).many=n) (hc:c.length=n) (hv:fM ps wi (bN ps wi c)=true) (h:((aGs n).all fun d=> !fM ps wi (bN ps wi d)||aQg c d)=true):mG ps wi c:=by
 refine ⟨hc.trans hn.symm,hv,fun d hd hdv=>aHx (by rw [hd,hn];exact hc) ?_⟩
 have:=List.all_eq_true.1 h d (by rw [← hn,← hd];exact uU)
 rw [hdv] at this
 simpa using this
theorem aQn {ps:List PK} {wi:WI} {n:Nat} (hn:(aB ps wi).many=n) (h:((aGs n).all fun d=> !fM ps wi (bN ps wi d))=true):rT ps wi:=fun d hd=>by
 have:=List.all_eq_true.1 h d (by rw [← hn,← hd];exact uU)
 simpa using this
def aIv:At:=⟨⟨#[97]⟩,0,0,0,⟨#[120]⟩,true⟩
def wR:WI:=⟨[atA],[⟨3,[]⟩],[],[]⟩
def wX (ma:List Int):WI:=⟨[aIv],[⟨3,[]⟩],ma,[]⟩
def cR:List Bool:= [false,false,true,false,false]
def cX:List Bool:= [true,false,true,true,true]
theorem aRg:bV bA [⟨3,[]⟩]=0:=by
 unfold bV;rw [tS]
 show aMi bA [⟨3,[]⟩]=0
 decide
theorem aSj:aQ [120]=true:=by decide
theorem aRo:bE bA wR=0:=by
 have h2:taE [atA]=0:=by
  have:iE atA=0:=by
   show chk [97] 0 0 0 [] false=0
   unfold chk
   rw [if_neg (by simp [zH]),if_neg (by decide),if_neg (by decide)]
  simp [taE,aT,this]
 unfold bE
 rw [show wR.ins = [⟨3,[]⟩] from rfl,show wR.ts = [atA] from rfl,show wR.ma = [] from rfl,show wR.on = [] from rfl,aRg,h2]
 rfl
theorem rF {ma:List Int} (h:ma = []∨ma = [0]∨ma = [0,2]):bE bA (wX ma)=0:=by
 have h2:taE [aIv]=0:=by
  have:iE aIv=0:=by
   show chk [97] 0 0 0 [120] true=0
   unfold chk
   rw [if_neg (by simp [zH,aSj]),if_neg (by decide),if_neg (by decide)]
  simp [taE,aT,this]
 unfold bE
 rw [show (wX ma).ins = [⟨3,[]⟩] from rfl,show (wX ma).ts = [aIv] from rfl,show (wX ma).ma=ma from rfl,show (wX ma).on = [] from rfl,aRg,h2]
 rcases h with rfl | rfl | rfl<;>rfl
theorem aRm:mG bA wR cR:=aHe (n:=5) (by decide) rfl (by decide +kernel) (by decide +kernel)
theorem aEh {ma:List Int} (h:ma = []∨ma = [0]):mG bA (wX ma) cX:=by
 rcases h with rfl | rfl<;>exact aHe (n:=5) (by decide) rfl (by decide +kernel) (by decide +kernel)
theorem aNr:rT bA (wX [0,2]):=aQn (n:=5) (by decide) (by decide +kernel)
theorem aTu:bN bA wR cR = [⟨1,[false]⟩,⟨3,[]⟩]:=rfl
theorem aTv (ma:List Int):bN bA (wX ma) cX = [⟨1,[true]⟩,⟨2,[]⟩]:=rfl
end Go.Proofs.YthaaaecmeafofaaGreatDoor
namespace Go.Proofs.YthaaaecmeafofaaGreatDoor
open Go.RowKit
end Go.Proofs.YthaaaecmeafofaaGreatDoor
namespace Go.Proofs.YthaaaecmeafofaaGreatDoor
open Go.RowKit
end Go.Proofs.YthaaaecmeafofaaGreatDoor
namespace Go.Proofs.YthaaaecmeafofaaGreatDoor
open Go.RowKit
end Go.Proofs.YthaaaecmeafofaaGreatDoor
