/- Steps of the proof: ResResolve, ResUnm, ResGen, ResMask, ResWithout, ResTurn, ResDel, ResDelA, ResLessP, NeedNeeded, TreeForest, ValidSmall, ValidAllowed. -/
import Derived.Test.YtonlloiemgdfkaaGreatDoorRl19
import Derived.Test.YtonlloiemgdfkaaGreatDoorRl24
import Derived.Test.YtonlloiemgdfkaaGreatDoorRl25
import Derived.Test.YtonlloiemgdfkaaGreatDoorRl27
import Derived.BigQuiet
import Derived.Test.YtonlloiemgdfkaaGreatDoorRl15
import Derived.Test.YtonlloiemgdfkaaGreatDoorRl16
import Derived.Test.YtonlloiemgdfkaaGreatDoorRl17
import Derived.Shelf.SlicesQ.Reverse
import Derived.Shelf.RegionOpenPlain
import Derived.Shelf.SlicesE.Kit
import Derived.Lib.SlicesDelete
import Derived.Sort.WalkB12
import Derived.Test.YtonlloiemgdfkaaGreatDoorRl07
import Derived.Test.YtonlloiemgdfkaaGreatDoorRl09
import Derived.BigRegion
set_option maxHeartbeats 16000000
set_option maxRecDepth 100000
namespace Go.Proofs.YtonlloiemgdfkaaGreatDoor
open Go.RowKit
def gX (ps:List PK) (wi:WI) (s:Int) (w:World) (e:Ending) (w':World):Prop:=
 aA w w'/\((bC ps wi≠0/\e=.returned (.tuple #[.slice none 0 0,.slice none 0 0,.int .i64 (bC ps wi)]))
  ∨(bC ps wi=0/\(cI ps wi s).er≠0/\e=.returned (.tuple #[.slice none 0 0,.slice none 0 0,.int .i64 (cI ps wi s).er]))
  ∨(bC ps wi=0/\(cI ps wi s).er=0/\(cI ps wi s).P ≠ []/\∃ pv,e=.returned (.tuple #[.slice none 0 0,pv,.int .i64 7])/\Cn.dY (fun b=>w.heap.size<=b/\b<w'.heap.size) w' (cI ps wi s).P pv)
  ∨(bC ps wi=0/\(cI ps wi s).er=0/\(cI ps wi s).P = []/\∃ v,e=.returned (.tuple #[v,.slice none 0 0,.int .i64 0])/\cB (fun b=>w.heap.size<=b/\b<w'.heap.size) w' (bX ps wi (cI ps wi s).m) v))
theorem dF (S:Nat->Prop) (ps:List PK) (wi:WI) (s:Int) (pv tsv inv mav onv:Value) (w:World) (hS : ∀ b,S b->b<w.heap.size) (hp:bD S w ps pv) (hw:eJ S w wi tsv inv mav onv) (hcap:jX pv) :
  Calls Tryz.prog 15 #[.agg #[pv],.agg #[tsv,inv,mav,onv],.int .i64 s] w fun e w'=>gX ps wi s w e w':=by
 have HP:=hid hp
 have HW:=hid hw
 clear hp hw
 go_enter Tryz.func15,Tryz.ntmps15
 go_upto_region 1 with fail
 refine bO (fun W'=>aA w W'/\aE w.heap.size 24 pv W'/\aD (w.heap.size+1) 30 #[tsv,inv,mav,onv] W') ⟨(aA.alloc _ _).alloc' _,(aE.new _ _ _).keep (aA.alloc _ _) (by simp),?_⟩ ?_
 ·have:=aD.new (w.alloc (.cells #[pv] 24)) 30 #[tsv,inv,mav,onv]
  rw [aC] at this;exact this
 rintro W1 ⟨k1,v1,b1⟩
 have K1:=hid k1
 have V1:=hid v1
 have B1:=hid b1
 generalize w.heap.size=b at V1 B1 ⊢
 clear k1 v1 b1
 have ht0:=V1.out.facts.1
 have htl:=V1.out.facts.2.2
 have hw0:W1.cell? ⟨b+1,0,none⟩=some tsv:=B1.out.facts.1 0
 have hw1:W1.cell? ⟨b+1,1,none⟩=some inv:=B1.out.facts.1 1
 have hw2:W1.cell? ⟨b+1,2,none⟩=some mav:=B1.out.facts.1 2
 have hw3:W1.cell? ⟨b+1,3,none⟩=some onv:=B1.out.facts.1 3
 have hwl:=B1.out.facts.2.2
 go_wp2_with fail
 refine (aCz S ps wi _ _ _ _ _ W1 (fun c hc=>Nat.lt_of_lt_of_le (hS c hc) K1.out.size) (HP.out.keep hS K1.out) (HW.out.keep hS K1.out) hcap).mono ?_
 rintro e W2 ⟨k2,h2⟩
 have K2:=hid (K1.out.trans k2)
 have V2:=hid (V1.out.keep k2 V1.out.facts.2.2)
 have B2:=hid (B1.out.keep k2 B1.out.facts.2.2)
 clear ht0 htl hw0 hw1 hw2 hw3 hwl V1 B1 k2
 rcases h2 with ⟨hz,rfl⟩ | ⟨hz,cv,rfl,hcls⟩
 ·have hz1:(bC ps wi==0)=false:=by simpa using hz
  have hz2:(bC ps wi != 0)=true:=by simp [bne,hz1]
  have HZ:=hid hz
  obtain ⟨cw,hcw⟩ : ∃ cw,cw=bC ps wi:=⟨_,rfl⟩
  have HCW:=hid hcw
  rw [← hcw] at hz1 hz2 ⊢
  clear hz hcw
  go_wp2_with fail
  refine cF (v:= .tuple #[.slice none 0 0,.slice none 0 0,.int .i64 cw]) (fun W'=>aA w W') (K2.out.alloc' _) rfl ?_
  intro W hkW
  exact ⟨by simp [results,Tryz.results15,go_sem],hkW,.inl ⟨HZ.out,by rw [HCW.out]⟩⟩
 obtain ⟨cp,cc,rfl,hcl⟩:=hcls.len
 have HCLS:=hid hcls
 have HZ:=hid hz
 have HF:=hid (show ∀ c∈(dI ps wi).cl,∀ x∈c,Cn.InR x from fun c hc x hx=>by
  obtain ⟨-,g2,-,g4,-⟩:=rV hz
  have:=((g4 c hc).1 x hx).2
  unfold Cn.InR
  omega)
 clear hcls hz
 go_wp2_with fail
 refine bE (fun W'=>aA W2 W') (aA.alloc _ _) ?_
 intro W3 k3
 refine (Cn.aIv (fun b=>W1.heap.size<=b/\b<W2.heap.size) _ (dI ps wi).cl cp cc s W3 (fun c hc=>Nat.lt_of_lt_of_le hc.2 k3.size) ⟨HCLS.out.keep (B:=W2.heap.size) (fun c hc=>hc.2) k3,HF.out⟩).mono ?_
 rintro e W4 ⟨k4,mv,pv4,rfl,hbo,hpr⟩
 have k4:aA W3 W4:=k4
 have hpr:Cn.dY (fun c=>W3.heap.size<=c/\c<W4.heap.size) W4 (cI ps wi s).P pv4:=hpr
 have hbo:Cn.bA (fun c=>W3.heap.size<=c/\c<W4.heap.size) W4 (cI ps wi s).m mv:=hbo
 have KS:=hid (K2.out.trans k3).size
 rw [show Cn.nJ ((dI ps wi).n:Nat) (dI ps wi).cl s=cI ps wi s from rfl]
 have K4:=hid ((K2.out.trans k3).trans k4)
 have V4:=hid (V2.out.keep (k3.trans k4) V2.out.facts.2.2)
 have B4:=hid (B2.out.keep (k3.trans k4) B2.out.facts.2.2)
 obtain ⟨pp4,pc4,rfl,hpl⟩:=hpr.len
 obtain ⟨mp4,mc4,rfl,hml,-⟩:=id hbo
 have HBO:=hid hbo
 have HPR:=hid hpr
 clear V2 B2 HCLS HF hbo hpr k3 k4
 obtain ⟨er,her⟩ : ∃ er,er=(cI ps wi s).er:=⟨_,rfl⟩
 have HER:=hid her
 rw [← her]
 clear her
 by_cases he:er=0
 ·subst he
  obtain ⟨pl,hpe⟩ : ∃ pl:Nat,pl=(cI ps wi s).P.length:=⟨_,rfl⟩
  have HPE:=hid hpe
  rw [← hpe] at HPR hpl ⊢
  clear hpe
  go_upto_region 7 with fail
  refine bO (fun W'=>aA W4 W'/\aD W4.heap.size 117 #[.slice mp4 (cI ps wi s).m.length mc4,.slice pp4 pl pc4] W') ⟨aA.alloc _ _,aD.new _ _ _⟩ ?_
  rintro W5 ⟨k5,b5⟩
  have K5:=hid (K4.out.trans k5)
  have HK5:=hid k5
  have V5:=hid (V4.out.keep k5 V4.out.facts.2.2)
  have B5:=hid (B4.out.keep k5 B4.out.facts.2.2)
  have X5:=hid b5
  have ha4:w.heap.size<=W4.heap.size:=K4.out.size
  generalize W4.heap.size=ab at X5 ha4 ⊢
  clear V4 B4 k5 b5
  have ha0:W5.cell? ⟨ab,0,none⟩=some (.slice mp4 (cI ps wi s).m.length mc4):=X5.out.facts.1 0
  have ha1:W5.cell? ⟨ab,1,none⟩=some (.slice pp4 pl pc4):=X5.out.facts.1 1
  have hal:=X5.out.facts.2.2
  by_cases hp0:0<pl
  ·have hp1:(0:Int)<(pl:Int):=by omega
   go_upto_region 8 with fail
   go_quiet (fail)
   go_wp2_with fail
   refine cF (v:= .tuple #[.slice none 0 0,.slice pp4 pl pc4,.int .i64 7]) (fun W'=>aA W5 W') ((aA.refl _).drewN _) rfl ?_
   intro W hkW
   refine ⟨by simp [results,Tryz.results15,go_sem],K5.out.trans hkW,.inr (.inr (.inl ⟨HZ.out,HER.out.symm,fun e=> ?_,_,rfl,?_⟩))⟩
   ·have:=HPE.out;rw [e] at this;simp at this;omega
   ·exact HPR.out.mono (fun p hp=>(HK5.out.trans hkW).cell (p:=p) hp.2) fun c hc=>⟨Nat.le_trans KS.out hc.1,Nat.lt_of_lt_of_le hc.2 (HK5.out.trans hkW).size⟩
  have hp1 : ¬ (0:Int)<(pl:Int):=by omega
  have ht0:=V5.out.facts.1
  have htl:=V5.out.facts.2.2
  have hw0:W5.cell? ⟨b+1,0,none⟩=some tsv:=B5.out.facts.1 0
  have hw1:W5.cell? ⟨b+1,1,none⟩=some inv:=B5.out.facts.1 1
  have hw2:W5.cell? ⟨b+1,2,none⟩=some mav:=B5.out.facts.1 2
  have hw3:W5.cell? ⟨b+1,3,none⟩=some onv:=B5.out.facts.1 3
  have hwl:=B5.out.facts.2.2
  have hPn:(cI ps wi s).P = []:=by
   have:=HPE.out
   exact List.length_eq_zero_iff.1 (by omega)
  have HPN:=hid hPn
  clear hPn
  go_wp2_with fail
  refine (aPh (fun c=>c<W5.heap.size) ps wi (cI ps wi s).m _ _ _ _ _ _ W5 (fun _ h=>h) ((HP.out.keep hS K5.out).mono (fun _ _=>rfl) fun c hc=>Nat.lt_of_lt_of_le (hS c hc) K5.out.size) ((HW.out.keep hS K5.out).mono fun c hc=>Nat.lt_of_lt_of_le (hS c hc) K5.out.size) (bA.mono (S:=fun c=>W3.heap.size<=c/\c<W4.heap.size) (fun p hp=>HK5.out.cell (p:=p) hp.2) (fun c hc=>Nat.lt_of_lt_of_le hc.2 HK5.out.size) HBO.out)).mono ?_
  have HOK:=hid ((uC HZ.out HER.out.symm).resolve_right fun h=>h.1 HPN.out)
  rintro e W6 ⟨k6,⟨h0,-⟩ | ⟨-,h0,-⟩ | ⟨-,-,-,v6,rfl,hm6⟩⟩
  ·exact absurd HZ.out h0
  ·have:=HOK.out;omega
  have K6:=hid (K5.out.trans k6)
  have HM6:=hid hm6
  clear hm6 k6
  go_wp2_with fail
  refine cF (v:= .tuple #[v6,.slice none 0 0,.int .i64 0]) (fun W'=>W'=W6) rfl rfl ?_
  rintro W rfl
  exact ⟨by simp [results,Tryz.results15,go_sem],K6.out,.inr (.inr (.inr ⟨HZ.out,HER.out.symm,HPN.out,_,rfl,HM6.out.mono (fun _ _=>rfl) fun c hc=>⟨Nat.le_trans K5.out.size hc.1,hc.2⟩⟩))⟩
 ·have hz1:(er==0)=false:=by simpa using he
  have hz2:(er != 0)=true:=by simp [bne,hz1]
  have HE:=hid he
  clear he
  go_wp2_with fail
  refine cF (v:= .tuple #[.slice none 0 0,.slice none 0 0,.int .i64 er]) (fun W'=>aA w W') (K4.out.alloc' _) rfl ?_
  intro W hkW
  exact ⟨by simp [results,Tryz.results15,go_sem],hkW,.inr (.inl ⟨HZ.out,by rw [← HER.out];exact HE.out,by rw [HER.out]⟩)⟩
def mkW (wi:WI) (l:List Int):WI:= { wi with ma:=l }
noncomputable def cS (ps:List PK) (wi:WI) (s:Int):Int:=
 if bC ps wi≠0 then bC ps wi else if (cI ps wi s).er≠0 then (cI ps wi s).er else if (cI ps wi s).P = [] then 0 else 7
theorem kI {ps:List PK} {wi:WI} {c:List Bool} (h:bC ps wi=0) (hb:lK ps wi c):cS ps wi 40000=0:=by
 have he:=lB h
 unfold cS
 rw [if_neg (by simp [h]),if_neg (by simp [he]),if_pos (uB h he hb).1]
theorem qI {ps:List PK} {wi:WI} (h:bC ps wi=0) (hn:gT ps wi):cS ps wi 40000=7:=by
 have he:=lB h
 unfold cS
 rw [if_neg (by simp [h]),if_neg (by simp [he]),if_neg (aBn h he hn)]
theorem gX.err {ps:List PK} {wi:WI} {s:Int} {w w':World} {e:Ending} (h:gX ps wi s w e w'):aA w w'/\∃ v pv,e=.returned (.tuple #[v,pv,.int .i64 (cS ps wi s)]):=by
 obtain ⟨k,h⟩:=h
 refine ⟨k,?_⟩
 unfold cS
 rcases h with ⟨h1,rfl⟩ | ⟨h1,h2,rfl⟩ | ⟨h1,h2,h3,pv,rfl,-⟩ | ⟨h1,h2,h3,v,rfl,-⟩
 ·rw [if_pos h1];exact ⟨_,_,rfl⟩
 ·rw [if_neg (by simp [h1]),if_pos h2];exact ⟨_,_,rfl⟩
 ·rw [if_neg (by simp [h1]),if_neg (by simp [h2]),if_neg h3];exact ⟨_,_,rfl⟩
 ·rw [if_neg (by simp [h1]),if_neg (by simp [h2]),if_pos h3];exact ⟨_,_,rfl⟩
theorem nM (S:Nat->Prop) (ps:List PK) (wi:WI) (l:List Int) (s:Int) (pv tsv inv mav onv mv:Value) (w:World) (hS : ∀ b,S b->b<w.heap.size) (hp:bD S w ps pv) (hw:eJ S w wi tsv inv mav onv) (hm:aH S w l mv) (hcap:jX pv) :
  Calls Tryz.prog 64 #[.agg #[pv],.agg #[tsv,inv,mav,onv],mv,.int .i64 s] w fun e w'=>e=.returned (.int .i64 (cS ps (mkW wi l) s))/\aA w w':=by
 have HP:=hid hp
 obtain ⟨mp,mc,rfl,-⟩:=hm.len
 have HW:=hid (show eJ S w (mkW wi l) tsv inv (.slice mp l.length mc) onv from ⟨hw.ts,hw.ins,hm,hw.on⟩)
 clear hp hw hm
 go_enter Tryz.func64,Tryz.ntmps64
 go_upto_region 1 with fail
 obtain ⟨b,hb⟩ : ∃ b,b=w.heap.size:=⟨_,rfl⟩
 have hbw:w.heap.size<=b:=by omega
 refine bO (fun W'=>aA w W'/\aE w.heap.size 24 pv W'/\aD (w.heap.size+1) 30 #[tsv,inv,mav,onv] W') ⟨(aA.alloc _ _).alloc' _,(aE.new _ _ _).keep (aA.alloc _ _) (by simp),?_⟩ ?_
 ·have:=aD.new (w.alloc (.cells #[pv] 24)) 30 #[tsv,inv,mav,onv]
  rw [aC] at this;exact this
 rintro W1 ⟨k1,v1,b1⟩
 have K1:=hid k1
 have V1:=hid v1
 have B1:=hid b1
 rw [← hb] at V1 B1 ⊢
 clear k1 v1 b1 hb
 have hw2:W1.cell? ⟨b+1,2,none⟩=some mav:=B1.out.facts.1 2
 have hf2:=B1.out.facts.2.1 2
 have hwl:=B1.out.facts.2.2
 go_upto_region 2 with fail
 refine bO (fun W'=>aA w W'/\aE b 24 pv W'/\aD (b+1) 30 #[tsv,inv,.slice mp l.length mc,onv] W') ⟨Below.trans K1.out ((aL W1 (b+1) 2 (.slice mp l.length mc)).mono (by omega)),V1.out.keep (aL W1 (b+1) 2 (.slice mp l.length mc)) (by omega),B1.out.set 2 (.slice mp l.length mc)⟩ ?_
 rintro W2 ⟨k2,v2,b2⟩
 have K2:=hid k2
 clear K1 V1 B1 hw2 hf2 hwl k2
 have ht0:=v2.facts.1
 have htl:=v2.facts.2.2
 have hw0:W2.cell? ⟨b+1,0,none⟩=some tsv:=b2.facts.1 0
 have hw1:W2.cell? ⟨b+1,1,none⟩=some inv:=b2.facts.1 1
 have hw2:W2.cell? ⟨b+1,2,none⟩=some (.slice mp l.length mc):=b2.facts.1 2
 have hw3:W2.cell? ⟨b+1,3,none⟩=some onv:=b2.facts.1 3
 have hwl:=b2.facts.2.2
 clear v2 b2
 go_wp2_with fail
 refine (dF S ps (mkW wi l) s _ _ _ _ _ W2 (fun c hc=>Nat.lt_of_lt_of_le (hS c hc) K2.out.size) (HP.out.keep hS K2.out) (HW.out.keep hS K2.out) hcap).mono ?_
 rintro e W3 h3
 obtain ⟨k3,v3,p3,rfl⟩:=h3.err
 have K3:=hid (K2.out.trans k3)
 clear h3 k3
 go_wp2_with fail
 go_ret
 exact ⟨rfl,K3.out⟩
noncomputable def eE (ps:List PK) (wi:WI) (s:Int):Nat->List Int × List Int
 | 0=>([],[])
 | j+1=>if cS ps (mkW wi ((eE ps wi s j).1 ++ [wi.ma.getD j 0])) s=0 then ((eE ps wi s j).1 ++ [wi.ma.getD j 0],(eE ps wi s j).2) else ((eE ps wi s j).1,(eE ps wi s j).2 ++ [wi.ma.getD j 0])
noncomputable def mO (ps:List PK) (wi:WI) (s:Int) (j:Nat):Int:=cS ps (mkW wi ((eE ps wi s j).1 ++ [wi.ma.getD j 0])) s
theorem aCf (ps:List PK) (wi:WI) (s:Int) : ∀ j,(eE ps wi s j).1.length<=j/\(eE ps wi s j).2.length<=j
 | 0=>by simp [eE]
 | j+1=>by
  have:=aCf ps wi s j
  rw [eE]
  split<;>simp<;>omega
theorem aCg {ps:List PK} {wi:WI} {s:Int} {j:Nat} (h:mO ps wi s j=0):eE ps wi s (j+1)=((eE ps wi s j).1 ++ [wi.ma.getD j 0],(eE ps wi s j).2):=by
 unfold mO at h
 rw [eE,if_pos h]
theorem aGr {ps:List PK} {wi:WI} {s:Int} {j:Nat} (h:mO ps wi s j≠0):eE ps wi s (j+1)=((eE ps wi s j).1,(eE ps wi s j).2 ++ [wi.ma.getD j 0]):=by
 unfold mO at h
 rw [eE,if_neg h]
def aNr (ps:List PK) (wi:WI) (s:Int) (w:World) (e:Ending) (w':World):Prop:=
 aA w w'/\((bC ps wi≠0/\e=.returned (.tuple #[.slice none 0 0,.int .i64 (bC ps wi)]))
  ∨(bC ps wi=0/\cS ps (mkW wi []) s≠0/\e=.returned (.tuple #[.slice none 0 0,.int .i64 (cS ps (mkW wi []) s)]))
  ∨(bC ps wi=0/\cS ps (mkW wi []) s=0/\∃ j,j<wi.ma.length/\mO ps wi s j≠0/\mO ps wi s j≠7/\e=.returned (.tuple #[.slice none 0 0,.int .i64 (mO ps wi s j)]))
  ∨(bC ps wi=0/\cS ps (mkW wi []) s=0/\(∀ j,j<wi.ma.length->mO ps wi s j=0∨mO ps wi s j=7)/\∃ v,e=.returned (.tuple #[v,.int .i64 0])/\eT v (eE ps wi s wi.ma.length).2 w'/\aH (fun c=>w.heap.size<=c/\c<w'.heap.size) w' (eE ps wi s wi.ma.length).2 v))
theorem iT (S:Nat->Prop) (w:World):aH S w [] (.slice none 0 0):=⟨_,_,rfl,by simp,fun h=>absurd h (by simp)⟩
theorem aDu {S:Nat->Prop} {zs:List Int} {v x:Value} {w w':World} {o:Obj} (h:aH S w zs v) (hS : ∀ b,S b->b<w.heap.size/\x.ownBlock≠some b) (hg:(w.alloc o).grownBy w' x.ownBlock):aH S w' zs v:=
 h.mono (fun p hp=>by
  have h1:=hS _ hp
  exact (World.cell?_of_block (w:=w.alloc o) (hg.block p.block (by rw [aC];omega) (fun e=>h1.2 e.symm))).trans ((aA.alloc w o).cell (p:=p) h1.1)) fun _ h=>h
theorem aEr (S:Nat->Prop) (ps:List PK) (wi:WI) (s:Int) (pv tsv inv mav onv:Value) (w:World) (hS : ∀ b,S b->b<w.heap.size) (hp:bD S w ps pv) (hw:eJ S w wi tsv inv mav onv) (hcap:jX pv) :
  Calls Tryz.prog 16 #[.agg #[pv],.agg #[tsv,inv,mav,onv],.int .i64 s] w fun e w'=>aNr ps wi s w e w':=by
 obtain ⟨i0,hi,hz0,hz1,hz2⟩:=info_parts dD
 have HP:=hid hp
 have HW:=hid hw
 clear hp hw
 go_enter Tryz.func16,Tryz.ntmps16
 go_upto_region 1 with fail
 obtain ⟨b,hb⟩ : ∃ b,b=w.heap.size:=⟨_,rfl⟩
 have hbw:w.heap.size<=b:=by omega
 refine bO (fun W'=>aA w W'/\aE w.heap.size 24 pv W'/\aD (w.heap.size+1) 30 #[tsv,inv,mav,onv] W') ⟨(aA.alloc _ _).alloc' _,(aE.new _ _ _).keep (aA.alloc _ _) (by simp),?_⟩ ?_
 ·have:=aD.new (w.alloc (.cells #[pv] 24)) 30 #[tsv,inv,mav,onv]
  rw [aC] at this;exact this
 rintro W1 ⟨k1,v1,b1⟩
 have K1:=hid k1
 have V1:=hid v1
 have B1:=hid b1
 rw [← hb] at V1 B1 ⊢
 clear k1 v1 b1 hb
 have ht0:=V1.out.facts.1
 have htl:=V1.out.facts.2.2
 have hw0:W1.cell? ⟨b+1,0,none⟩=some tsv:=B1.out.facts.1 0
 have hw1:W1.cell? ⟨b+1,1,none⟩=some inv:=B1.out.facts.1 1
 have hw2:W1.cell? ⟨b+1,2,none⟩=some mav:=B1.out.facts.1 2
 have hw3:W1.cell? ⟨b+1,3,none⟩=some onv:=B1.out.facts.1 3
 have hwl:=B1.out.facts.2.2
 go_wp2_with fail
 refine (jP S ps wi _ _ _ _ _ W1 (fun c hc=>Nat.lt_of_lt_of_le (hS c hc) K1.out.size) (HP.out.keep hS K1.out) (HW.out.keep hS K1.out)).mono ?_
 rintro e W2 ⟨rfl,k2⟩
 have K2:=hid (K1.out.trans k2)
 have V2:=hid (V1.out.keep k2 V1.out.facts.2.2)
 have B2:=hid (B1.out.keep k2 B1.out.facts.2.2)
 clear ht0 htl hw0 hw1 hw2 hw3 hwl V1 B1 k2
 obtain ⟨cw,hcw⟩ : ∃ cw,cw=bC ps wi:=⟨_,rfl⟩
 have HCW:=hid hcw
 rw [← hcw]
 clear hcw
 by_cases hz:cw=0
 ·subst hz
  have ht0:=V2.out.facts.1
  have htl:=V2.out.facts.2.2
  have hw0:W2.cell? ⟨b+1,0,none⟩=some tsv:=B2.out.facts.1 0
  have hw1:W2.cell? ⟨b+1,1,none⟩=some inv:=B2.out.facts.1 1
  have hw2:W2.cell? ⟨b+1,2,none⟩=some mav:=B2.out.facts.1 2
  have hw3:W2.cell? ⟨b+1,3,none⟩=some onv:=B2.out.facts.1 3
  have hwl:=B2.out.facts.2.2
  go_wp2_with fail
  refine (nM S ps wi [] s _ _ _ _ _ _ W2 (fun c hc=>Nat.lt_of_lt_of_le (hS c hc) K2.out.size) (HP.out.keep hS K2.out) (HW.out.keep hS K2.out) (iT _ _) hcap).mono ?_
  rintro e W3 ⟨rfl,k3⟩
  have K3:=hid (K2.out.trans k3)
  have V3:=hid (V2.out.keep k3 V2.out.facts.2.2)
  have B3:=hid (B2.out.keep k3 B2.out.facts.2.2)
  clear ht0 htl hw0 hw1 hw2 hw3 hwl V2 B2 k3
  obtain ⟨er,her⟩ : ∃ er,er=cS ps (mkW wi []) s:=⟨_,rfl⟩
  have HER:=hid her
  have HER0:=hid her
  rw [← her]
  clear her
  by_cases he:er=0
  ·subst he
   obtain ⟨mp,mc,rfl,hml⟩:=HW.out.ma.len
   have hw2:W3.cell? ⟨b+1,2,none⟩=some (.slice mp wi.ma.length mc):=B3.out.facts.1 2
   have hwl:=B3.out.facts.2.2
   go_wp2_with fail
   go_loopg [10,11,32] wi.ma.length (fun gk ag iw i wr=> ∃ j:Nat,j+gk=wi.ma.length/\i=.int .i64 j/\(∀ t,t<j->mO ps wi s t=0∨mO ps wi s t=7)/\aQ (b+2) iw (eE ps wi s j).2 wr/\aH (fun c=>w.heap.size<=c/\c<wr.heap.size/\iw.ownBlock≠some c) wr (eE ps wi s j).1 ag/\aE b 24 pv wr/\aD (b+1) 30 #[tsv,inv,.slice mp wi.ma.length mc,onv] wr/\aA w wr)
   case atStart=>exact ⟨0,by omega,rfl,fun t ht=>by omega,World.ownsRow_nil _ _ _ _,iT _ _,V3.out,B3.out,K3.out⟩
   case round=>
   obtain ⟨j,hj,rfl,hall,hiw,hag,hv,hbx,hk⟩:=hrel
   have HALL:=hid hall
   have HIW:=hid hiw
   have HK:=hid hk
   have HV:=hid hv
   have HBX:=hid hbx
   have hma8:=(cA HCW.out.symm).2.2.2.2.2.1
   have hun:=aCf ps wi s j
   obtain ⟨apt,ac,rfl,hal⟩:=hag.len
   have HAG:=hid hag
   have hbl:b+2<=wr.heap.size:=hbx.facts.2.2
   clear hall hiw hk hv hbx hag hw2 hwl
   by_cases hlt:j<wi.ma.length
   ·have hjI:(j:Int)<(wi.ma.length:Int):=by omega
    obtain ⟨mb,mo,hmp,hSm,hmc⟩:=HW.out.ma.get (by omega)
    subst hmp
    have hcx:=(HK.out.cell (p:=⟨mb,mo+j,none⟩) (hS mb hSm)).trans (hmc j hlt)
    have hmbl:mb<wr.heap.size:=Nat.lt_of_lt_of_le (hS mb hSm) HK.out.size
    obtain ⟨k,hkk⟩ : ∃ k,k=wi.ma.getD j 0:=⟨_,rfl⟩
    have HKK:=hid hkk
    rw [← hkk] at hcx
    clear hmc hkk
    go_wp2_with fail
    refine (Cn.iH _ (eE ps wi s j).1 apt ac wr (fun c hc=>hc.2.1) HAG.out (by omega)).mono ?_
    rintro e W4 ⟨v4,rfl,hown4,k4⟩
    have k4:aA wr W4:=k4
    have hown4:aQ wr.heap.size v4 (eE ps wi s j).1 W4:=hown4
    have HK4:=hid k4
    have HO4:=hid hown4
    have hs4:=k4.size
    clear k4 hown4 hcx hmbl
    go_wp2_with (at_builtin;refine wpList_append_own_at _ rfl _ _ 27 rfl wr.heap.size 3 i0 (.int .i64 0) 1 8 Tryz.underlying27 hi hz0 hz1 hz2 rfl (by decide) v4 (eE ps wi s j).1.length ((eE ps wi s j).1.map (Value.int .i64)) rfl (World.ownsRow.alloc HO4.out _) ⟨W4.heap.size,0,none⟩ 1 1 [.int .i64 k] rfl rfl pI cP (by unfold maxLen;omega) (by omega) (by have:=aC W4 (.cells #[.int .i64 k] 3);omega) ?_)
    intro v5 w5 h5 h6 _ _
    obtain ⟨h7,h8⟩:=fZ hs4 HO4.out h5 h6
    have k5:aA wr w5:=Below.trans HK4.out h8
    have hnu:=Cn.aQ.nums (B:=wr.heap.size) h7 (by simp;omega)
    have HNU:=hid (show aH (fun c=>wr.heap.size<=c/\c<w5.heap.size) w5 ((eE ps wi s j).1 ++ [k]) v5 from hnu)
    have K5:=hid (HK.out.trans k5)
    have HK5:=hid k5
    have V5:=hid (HV.out.keep k5 HV.out.facts.2.2)
    have B5:=hid (HBX.out.keep k5 HBX.out.facts.2.2)
    clear h5 h6 h7 h8 k5 hnu HV HBX HO4 HK4
    have ht0:=V5.out.facts.1
    have htl:=V5.out.facts.2.2
    have hw0:w5.cell? ⟨b+1,0,none⟩=some tsv:=B5.out.facts.1 0
    have hw1:w5.cell? ⟨b+1,1,none⟩=some inv:=B5.out.facts.1 1
    have hw2:w5.cell? ⟨b+1,2,none⟩=some (.slice (some ⟨mb,mo,none⟩) wi.ma.length mc):=B5.out.facts.1 2
    have hw3:w5.cell? ⟨b+1,3,none⟩=some onv:=B5.out.facts.1 3
    have hwl:=B5.out.facts.2.2
    go_wp2_with fail
    refine (nM (fun c=>c<w5.heap.size) ps wi ((eE ps wi s j).1 ++ [k]) s _ _ _ _ _ _ w5 (fun _ h=>h) ((HP.out.keep hS K5.out).mono (fun _ _=>rfl) fun c hc=>Nat.lt_of_lt_of_le (hS c hc) K5.out.size) ((HW.out.keep hS K5.out).mono fun c hc=>Nat.lt_of_lt_of_le (hS c hc) K5.out.size) (HNU.out.mono (fun _ _=>rfl) fun c hc=>hc.2) hcap).mono ?_
    rintro e w6 ⟨rfl,k6⟩
    have HUE:=hid (show mO ps wi s j=cS ps (mkW wi ((eE ps wi s j).1 ++ [k])) s by rw [HKK.out];rfl)
    have K6:=hid (K5.out.trans k6)
    have V6:=hid (V5.out.keep k6 V5.out.facts.2.2)
    have B6:=hid (B5.out.keep k6 B5.out.facts.2.2)
    have IW6:=hid (show aQ (b+2) u11 (eE ps wi s j).2 w6 from bL HIW.out (HK5.out.trans k6))
    have AG6:=hid (show aH (fun c=>w.heap.size<=c/\c<wr.heap.size/\u11.ownBlock≠some c) w6 (eE ps wi s j).1 (.slice apt (eE ps wi s j).1.length ac) from HAG.out.mono (fun p hp=>(HK5.out.trans k6).cell (p:=p) hp.2.1) fun _ h=>h)
    have NU6:=hid (HNU.out.mono (S':=fun c=>wr.heap.size<=c/\c<w6.heap.size) (fun p hp=>k6.cell (p:=p) hp.2) fun c hc=>⟨hc.1,Nat.lt_of_lt_of_le hc.2 k6.size⟩)
    have hs6:wr.heap.size<=w6.heap.size:=(HK5.out.trans k6).size
    have HFAR:=hid (show ∀ g,u11.ownBlock=some g->g<wr.heap.size from fun g hg=>(cN HIW.out hg).2)
    clear ht0 htl hw0 hw1 hw2 hw3 hwl V5 B5 k6 HNU HIW HAG
    obtain ⟨er,her⟩ : ∃ er,er=cS ps (mkW wi ((eE ps wi s j).1 ++ [k])) s:=⟨_,rfl⟩
    have HER:=hid her
    rw [← her] at HUE ⊢
    clear her
    by_cases h0:er=0
    ·subst h0
     have HUS:=hid (aCg HUE.out)
     go_wp2_with fail
     go_roundg (wi.ma.length-(j+1))
     case rel=>exact ⟨j+1,by omega,by go_num,fun t ht=>by by_cases e:t=j;(subst e;exact .inl HUE.out);exact HALL.out t (by omega),by rw [HUS.out];exact IW6.out,by rw [HUS.out,← HKK.out];exact NU6.out.mono (fun _ _=>rfl) fun c hc=>⟨Nat.le_trans HK.out.size hc.1,hc.2,fun e=>by have:=HFAR.out c e;omega⟩,V6.out,B6.out,K6.out⟩
     case measure=>omega
    ·have ha1:(er==0)=false:=by simpa using h0
     have ha2:(er != 0)=true:=by simp [bne,ha1]
     have HUS:=hid (aGr (by rw [HUE.out];exact h0))
     have H0:=hid h0
     clear h0
     by_cases h7:er=7
     ·subst h7
      go_wp2_with (at_builtin;refine wpList_append_own_at _ rfl _ _ 27 rfl (b+2) 3 i0 (.int .i64 0) 1 8 Tryz.underlying27 hi hz0 hz1 hz2 rfl (by decide) u11 (eE ps wi s j).2.length ((eE ps wi s j).2.map (Value.int .i64)) rfl (World.ownsRow.alloc IW6.out _) ⟨w6.heap.size,0,none⟩ 1 1 [.int .i64 k] rfl rfl pI cP (by unfold maxLen;omega) (by omega) (by have:=aC w6 (.cells #[.int .i64 k] 3);omega) ?_)
      intro v7 w7 h5 h6 _ h9
      obtain ⟨h7,h8⟩:=fZ (by omega) IW6.out h5 h6
      have AG7:=hid (aDu AG6.out (fun c hc=>⟨by omega,hc.2.2⟩) h6)
      have H7:=hid h7
      have K7:=hid (show aA w w7 from Below.trans K6.out (h8.mono (by omega)))
      have V7:=hid (V6.out.keep h8 (by omega))
      have B7:=hid (B6.out.keep h8 (by omega))
      have HF7:=hid (show ∀ c,c<wr.heap.size->u11.ownBlock≠some c->v7.ownBlock≠some c from fun c h1 h2 h3=>by
       rcases h9 with h9 | h9
       ·exact h2 (h9 ▸ h3)
       ·rw [h9] at h3
        have:=Option.some.inj h3
        (try rw [aC] at this)
        omega)
      have hs7:=h8.size
      clear h5 h6 h7 h8
      go_wp2_with fail
      go_roundg (wi.ma.length-(j+1))
      case rel=>exact ⟨j+1,by omega,by go_num,fun t ht=>by by_cases e:t=j;(subst e;exact .inr HUE.out);exact HALL.out t (by omega),by rw [HUS.out,← HKK.out];exact H7.out,by rw [HUS.out];exact AG7.out.mono (fun _ _=>rfl) fun c hc=>⟨hc.1,by have:=K7.out.size;omega,HF7.out c hc.2.1 hc.2.2⟩,V7.out,B7.out,K7.out⟩
      case measure=>omega
     ·have hy1:(er==7)=false:=by simpa using h7
      have hy2:(er != 7)=true:=by simp [bne,hy1]
      have H7:=hid h7
      clear h7
      go_wp2_with fail
      refine cF (v:= .tuple #[.slice none 0 0,.int .i64 er]) (fun W'=>W'=w6) rfl rfl ?_
      rintro W rfl
      exact ⟨by simp [results,Tryz.results16,go_sem],K6.out,.inr (.inr (.inl ⟨HCW.out.symm,HER0.out.symm,j,hlt,by rw [HUE.out];exact H0.out,by rw [HUE.out];exact H7.out,by rw [HUE.out]⟩))⟩
   have hje:j=wi.ma.length:=by omega
   have hnl : ¬ ((j:Int)<(wi.ma.length:Int)):=by omega
   have HJE:=hid hje
   have hun8:(eE ps wi s j).2.length<=8:=by omega
   clear hje hlt hj
   go_wp2_with fail
   obtain ⟨xp,xc,hxv⟩:=(aQ.ints HIW.out).len
   refine cF (v:= .tuple #[u11,.int .i64 0]) (fun W'=>W'=wr) rfl rfl ?_
   rintro W rfl
   have hnu:=Cn.aQ.nums (B:=b+2) HIW.out (by omega)
   exact ⟨by simp [results,Tryz.results16,go_sem],HK.out,.inr (.inr (.inr ⟨HCW.out.symm,HER0.out.symm,by rw [← HJE.out];exact HALL.out,_,rfl,by rw [← HJE.out];exact aQ.ints HIW.out,by rw [← HJE.out];exact aH.mono (S:=fun c=>b+2<=c/\c<_) (fun _ _=>rfl) (fun c hc=>⟨by omega,hc.2⟩) hnu⟩))⟩
  ·have hz1:(er==0)=false:=by simpa using he
   have hz2:(er != 0)=true:=by simp [bne,hz1]
   have HE:=hid he
   clear he
   go_wp2_with fail
   refine cF (v:= .tuple #[.slice none 0 0,.int .i64 er]) (fun W'=>W'=W3) rfl rfl ?_
   rintro W rfl
   exact ⟨by simp [results,Tryz.results16,go_sem],K3.out,.inr (.inl ⟨HCW.out.symm,by rw [← HER.out];exact HE.out,by rw [HER.out]⟩)⟩
 ·have hz1:(cw==0)=false:=by simpa using hz
  have hz2:(cw != 0)=true:=by simp [bne,hz1]
  have HZ:=hid hz
  clear hz
  go_wp2_with fail
  refine cF (v:= .tuple #[.slice none 0 0,.int .i64 cw]) (fun W'=>W'=W2) rfl rfl ?_
  rintro W rfl
  exact ⟨by simp [results,Tryz.results16,go_sem],K2.out,.inl ⟨by rw [← HCW.out];exact HZ.out,by rw [HCW.out]⟩⟩
def Er (x:Int):Prop:=0<=x/\x<=6
theorem iI {f:Nat->Int} (h : ∀ k,Er (f k)) : ∀ (m i:Nat),Er (aU f i m)
 | 0,i=>by unfold Er;rw [aU];omega
 | m+1,i=>by
  rw [aU]
  split
  ·exact iI h m (i+1)
  ·exact h i
theorem aFi (a:At):Er (gR a):=by
 unfold gR chk Er
 repeat (first | split | omega)
theorem aBa : ∀ t:NT,Er (cU t)
 | .node k a fl nt kids=>by
  rw [cU]
  split
  ·unfold Er;omega
  ·split
   ·unfold Er;omega
   ·split
    ·exact aFi a
    ·unfold Er;omega
mutual
theorem yZ (inc:Int->Int) : ∀ (t:NT) (s d:Int),Er (bS inc fE s t d).1
 | .node k a fl nt kids,s,d=>by
  rw [bS]
  split
  ·exact aFz inc kids _ _ (aBa (.node k a fl nt kids))
  ·exact aBa (.node k a fl nt kids)
theorem aFz (inc:Int->Int) : ∀ (ts:List NT) (s d:Int),Er s->Er (bQ inc fE s ts d).1
 | [],s,d,h=>by rw [bQ];exact h
 | t :: ts,s,d,h=>by
  rw [bQ]
  split
  ·exact aFz inc ts _ _ (yZ inc t s d)
  ·exact yZ inc t s d
end
theorem aOb (ps:List PK):Er (dA ps):=by
 unfold dA
 split
 ·unfold Er;omega
 ·refine iI (fun k=> ?_) _ _
  have hP:Er (eI (ps.getD k PK.zero)):=by
   generalize ps.getD k PK.zero=p
   have hF:Er (dM p.fl):=by
    unfold dM
    split
    ·unfold Er;omega
    ·refine iI (fun k=> ?_) _ _
     unfold flE Er
     repeat (first | split | omega)
   have hN:Er (fU p.nd p.fl):=by
    have h1:Er (eA p.nd):=by
     unfold eA
     split
     ·unfold Er;omega
     ·exact yZ _ _ _ _
    unfold fU
    split
    ·unfold Er;omega
    ·split
     ·exact h1
     ·unfold Er;split<;>omega
   unfold eI
   split
   ·unfold Er;omega
   ·split
    ·unfold Er;omega
    ·split
     ·exact hF
     ·exact hN
  unfold pkE
  split
  ·exact hP
  ·unfold Er;repeat (first | split | omega)
theorem aFj (ps:List PK) (wi:WI):Er (bC ps wi):=by
 unfold bC
 split
 ·unfold eK
  split
  ·exact aOb ps
  ·refine iI (fun k=> ?_) _ _
   unfold mbE Er
   repeat (first | split | omega)
 ·split
  ·unfold taE
   split
   ·unfold Er;omega
   ·exact iI (fun k=>aFi _) _ _
  ·split
   ·refine iI (fun k=> ?_) _ _
    unfold maE Er
    repeat (first | split | omega)
   ·refine iI (fun k=> ?_) _ _
    unfold onE Er
    repeat (first | split | omega)
noncomputable def mI (ps:List PK) (wi:WI) (s:Int):List MB:=if cS ps wi s=0 then bX ps wi (cI ps wi s).m else []
noncomputable def aEa (ps:List PK) (wi:WI) (s:Int):List (List Int):=if cS ps wi s=7 then (cI ps wi s).P else []
theorem sE {ps:List PK} {wi:WI} {s:Int} (h:bC ps wi=0) (he:(cI ps wi s).er=0):cS ps wi s=if (cI ps wi s).P = [] then 0 else 7:=by
 unfold cS
 rw [if_neg (by simp [h]),if_neg (by simp [he])]
theorem xZ (S:Nat->Prop) (w:World):cB S w [] (.slice none 0 0):=⟨_,_,rfl,by simp,fun h=>absurd h (by simp)⟩
theorem gX.gen {ps:List PK} {wi:WI} {s:Int} {w w':World} {e:Ending} (h:gX ps wi s w e w') (hs:1<=s) (hs2:s<=40000):aA w w'/\∃ v pv,e=.returned (.tuple #[v,pv,.int .i64 (cS ps wi s)])/\cB (fun b=>w.heap.size<=b/\b<w'.heap.size) w' (mI ps wi s) v/\Cn.dY (fun b=>w.heap.size<=b/\b<w'.heap.size) w' (aEa ps wi s) pv:=by
 obtain ⟨k,h⟩:=h
 refine ⟨k,?_⟩
 have hW:=aFj ps wi
 unfold Er at hW
 rcases h with ⟨h1,rfl⟩ | ⟨h1,h2,rfl⟩ | ⟨h1,h2,h3,pv,rfl,h5⟩ | ⟨h1,h2,h3,v,rfl,h5⟩
 ·have e:cS ps wi s=bC ps wi:=by unfold cS;rw [if_pos h1]
  refine ⟨_,_,by rw [e],?_,?_⟩
  ·unfold mI;rw [e,if_neg h1];exact xZ _ _
  ·unfold aEa;rw [e,if_neg (by omega)];exact Cn.gH _ _
 ·have e:cS ps wi s=(cI ps wi s).er:=by unfold cS;rw [if_neg (by simp [h1]),if_pos h2]
  have e8:(cI ps wi s).er=8:=(aQy h1 hs hs2).resolve_left h2
  refine ⟨_,_,by rw [e],?_,?_⟩
  ·unfold mI;rw [e,if_neg h2];exact xZ _ _
  ·unfold aEa;rw [e,e8,if_neg (by decide)];exact Cn.gH _ _
 ·have e:cS ps wi s=7:=by rw [sE h1 h2,if_neg h3]
  refine ⟨_,_,by rw [e],?_,?_⟩
  ·unfold mI;rw [e,if_neg (by decide)];exact xZ _ _
  ·unfold aEa;rw [e,if_pos rfl];exact h5
 ·have e:cS ps wi s=0:=by rw [sE h1 h2,if_pos h3]
  refine ⟨_,_,by rw [e],?_,?_⟩
  ·unfold mI;rw [e,if_pos rfl];exact h5
  ·unfold aEa;rw [e,if_neg (by decide)];exact Cn.gH _ _
theorem qJ (ps:List PK) (wi:WI):(bC ps wi≠0/\cS ps wi 40000=bC ps wi/\cS ps wi 40000≠7/\mI ps wi 40000 = [])∨(bC ps wi=0/\cS ps wi 40000=0/\∃ c,lK ps wi c/\mI ps wi 40000=bX ps wi c)∨(bC ps wi=0/\cS ps wi 40000=7/\gT ps wi/\mI ps wi 40000 = []/\aEa ps wi 40000=(cI ps wi 40000).P/\Cn.aEz (dI ps wi).cl (cI ps wi 40000).P/\(cI ps wi 40000).P.length<=40000/\∀ c∈(cI ps wi 40000).P,c.length<=60/\Cn.aK (dI ps wi).n c):=by
 by_cases h:bC ps wi=0
 ·have he:=lB h
  rcases uC h he with ⟨h1,h2,h3,h4⟩ | ⟨h1,h2,h3,h4,h5⟩
  ·have e:cS ps wi 40000=0:=by rw [sE h he,if_pos h1]
   refine .inr (.inl ⟨h,e,_,h4,?_⟩)
   unfold mI
   rw [e,if_pos rfl,wS (lQ (cA h).2.1)]
  ·have e:cS ps wi 40000=7:=by rw [sE h he,if_neg h1]
   refine .inr (.inr ⟨h,e,h2,?_,?_,h3,h4,h5⟩)
   ·unfold mI;rw [e,if_neg (by decide)]
   ·unfold aEa;rw [e,if_pos rfl]
 ·have e:cS ps wi 40000=bC ps wi:=by unfold cS;rw [if_pos h]
  have hW:=aFj ps wi
  unfold Er at hW
  refine .inl ⟨h,e,by rw [e];omega,?_⟩
  unfold mI
  rw [e,if_neg h]
theorem aEt {ps:List PK} {wi:WI} {l l':List Int} (h : ∀ x∈l,x∈l') {ms:List MB} (hv:dJ ps (mkW wi l') ms=true):dJ ps (mkW wi l) ms=true:=by
 unfold dJ at *
 rw [Bool.and_eq_true] at *
 refine ⟨hv.1,oL.2 fun k hk=> ?_⟩
 have h1:=oL.1 hv.2 k hk
 unfold aDq at *
 rw [Bool.and_eq_true,Bool.and_eq_true] at *
 refine ⟨⟨?_,h1.1.2⟩,h1.2⟩
 cases hc:(mkW wi l).ma.contains (ms.getD k MB.zero).pl with
 | false=>rfl
 | true=>
  have h2:(mkW wi l').ma.contains (ms.getD k MB.zero).pl=true:=by
   rw [List.contains_iff_mem] at *
   exact h _ hc
  rw [h2] at h1
  exact h1.1.1
theorem aDt {ps:List PK} {wi:WI} {l l':List Int} (h : ∀ x∈l,x∈l') (hn:gT ps (mkW wi l)):gT ps (mkW wi l'):=fun d hd=>by
 cases hv:dJ ps (mkW wi l') (bX ps (mkW wi l') d) with
 | false=>rfl
 | true=>
  have h1:dJ ps (mkW wi l) (bX ps (mkW wi l) d)=true:=aEt h hv
  have:=hn d hd
  rw [h1] at this;cases this
theorem aKl {ps:List PK} {wi:WI} (h:bC ps wi=0) {l:List Int} (hl:l.Sublist wi.ma):bC ps (mkW wi l)=0:=by
 obtain ⟨-,h2,-,-,h5,-,h7,h8⟩:=cA h
 have hma:aU (maE ps l) 0 l.length=0:=by
  refine (cG _ 0).2 fun j hj=> ?_
  rw [Nat.zero_add]
  have hg:l.getD j 0=l[j]:=by rw [List.getD_eq_getElem?_getD,List.getElem?_eq_getElem hj];rfl
  have hb:=h5 l[j] (hl.subset (List.getElem_mem hj))
  unfold maE
  rw [hg,if_neg (by omega),if_neg]
  rintro ⟨h0,hle⟩
  have hg1:l.getD (j-1) 0=l[j-1]:=by rw [List.getD_eq_getElem?_getD,List.getElem?_eq_getElem (by omega)];rfl
  rw [hg1] at hle
  have:=List.pairwise_iff_getElem.1 (h7.sublist hl) (j-1) j (by omega) hj (by omega)
  omega
 have hta:taE wi.ts=0:=by
  unfold bC at h
  rw [if_neg (by simp [h2])] at h
  by_cases e:taE wi.ts=0
  ·exact e
  ·rw [if_pos e] at h;exact h
 unfold bC
 rw [if_neg (by show ¬ eK ps wi.ins≠0;simp [h2]),if_neg (by show ¬ taE wi.ts≠0;simp [hta]),if_neg (by show ¬ aU (maE ps l) 0 l.length≠0;simp [hma])]
 exact h8
theorem aPe {ps:List PK} {wi:WI} (h:bC ps wi=0) {l:List Int} (hl:l.Sublist wi.ma):(cS ps (mkW wi l) 40000=0/\¬ gT ps (mkW wi l))∨(cS ps (mkW wi l) 40000=7/\gT ps (mkW wi l)):=by
 have h1:=aKl h hl
 rcases aMi h1 with ⟨c,hc⟩ | hn
 ·exact .inl ⟨kI h1 hc,fun hn=>hc.some hn⟩
 ·exact .inr ⟨qI h1 hn,hn⟩
end Go.Proofs.YtonlloiemgdfkaaGreatDoor
namespace Go.Proofs.YtonlloiemgdfkaaGreatDoor
open Go.RowKit Go.Sort
theorem qS {w:World} {b o:Nat} {x:Value} {p:Addr} (h:p.block≠b):(w.setCell ⟨b,o,none⟩ x).cell? p=w.cell? p:=World.cell?_of_block (fJ w b o x p.block h)
end Go.Proofs.YtonlloiemgdfkaaGreatDoor
namespace Go.Proofs.YtonlloiemgdfkaaGreatDoor
open Go.RowKit Go.Lib Go.Sort
instance:Inhabited At:=⟨At.zero⟩
def aQz:Go.Shelf.Ren:=⟨fun | 35=>24 | n=>n,fun | 22=>25 | 23=>48 | 3=>3 | 4=>4 | n=>n,fun | n=>n⟩
theorem aMj:Go.Proofs.SlLaysE0.n35 Tryz.prog aQz:= {
 mixed:=by kernel_rfl
 f35:=⟨Tryz.f24.name,by decide,Tryz.func24.trans (congrArg some (by kernel_rfl))⟩
 t0:=Tryz.underlying0
 a0:=Tryz.isAgg0
 z0:=Tryz.sizeOf0
 v0:=Tryz.zeroValue0
 t3:=Tryz.underlying3
 a3:=Tryz.isAgg3
 z3:=Tryz.sizeOf3
 v3:=Tryz.zeroValue3
 t4:=Tryz.underlying4
 a4:=Tryz.isAgg4
 z4:=Tryz.sizeOf4
 v4:=Tryz.zeroValue4
 t22:=Tryz.underlying25
 a22:=Tryz.isAgg25
 z22:=Tryz.sizeOf25
 v22:=Tryz.zeroValue25 }
theorem aFk (a:At):(clA a).length=6:=rfl
theorem aOc (a:At) : ∀ v∈clA a,v.oneCell'=true:=fun v hv=>uE [a] v (by simpa [cL] using hv)
theorem owns_holds {w:World} {ts:List At} {g:Nat} {cur:Array Value} {e:TypeId} (ho:w.heap[g]? = some (.cells cur e (0,0))) (ht:cur.toList.take (ts.length*6)=cL ts):HoldsK clA 6 w g 0 ts.toArray:=by
 intro j hj
 have hj':j<ts.length*6:=by rw [size_flatK] at hj;simpa using hj
 refine ⟨?_,by simp [World.frozen?,ho]⟩
 rw [Nat.zero_add,get_flatK _ _ _ _ (by simpa using hj')]
 have hm:=Nat.div_add_mod j 6
 have hl:=Nat.mod_lt j (show 0<6 by decide)
 have hq:j / 6<ts.length:=by omega
 have h1:=sF ts (j / 6) (j % 6) hl
 rw [show j / 6*6+j % 6=j by omega,← ht,List.getElem?_take,if_pos hj',Array.getElem?_toList,List.getElem?_eq_getElem hq] at h1
 simp only [World.cell?,ho]
 have h2:(ts.toArray)[j / 6]! = ts[j / 6]:=by rw [getElem!_pos _ _ (by simpa using hq)];rfl
 rw [h2]
 have h3:(clA ts[j / 6])[j % 6]? = some (clA ts[j / 6])[j % 6]! :=by
  rw [getElem!_pos _ _ (by rw [aFk];exact hl),List.getElem?_eq_getElem]
 simp only [Option.bind_some] at h1
 rw [h3] at h1
 simpa using h1
theorem aHv {S:Nat->Prop} {w:World} {ts:List At} {b cap:Nat} (h:HoldsK clA 6 w b 0 ts.toArray) (hb:S b) (hl:ts.length<=9223372036854775807):eG S w ts (.slice (some ⟨b,0,none⟩) ts.length cap):=by
 refine ⟨_,_,rfl,hl,fun _=>⟨b,0,rfl,hb,fun j a ha=> ?_⟩⟩
 have hj:j<ts.length:=(List.getElem?_eq_some_iff.1 ha).1
 have g : ∀ c,c<6->w.cell? ⟨b,0+j*6+c,none⟩=some (clA a)[c]! :=fun c hc=>by
  have:=(h.cell (i:=j) (c:=c) (by simpa using hj) hc).1
  rw [getElem!_pos _ j (by simpa using hj)] at this
  rw [this]
  congr 2
  have h3:ts[j]=a:=(List.getElem?_eq_some_iff.1 ha).2
  rw [← h3];rfl
 exact ⟨g 0 (by decide),g 1 (by decide),g 2 (by decide),g 3 (by decide),g 4 (by decide),g 5 (by decide)⟩
theorem aHf (w:World) (q g B:Nat) (d:Array At) (hB:B<=g):Below B w (putRowK clA 6 (Sort.ahead w q) g 0 d):=
 ⟨rfl,rfl,rfl,by simp [putRowK,putRow,mapBlock,Sort.ahead],fun k hk=>by simp [putRowK,putRow,mapBlock,Sort.ahead,Array.getElem?_modify,show g≠k by omega]⟩
theorem rB (B:Nat) (ts:List At) (v:Value) (w:World) (h:jO B v ts w) (hl:ts.length<=6) :
  Calls Tryz.prog 24 #[v] w fun e w'=>e=.returned (.tuple #[])/\eG (fun b=>B<=b/\b<w'.heap.size) w' ts.reverse v/\Below B w w':=by
 obtain ⟨-,⟨rfl,h0⟩ | ⟨g,cap,cur,rfl,hg,ho,hn,hm,hs,ht⟩⟩:=h
 ·obtain rfl:ts = []:=List.length_eq_zero_iff.1 h0
  refine (AnyQ.slices_Reverse_empty aMj none 0 w).mono ?_
  rintro e w' ⟨rfl,rfl⟩
  exact ⟨rfl,⟨_,_,rfl,by simp,fun h=>absurd h (by simp)⟩,Below.refl _ _⟩
 ·have hlt:g<w.heap.size:=(Array.getElem?_eq_some_iff.1 ho).1
  have hH:=owns_holds ho ht
  have:=AnyQ.slices_Reverse aMj 6 Tryz.isAgg48 Tryz.sizeOf48 clA aFk aOc g 0 cap ts.toArray w hH (by simp;omega)
  rw [show ts.toArray.size=ts.length by simp] at this
  refine this.mono ?_
  rintro e w' ⟨rfl,q,rfl⟩
  have hH2:=holdsK_putRowK clA 6 (Sort.ahead w q) g 0 ts.toArray ts.toArray.reverse hH (by simp)
  rw [List.reverse_toArray] at hH2
  refine ⟨rfl,?_,aHf w q g B _ hg⟩
  have:=aHv (S:=fun b=>B<=b/\b<(putRowK clA 6 (Sort.ahead w q) g 0 ts.toArray.reverse).heap.size) (cap:=cap) hH2 ⟨hg,by simp [putRowK,putRow,mapBlock,Sort.ahead];exact hlt⟩ (by simp;omega)
  rw [List.length_reverse] at this
  rw [List.reverse_toArray] at this ⊢
  exact this
def clZ:List Value:= [.string ⟨#[]⟩,.int .i64 0,.int .i64 0,.int .i64 0,.string ⟨#[]⟩,.bool false]
theorem aHj (w:World) (ty:TypeId) (b o c:Nat) (hc : ∀ j,j<6->(w.cell? ⟨b,o+j,none⟩).isSome=true) (hf : ∀ j,j<6->w.frozen? ⟨b,o+j,none⟩=false) :
  (Builtin.clear_ #[25] ty #[.slice (some ⟨b,o,none⟩) 1 c]).run Tryz.prog w=.ok (.tuple #[]) (w.setCells b o clZ):=by
 have hzc:(Builtin.zeroCells (Value.agg #[.string ⟨#[]⟩,.int .i64 0,.int .i64 0,.int .i64 0,.string ⟨#[]⟩,.bool false]).cells 1).toList=clZ:=by
  simp [Builtin.zeroCells,Value.cells,clZ]
  rfl
 have hst:=run_storeCells_cells (P:=Tryz.prog) b o clZ 0 w (by simpa [clZ] using hc) (by simpa [clZ] using hf) (by intro v hv';simp only [clZ,List.mem_cons,List.not_mem_nil,or_false] at hv';rcases hv' with rfl | rfl | rfl | rfl | rfl | rfl<;>rfl)
 simp only [Nat.add_zero] at hst
 simp [Builtin.clear_,run_underlying Tryz.underlying25,hzc,hst]
theorem aMe {w:World} {ts:List At} {g:Nat} {cur:Array Value} {e:TypeId} (ho:w.heap[g]? = some (.cells cur e (0,0))) (ht:cur.toList.take (ts.length*6)=cL ts):Holds id w g 0 (cL ts).toArray:=by
 intro j hj
 have hj':j<(cL ts).length:=by simpa using hj
 refine ⟨?_,by simp [World.frozen?,ho]⟩
 have h1:(cL ts)[j]? = some (cL ts)[j]:=List.getElem?_eq_getElem hj'
 rw [dG] at hj'
 rw [Nat.zero_add,getElem!_pos _ j hj]
 simp only [World.cell?,ho,id]
 have h2:(cur.toList.take (ts.length*6))[j]? = some (cL ts)[j]:=by rw [ht];exact h1
 rw [List.getElem?_take,if_pos hj',Array.getElem?_toList] at h2
 simpa using h2
theorem xS {l:List Value} {j:Nat} {u:Value} (h:l[j]? = some u):l[j]! = u:=by
 obtain ⟨h1,h2⟩:=List.getElem?_eq_some_iff.1 h
 rw [getElem!_pos l j h1];exact h2
theorem aOd {w:World} {ts:List At} {g k:Nat} (hH:Holds id w g 0 (cL ts).toArray) (hk:k<ts.length) {W1:World} (h1:W1=w.drew.setCells g (0+k*6) (cL (ts.drop (k+1)))) :
  Holds id W1 g 0 (setMany (cL ts).toArray (k*6) (cL (ts.drop (k+1))))/\∃ F2:Array Value,W1.setCells g (0+(ts.length-1)*6) clZ=putRow id (Sort.ahead w 1) g 0 F2/\Holds id (putRow id (Sort.ahead w 1) g 0 F2) g 0 F2/\F2.size=ts.length*6/\∀ (j:Nat) (u:Value),(cL (ts.eraseIdx k))[j]? = some u->F2[j]! = u:=by
 have hs:w.drew=putRow id (Sort.ahead w 1) g 0 (cL ts).toArray:=(putRow_self id (Sort.ahead w 1) g 0 _ (holds_ahead id w 1 g 0 _ hH)).symm
 have hn:(cL (ts.drop (k+1))).length=(ts.length-(k+1))*6:=by rw [dG,List.length_drop]
 have hz:(cL ts).toArray.size=ts.length*6:=by simp [dG]
 rw [hs,setCells_putRow _ _ _ _ _ _ (by rw [hn,hz];omega)] at h1
 have hz1:(setMany (cL ts).toArray (k*6) (cL (ts.drop (k+1)))).size=ts.length*6:=by rw [size_setMany,hz]
 have e2:W1.setCells g (0+(ts.length-1)*6) clZ=putRow id (Sort.ahead w 1) g 0 (setMany (setMany (cL ts).toArray (k*6) (cL (ts.drop (k+1)))) ((ts.length-1)*6) clZ):=by
  rw [h1,setCells_putRow _ _ _ _ _ _ (by rw [hz1];simp [clZ];omega)]
 refine ⟨by rw [h1];exact holds_putRow id _ g 0 _ _ (holds_ahead id w 1 g 0 _ hH) (by rw [hz1,hz]),_,e2,holds_putRow id _ g 0 _ _ (holds_ahead id w 1 g 0 _ hH) (by rw [size_setMany,hz1,hz]),by rw [size_setMany,hz1],fun j u hu=> ?_⟩
 have hj:j<(ts.length-1)*6:=by
  have:=(List.getElem?_eq_some_iff.1 hu).1
  rwa [dG,List.length_eraseIdx,if_pos hk] at this
 rw [get_setMany _ _ _ j (by rw [hz1];omega),if_neg (by omega),get_setMany _ _ _ j (by rw [hz];omega)]
 rw [List.eraseIdx_eq_take_drop_succ,uD] at hu
 have ht:(cL (ts.take k)).length=k*6:=by rw [dG,List.length_take];omega
 by_cases hlt:j<k*6
 ·rw [if_neg (by omega)]
  rw [List.getElem?_append_left (by omega)] at hu
  have h3:(cL ts)[j]? = some u:=by
   have:cL ts=cL (ts.take k)++cL (ts.drop k):=by rw [← uD,List.take_append_drop]
   rw [this,List.getElem?_append_left (by omega)];exact hu
  have:=xS h3
  simpa using this
 ·rw [if_pos ⟨by omega,by rw [hn];omega⟩]
  rw [List.getElem?_append_right (by omega),ht] at hu
  exact xS hu
theorem aKo (B:Nat) (ts:List At) (k:Nat) (v:Value) (w:World) (h:jO B v ts w) (hk:k<ts.length) (hl:ts.length<=6) :
  Calls Tryz.prog 26 #[v,.int .i64 k,.int .i64 ((k:Int)+1)] w fun e w'=> ∃ v',e=.returned v'/\eG (fun b=>B<=b/\b<w'.heap.size) w' (ts.eraseIdx k) v'/\Below B w w':=by
 obtain ⟨-,⟨rfl,h0⟩ | ⟨g,cap,cur,rfl,hg,ho,hn,hm,hs,ht⟩⟩:=h
 ·omega
 obtain ⟨i0,hi,hz0,hz1,hz2⟩:=info_parts aLb
 have hlt:g<w.heap.size:=(Array.getElem?_eq_some_iff.1 ho).1
 have hH:=aMe ho ht
 obtain ⟨news,hnews⟩ : ∃ news,news=cL (ts.drop (k+1)):=⟨_,rfl⟩
 have hlen:news.length=(ts.length-(k+1))*6:=by rw [hnews,dG,List.length_drop]
 have hold : ∀ t u,news[t]? = some u->w.drew.cell? ⟨g,(k+1)*6+t,none⟩=some u:=fun t u hu=>by
  have h2:(cL ts)[(k+1)*6+t]? = some u:=by
   have h3:cL ts=cL (ts.take (k+1))++cL (ts.drop (k+1)):=by rw [← uD,List.take_append_drop]
   have h4:(cL (ts.take (k+1))).length=(k+1)*6:=by rw [dG,List.length_take];omega
   rw [h3,List.getElem?_append_right (by omega),h4,Nat.add_sub_cancel_left,← hnews];exact hu
  have h5:=(hH ((k+1)*6+t) (by simpa using (List.getElem?_eq_some_iff.1 h2).1)).1
  rw [Nat.zero_add] at h5
  have h6:(cL ts).toArray[(k+1)*6+t]! = u:=by have:=xS h2;simpa using this
  rw [h6] at h5
  exact h5
 obtain ⟨A,hA,hsrc⟩ : ∃ A:Addr,(if cap=k+1 then some (⟨g,0,none⟩:Addr) else some ⟨g,(k+1)*6,none⟩)=some A/\Hid (∀ t u,news[t]? = some u->w.drew.cell? (A.add t)=some u):=by
  by_cases h:cap=k+1
  ·refine ⟨⟨g,0,none⟩,by simp [h],fun t u hu=> ?_⟩
   have h0:news.length=0:=by rw [hlen];omega
   rw [List.length_eq_zero_iff.1 h0] at hu
   simp at hu
  ·refine ⟨⟨g,(k+1)*6,none⟩,by simp [h],fun t u hu=> ?_⟩
   rw [Addr.add_lit]
   exact hold t u hu
 have s1:Hid (news.length=(ts.length-(k+1))*6):=hlen
 have s2:Hid (∀ u∈news,u.oneCell'=true):=by rw [hnews];exact uE _
 have s3:Hid (∀ t,t<news.length->(w.drew.cell? ⟨g,0+k*6+t,none⟩).isSome=true/\w.drew.frozen? ⟨g,0+k*6+t,none⟩=false):=by
  intro t ht'
  rw [hlen] at ht'
  have:=hH (k*6+t) (by simp [dG];omega)
  rw [Nat.add_assoc]
  exact ⟨by show (w.cell? _).isSome=true;rw [this.1];rfl,this.2⟩
 obtain ⟨W1,hW1⟩ : ∃ W1,W1=w.drew.setCells g (0+k*6) news:=⟨_,rfl⟩
 obtain ⟨hH1,F2,e2,hH2,hF2,hF⟩:=aOd hH hk (W1:=W1) (by rw [hW1,hnews])
 have hcl : ∀ ty,(Builtin.clear_ #[25] ty #[.slice (some ⟨g,0+(ts.length-1)*6,none⟩) 1 (cap-(ts.length-1))]).run Tryz.prog W1=.ok (.tuple #[]) (W1.setCells g (0+(ts.length-1)*6) clZ):=fun ty=>by
  have hz1:(setMany (cL ts).toArray (k*6) (cL (ts.drop (k+1)))).size=ts.length*6:=by rw [size_setMany];simp [dG]
  refine aHj W1 ty g _ _ (fun j hj=> ?_) fun j hj=> ?_
  ·have:=hH1 ((ts.length-1)*6+j) (by rw [hz1];omega)
   rw [Nat.add_assoc,this.1];rfl
  ·have:=hH1 ((ts.length-1)*6+j) (by rw [hz1];omega)
   rw [Nat.add_assoc];exact this.2
 have hel:k+(ts.length-(k+1))=ts.length-1:=by omega
 have hcl : ∀ ty,(Builtin.clear_ #[25] ty #[.slice (some ⟨g,(k+(ts.length-(k+1)))*6,none⟩) (ts.length-(k+(ts.length-(k+1)))) (cap-(k+(ts.length-(k+1))))]).run Tryz.prog W1=.ok (.tuple #[]) (W1.setCells g (0+(ts.length-1)*6) clZ):=fun ty=>by
  rw [hel,show ts.length-(ts.length-1)=1 by omega]
  have:=hcl ty
  rw [Nat.zero_add] at this ⊢
  exact this
 have HEL:=hid hel
 clear hel
 have hW:Hid (W1=w.drew.setCells g (0+k*6) news):=hW1
 rw [Nat.zero_add] at e2
 have E2:=hid e2
 have HH2:=hid hH2
 have HF:=hid hF
 have HFZ:=hid hF2
 have hic:k<=cap:=by omega
 have hjc:k+1<=cap:=by omega
 have hb1:(0<=(k:Int)+1/\(k:Int)+1<=(ts.length:Int)):=by omega
 clear hW1 hH1 hH hnews hlen hold e2 hH2 hF hF2 ho ht
 go_enter Tryz.func26,Tryz.ntmps26
 go_wp2_with fail
 go_region_law (refine step_append_room rfl (.tmp 22) (.tmp 25) 25 rfl 48 i0 6 Tryz.underlying25 hi hz1 g 0 k cap (by simp [Act.eval,Act.put]) A (ts.length-(k+1)) (cap-(k+1)) news (by simp [Act.eval,Act.put]) s1.out hsrc.out s2.out (by omega) s3.out ?_;rw [← hW.out])
 go_wp2_with fail
 go_ret
 refine ⟨_,rfl,?_,?_⟩
 ·rw [HEL.out,E2.out]
  have hle:(ts.eraseIdx k).length=ts.length-1:=by rw [List.length_eraseIdx,if_pos hk]
  have:=aGm (S:=fun b=>B<=b/\b<(putRow id (Sort.ahead w 1) g 0 F2).heap.size) (w:=putRow id (Sort.ahead w 1) g 0 F2) (ts:=ts.eraseIdx k) (b:=g) (off:=0) (cap:=cap) (fun _=>⟨hg,by simp [putRow,mapBlock,Sort.ahead];exact hlt⟩) (by omega) fun j u hu=>by
   have hj:=(List.getElem?_eq_some_iff.1 hu).1
   rw [dG,hle] at hj
   have h1:=(HH2.out j (by rw [HFZ.out];omega)).1
   rw [HF.out j u hu] at h1
   exact h1
  rw [hle] at this
  exact this
 ·rw [E2.out]
  refine ⟨rfl,rfl,rfl,by simp [putRow,mapBlock,Sort.ahead],fun c hc=> ?_⟩
  have hne : ¬ g=c:=by omega
  simp [putRow,mapBlock,Sort.ahead,Array.getElem?_modify,hne]
  rfl
end Go.Proofs.YtonlloiemgdfkaaGreatDoor
namespace Go.Proofs.YtonlloiemgdfkaaGreatDoor
open Go.RowKit
def tsW (wi:WI) (l:List At):WI:= { wi with ts:=l }
theorem aKm {ps:List PK} {wi:WI} (h:bC ps wi=0) {l:List At} (hs:l.length<=6) (hm : ∀ a∈l,a∈wi.ts):bC ps (tsW wi l)=0:=by
 obtain ⟨-,h2,-,h4,-,-,-,-⟩:=cA h
 have hta:taE l=0:=by
  unfold taE
  rw [if_neg (by omega)]
  refine (cG _ 0).2 fun j hj=> ?_
  rw [Nat.zero_add]
  have hg:l.getD j At.zero=l[j]:=by rw [List.getD_eq_getElem?_getD,List.getElem?_eq_getElem hj];rfl
  rw [hg]
  exact h4 _ (hm _ (List.getElem_mem hj))
 unfold bC at h ⊢
 rw [if_neg (by simp [h2])] at h
 rw [if_neg (by show ¬ eK ps wi.ins≠0;simp [h2]),if_neg (by show ¬ taE l≠0;simp [hta])]
 by_cases e:taE wi.ts=0
 ·rw [if_neg (by simp [e])] at h;exact h
 ·rw [if_pos e] at h;exact absurd h e
theorem uR {ps:List PK} {wi:WI} {l l':List At} (h : ∀ x∈l,x∈l') {ms:List MB} (hv:dJ ps (tsW wi l') ms=true):dJ ps (tsW wi l) ms=true:=by
 unfold dJ at *
 rw [Bool.and_eq_true] at *
 refine ⟨?_,hv.2⟩
 have h1:aBz ps ms l'=true:=hv.1
 show aBz ps ms l=true
 unfold aBz at *
 rw [List.all_eq_true] at *
 exact fun x hx=>h1 x (h x hx)
theorem aBc {ps:List PK} {wi:WI} {l l':List At} (h : ∀ x∈l,x∈l') (hn:gT ps (tsW wi l)):gT ps (tsW wi l'):=fun d hd=>by
 cases hv:dJ ps (tsW wi l') (bX ps (tsW wi l') d) with
 | false=>rfl
 | true=>
  have h1:dJ ps (tsW wi l) (bX ps (tsW wi l) d)=true:=uR h hv
  have:=hn d hd
  rw [h1] at this;cases this
theorem aNy {ps:List PK} {wi:WI} {l l':List At} (h : ∀ x,x∈l↔x∈l') {c:List Bool} (hb:lK ps (tsW wi l) c):lK ps (tsW wi l') c:=
 ⟨hb.1,uR (fun x hx=>(h x).2 hx) hb.2.1,fun d hd hv=>hb.2.2 d hd (uR (fun x hx=>(h x).1 hx) hv)⟩
theorem aNc {ps:List PK} {wi:WI} (h:bC ps wi=0):cS ps (tsW wi wi.ts.reverse) 40000=cS ps wi 40000/\mI ps (tsW wi wi.ts.reverse) 40000=mI ps wi 40000:=by
 have h3:=(cA h).2.2.1
 have h1:bC ps (tsW wi wi.ts.reverse)=0:=aKm h (by simpa using h3) (fun a ha=>by simpa using ha)
 have hself:tsW wi wi.ts=wi:=rfl
 rcases qJ ps wi with ⟨hx,-⟩ | ⟨-,e,c,hc,hl⟩ | ⟨-,e,hn,hl,-⟩
 ·exact absurd h hx
 ·have hb:lK ps (tsW wi wi.ts.reverse) c:=aNy (l:=wi.ts) (fun x=>by simp) hc
  have e1:=kI h1 hb
  rw [e,hl]
  refine ⟨e1,?_⟩
  unfold mI
  rw [if_pos e1,(uB h1 (lB h1) hb).2]
  rfl
 ·have e1:=qI h1 (aBc (l:=wi.ts) (l':=wi.ts.reverse) (fun x hx=>by simpa using hx) hn)
  rw [e,hl]
  refine ⟨e1,?_⟩
  unfold mI
  rw [if_neg (by rw [e1];decide)]
theorem aBo {ps:List PK} {wi:WI} (h:cS ps wi 40000=0):bC ps wi=0/\¬ gT ps wi:=by
 rcases qJ ps wi with ⟨hx,e,-⟩ | ⟨h1,-,c,hc,-⟩ | ⟨-,e,-⟩
 ·rw [h] at e;exact absurd e.symm hx
 ·exact ⟨h1,fun hn=>hc.some hn⟩
 ·rw [h] at e;cases e
theorem aOq {ps:List PK} {wi:WI} (h:cS ps wi 40000=0) (k:Nat):cS ps (tsW wi (wi.ts.eraseIdx k)) 40000=0:=by
 obtain ⟨h0,h2⟩:=aBo h
 have hs:=List.eraseIdx_sublist wi.ts k
 have h1:bC ps (tsW wi (wi.ts.eraseIdx k))=0:=aKm h0 (Nat.le_trans hs.length_le (cA h0).2.2.1) fun a ha=>hs.subset ha
 rcases aMi h1 with ⟨c,hc⟩ | hn
 ·exact kI h1 hc
 ·exact absurd (aBc (l':=wi.ts) (fun x hx=>hs.subset hx) hn) h2
theorem aOp {ps:List PK} {wi:WI} (h:cS ps wi 40000=0) (k:Nat):cS ps (mkW wi (wi.ma.eraseIdx k)) 40000=0:=by
 obtain ⟨h0,h2⟩:=aBo h
 have hs:=List.eraseIdx_sublist wi.ma k
 rcases aPe h0 hs with ⟨e,-⟩ | ⟨-,hn⟩
 ·exact e
 ·exact absurd (aDt (l':=wi.ma) (fun x hx=>hs.subset hx) hn) h2
def xX (c:UInt8):NT:= .node 1 ⟨⟨#[c]⟩,0,0,0,⟨#[]⟩,false⟩ ⟨#[]⟩ false []
end Go.Proofs.YtonlloiemgdfkaaGreatDoor
namespace Go.Proofs.YtonlloiemgdfkaaGreatDoor
def nIf:NT:= .node 5 At.zero ⟨#[120]⟩ false [xX 98]
def tT:NT:= .node 3 At.zero ⟨#[]⟩ false [nIf]
def mB:NT:= .node 3 At.zero ⟨#[]⟩ false []
def F1:List UInt8:= [97,32,49,32,49,32,120,44,121,32,120,63,32,40,32,98,32,41,10]
def F2:List UInt8:= [97,32,49,32,49,32,120,44,121,32,40,32,120,63,32,40,32,98,32,41,32,41,10,98,32,50,32,49,32,32,40,32,41,10]
theorem aFy {c:UInt8} (h:aO [c]=true):(xX c).ok:=by
 unfold xX
 rw [NT.ok]
 exact ⟨kV 1 _ (Or.inl rfl) (by show chk [c] 0 0 0 [] false=0;unfold chk;rw [if_neg (by simp [h]),if_neg (by decide),if_neg (by decide)]),trivial⟩
theorem aQo:nIf.ok:=by
 unfold nIf
 rw [NT.ok,okL,okL]
 exact ⟨aBb _ _ _ (by decide),aFy (by decide),trivial⟩
theorem aOu:tT.ok:=by
 unfold tT
 rw [NT.ok,okL,okL]
 exact ⟨fG 3 _ (Or.inl rfl),aQo,trivial⟩
theorem aLu:mB.ok:=by
 unfold mB
 rw [NT.ok,okL]
 exact ⟨fG 3 _ (Or.inl rfl),trivial⟩
theorem rD:eZ nIf=false/\eZ tT=false/\eZ mB=false:=by
 have i1:aN 1=2:=jI (by decide) (by decide)
 have i2:aN 2=3:=jI (by decide) (by decide)
 refine ⟨?_,?_,?_⟩<;>simp [eZ,nIf,tT,mB,xX,bS,bQ,fN,i1,i2]
theorem aLt:eA tT=0:=cO.2 ⟨rD.2.1,aOu⟩
theorem aIf:eA mB=0:=cO.2 ⟨rD.2.2,aLu⟩
theorem aRx:Lib.itoa 1 = [49]:=aAr (k:=1) (by decide)
theorem aRy:Lib.itoa 2 = [50]:=aAr (k:=2) (by decide)
theorem aBu:tT.sorted = [[120]]:=by
 have:tT.flags = [⟨#[120]⟩]:=by simp [tT,nIf,xX,NT.flags,dB]
 unfold NT.sorted
 rw [this,List.map_cons,List.map_nil,List.mergeSort_singleton]
 rfl
theorem yP:mB.sorted = []:=by
 have:mB.flags = []:=by simp [mB,NT.flags,dB]
 unfold NT.sorted
 rw [this,List.map_nil,List.mergeSort_nil];exact jE
theorem yB:aO [97]=true:=by decide
theorem aQp:aO [98]=true:=by decide
end Go.Proofs.YtonlloiemgdfkaaGreatDoor
namespace Go.Proofs.YtonlloiemgdfkaaGreatDoor
open Go.RowKit
end Go.Proofs.YtonlloiemgdfkaaGreatDoor
namespace Go.Proofs.YtonlloiemgdfkaaGreatDoor
def nB1:NT:= .node 3 At.zero ⟨#[]⟩ false [xX 98]
def aHx:NT:= .node 2 ⟨⟨#[99]⟩,0,0,0,⟨#[]⟩,false⟩ ⟨#[]⟩ false []
def tU:NT:= .node 3 At.zero ⟨#[]⟩ false [aHx]
def q0:PK:=⟨⟨#[97]⟩,1,1,[],nB1⟩
def q1:PK:=⟨⟨#[97]⟩,2,1,[⟨#[120]⟩],tT⟩
def q2:PK:=⟨⟨#[98]⟩,1,1,[],tU⟩
def q3:PK:=⟨⟨#[99]⟩,1,1,[],mB⟩
def aY:List PK:= [q0,q1,q2,q3]
def F3:List UInt8:= [97,32,49,32,49,32,32,40,32,98,32,41,10,97,32,50,32,49,32,120,32,40,32,120,63,32,40,32,98,32,41,32,41,10,98,32,49,32,49,32,32,40,32,33,99,32,41,10,99,32,49,32,49,32,32,40,32,41,10]
theorem aOl:aHx.ok:=by
 unfold aHx
 rw [NT.ok]
 have h:aO [99]=true:=by decide
 exact ⟨kV 2 _ (Or.inr rfl) (by show chk [99] 0 0 0 [] false=0;unfold chk;rw [if_neg (by simp [h]),if_neg (by decide),if_neg (by decide)]),trivial⟩
theorem aQn:nB1.ok:=by
 unfold nB1
 rw [NT.ok,okL,okL]
 exact ⟨fG 3 _ (Or.inl rfl),aFy (by decide),trivial⟩
theorem aOw:tU.ok:=by
 unfold tU
 rw [NT.ok,okL,okL]
 exact ⟨fG 3 _ (Or.inl rfl),aOl,trivial⟩
theorem pO:eZ nB1=false/\eZ tU=false:=by
 have i1:aN 1=2:=jI (by decide) (by decide)
 refine ⟨?_,?_⟩<;>simp [eZ,nB1,tU,aHx,xX,bS,bQ,fN,i1]
theorem aOv:eA nB1=0:=cO.2 ⟨pO.1,aQn⟩
theorem aLv:eA tU=0:=cO.2 ⟨pO.2,aOw⟩
theorem aEy:nO aY=F3:=by
 simp [nO,lX,aY,q0,q1,q2,q3,nB1,tU,aHx,tT,nIf,mB,NT.text,xX,NT.words,bK,eV,bW,aRx,aRy,F3,Lib.join]
theorem aEl:nB1.sorted = []:=by
 have:nB1.flags = []:=by simp [nB1,xX,NT.flags,dB]
 unfold NT.sorted
 rw [this,List.map_nil,List.mergeSort_nil];exact jE
theorem aBv:tU.sorted = []:=by
 have:tU.flags = []:=by simp [tU,aHx,NT.flags,dB]
 unfold NT.sorted
 rw [this,List.map_nil,List.mergeSort_nil];exact jE
theorem aKw:dM [(⟨#[120]⟩:ByteArray)]=0:=by
 have n1:aO [120]=true:=by decide
 simp [dM,aU,flE,n1]
theorem aQh:gK [(⟨#[120]⟩:ByteArray)] [120]=true:=by unfold gK;rw [Lib.containsS_iff];simp
theorem aQq:aO [99]=true:=by decide
theorem aQa:eI q0=0:=by
 have hk:nB1.kind=3:=rfl
 simp [eI,q0,yB,dM,aU,fU,hk,aOv,aEl]
theorem aQb:eI q1=0:=by
 have hk:tT.kind=3:=rfl
 simp [eI,q1,yB,aKw,fU,hk,aLt,aBu,aQh]
theorem aQc:eI q2=0:=by
 have hk:tU.kind=3:=rfl
 simp [eI,q2,aQp,dM,aU,fU,hk,aLv,aBv]
theorem aQd:eI q3=0:=by
 have hk:mB.kind=3:=rfl
 simp [eI,q3,aQq,dM,aU,fU,hk,aIf,yP]
theorem aHc:eH q1 q0=true:=by simp [eH,q0,q1]
theorem aHd:eH q2 q1=true:=by
 have h1:leS ⟨#[98]⟩ ⟨#[97]⟩=false:=by unfold leS;rw [Lib.toList_data,Lib.toList_data];decide
 simp [eH,q1,q2,h1]
theorem aHe:eH q3 q2=true:=by
 have h1:leS ⟨#[99]⟩ ⟨#[98]⟩=false:=by unfold leS;rw [Lib.toList_data,Lib.toList_data];decide
 simp [eH,q3,q2,h1]
theorem sP:dA aY=0:=by
 have s1:eN aY 1=0:=rfl
 have s2:eN aY 2=1:=rfl
 have s3:eN aY 3=1:=rfl
 have s4:eN aY 4=1:=rfl
 have h8 : ¬ 8<aY.length:=by decide
 have hl:aY.length=4:=rfl
 unfold dA
 rw [if_neg h8]
 have e0:pkE aY 0=0:=by unfold pkE;rw [show aY.getD 0 PK.zero=q0 from rfl,aQa];simp [s1,hl]
 have e1:pkE aY 1=0:=by unfold pkE;rw [show aY.getD 1 PK.zero=q1 from rfl,show aY.getD (1-1) PK.zero=q0 from rfl,aQb,aHc];simp [s2,hl]
 have e2:pkE aY 2=0:=by unfold pkE;rw [show aY.getD 2 PK.zero=q2 from rfl,show aY.getD (2-1) PK.zero=q1 from rfl,aQc,aHd];simp [s3,hl]
 have e3:pkE aY 3=0:=by unfold pkE;rw [show aY.getD 3 PK.zero=q3 from rfl,show aY.getD (3-1) PK.zero=q2 from rfl,aQd,aHe];simp [s4,hl]
 rw [hl]
 simp [aU,e0,e1,e2,e3]
theorem aNo:rdT F3=(0,0,aY):=by
 rw [← aEy]
 exact aMg sP (by rw [aEy];decide)
def atA:At:=⟨⟨#[97]⟩,0,0,0,⟨#[]⟩,false⟩
end Go.Proofs.YtonlloiemgdfkaaGreatDoor
namespace Go.Proofs.YtonlloiemgdfkaaGreatDoor
open Go.RowKit Go.Sort
theorem aEh (w:World) (hE:Env w) (hM:jY w) :
  Calls Tryz.prog 66 #[] w fun e w'=> ∃ v,e=.returned (.tuple #[.agg #[v],.bool true])/\bD (fun b=>w.heap.size<=b/\b<w'.heap.size) w' aY v/\aA w w'/\jX v:=by
 have HE:=hid hE
 have HM:=hid hM
 clear hE hM
 go_enter Tryz.func66,Tryz.ntmps66
 go_wp2_with fail
 refine bE (fun W'=>aA w W'/\aE w.heap.size 24 (.slice none 0 0) W') ⟨aA.alloc _ _,aE.new _ _ _⟩ ?_
 rintro W0 ⟨k0,v0⟩
 refine (uO _ W0 (HE.out.keep k0) (HM.out.keep k0)).mono ?_
 rintro e w1 ⟨v1,rfl,-,hp1,k1,hcap1⟩
 have hrd:rdT (ByteArray.mk #[97,32,49,32,49,32,32,40,32,98,32,41,10,97,32,50,32,49,32,120,32,40,32,120,63,32,40,32,98,32,41,32,41,10,98,32,49,32,49,32,32,40,32,33,99,32,41,10,99,32,49,32,49,32,32,40,32,41,10]).data.toList=(0,0,aY):=aNo
 rw [hrd] at hp1 ⊢
 simp only at hp1 ⊢
 obtain ⟨p1,c1,rfl,-⟩:=hp1.len
 have hlen:aY.length=4:=rfl
 rw [hlen] at hp1 hcap1 ⊢
 have HCAP:=hid hcap1
 clear hcap1
 have K0s:=k0.size
 have hW0:w.heap.size+1<=W0.heap.size:=v0.facts.2.2
 have HP1:Hid (bD (fun b=>w.heap.size+1<=b/\b<w1.heap.size) w1 aY (.slice p1 4 c1)):=bD.mono (fun _ _=>rfl) (fun b hb=>⟨Nat.le_trans hW0 hb.1,hb.2⟩) hp1
 have K1:=hid (k0.trans k1)
 have V1:=hid (v0.keep k1 v0.facts.2.2)
 have hsz1:w.heap.size+1<=w1.heap.size:=by have:=V1.out.facts.2.2;omega
 clear k0 v0 hp1 k1 hrd hlen
 go_upto_region 2 with fail
 refine bO (fun W'=>aA w W'/\aA w1 W'/\aE w.heap.size 24 (.slice none 0 0) W'/\aE w1.heap.size 24 (.slice p1 4 c1) W') ⟨K1.out.alloc' _,aA.alloc _ _,V1.out.keep (aA.alloc _ _) V1.out.facts.2.2,aE.new _ _ _⟩ ?_
 rintro W2 ⟨k2,k12,v2,t2⟩
 have K2:=hid k2
 have K12:=hid k12
 have V2:=hid v2
 obtain ⟨g1,z1,l1⟩:=v2.facts
 obtain ⟨g2,z2,l2⟩:=t2.facts
 clear k2 k12 v2 t2
 go_region
 have v3:=V2.out.set (.slice p1 4 c1)
 have HQ:Hid (aE w.heap.size 24 (.slice p1 4 c1) (W2.setCell ⟨w.heap.size,0,none⟩ (.slice p1 4 c1)).drew/\aA w (W2.setCell ⟨w.heap.size,0,none⟩ (.slice p1 4 c1)).drew/\bD (fun b=>w.heap.size<=b/\b<(W2.setCell ⟨w.heap.size,0,none⟩ (.slice p1 4 c1)).drew.heap.size) (W2.setCell ⟨w.heap.size,0,none⟩ (.slice p1 4 c1)).drew aY (.slice p1 4 c1)):=by
  have ap:=jM w.heap.size W2 (.slice p1 4 c1)
  have hz:W2.heap.size<=(W2.setCell ⟨w.heap.size,0,none⟩ (.slice p1 4 c1)).heap.size:=ap.size
  refine ⟨v3.keep (aAv _) v3.facts.2.2,aA.trans (show aA w (W2.setCell ⟨w.heap.size,0,none⟩ (.slice p1 4 c1)) from Below.trans K2.out (ap.below K2.out.size fun b hb e=>by have:b=w.heap.size:=e;omega)) (aAv _),?_⟩
  refine bD.mono (fun p hp=> ?_) (fun b hb=>⟨by omega,Nat.lt_of_lt_of_le hb.2 (Nat.le_trans K12.out.size hz)⟩) HP1.out
  exact (ap.cell p (Nat.lt_of_lt_of_le hp.2 K12.out.size) (fun e=>by have e':p.block=w.heap.size:=e;have:=hp.1;omega)).trans (K12.out.cell (p:=p) hp.2)
 clear v3 g1 z1 g2 z2
 go_wp2_with fail
 refine cF (v:= .tuple #[.agg #[.slice p1 4 c1],.bool true]) (fun W'=>aE w.heap.size 24 (.slice p1 4 c1) W'/\aA w W'/\bD (fun b=>w.heap.size<=b/\b<W'.heap.size) W' aY (.slice p1 4 c1)) ?_ rfl ?_
 ·exact HQ.out
 rintro W ⟨hb,hk,hp⟩
 obtain ⟨hcW,-,-⟩:=hb.facts
 exact ⟨by simp [results,Tryz.results66,go_sem,hcW],_,rfl,hp,hk,HCAP.out⟩
theorem kC {W:World} {n:Nat} (h:W.heap.size=n) (cs:Array Value) (T:TypeId):aT n cs (W.alloc (.cells cs T)):=h ▸ aT.new W cs T
def inW (W:World) (b:Nat):Prop:=b<W.heap.size
end Go.Proofs.YtonlloiemgdfkaaGreatDoor
