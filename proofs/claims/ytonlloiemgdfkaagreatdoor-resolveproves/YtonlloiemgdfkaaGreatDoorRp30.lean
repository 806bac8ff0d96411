/- Steps of the proof: ResGen, EncLiterals, EncClosed, EncAt, ResProves, AtomOpen, NeedOpen, TreeOpen, ValidOpen, EncOpen. -/
import Derived.Test.YtonlloiemgdfkaaGreatDoorRp29
import Derived.Test.YtonlloiemgdfkaaGreatDoorRp24
import Derived.Test.YtonlloiemgdfkaaGreatDoorRp19
import Derived.Test.YtonlloiemgdfkaaGreatDoorRp14
import Derived.Test.YtonlloiemgdfkaaGreatDoorRp21
import Derived.Test.YtonlloiemgdfkaaGreatDoorRp25
import Derived.Test.YtonlloiemgdfkaaGreatDoorRp28
import Derived.Test.YtonlloiemgdfkaaGreatDoorRp03
import Derived.Lib.LaidTab
import Derived.Stop.LaidErr
import Derived.OpenShut
import Derived.Lib.SmallJoins
import Derived.Deep.DeepWitnessRowRef
import Derived.LaidMore
import Derived.Stop.Joined
import Derived.ChangeOld
import Derived.Shelf.Vars
import Derived.HandedShaped
import Derived.Test.YtonlloiemgdfkaaGreatDoorRp08
import Derived.Test.YtonlloiemgdfkaaGreatDoorRp10
import Derived.Test.YtonlloiemgdfkaaGreatDoorRp09
set_option maxHeartbeats 16000000
set_option maxRecDepth 100000
namespace Go.Proofs.YtonlloiemgdfkaaGreatDoor
open Go.RowKit
def Er (x:Int):Prop:=0<=x/\x<=6
theorem iT {f:Nat->Int} (h : ∀ k,Er (f k)) : ∀ (m i:Nat),Er (aW f i m)
 | 0,i=>by unfold Er;rw [aW];omega
 | m+1,i=>by
  rw [aW]
  split
  ·exact iT h m (i+1)
  ·exact h i
theorem aGl (a:At):Er (hY a):=by
 unfold hY chk Er
 repeat (first | split | omega)
theorem aCb : ∀ t:NT,Er (dB t)
 | .node k a fl nt kids=>by
  rw [dB]
  split
  ·unfold Er;omega
  ·split
   ·unfold Er;omega
   ·split
    ·exact aGl a
    ·unfold Er;omega
mutual
theorem zT (inc:Int->Int) : ∀ (t:NT) (s d:Int),Er (bV inc fE s t d).1
 | .node k a fl nt kids,s,d=>by
  rw [bV]
  split
  ·exact aHa inc kids _ _ (aCb (.node k a fl nt kids))
  ·exact aCb (.node k a fl nt kids)
theorem aHa (inc:Int->Int) : ∀ (ts:List NT) (s d:Int),Er s->Er (bS inc fE s ts d).1
 | [],s,d,h=>by rw [bS];exact h
 | t :: ts,s,d,h=>by
  rw [bS]
  split
  ·exact aHa inc ts _ _ (zT inc t s d)
  ·exact zT inc t s d
end
theorem aOv (ps:List PK):Er (cW ps):=by
 unfold cW
 split
 ·unfold Er;omega
 ·refine iT (fun k=> ?_) _ _
  have hP:Er (eM (ps.getD k PK.zero)):=by
   generalize ps.getD k PK.zero=p
   have hF:Er (dR p.fl):=by
    unfold dR
    split
    ·unfold Er;omega
    ·refine iT (fun k=> ?_) _ _
     unfold flE Er
     repeat (first | split | omega)
   have hN:Er (gG p.nd p.fl):=by
    have h1:Er (eD p.nd):=by
     unfold eD
     split
     ·unfold Er;omega
     ·exact zT _ _ _ _
    unfold gG
    split
    ·unfold Er;omega
    ·split
     ·exact h1
     ·unfold Er;split<;>omega
   unfold eM
   split
   ·unfold Er;omega
   ·split
    ·unfold Er;omega
    ·split
     ·exact hF
     ·exact hN
  unfold pkE
  split
  ·exact hP
  ·unfold Er;repeat (first | split | omega)
theorem aGm (ps:List PK) (wi:WI):Er (bF ps wi):=by
 unfold bF
 split
 ·unfold cF
  split
  ·exact aOv ps
  ·refine iT (fun k=> ?_) _ _
   unfold mbE Er
   repeat (first | split | omega)
 ·split
  ·unfold taE
   split
   ·unfold Er;omega
   ·exact iT (fun k=>aGl _) _ _
  ·split
   ·refine iT (fun k=> ?_) _ _
    unfold maE Er
    repeat (first | split | omega)
   ·refine iT (fun k=> ?_) _ _
    unfold onE Er
    repeat (first | split | omega)
noncomputable def jM (ps:List PK) (wi:WI) (s:Int):List MB:=if cT ps wi s=0 then bU ps wi (cM ps wi s).m else []
noncomputable def qG (ps:List PK) (wi:WI) (s:Int):List (List Int):=if cT ps wi s=7 then (cM ps wi s).P else []
theorem kF {ps:List PK} {wi:WI} {s:Int} (h:bF ps wi=0) (he:(cM ps wi s).er=0):cT ps wi s=if (cM ps wi s).P = [] then 0 else 7:=by
 unfold cT
 rw [if_neg (by simp [h]),if_neg (by simp [he])]
theorem yR (S:Nat->Prop) (w:World):bI S w [] (.slice none 0 0):=⟨_,_,rfl,by simp,fun h=>absurd h (by simp)⟩
theorem iF.gen {ps:List PK} {wi:WI} {s:Int} {w w':World} {e:Ending} (h:iF ps wi s w e w') (hs:1<=s) (hs2:s<=40000):aA w w'/\∃ v pv,e=.returned (.tuple #[v,pv,.int .i64 (cT ps wi s)])/\bI (fun b=>w.heap.size<=b/\b<w'.heap.size) w' (jM ps wi s) v/\Cn.dU (fun b=>w.heap.size<=b/\b<w'.heap.size) w' (qG ps wi s) pv:=by
 obtain ⟨k,h⟩:=h
 refine ⟨k,?_⟩
 have hW:=aGm ps wi
 unfold Er at hW
 rcases h with ⟨h1,rfl⟩ | ⟨h1,h2,rfl⟩ | ⟨h1,h2,h3,pv,rfl,h5⟩ | ⟨h1,h2,h3,v,rfl,h5⟩
 ·have e:cT ps wi s=bF ps wi:=by unfold cT;rw [if_pos h1]
  refine ⟨_,_,by rw [e],?_,?_⟩
  ·unfold jM;rw [e,if_neg h1];exact yR _ _
  ·unfold qG;rw [e,if_neg (by omega)];exact Cn.gS _ _
 ·have e:cT ps wi s=(cM ps wi s).er:=by unfold cT;rw [if_neg (by simp [h1]),if_pos h2]
  have e8:(cM ps wi s).er=8:=(aNc h1 hs hs2).resolve_left h2
  refine ⟨_,_,by rw [e],?_,?_⟩
  ·unfold jM;rw [e,if_neg h2];exact yR _ _
  ·unfold qG;rw [e,e8,if_neg (by decide)];exact Cn.gS _ _
 ·have e:cT ps wi s=7:=by rw [kF h1 h2,if_neg h3]
  refine ⟨_,_,by rw [e],?_,?_⟩
  ·unfold jM;rw [e,if_neg (by decide)];exact yR _ _
  ·unfold qG;rw [e,if_pos rfl];exact h5
 ·have e:cT ps wi s=0:=by rw [kF h1 h2,if_pos h3]
  refine ⟨_,_,by rw [e],?_,?_⟩
  ·unfold jM;rw [e,if_pos rfl];exact h5
  ·unfold qG;rw [e,if_neg (by decide)];exact Cn.gS _ _
theorem aJw (ps:List PK) (wi:WI):(bF ps wi≠0/\cT ps wi 40000=bF ps wi/\cT ps wi 40000≠7/\jM ps wi 40000 = [])∨(bF ps wi=0/\cT ps wi 40000=0/\∃ c,pD ps wi c/\jM ps wi 40000=bU ps wi c)∨(bF ps wi=0/\cT ps wi 40000=7/\mG ps wi/\jM ps wi 40000 = []/\qG ps wi 40000=(cM ps wi 40000).P/\Cn.pF (cY ps wi).cl (cM ps wi 40000).P/\(cM ps wi 40000).P.length<=40000/\∀ c∈(cM ps wi 40000).P,c.length<=60/\Cn.aL (cY ps wi).n c):=by
 by_cases h:bF ps wi=0
 ·have he:=lV h
  rcases uW h he with ⟨h1,h2,h3,h4⟩ | ⟨h1,h2,h3,h4,h5⟩
  ·have e:cT ps wi 40000=0:=by rw [kF h he,if_pos h1]
   refine .inr (.inl ⟨h,e,_,h4,?_⟩)
   unfold jM
   rw [e,if_pos rfl,xM (kT (dN h).2.1)]
  ·have e:cT ps wi 40000=7:=by rw [kF h he,if_neg h1]
   refine .inr (.inr ⟨h,e,h2,?_,?_,h3,h4,h5⟩)
   ·unfold jM;rw [e,if_neg (by decide)]
   ·unfold qG;rw [e,if_pos rfl]
 ·have e:cT ps wi 40000=bF ps wi:=by unfold cT;rw [if_pos h]
  have hW:=aGm ps wi
  unfold Er at hW
  refine .inl ⟨h,e,by rw [e];omega,?_⟩
  unfold jM
  rw [e,if_neg h]
theorem aJx (ps:List PK) (wi:WI) {s:Int} (h1:1<=s) (h2:s<=40000):cT ps wi s=8∨(cT ps wi s=cT ps wi 40000/\jM ps wi s=jM ps wi 40000):=by
 by_cases h:bF ps wi=0
 ·rcases aNc h h1 h2 with he | he
  ·right
   have hm:=lV h
   rcases aRs h with ⟨c,hc⟩ | hn
   ·obtain ⟨a1,a2⟩:=qH h he hc
    obtain ⟨b1,b2⟩:=qH h hm hc
    have e1:cT ps wi s=0:=by rw [kF h he,if_pos a1]
    have e2:cT ps wi 40000=0:=by rw [kF h hm,if_pos b1]
    unfold jM
    rw [e1,e2,if_pos rfl,if_pos rfl,a2,b2]
    exact ⟨rfl,rfl⟩
   ·have e1:cT ps wi s=7:=by rw [kF h he,if_neg (qI h he hn)]
    have e2:cT ps wi 40000=7:=by rw [kF h hm,if_neg (qI h hm hn)]
    unfold jM
    rw [e1,e2,if_neg (by decide),if_neg (by decide)]
    exact ⟨rfl,rfl⟩
  ·left
   unfold cT
   rw [if_neg (by simp [h]),if_pos (by rw [he];decide),he]
 ·right
  have e : ∀ s,cT ps wi s=bF ps wi:=fun s=>by unfold cT;rw [if_pos h]
  unfold jM
  rw [e,e,if_neg h,if_neg h]
  exact ⟨rfl,rfl⟩
theorem aQp (x:Int) (n:Nat) (w:World) (hn:0<n) (hn2:n<=1000):Calls Tryz.prog 49 #[.int .i64 x,.int .i64 n] w fun e w'=> ∃ k:Nat,k<n/\e=.returned (.int .i64 k)/\w'=w:=by
 have hn0:(n:Int)≠0:=by omega
 have hnI:(0:Int)<(n:Int):=by omega
 have h1 : -(n:Int)<Int.tmod x n:=by have:=Int.lt_tmod_of_pos x hnI;omega
 have h2:Int.tmod x n<n:=Int.tmod_lt_of_pos x hnI
 go_enter Tryz.func49,Tryz.ntmps49
 go_wp2_with fail
 ·go_ret
  refine ⟨(x.tmod n+n).toNat,by omega,?_,rfl⟩
  rw [show (((x.tmod n+n).toNat:Nat):Int)=x.tmod n+n by omega]
  rfl
 ·go_ret
  refine ⟨(x.tmod n).toNat,by omega,?_,rfl⟩
  rw [show (((x.tmod n).toNat:Nat):Int)=x.tmod n by omega]
  rfl
theorem uV (S:Nat->Prop) (ps:List PK) (wi:WI) (ms:List MB) (st:Int) (pv tsv inv mav onv lv:Value) (w:World) (hS : ∀ b,S b->b<w.heap.size) (hp:bC S w ps pv) (hw:eH S w wi tsv inv mav onv) (hm:bI S w ms lv) (hcap:kP pv) (hE:Env w) (hM:kQ w) :
  Calls Tryz.prog 10 #[.agg #[pv],.agg #[tsv,inv,mav,onv],lv,.int .i64 st] w fun e w'=>e=.returned (.bool true)/\aA w w':=by
 have HP:=hid hp
 have HW:=hid hw
 have HM:=hid hm
 have HE:=hid hE
 have HMX:=hid hM
 clear hp hw hm hE hM
 go_enter Tryz.func10,Tryz.ntmps10
 go_upto_region 1 with fail
 refine bO (fun W'=>aA w W'/\aD w.heap.size 24 pv W'/\aE (w.heap.size+1) 30 #[tsv,inv,mav,onv] W') ⟨(aA.alloc _ _).alloc' _,(aD.new _ _ _).keep (aA.alloc _ _) (by simp),aLl (aC _ _) _ _⟩ ?_
 rintro W1 ⟨k1,v1,b1⟩
 have K1:=hid k1
 have V1:=hid v1
 have B1:=hid b1
 generalize w.heap.size=b at V1 B1 ⊢
 clear k1 v1 b1
 have ht0:=V1.out.facts.1
 have htl:=V1.out.facts.2.2
 have hw0:W1.cell? ⟨b+1,0,none⟩=some tsv:=B1.out.facts.1 0
 have hw1:W1.cell? ⟨b+1,1,none⟩=some inv:=B1.out.facts.1 1
 have hw2:W1.cell? ⟨b+1,2,none⟩=some mav:=B1.out.facts.1 2
 have hw3:W1.cell? ⟨b+1,3,none⟩=some onv:=B1.out.facts.1 3
 have hwl:=B1.out.facts.2.2
 go_wp2_with fail
 refine (fS S ps wi 40000 _ _ _ _ _ W1 (fun c hc=>Nat.lt_of_lt_of_le (hS c hc) K1.out.size) (HP.out.keep hS K1.out) (HW.out.keep hS K1.out) hcap).mono ?_
 rintro e W2 h2
 obtain ⟨k2,l2,p2,rfl,hl2,hp2⟩:=h2.gen (by decide) (by decide)
 have K2:=hid (K1.out.trans k2)
 have V2:=hid (V1.out.keep k2 V1.out.facts.2.2)
 have B2:=hid (B1.out.keep k2 B1.out.facts.2.2)
 have L2:=hid hl2
 have P2:=hid hp2
 have hs1:=K1.out.size
 clear ht0 htl hw0 hw1 hw2 hw3 hwl V1 B1 k2 h2 hl2 hp2
 obtain ⟨lp2,lc2,rfl,-⟩:=L2.out.len
 obtain ⟨pp2,pc2,rfl,-⟩:=P2.out.len
 have HF2:=hid (show W2.cell? ⟨b,0,none⟩=some pv/\W2.cell? ⟨b+1,0,none⟩=some tsv/\W2.cell? ⟨b+1,1,none⟩=some inv/\W2.cell? ⟨b+1,2,none⟩=some mav/\W2.cell? ⟨b+1,3,none⟩=some onv from ⟨V2.out.facts.1,B2.out.facts.1 0,B2.out.facts.1 1,B2.out.facts.1 2,B2.out.facts.1 3⟩)
 have HF2d:=hid (show W2.drew.cell? ⟨b,0,none⟩=some pv/\W2.drew.cell? ⟨b+1,0,none⟩=some tsv/\W2.drew.cell? ⟨b+1,1,none⟩=some inv/\W2.drew.cell? ⟨b+1,2,none⟩=some mav/\W2.drew.cell? ⟨b+1,3,none⟩=some onv from HF2.out)
 have HAT:=hid (show ∀ W,Calls Tryz.prog 49 #[.int .i64 st,.int .i64 200] W fun e w'=> ∃ k:Nat,k<200/\e=.returned (.int .i64 k)/\w'=W from fun W=>aQp st 200 W (by decide) (by decide))
 have HRES:=hid (show ∀ W,aA W2 W->∀ s:Int,1<=s->s<=200->Calls Tryz.prog 15 #[.agg #[pv],.agg #[tsv,inv,mav,onv],.int .i64 s] W fun e w'=>aA W2 w'/\∃ mv qv,e=.returned (.tuple #[mv,qv,.int .i64 (cT ps wi s)])/\bI (fun c=>W2.heap.size<=c/\c<w'.heap.size) w' (jM ps wi s) mv from fun W kW s h1 h2=>by
  refine (fS S ps wi s _ _ _ _ _ W (fun c hc=>Nat.lt_of_lt_of_le (hS c hc) (K2.out.trans kW).size) (HP.out.keep hS (K2.out.trans kW)) (HW.out.keep hS (K2.out.trans kW)) hcap).mono ?_
  intro e w' h
  obtain ⟨k',mv,qv,rfl,hm',-⟩:=h.gen h1 (by omega)
  exact ⟨kW.trans k',mv,qv,rfl,hm'.mono (fun _ _=>rfl) fun c hc=>⟨Nat.le_trans kW.size hc.1,hc.2⟩⟩)
 have htl:=V2.out.facts.2.2
 have hwl:=B2.out.facts.2.2
 go_upto_region 2 with fail
 go_region_held3 (fun W'=>W'.cell? ⟨b,0,none⟩=some pv/\W'.cell? ⟨b+1,0,none⟩=some tsv/\W'.cell? ⟨b+1,1,none⟩=some inv/\W'.cell? ⟨b+1,2,none⟩=some mav/\W'.cell? ⟨b+1,3,none⟩=some onv)
  (first | with_reducible exact HF2.out | with_reducible exact HF2d.out | with_reducible exact HF3.out | go_keep)
  (first | (go_at_call 49;refine (HAT.out _).mono ?_;rintro e w9 ⟨kk,hkk,rfl,rfl⟩;have hkI:(1:Int)<=1+kk:=(by omega);have hkJ:(1:Int)+kk<=200:=(by omega);have hwr:IntKind.i64.wrap (1+(kk:Int))=1+kk:=dO (by omega)) | (go_at_call 15;refine (HRES.out _ (aA.drew (aA.refl _)) _ hkI hkJ).mono ?_;rintro e W3 ⟨k3,mv3,qv3,rfl,hm3⟩;have HK3:=hid k3;have M3:=hid hm3;have HF3:=hid (show W3.cell? ⟨b,0,none⟩=some pv/\W3.cell? ⟨b+1,0,none⟩=some tsv/\W3.cell? ⟨b+1,1,none⟩=some inv/\W3.cell? ⟨b+1,2,none⟩=some mav/\W3.cell? ⟨b+1,3,none⟩=some onv from ⟨(k3.cell (p:=⟨b,0,none⟩) htl).trans HF2.out.1,(k3.cell (p:=⟨b+1,0,none⟩) hwl).trans HF2.out.2.1,(k3.cell (p:=⟨b+1,1,none⟩) hwl).trans HF2.out.2.2.1,(k3.cell (p:=⟨b+1,2,none⟩) hwl).trans HF2.out.2.2.2.1,(k3.cell (p:=⟨b+1,3,none⟩) hwl).trans HF2.out.2.2.2.2⟩);clear k3 hm3))
 obtain ⟨mp3,mc3,rfl,-⟩:=M3.out.len
 have K3:=hid (K2.out.trans HK3.out)
 have V3:=hid (V2.out.keep HK3.out V2.out.facts.2.2)
 have B3:=hid (B2.out.keep HK3.out B2.out.facts.2.2)
 have HFW:=hid (aJx ps wi hkI (by omega))
 obtain ⟨e1,he1⟩ : ∃ e1,e1=cT ps wi 40000:=⟨_,rfl⟩
 obtain ⟨e2,he2⟩ : ∃ e2,e2=cT ps wi (1+(kk:Int)):=⟨_,rfl⟩
 have HE1:=hid he1
 rw [← he1,← he2] at HFW
 rw [← he1,← he2]
 clear he1 he2 V2 B2 HF2 HF2d HF3 HAT HRES htl hwl
 go_upto_region 3 with fail
 go_cut [56] from 40 to 55 (fun t56 wc=>t56=.bool false/\aA W3 wc)
 case first=>
  go_wp2_with fail
  refine (zD W3 (HE.out.keep K3.out) (HMX.out.keep K3.out)).mono ?_
  rintro e W4 ⟨rfl,k4⟩
  have K4:=hid k4
  clear k4
  by_cases h8:e2=8
  ·subst h8
   go_wp2_with fail
   go_meet
   exact ⟨rfl,K4.out⟩
  ·obtain ⟨h21,hll⟩:=HFW.out.resolve_left h8
   subst h21
   have ha1:(e2==8)=false:=by simpa using h8
   have ha2:(e2 != 8)=true:=by simp [bne,ha1]
   have hb1:(e2==e2)=true:=by simp
   have hb2:(e2 != e2)=false:=by simp
   have HLL:=hid hll
   clear hll h8
   go_wp2_with fail
   refine (zF (fun c=>c<W4.heap.size) (jM ps wi 40000) (jM ps wi (1+(kk:Int))) _ _ W4 (fun _ h=>h) (L2.out.mono (fun p hp=>(HK3.out.trans K4.out).cell (p:=p) hp.2) fun c hc=>Nat.lt_of_lt_of_le hc.2 (HK3.out.trans K4.out).size) (M3.out.mono (fun p hp=>K4.out.cell (p:=p) hp.2) fun c hc=>Nat.lt_of_lt_of_le hc.2 K4.out.size)).mono ?_
   rintro e W5 ⟨β,rfl,hβ,k5⟩
   obtain rfl:β=true:=hβ.2 HLL.out.symm
   have K5:=hid (K4.out.trans k5)
   clear k5 hβ
   go_wp2_with fail
   go_meet
   exact ⟨rfl,K5.out⟩
 case rest=>
 obtain ⟨rfl,k6⟩:=hcut
 have K6:=hid (K3.out.trans k6)
 have HK6:=hid (HK3.out.trans k6)
 have V6:=hid (V3.out.keep k6 V3.out.facts.2.2)
 have B6:=hid (B3.out.keep k6 B3.out.facts.2.2)
 clear V3 B3 k6
 have ht0:=V6.out.facts.1
 have htl:=V6.out.facts.2.2
 have hw0:wc.cell? ⟨b+1,0,none⟩=some tsv:=B6.out.facts.1 0
 have hw1:wc.cell? ⟨b+1,1,none⟩=some inv:=B6.out.facts.1 1
 have hw2:wc.cell? ⟨b+1,2,none⟩=some mav:=B6.out.facts.1 2
 have hw3:wc.cell? ⟨b+1,3,none⟩=some onv:=B6.out.facts.1 3
 have hwl:=B6.out.facts.2.2
 go_wp2_with fail
 refine (xR S ps wi ms _ _ _ _ _ _ wc (fun c hc=>Nat.lt_of_lt_of_le (hS c hc) K6.out.size) (HP.out.keep hS K6.out) (HW.out.keep hS K6.out) (HM.out.keep hS K6.out)).mono ?_
 rintro e W7 ⟨rfl,k7⟩
 have K7:=hid (K6.out.trans k7)
 have HK7:=hid (HK6.out.trans k7)
 have V7:=hid (V6.out.keep k7 V6.out.facts.2.2)
 have B7:=hid (B6.out.keep k7 B6.out.facts.2.2)
 clear V6 B6 k7 ht0 htl hw0 hw1 hw2 hw3 hwl
 have ht0:=V7.out.facts.1
 have htl:=V7.out.facts.2.2
 have hw0:W7.cell? ⟨b+1,0,none⟩=some tsv:=B7.out.facts.1 0
 have hw1:W7.cell? ⟨b+1,1,none⟩=some inv:=B7.out.facts.1 1
 have hw2:W7.cell? ⟨b+1,2,none⟩=some mav:=B7.out.facts.1 2
 have hw3:W7.cell? ⟨b+1,3,none⟩=some onv:=B7.out.facts.1 3
 have hwl:=B7.out.facts.2.2
 rcases aJw ps wi with ⟨hz,hr,hr7,-⟩ | ⟨hz,hr,c,hc,hL⟩ | ⟨hz,hr,hno,-,hQ,href,hPl,hPc⟩
 ·have hr0:e1≠0:=by rw [HE1.out,hr];exact hz
  have hr7':e1≠7:=by rw [HE1.out];exact hr7
  have HRE:=hid (show e1=bF ps wi by rw [HE1.out,hr])
  have ha1:(e1==0)=false:=by simpa using hr0
  have ha2:(e1==7)=false:=by simpa using hr7'
  clear hz hr hr7 hr0 hr7'
  go_wp2_with fail
  refine (eZ S ps wi _ _ _ _ _ W7 (fun c hc=>Nat.lt_of_lt_of_le (hS c hc) K7.out.size) (HP.out.keep hS K7.out) (HW.out.keep hS K7.out)).mono ?_
  rintro e W8 ⟨rfl,k8⟩
  have K8:=hid (K7.out.trans k8)
  rw [← HRE.out]
  have hbb:(e1==e1)=true:=by simp
  clear k8
  go_wp2_with fail
  go_ret
  exact ⟨rfl,K8.out⟩
 ·obtain rfl:e1=0:=by rw [HE1.out,hr]
  have HQ:=hid (show qG ps wi 40000 = [] by unfold qG;rw [hr,if_neg (by decide)])
  have HVA:=hid (show gF ps wi (jM ps wi 40000)=true/\eR ps wi (jM ps wi 40000)=0 by rw [hL];exact ⟨(uY hz c).2.trans hc.2.1,(uY hz c).1⟩)
  have hq0:(qG ps wi 40000).length=0:=by rw [HQ.out];rfl
  rw [hq0]
  clear hz hr hc hL hq0
  go_wp2_with fail
  refine (xR (fun c=>c<W7.heap.size) ps wi (jM ps wi 40000) _ _ _ _ _ _ W7 (fun _ h=>h) ((HP.out.keep hS K7.out).mono (fun _ _=>rfl) fun c hc=>Nat.lt_of_lt_of_le (hS c hc) K7.out.size) ((HW.out.keep hS K7.out).mono fun c hc=>Nat.lt_of_lt_of_le (hS c hc) K7.out.size) (L2.out.mono (fun p hp=>HK7.out.cell (p:=p) hp.2) fun c hc=>Nat.lt_of_lt_of_le hc.2 HK7.out.size)).mono ?_
  rintro e W8 ⟨rfl,k8⟩
  have K8:=hid (K7.out.trans k8)
  rw [HVA.out.1,HVA.out.2]
  clear k8
  go_wp2_with fail
  go_ret
  exact ⟨rfl,K8.out⟩
 ·obtain rfl:e1=7:=by rw [HE1.out,hr]
  have HNO:=hid (show eR ps wi ms=0->gF ps wi ms=false from fun h=>by
   unfold gF
   have h2:cF ps ms=0:=by unfold eR at h;rwa [if_neg (by simp [hz])] at h
   rw [hno.not (kT (dN hz).2.1) h2,Bool.and_false])
  have HFO:=hid (show Cn.iP (fun c=>W1.heap.size<=c/\c<W2.heap.size) W2 0 (qG ps wi 40000) pp2 pc2 from ⟨P2.out,fun c hc x hx=>by
   rw [hQ] at hc
   have h1:=((hPc c hc).2 x hx).2
   have h2:=(jV hz).2.1
   unfold Cn.InR
   omega⟩)
  have HRF:=hid (show Cn.vV ((cY ps wi).n:Nat) (cY ps wi).cl (qG ps wi 40000)=0/\Cn.pF (cY ps wi).cl (qG ps wi 40000) from by
   rw [hQ]
   refine ⟨?_,href⟩
   unfold Cn.vV
   rw [if_neg (by rw [yK hz];simp)]
   unfold Cn.kJ
   have h2:=(jV hz).2.1
   rw [if_neg (by omega),if_neg (by omega),if_neg (by omega)]
   exact Cn.fA.2 hPc)
  have HZ:=hid hz
  clear hz hr hno hQ href hPl hPc
  go_wp2_with fail
  refine (tM S ps wi _ _ _ _ _ W7 (fun c hc=>Nat.lt_of_lt_of_le (hS c hc) K7.out.size) (HP.out.keep hS K7.out) (HW.out.keep hS K7.out) hcap).mono ?_
  rintro e W8 ⟨k8,h8⟩
  rcases h8 with ⟨h0,-⟩ | ⟨-,cv,rfl,hcls⟩
  ·exact absurd HZ.out h0
  obtain ⟨cp,cc,rfl,-⟩:=hcls.len
  have HCLS:=hid hcls
  have HK8:=hid k8
  clear hcls k8
  go_wp2_with fail
  refine aU (fun W'=>aA W8 W') (aA.alloc _ _) ?_
  intro W9 k9
  refine (Cn.aCp (fun c=>c<W9.heap.size) _ (cY ps wi).cl (qG ps wi 40000) cp cc pp2 pc2 W9 (fun _ h=>h) ⟨HCLS.out.mono (fun p hp=>k9.cell (p:=p) hp.2) fun c hc=>Nat.lt_of_lt_of_le hc.2 k9.size,fun c hc x hx=> ?_⟩ ⟨HFO.out.1.mono (fun p hp=>((HK7.out.trans HK8.out).trans k9).cell (p:=p) hp.2) fun c hc=>Nat.lt_of_lt_of_le hc.2 ((HK7.out.trans HK8.out).trans k9).size,HFO.out.2⟩).mono ?_
  ·have h1:=(((jV HZ.out).2.2.2.1 c hc).1 x hx).2
   have h2:=(jV HZ.out).2.1
   unfold Cn.InR
   omega
  rintro e W10 ⟨k10,⟨h0,-⟩ | ⟨-,r,rfl,hr⟩⟩
  ·exact absurd HRF.out.1 h0
  obtain rfl:r=true:=hr.2 HRF.out.2
  have K10:=hid ((K7.out.trans HK8.out).trans (k9.trans (show aA W9 W10 from k10)))
  clear k9 k10 hr
  by_cases hv:eR ps wi ms=0
  ·have hvr:=HNO.out hv
   rw [hv,hvr]
   go_wp2_with fail
   go_ret
   exact ⟨rfl,K10.out⟩
  ·have hv1:(eR ps wi ms==0)=false:=by simpa using hv
   have hv2:(eR ps wi ms != 0)=true:=by simp [bne,hv1]
   clear hv
   go_wp2_with fail
   go_ret
   exact ⟨rfl,K10.out⟩
end Go.Proofs.YtonlloiemgdfkaaGreatDoor
namespace Go.Proofs.YtonlloiemgdfkaaGreatDoor
open Go.RowKit
theorem pE {P:Program} {w:World} : ∀ {l:List (String × DataW Unit)} {ps:List MemPlace} {x:String × DataW Unit},DataW.LaidVars P w l ps->x∈l->∃ qs,DataW.LaidVars P w [x] qs/\qs.Sublist ps
 | [],_,_,_,hx=>by cases hx
 | (n,d) :: r,ps,x,h,hx=>by
  obtain ⟨g,t,cs,fuel,p,q,h1,h2,h3,h4,h5,rfl⟩:=h
  rcases List.mem_cons.1 hx with rfl | hx
  ·exact ⟨MemPlace.row ⟨g,0,none⟩ cs.size++p ++ [],⟨g,t,cs,fuel,p,[],h1,h2,h3,h4,rfl,rfl⟩,by rw [List.append_nil];exact List.sublist_append_left _ _⟩
  ·obtain ⟨qs,h6,h7⟩:=pE h5 hx
   exact ⟨qs,h6,h7.trans (List.sublist_append_right _ _)⟩
theorem kC {P:Program} {w:World} {l:List (String × DataW Unit)} {x:String × DataW Unit} (h:laidMet P l w) (hx:x∈l):laidMet P [x] w:=by
 obtain ⟨ps,h1,h2,h3⟩:=h
 obtain ⟨qs,h4,h5⟩:=pE h1 hx
 exact ⟨qs,h4,h5.nodup h2,fun b off hb=>h3 b off (h5.subset hb)⟩
theorem pK {w:World} {b o:Nat} {v:Value} (h:w.cell? ⟨b,o,none⟩=some v):b<w.heap.size:=by
 rcases Nat.lt_or_ge b w.heap.size with h' | h'
 ·exact h'
 ·simp [World.cell?,Array.getElem?_eq_none h'] at h
theorem aLv : Tryz.prog.globalNamed "quartermaster/atom.signs" = some 8 := by kernel_rfl
theorem aRt:(Tryz.prog.globals[8]?).map (·.type)=some 351:=by kernel_rfl
theorem aTd:(Tryz.prog.globals[1]?).map (·.type)=some 307:=by kernel_rfl
theorem aTa:Tryz.prog.cellsOf 307=20:=by kernel_rfl
theorem aTb:Tryz.prog.cellsOf 277=1:=by kernel_rfl
theorem aDs:Tryz.prog.cellsOf 9=1:=by kernel_rfl
theorem aRz:Tryz.prog.cellsOf 346=1:=by kernel_rfl
theorem aSo : Tryz.prog.globalNamed "strconv.ErrSyntax" = some 4 := by kernel_rfl
theorem aTf:(Tryz.prog.globals[4]?).map (·.type)=some 267:=by kernel_rfl
theorem aSn : Tryz.prog.globalNamed "strconv.ErrRange" = some 5 := by kernel_rfl
theorem aTe:(Tryz.prog.globals[5]?).map (·.type)=some 267:=by kernel_rfl
theorem aSx : "*" ++ "errors.errorString" = "*errors.errorString" := by decide
theorem aNd (u : TypeId) (h : Tryz.prog.typeName? 3 u = some "*errors.errorString") : u = 344 :=
 typeName_ptr_named (nm := "errors.errorString") (by rw [aSx]; kernel_rfl) (by kernel_rfl) (by decide) u (by rw [aSx]; exact h)
theorem aNk {W : World} (h : laidMet Tryz.prog [("quartermaster/atom.signs", Rows.laid_quartermaster_atom_signs)] W) : aAa W := by
 obtain ⟨ps,⟨g,t,cs,fuel,p,q,hg,ht,hv,hd,_,_⟩,_⟩:=h
 obtain rfl:=Option.some.inj (aLv.symm.trans hg)
 obtain rfl:=Option.some.inj (aRt.symm.trans ht)
 obtain ⟨xs,m,rfl,hx,hlen,hn,hel⟩:=DataW.trod_array Tryz.underlying351 hd
 simp only [Rows.laid_quartermaster_atom_signs,Prod.mk.injEq,DataW.agg.injEq] at hx
 match xs,hn,hx,hel with
 | [x0,x1,x2,x3],_,hx,hel=>
  have cell : ∀ (k:Nat) (x:DataW Unit × List MemPlace) (l:List UInt8),k<4->[x0,x1,x2,x3][k]? = some x->x.1=.lit (.string l)->W.cell? ⟨8,k,none⟩=some (.string ⟨l.toArray⟩):=by
   intro k x l hk hxk hl
   have h1:=hel k hk
   rw [hxk] at h1
   obtain ⟨s,e1,e2,_⟩:=DataW.trod_string Tryz.underlying9 h1
   rw [e2] at hl
   have hs:s.data.toList=l:=by simpa using hl
   have hs':s=⟨l.toArray⟩:=by cases s;simp at hs;rw [← hs]
   have h2:=World.var?_cell aLv hv k
   rw [aDs,Nat.mul_one] at e1
   have h3:cs[k]? = some (.string s):=by
    have:=congrArg (·[0]?) e1
    simpa [List.getElem?_take,List.getElem?_drop] using this
   rw [h2,h3,hs']
  simp only [List.map_cons,List.map_nil,List.cons.injEq,and_true] at hx
  have c1:=cell 1 x1 [61] (by decide) rfl hx.1.2.1.symm
  refine ⟨pK c1,c1,cell 2 x2 [62,61] (by decide) rfl hx.1.2.2.1.symm,cell 3 x3 [60] (by decide) rfl hx.1.2.2.2.symm⟩
theorem aQx {W : World} {l : List (String × DataW Unit)} (h : laidMet Tryz.prog l W) (h1 : ("quartermaster/atom.signs", Rows.laid_quartermaster_atom_signs) ∈ l) (h2 : ("internal/strconv.uint64pow10", Rows.laid_internal_strconv_uint64pow10) ∈ l)
  (h3 : ("strconv.ErrSyntax", Rows.laid_strconv_ErrSyntax) ∈ l) (h4 : ("strconv.ErrRange", Rows.laid_strconv_ErrRange) ∈ l) : Env W := by
 have tab : Lib.TabIs Tryz.prog W "internal/strconv.uint64pow10" .u64 Lib.pow10Tab := Lib.tabIs_of_head (rest := []) kE aTd Tryz.underlying307 Tryz.underlying277 aTb aTa (kC h h2)
 obtain ⟨a0,s0,hv0,-,-,-⟩:=laid_sentinel (kC h h3) aSo aTf Tryz.underlying267 aNd Tryz.underlying344 Tryz.underlying346 rfl rfl Tryz.underlying9 aRz aDs
 obtain ⟨a1,s1,hv1,-,-,-⟩:=laid_sentinel (kC h h4) aSn aTe Tryz.underlying267 aNd Tryz.underlying344 Tryz.underlying346 rfl rfl Tryz.underlying9 aRz aDs
 have c0:W.cell? ⟨4,0,none⟩=some (.iface 344 (.pointer (some a0))):=by simpa using World.var?_cell aSo hv0 0
 have c1:W.cell? ⟨5,0,none⟩=some (.iface 344 (.pointer (some a1))):=by simpa using World.var?_cell aSn hv1 0
 exact ⟨aNk (kC h h1),⟨pK (tab.cell kE 0 (by decide)),tab⟩,⟨pK c0,_,_,c0⟩,⟨pK c1,_,_,c1⟩⟩
end Go.Proofs.YtonlloiemgdfkaaGreatDoor
namespace Go.Proofs.YtonlloiemgdfkaaGreatDoor
open Go.ChangeShapes Go.WideShapes Go.ChangeAt Go.RowKit Go.Joins
theorem oR:Tryz.prog.cellsOf 48=6:=by kernel_rfl
theorem iK:Tryz.prog.cellsOf 3=1:=by kernel_rfl
theorem oS:Tryz.prog.cellsOf 4=1:=by kernel_rfl
end Go.Proofs.YtonlloiemgdfkaaGreatDoor
namespace Go.Proofs.YtonlloiemgdfkaaGreatDoor
open Go.ChangeShapes Go.WideShapes Go.ChangeAt Go.RowKit Go.Joins
theorem oT:Tryz.prog.cellsOf 73=10:=by kernel_rfl
theorem tG:Tryz.prog.cellsOf 71=1:=by kernel_rfl
theorem aSs {α:Type} {cs:List α} (h:cs.length=6) : ∃ c0 c1 c2 c3 c4 c5,cs = [c0,c1,c2,c3,c4,c5]:=by
 match cs,h with
 | [c0,c1,c2,c3,c4,c5],_=>exact ⟨c0,c1,c2,c3,c4,c5,rfl⟩
theorem aRf {α:Type} {cs:List α} (h:cs.length=10) : ∃ c0 c1 c2 c3 c4 c5 c6 c7 c8 c9,cs = [c0,c1,c2,c3,c4,c5,c6,c7,c8,c9]:=by
 match cs,h with
 | [c0,c1,c2,c3,c4,c5,c6,c7,c8,c9],_=>exact ⟨c0,c1,c2,c3,c4,c5,c6,c7,c8,c9,rfl⟩
section
variable {H:Type} {enc:TypeId × Value->H} {w:World} {base:Nat} {sp:Nat->Bool} {held:Bool}
theorem xQ {fuel:Nat} {cs:List Value} {x:DataW H × List MemPlace} (h:DataW.trod enc Tryz.prog w base sp held fuel 48 cs=some x) : ∃ a:At,cs = [.string a.n,.int .i64 a.op,.int .i64 a.v,.int .i64 a.sl,.string a.f,.bool a.on]:=by
 obtain ⟨xs,m,_,hx,hl,hlen,hel⟩:=DataW.trod_struct Tryz.underlying48 h
 obtain ⟨c0,c1,c2,c3,c4,c5,rfl⟩:=aSs (hl.trans oR)
 match xs,hlen with
 | [y0,y1,y2,y3,y4,y5],_=>
  obtain ⟨n,e0,g0,_⟩:=DataW.trod_string Tryz.underlying9 (by simpa using hel 0 _ rfl)
  obtain ⟨op,e1,g1,_⟩:=DataW.trod_int Tryz.underlying3 (by simpa using hel 1 _ rfl)
  obtain ⟨v,e2,g2,_⟩:=DataW.trod_int Tryz.underlying3 (by simpa using hel 2 _ rfl)
  obtain ⟨sl,e3,g3,_⟩:=DataW.trod_int Tryz.underlying3 (by simpa using hel 3 _ rfl)
  obtain ⟨f,e4,g4,_⟩:=DataW.trod_string Tryz.underlying9 (by simpa using hel 4 _ rfl)
  obtain ⟨on,e5,g5⟩:=DataW.trod_bool Tryz.underlying4 (by simpa using hel 5 _ rfl)
  refine ⟨⟨n,op,v,sl,f,on⟩,?_⟩
  simp [iK,oS,aDs] at e0 e1 e2 e3 e4 e5
  rw [e0,e1,e2,e3,e4,e5]
theorem aKj : ∀ (fuel:Nat) (cs:List Value) (x:DataW H × List MemPlace),DataW.trod enc Tryz.prog w base sp held fuel 73 cs=some x->∃ t:NT,aJ (fun b=>b<w.heap.size) w t cs:=by
 intro fuel
 induction fuel using Nat.strongRecOn with
 | ind fuel ih=>
 intro cs x h
 obtain ⟨xs,m,hm,hx,hl,hlen,hel⟩:=DataW.trod_struct Tryz.underlying73 h
 obtain ⟨c0,c1,c2,c3,c4,c5,c6,c7,c8,c9,rfl⟩:=aRf (hl.trans oT)
 match xs,hlen with
 | [y0,y1,y2,y3,y4],_=>
  obtain ⟨k,e0,-,-⟩:=DataW.trod_int Tryz.underlying3 (by simpa using hel 0 _ rfl)
  obtain ⟨a,e1⟩:=xQ (by simpa using hel 1 _ rfl)
  obtain ⟨fl,e2,-,-⟩:=DataW.trod_string Tryz.underlying9 (by simpa using hel 2 _ rfl)
  obtain ⟨nt,e3,-⟩:=DataW.trod_bool Tryz.underlying4 (by simpa using hel 3 _ rfl)
  have hs:=DataW.trod_slice Tryz.underlying71 (show DataW.trod enc Tryz.prog w base sp held m 71 _=some y4 by simpa using hel 4 _ rfl)
  simp [iK,oS,aDs,oR] at e0 e1 e2 e3
  obtain ⟨e10,e11,e12,e13,e14,e15⟩:=e1
  rcases hs with ⟨e4,-⟩ | ⟨ad,len,cap,elems,rest,mm,hmm,e4,-,-,hlc,hcm,hle,hcell,-,-⟩
  ·simp [tG] at e4
   refine ⟨.node k a fl nt [],?_⟩
   rw [aJ]
   exact ⟨none,0,by rw [e0,e10,e11,e12,e13,e14,e15,e2,e3,e4];rfl,Nat.le_refl _,by simp,by rw [bB];trivial⟩
  ·simp [tG] at e4
   have key : ∀ (q i:Nat),i+q=len->∃ ts:List NT,ts.length=q/\bB (fun b=>b<w.heap.size) w ts (some ad) i:=by
    intro q
    induction q with
    | zero=>intro i _;exact ⟨[],rfl,by rw [bB];trivial⟩
    | succ q ihq=>
     intro i hi
     obtain ⟨ts,hts,hk⟩:=ihq (i+1) (by omega)
     have hci:=hcell i (by omega)
     rw [oT,List.getElem?_eq_getElem (by omega)] at hci
     obtain ⟨csi,hc1,hc2⟩:=Option.bind_eq_some_iff.1 hci
     obtain ⟨t,ht⟩:=ih mm (by omega) csi _ hc2
     obtain ⟨hb1,hb2,hb3⟩:=World.cells?_some hc1
     have hblk:=World.cells?_block hc1 (by decide)
     refine ⟨t :: ts,by simp [hts],?_⟩
     rw [bB]
     refine ⟨⟨ad,csi,rfl,by rw [nJ] at hblk;exact hblk,fun j v hv=> ?_,ht⟩,hk⟩
     have hj:j<10:=by rw [← hb2];exact (List.getElem?_eq_some_iff.1 hv).1
     rw [hb3 j hj];exact hv
   obtain ⟨ts,hts,hk⟩:=key len 0 (by omega)
   refine ⟨.node k a fl nt ts,?_⟩
   rw [aJ]
   exact ⟨some ad,cap,by rw [e0,e10,e11,e12,e13,e14,e15,e2,e3,e4,hts],by omega,by unfold maxLen at hcm;omega,hk⟩
end
theorem aMj {w:World} (h:w.ShapedOpen Tryz.prog):kQ w:=by
 obtain ⟨m,hm⟩:=cell_of_shapedOpen_int (g:=0) (t:=3) (zero:=#[.int .i64 0]) (k:= .i64) h (of_decide_eq_true (by kernel_rfl)) (by kernel_rfl) rfl (by kernel_rfl) (by kernel_rfl) Tryz.underlying3
 exact ⟨pK hm,m,hm⟩
theorem wB {H:Type} {enc:TypeId × Value->H} {a:Assume} {C:Checked} {os:Os} {f:FuncId} {fn:Func} {s:ChangeSpec} {conds:List PathCond} {apart fresh handsOn again:Bool} {X:World->Array Value->Prop}
  (hX : ∀ (w w':World) (args:Array Value),w.heap=w'.heap->X w args->X w' args)
  (own:ownKnob C.prog.godebug=none) (started:os.Started) (noInit:C.prog.inits.idxOf? f=none) (hfn:C.prog.funcs[f]? = some fn)
  (witness : ∃ (w:World) (tape:Tape) (i:Input),w.os=os/\(w.forCall tape i).Shaped C.prog/\i.vars = []/\Input.okWide C.prog (w.forCall tape i) .any w.heap.size f i/\
   ((s.pre enc C.prog fn conds apart (w.forCall tape i).memory i.args/\X (w.forCall tape i).memory i.args)/\sizedMet enc C.prog fn (OpenSpec.ofChange s) apart (w.forCall tape i).memory i.args)/\a.holds C.prog (lone (Frame.enter C.prog f i.args .normal) [] (w.forCall tape i)))
  (tL : ∀ (W:World) (base:Nat) (args:Array Value) (ds gs:List (DataW H)) (before:List MemPlace),
   (∀ (j:Nat) t v,fn.params[j]? = some t->args[j]? = some v->Value.okWide C.prog W .any base t v)->
   DataW.Whole enc C.prog fn.params.toList s.vars apart W args.toList ds gs before->
   X W args->W.ShapedOpen C.prog->
   Calls C.prog f args W fun e W'=> ∃ v,e=.returned v/\s.post enc C.prog fn apart fresh handsOn again W args v W') :
  ReturnsInHanded a C os f .any (fun w args=>(s.pre enc C.prog fn conds apart w args/\X w args)/\sizedMet enc C.prog fn (OpenSpec.ofChange s) apart w args) (s.post enc C.prog fn apart fresh handsOn again):=by
 refine returnsInHanded_of_calls own started noInit witness ?_
 intro w tape i _ hsh _ hok hpre _
 obtain ⟨_,_,_,fn',hfn',_,_,_,_,hval⟩:=hok
 obtain rfl:fn'=fn:=Option.some.inj (hfn'.symm.trans hfn)
 obtain ⟨⟨⟨ds,gs,before,hw,_⟩,hx⟩,_⟩:=hpre
 have hw':=DataW.Whole.of_heap (w':=w.forCall tape i) (by rfl) hw
 refine (tL (w.forCall tape i) w.heap.size i.args ds gs before hval hw' (hX _ _ _ (by rfl) hx) hsh).mono fun e W' ⟨v,he,hp⟩=> ?_
 subst he
 exact ChangeSpec.post_blind hp
end Go.Proofs.YtonlloiemgdfkaaGreatDoor
namespace Go.Proofs.YtonlloiemgdfkaaGreatDoor
open Go.ChangeShapes Go.WideShapes Go.ChangeAt Go.RowKit Go.Joins
theorem wM:Tryz.prog.cellsOf 75=14:=by kernel_rfl
theorem aDu:Tryz.prog.cellsOf 70=1:=by kernel_rfl
theorem tH:Tryz.prog.cellsOf 22=1:=by kernel_rfl
theorem aDv:Tryz.prog.cellsOf 24=1:=by kernel_rfl
theorem qT {a:Addr} (h:a.spot=none):a=⟨a.block,a.off,none⟩:=by cases a;simp at h;subst h;rfl
theorem aRg {α:Type} {cs:List α} (h:cs.length=14) : ∃ c0 c1 c2 c3 c4 c5 c6 c7 c8 c9 c10 c11 c12 c13,cs = [c0,c1,c2,c3,c4,c5,c6,c7,c8,c9,c10,c11,c12,c13]:=by
 match cs,h with
 | [c0,c1,c2,c3,c4,c5,c6,c7,c8,c9,c10,c11,c12,c13],_=>exact ⟨c0,c1,c2,c3,c4,c5,c6,c7,c8,c9,c10,c11,c12,c13,rfl⟩
section
variable {H:Type} {enc:TypeId × Value->H} {w:World} {base:Nat} {sp:Nat->Bool} {held:Bool}
theorem sR {α:Type} {P:Nat->α->Prop} : ∀ (n:Nat),(∀ i,i<n->∃ x,P i x)->∃ l:List α,l.length=n/\∀ (i:Nat) (h:i<l.length),P i l[i]
 | 0,_=>⟨[],rfl,fun i h=>absurd h (Nat.not_lt_zero _)⟩
 | n+1,h=>by
  obtain ⟨l,hl,hp⟩:=sR n (fun i hi=>h i (by omega))
  obtain ⟨x,hx⟩:=h n (by omega)
  refine ⟨l ++ [x],by simp [hl],fun i hi=> ?_⟩
  by_cases hlt:i<l.length
  ·rw [List.getElem_append_left hlt];exact hp i hlt
  ·have:i=l.length:=by simp at hi;omega
   subst this
   rw [List.getElem_append_right (Nat.le_refl _)]
   simp only [Nat.sub_self,List.getElem_cons_zero]
   rw [hl];exact hx
theorem aKm {fuel:Nat} {cs:List Value} {x:DataW H × List MemPlace} (h:DataW.trod enc Tryz.prog w base sp held fuel 70 cs=some x) : ∃ (fs:List ByteArray) (v:Value),cs = [v]/\cB (fun b=>b<w.heap.size) w fs v:=by
 rcases DataW.trod_slice Tryz.underlying70 h with ⟨rfl,-⟩ | ⟨ad,len,cap,elems,rest,mm,hmm,rfl,-,-,hlc,hcm,hle,hcell,-,-⟩
 ·exact ⟨[],_,rfl,Or.inl ⟨rfl,none,0,rfl⟩⟩
 ·have one : ∀ i,i<len->∃ y:ByteArray,ad.block<w.heap.size/\w.cell? (ad.add i)=some (.string y):=by
   intro i hi
   have hci:=hcell i hi
   rw [aDs,Nat.mul_one,List.getElem?_eq_getElem (by omega)] at hci
   obtain ⟨csi,hc1,hc2⟩:=Option.bind_eq_some_iff.1 hci
   obtain ⟨y,e0,-,-⟩:=DataW.trod_string Tryz.underlying9 hc2
   obtain ⟨hb1,hb2,hb3⟩:=World.cells?_some hc1
   have hblk:=World.cells?_block hc1 (by decide)
   rw [nJ] at hblk
   refine ⟨y,hblk,?_⟩
   have:=hb3 0 (by decide)
   rw [e0] at this
   simpa [Addr.add] using this
  by_cases h0:len=0
  ·subst h0
   exact ⟨[],_,rfl,Or.inl ⟨rfl,_,_,rfl⟩⟩
  ·obtain ⟨fs,hfl,hfs⟩:=sR len one
   have hz:=hfs 0 (by omega)
   have hsp:ad.spot=none:=by
    have:=World.cell?_spot hz.2
    simpa [Addr.add] using this
   have had:=qT hsp
   refine ⟨fs,_,rfl,Or.inr ⟨ad.block,ad.off,cap,by rw [hfl,← had],⟨hz.1,by omega⟩,by unfold maxLen at hcm;omega,fun j y hy=> ?_⟩⟩
   obtain ⟨hj,rfl⟩:=List.getElem?_eq_some_iff.1 hy
   have:=(hfs j hj).2
   rw [had] at this
   rwa [Addr.add_mid] at this
theorem aNs {fuel:Nat} {cs:List Value} {x:DataW H × List MemPlace} (h:DataW.trod enc Tryz.prog w base sp held fuel 75 cs=some x) : ∃ p:PK,dP (fun b=>b<w.heap.size) w p cs/\cs.length=14:=by
 obtain ⟨xs,m,hm,hx,hl,hlen,hel⟩:=DataW.trod_struct Tryz.underlying75 h
 have hl14:=hl.trans wM
 obtain ⟨c0,c1,c2,c3,c4,c5,c6,c7,c8,c9,c10,c11,c12,c13,rfl⟩:=aRg hl14
 match xs,hlen with
 | [y0,y1,y2,y3,y4],_=>
  obtain ⟨n,e0,-,-⟩:=DataW.trod_string Tryz.underlying9 (by simpa using hel 0 _ rfl)
  obtain ⟨v,e1,-,-⟩:=DataW.trod_int Tryz.underlying3 (by simpa using hel 1 _ rfl)
  obtain ⟨sl,e2,-,-⟩:=DataW.trod_int Tryz.underlying3 (by simpa using hel 2 _ rfl)
  obtain ⟨fs,fv,e3,hf⟩:=aKm (show DataW.trod enc Tryz.prog w base sp held m 70 _=some y3 by simpa using hel 3 _ rfl)
  obtain ⟨t,ht⟩:=aKj m _ _ (show DataW.trod enc Tryz.prog w base sp held m 73 _=some y4 by simpa using hel 4 _ rfl)
  simp [iK,aDs,aDu,oT] at e0 e1 e2 e3 ht
  refine ⟨⟨n,v,sl,fs,t⟩,⟨fv,[c4,c5,c6,c7,c8,c9,c10,c11,c12,c13],by rw [e0,e1,e2,e3],hf,ht⟩,rfl⟩
theorem aKl {fuel:Nat} {cs:List Value} {x:DataW H × List MemPlace} (h:DataW.trod enc Tryz.prog w base sp held fuel 22 cs=some x) : ∃ (ps:List PK) (v:Value),cs = [v]/\bC (fun b=>b<w.heap.size) w ps v:=by
 rcases DataW.trod_slice Tryz.underlying22 h with ⟨rfl,-⟩ | ⟨ad,len,cap,elems,rest,mm,hmm,rfl,-,-,hlc,hcm,hle,hcell,-,-⟩
 ·exact ⟨[],_,rfl,Or.inl ⟨rfl,none,0,rfl⟩⟩
 ·have one : ∀ i,i<len->∃ y:PK,ad.block<w.heap.size/\∃ cs:List Value,cs.length=14/\(∀ m,m<14->w.cell? ((ad.add (i*14)).add m)=cs[m]?)/\dP (fun b=>b<w.heap.size) w y cs:=by
   intro i hi
   have hci:=hcell i hi
   rw [wM,List.getElem?_eq_getElem (by omega)] at hci
   obtain ⟨csi,hc1,hc2⟩:=Option.bind_eq_some_iff.1 hci
   obtain ⟨p,hp,hl⟩:=aNs hc2
   obtain ⟨hb1,hb2,hb3⟩:=World.cells?_some hc1
   have hblk:=World.cells?_block hc1 (by decide)
   rw [nJ] at hblk
   exact ⟨p,hblk,csi,hl,hb3,hp⟩
  by_cases h0:len=0
  ·subst h0
   exact ⟨[],_,rfl,Or.inl ⟨rfl,_,_,rfl⟩⟩
  ·obtain ⟨ps,hfl,hfs⟩:=sR len one
   obtain ⟨hz,cs0,hl0,hc0,-⟩:=hfs 0 (by omega)
   have hsp:ad.spot=none:=by
    have h1:=hc0 0 (by decide)
    rw [List.getElem?_eq_getElem (by omega)] at h1
    have:=World.cell?_spot h1
    simpa [Addr.add] using this
   have had:=qT hsp
   refine ⟨ps,_,rfl,Or.inr ⟨ad.block,ad.off,cap,by rw [hfl,← had],hz,by unfold maxLen at hcm;omega,fun j hj=> ?_⟩⟩
   obtain ⟨-,csj,hlj,hcj,hpj⟩:=hfs j hj
   refine ⟨csj,fun m y hy=> ?_,hpj⟩
   have hm:m<14:=by rw [← hlj];exact (List.getElem?_eq_some_iff.1 hy).1
   have:=hcj m hm
   rw [had,Addr.add_mid,Addr.add_mid,hy] at this
   exact this
end
theorem aJp {H:Type} {enc:TypeId × Value->H} {w:World} {base b0:Nat} {sp:Nat->Bool} {held:Bool} {x:Value} {d:DataW H} {p:List MemPlace} (hv:Value.okWide Tryz.prog w .any b0 24 x) (h:DataW.Trod enc Tryz.prog w base sp held 24 x d p) :
  ∃ (ps:List PK) (v:Value),x=.agg #[v]/\bC (fun b=>b<w.heap.size) w ps v:=by
 obtain ⟨cs,rfl,hsz⟩:=okWide_struct Tryz.underlying24 hv
 obtain ⟨fuel,hf⟩:=h
 obtain ⟨xs,m,hm,hx,hl,hlen,hel⟩:=DataW.trod_struct Tryz.underlying24 (show DataW.trod enc Tryz.prog w base sp held fuel 24 cs.toList=some (d,p) from hf)
 match xs,hlen with
 | [y0],_=>
  obtain ⟨ps,v,e,hp⟩:=aKl (show DataW.trod enc Tryz.prog w base sp held m 22 _=some y0 by simpa using hel 0 _ rfl)
  refine ⟨ps,v,?_,hp⟩
  have hl1:=hl.trans aDv
  simp [tH] at e
  obtain ⟨l⟩:=cs
  simp at hl1 e
  match l,hl1 with
  | [c],_=>simp at e;subst e;rfl
end Go.Proofs.YtonlloiemgdfkaaGreatDoor
namespace Go.Proofs.YtonlloiemgdfkaaGreatDoor
open Go.ChangeShapes Go.WideShapes Go.ChangeAt Go.RowKit Go.Joins
theorem aAp:Tryz.prog.cellsOf 68=2:=by kernel_rfl
theorem aAo:Tryz.prog.cellsOf 66=1:=by kernel_rfl
theorem wN:Tryz.prog.cellsOf 105=2:=by kernel_rfl
theorem aIh:Tryz.prog.cellsOf 26=1:=by kernel_rfl
theorem aIg:Tryz.prog.cellsOf 25=1:=by kernel_rfl
theorem aDt:Tryz.prog.cellsOf 27=1:=by kernel_rfl
theorem aIi:Tryz.prog.cellsOf 28=1:=by kernel_rfl
theorem aDw:Tryz.prog.cellsOf 30=4:=by kernel_rfl
section
variable {H:Type} {enc:TypeId × Value->H} {w:World} {base:Nat} {sp:Nat->Bool} {held:Bool}
theorem nF {T e:TypeId} {k:Nat} (hT:Tryz.prog.underlying T=some (.slice e)) (hk:Tryz.prog.cellsOf e=k) (hk0:0<k) {α:Type} (R:α->List Value->Prop)
  (hel : ∀ (m:Nat) (cs:List Value) (y:DataW H × List MemPlace),DataW.trod enc Tryz.prog w base sp held m e cs=some y->∃ a,R a cs/\cs.length=k)
  {fuel:Nat} {cs:List Value} {x:DataW H × List MemPlace} (h:DataW.trod enc Tryz.prog w base sp held fuel T cs=some x) :
  ∃ (xs:List α) (p:Option Addr) (cap:Nat),cs = [.slice p xs.length cap]/\(xs.length<=cap/\xs.length<=9223372036854775807)/\(0<xs.length->∃ b off,p=some ⟨b,off,none⟩/\b<w.heap.size/\∀ (j:Nat) (a:α),xs[j]? = some a->∃ cs:List Value,cs.length=k/\R a cs/\∀ (m:Nat) (v:Value),cs[m]? = some v->w.cell? ⟨b,off+j*k+m,none⟩=some v):=by
 rcases DataW.trod_slice hT h with ⟨rfl,-⟩ | ⟨ad,len,cap,elems,rest,mm,hmm,rfl,-,-,hlc,hcm,hle,hcell,-,-⟩
 ·exact ⟨[],none,0,rfl,⟨Nat.le_refl _,Nat.zero_le _⟩,fun h=>absurd h (Nat.lt_irrefl 0)⟩
 ·have one : ∀ i,i<len->∃ y:α,ad.block<w.heap.size/\∃ cs:List Value,cs.length=k/\(∀ m,m<k->w.cell? ((ad.add (i*k)).add m)=cs[m]?)/\R y cs:=by
   intro i hi
   have hci:=hcell i hi
   rw [hk,List.getElem?_eq_getElem (by omega)] at hci
   obtain ⟨csi,hc1,hc2⟩:=Option.bind_eq_some_iff.1 hci
   obtain ⟨p,hp,hl⟩:=hel _ _ _ hc2
   obtain ⟨hb1,hb2,hb3⟩:=World.cells?_some hc1
   have hblk:=World.cells?_block hc1 hk0
   rw [nJ] at hblk
   exact ⟨p,hblk,csi,hl,hb3,hp⟩
  obtain ⟨ps,hfl,hfs⟩:=sR len one
  refine ⟨ps,some ad,cap,by rw [hfl],⟨by omega,by unfold maxLen at hcm;omega⟩,fun hpos=> ?_⟩
  obtain ⟨hz,cs0,hl0,hc0,-⟩:=hfs 0 hpos
  have hsp:ad.spot=none:=by
   have h1:=hc0 0 hk0
   rw [List.getElem?_eq_getElem (by omega)] at h1
   have:=World.cell?_spot h1
   simpa [Addr.add] using this
  have had:=qT hsp
  refine ⟨ad.block,ad.off,by rw [← had],hz,fun j a ha=> ?_⟩
  obtain ⟨hj,rfl⟩:=List.getElem?_eq_some_iff.1 ha
  obtain ⟨-,csj,hlj,hcj,hpj⟩:=hfs j hj
  refine ⟨csj,hlj,hpj,fun m y hy=> ?_⟩
  have hm:m<k:=by rw [← hlj];exact (List.getElem?_eq_some_iff.1 hy).1
  have:=hcj m hm
  rw [had,Addr.add_mid,Addr.add_mid,hy] at this
  exact this
theorem aFu {fuel:Nat} {cs:List Value} {x:DataW H × List MemPlace} (h:DataW.trod enc Tryz.prog w base sp held fuel 66 cs=some x) : ∃ (bs:List Bool) (v:Value),cs = [v]/\aZ (fun b=>b<w.heap.size) w bs v:=by
 obtain ⟨bs,p,cap,rfl,hl,hr⟩:=nF Tryz.underlying66 oS (by decide) (fun (b:Bool) cs=>cs = [.bool b]) (fun m cs y hy=>by obtain ⟨b,rfl,-⟩:=DataW.trod_bool Tryz.underlying4 hy;exact ⟨b,rfl,rfl⟩) h
 refine ⟨bs,_,rfl,p,cap,rfl,hl.2,fun h0=> ?_⟩
 obtain ⟨b,off,h1,h2,h3⟩:=hr h0
 refine ⟨b,off,h1,h2,fun j y hy=> ?_⟩
 obtain ⟨cs,-,rfl,h4⟩:=h3 j y hy
 have:=h4 0 _ rfl
 rwa [Nat.mul_one,Nat.add_zero] at this
theorem aKk {fuel:Nat} {cs:List Value} {x:DataW H × List MemPlace} (h:DataW.trod enc Tryz.prog w base sp held fuel 27 cs=some x) : ∃ (zs:List Int) (v:Value),cs = [v]/\aH (fun b=>b<w.heap.size) w zs v:=by
 obtain ⟨bs,p,cap,rfl,hl,hr⟩:=nF Tryz.underlying27 iK (by decide) (fun (z:Int) cs=>cs = [.int .i64 z]) (fun m cs y hy=>by obtain ⟨z,rfl,-,-⟩:=DataW.trod_int Tryz.underlying3 hy;exact ⟨z,rfl,rfl⟩) h
 refine ⟨bs,_,rfl,p,cap,rfl,hl.2,fun h0=> ?_⟩
 obtain ⟨b,off,h1,h2,h3⟩:=hr h0
 refine ⟨b,off,h1,h2,fun j y hy=> ?_⟩
 obtain ⟨cs,-,rfl,h4⟩:=h3 j y hy
 have:=h4 0 _ rfl
 rwa [Nat.mul_one,Nat.add_zero] at this
theorem aNt {fuel:Nat} {cs:List Value} {x:DataW H × List MemPlace} (h:DataW.trod enc Tryz.prog w base sp held fuel 28 cs=some x) : ∃ (zs:List (Int × Int)) (v:Value),cs = [v]/\jQ (fun b=>b<w.heap.size) w zs v:=by
 obtain ⟨bs,p,cap,rfl,hl,hr⟩:=nF Tryz.underlying28 wN (by decide) (fun (z:Int × Int) cs=>cs = [.int .i64 z.1,.int .i64 z.2]) (fun m cs y hy=>by
  obtain ⟨xs,n,-,-,hl,hlen,hel⟩:=DataW.trod_array Tryz.underlying105 hy
  rw [wN] at hl
  match xs,hlen,cs,hl with
  | [y0,y1],_,[c0,c1],_=>
   obtain ⟨a,e0,-,-⟩:=DataW.trod_int Tryz.underlying3 (show DataW.trod enc Tryz.prog w base sp held n 3 _=some y0 by simpa using hel 0 (by decide))
   obtain ⟨b,e1,-,-⟩:=DataW.trod_int Tryz.underlying3 (show DataW.trod enc Tryz.prog w base sp held n 3 _=some y1 by simpa using hel 1 (by decide))
   simp [iK] at e0 e1
   exact ⟨(a,b),by rw [e0,e1],rfl⟩) h
 refine ⟨bs,_,rfl,p,cap,rfl,hl.2,fun h0=> ?_⟩
 obtain ⟨b,off,h1,h2,h3⟩:=hr h0
 refine ⟨b,off,h1,h2,fun j y hy=> ?_⟩
 obtain ⟨cs,-,rfl,h4⟩:=h3 j y hy
 exact ⟨by have:=h4 0 _ rfl;rwa [Nat.add_zero] at this,h4 1 _ rfl⟩
theorem aDf {fuel:Nat} {cs:List Value} {x:DataW H × List MemPlace} (h:DataW.trod enc Tryz.prog w base sp held fuel 26 cs=some x) : ∃ (ms:List MB) (v:Value),cs = [v]/\bI (fun b=>b<w.heap.size) w ms v:=by
 obtain ⟨ms,p,cap,rfl,hl,hr⟩:=nF Tryz.underlying26 aAp (by decide) (fun (m:MB) cs=> ∃ ov,cs = [.int .i64 m.pl,ov]/\aZ (fun b=>b<w.heap.size) w m.on ov) (fun m cs y hy=>by
  obtain ⟨xs,n,-,-,hl,hlen,hel⟩:=DataW.trod_struct Tryz.underlying68 hy
  rw [aAp] at hl
  match xs,hlen,cs,hl with
  | [y0,y1],_,[c0,c1],_=>
   obtain ⟨a,e0,-,-⟩:=DataW.trod_int Tryz.underlying3 (show DataW.trod enc Tryz.prog w base sp held n 3 _=some y0 by simpa using hel 0 _ rfl)
   obtain ⟨bs,v,e1,hb⟩:=aFu (show DataW.trod enc Tryz.prog w base sp held n 66 _=some y1 by simpa using hel 1 _ rfl)
   simp [iK,aAo] at e0 e1
   exact ⟨⟨a,bs⟩,⟨v,by rw [e0,e1],hb⟩,rfl⟩) h
 refine ⟨ms,_,rfl,p,cap,rfl,hl,fun h0=> ?_⟩
 obtain ⟨b,off,h1,h2,h3⟩:=hr h0
 refine ⟨b,off,h1,h2,fun j y hy=> ?_⟩
 obtain ⟨cs,-,⟨ov,rfl,hb⟩,h4⟩:=h3 j y hy
 exact ⟨ov,by have:=h4 0 _ rfl;rwa [Nat.add_zero] at this,h4 1 _ rfl,hb⟩
theorem aNr {fuel:Nat} {cs:List Value} {x:DataW H × List MemPlace} (h:DataW.trod enc Tryz.prog w base sp held fuel 25 cs=some x) : ∃ (ts:List At) (v:Value),cs = [v]/\jN (fun b=>b<w.heap.size) w ts v:=by
 obtain ⟨ts,p,cap,rfl,hl,hr⟩:=nF Tryz.underlying25 oR (by decide) (fun (a:At) cs=>cs = [.string a.n,.int .i64 a.op,.int .i64 a.v,.int .i64 a.sl,.string a.f,.bool a.on]) (fun m cs y hy=>by
  obtain ⟨a,e⟩:=xQ hy
  exact ⟨a,e,by rw [e];rfl⟩) h
 refine ⟨ts,_,rfl,p,cap,rfl,hl.2,fun h0=> ?_⟩
 obtain ⟨b,off,h1,h2,h3⟩:=hr h0
 refine ⟨b,off,h1,h2,fun j y hy=> ?_⟩
 obtain ⟨cs,-,rfl,h4⟩:=h3 j y hy
 exact ⟨by have:=h4 0 _ rfl;rwa [Nat.add_zero] at this,h4 1 _ rfl,h4 2 _ rfl,h4 3 _ rfl,h4 4 _ rfl,h4 5 _ rfl⟩
end
theorem aJq {H:Type} {enc:TypeId × Value->H} {w:World} {base b0:Nat} {sp:Nat->Bool} {held:Bool} {x:Value} {d:DataW H} {p:List MemPlace} (hv:Value.okWide Tryz.prog w .any b0 30 x) (h:DataW.Trod enc Tryz.prog w base sp held 30 x d p) :
  ∃ (wi:WI) (tsv inv mav onv:Value),x=.agg #[tsv,inv,mav,onv]/\eH (fun b=>b<w.heap.size) w wi tsv inv mav onv:=by
 obtain ⟨cs,rfl,hsz⟩:=okWide_struct Tryz.underlying30 hv
 obtain ⟨fuel,hf⟩:=h
 obtain ⟨xs,m,hm,hx,hl,hlen,hel⟩:=DataW.trod_struct Tryz.underlying30 (show DataW.trod enc Tryz.prog w base sp held fuel 30 cs.toList=some (d,p) from hf)
 have hl4:=hl.trans aDw
 obtain ⟨l⟩:=cs
 simp only at hl4 hel
 match xs,hlen,l,hl4 with
 | [y0,y1,y2,y3],_,[c0,c1,c2,c3],_=>
  obtain ⟨ts,v0,e0,h0⟩:=aNr (show DataW.trod enc Tryz.prog w base sp held m 25 _=some y0 by simpa using hel 0 _ rfl)
  obtain ⟨ins,v1,e1,h1⟩:=aDf (show DataW.trod enc Tryz.prog w base sp held m 26 _=some y1 by simpa using hel 1 _ rfl)
  obtain ⟨ma,v2,e2,h2⟩:=aKk (show DataW.trod enc Tryz.prog w base sp held m 27 _=some y2 by simpa using hel 2 _ rfl)
  obtain ⟨on,v3,e3,h3⟩:=aNt (show DataW.trod enc Tryz.prog w base sp held m 28 _=some y3 by simpa using hel 3 _ rfl)
  simp [aIg,aIh,aDt,aIi] at e0 e1 e2 e3
  exact ⟨⟨ts,ins,ma,on⟩,v0,v1,v2,v3,by rw [e0,e1,e2,e3],⟨h0,h1,h2,h3⟩⟩
theorem aMx {H:Type} {enc:TypeId × Value->H} {w:World} {base b0:Nat} {sp:Nat->Bool} {held:Bool} {x:Value} {d:DataW H} {p:List MemPlace} (hv:Value.okWide Tryz.prog w .any b0 26 x) (h:DataW.Trod enc Tryz.prog w base sp held 26 x d p) :
  ∃ (ms:List MB),bI (fun b=>b<w.heap.size) w ms x:=by
 obtain ⟨a,len,cap,rfl⟩:=okWide_slice Tryz.underlying26 hv
 obtain ⟨fuel,hf⟩:=h
 obtain ⟨ms,v,e,hm⟩:=aDf hf
 refine ⟨ms,?_⟩
 have hx:Value.slice a len cap=v:=by simpa [Value.cells] using e
 rw [hx];exact hm
end Go.Proofs.YtonlloiemgdfkaaGreatDoor
namespace Go.Proofs.YtonlloiemgdfkaaGreatDoor
open Go.RowKit
theorem aMw {H:Type} {enc:TypeId × Value->H} {w:World} {base:Nat} {sp:Nat->Bool} {held:Bool} {v:Value} {d:DataW H} {p:List MemPlace} (h:DataW.Trod enc Tryz.prog w base sp held 24 (.agg #[v]) d p):kP v:=by
 obtain ⟨fuel,hf⟩:=h
 obtain ⟨xs,m,hm,hx,hl,hlen,hel⟩:=DataW.trod_struct Tryz.underlying24 (show DataW.trod enc Tryz.prog w base sp held fuel 24 [v]=some (d,p) from hf)
 match xs,hlen with
 | [y0],_=>
  have h0:DataW.trod enc Tryz.prog w base sp held m 22 [v]=some y0:=by
   have:=hel 0 _ rfl
   simpa [tH] using this
  rcases DataW.trod_slice Tryz.underlying22 h0 with ⟨e,-⟩ | ⟨ad,len,cap,elems,rest,mm,hmm,e,-,-,hlc,-⟩
  ·cases e;exact iJ
  ·cases e
   intro p n c e
   cases e
   exact hlc
end Go.Proofs.YtonlloiemgdfkaaGreatDoor
