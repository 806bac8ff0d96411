/- Steps of the proof. -/
import Derived.Test.YthjlcjdlelkkdaaGreatDoorRs18
import Derived.Lib.LaidTab
import Derived.Stop.LaidErr
import Derived.OpenShut
import Derived.Lib.SmallJoins
import Derived.Deep.DeepWitnessRowRef
import Derived.LaidMore
import Derived.Stop.Joined
import Derived.ChangeOld
import Derived.Shelf.Vars
import Derived.HandedShaped
set_option maxHeartbeats 16000000
set_option maxRecDepth 100000
namespace Go.Proofs.YthjlcjdlelkkdaaGreatDoor
open Go.RowKit Go.Lib
theorem aSh{ps:List PK}{wi:WI}{w w':World}{e:Ending}(h:aJb ps wi 40000 w e w'):aA w w'/\∃(v:Value) (f:Int) (u:List Int),e=.returned (.tuple #[v,.int .i64 f])/\aI (fun c=>c<w'.heap.size) w' u v/\u.length<=1000/\((bB ps wi≠0/\f=bB ps wi/\u = [])\/(bB ps wi=0/\dE ps (mkW wi []) 40000≠0/\f=7/\u = [])\/(bB ps wi=0/\dE ps (mkW wi []) 40000=0/\f=0/\u=(cK ps wi 40000 wi.ma.length).2)):=by
 obtain⟨k,h⟩:=h;refine⟨k,?_⟩;rcases h with ⟨h1,rfl⟩ | ⟨h1,h2,rfl⟩ | ⟨h1,h2,j,hj,h3,h4,rfl⟩ | ⟨h1,h2,-,v,rfl,-,h5⟩
 ·exact⟨_,_,[],rfl,fH _ _,by simp,.inl ⟨h1,rfl,rfl⟩⟩
 ·refine⟨_,_,[],rfl,fH _ _,by simp,.inr (.inl ⟨h1,h2,?_,rfl⟩)⟩;rcases rI h1 (List.nil_sublist wi.ma) with ⟨e,-⟩ | ⟨e,-⟩
  ·exact absurd e h2
  ·exact e
 ·exfalso;have h0:¬fO ps (mkW wi []):=by
   rcases rI h1 (List.nil_sublist wi.ma) with ⟨-,hn⟩ | ⟨e,-⟩
   ·exact hn
   ·rw[e] at h2;cases h2
  obtain⟨⟨i1,-⟩,-,-,-⟩:=aBz h1 h0 j (by omega);have hg:wi.ma.getD j 0=wi.ma[j]:=by rw[R0,Q9 hj];rfl
  have hs:((cK ps wi 40000 j).1++[wi.ma.getD j 0]).Sublist wi.ma:=(i1.append (List.Sublist.refl _)).trans (by rw[hg,<-U4 hj];exact List.take_sublist _ _);rcases rI h1 hs with ⟨e,-⟩ | ⟨e,-⟩
  ·exact h3 e
  ·exact h4 e
 ·have a0:=(cT h1).2.2.2.2.2.1;have:=(rT ps wi 40000 wi.ma.length).2;exact⟨v,0,_,rfl,h5.mono (fun _ _=>rfl) fun c hc=>hc.2,by omega,.inr (.inr ⟨h1,h2,rfl,rfl⟩)⟩
theorem aFi(ps:List PK)(wi:WI):(bB ps wi≠0/\dE ps wi 40000=bB ps wi/\pZ ps wi 40000 = []/\rK ps wi 40000 = [])\/(bB ps wi=0/\dE ps wi 40000=0/\rK ps wi 40000 = []/\∃c,nG ps wi c/\pZ ps wi 40000=bP ps wi c)\/(bB ps wi=0/\dE ps wi 40000=7/\fO ps wi/\pZ ps wi 40000 = []/\rK ps wi 40000 ≠ []):=by
 rcases aNj ps wi with ⟨h1,h2,h3,h4⟩ | ⟨h1,h2,h3⟩ | ⟨h1,h2,h3,h4,h5,-⟩
 ·exact .inl ⟨h1,h2,h4,by unfold rK;rw[if_neg h3]⟩
 ·exact .inr (.inl ⟨h1,h2,by unfold rK;rw[h2,if_neg (by decide)],h3⟩)
 ·refine .inr (.inr ⟨h1,h2,h3,h4,?_⟩);rw[h5];intro e;have:=rJ h1 (mU h1);rw[e,if_pos rfl,h2] at this;cases this
theorem aBl(S:Nat->Prop)(ps:List PK)(wi:WI)(pv tsv inv mav onv:Value)(w:World)(hS:∀b,S b->b<w.heap.size)(hp:aZ S w ps pv)(hw:dA S w wi tsv inv mav onv)(hcap:lM pv)(hE:Env w)(hM:lN w):
  Calls Tryz.prog 3 #[.agg #[pv],.agg #[tsv,inv,mav,onv]] w fun e w'=>e=.returned (.bool true)/\aA w w':=by
 have HP:=hid hp;have HW:=hid hw;have HE:=hid hE;have c6:=hid hM;clear hp hw hE hM;go_enter Tryz.func3,Tryz.ntmps3;go_upto_region 1 with fail;refine bE (fun W'=>aA w W'/\aE w.heap.size 24 pv W'/\aF (w.heap.size+1) 30 #[tsv,inv,mav,onv] W') ⟨(aA.alloc _ _).alloc' _,(aE.new _ _ _).keep (aA.alloc _ _) (by simp),aPf (aC _ _) _ _⟩ ?_;rintro W1 ⟨k1,v1,b1⟩;have K1:=hid k1;have V1:=hid v1;have B1:=hid b1;generalize w.heap.size=b at V1 B1 |-
 clear k1 v1 b1;have a0:=V1.out.facts.1;have a6:=V1.out.facts.2.2;have a3:W1.cell? ⟨b+1,0,none⟩=some tsv:=B1.out.facts.1 0;have a2:W1.cell? ⟨b+1,1,none⟩=some inv:=B1.out.facts.1 1;have a5:W1.cell? ⟨b+1,2,none⟩=some mav:=B1.out.facts.1 2;have a1:W1.cell? ⟨b+1,3,none⟩=some onv:=B1.out.facts.1 3;have a4:=B1.out.facts.2.2;go_wp2_with fail;refine (iO S ps wi 40000 _ _ _ _ _ W1 (fun c hc=>R8 (hS c hc) K1.out.size) (HP.out.keep hS K1.out) (HW.out.keep hS K1.out) hcap).mono ?_;rintro e W2 h2;obtain⟨k2,lv,pq,rfl,hl,hq⟩:=h2.gen (by decide) (by decide);obtain⟨lp,lc,rfl,-⟩:=hl.len;obtain⟨qp,qc,rfl,-⟩:=hq.len;have L2:=hid (hl.mono (S':=fun c=>c<W2.heap.size) (fun _ _=>rfl) fun c hc=>hc.2);have K2:=hid (K1.out.trans k2);have V2:=hid (V1.out.keep k2 V1.out.facts.2.2);have B2:=hid (B1.out.keep k2 B1.out.facts.2.2);clear a0 a6 a3 a2 a5 a1 a4 V1 B1 k2 h2 hl hq;have a0:=V2.out.facts.1;have a6:=V2.out.facts.2.2;have a3:W2.cell? ⟨b+1,0,none⟩=some tsv:=B2.out.facts.1 0;have a2:W2.cell? ⟨b+1,1,none⟩=some inv:=B2.out.facts.1 1;have a5:W2.cell? ⟨b+1,2,none⟩=some mav:=B2.out.facts.1 2;have a1:W2.cell? ⟨b+1,3,none⟩=some onv:=B2.out.facts.1 3;have a4:=B2.out.facts.2.2;generalize c2:dE ps wi 40000=er;have c0:=hid c2;generalize c1:(pZ ps wi 40000).length=ln;have c4:=hid c1;generalize c7:(rK ps wi 40000).length=qn;have b8:=hid c7;rw[c1] at L2;clear c2 c1 c7;go_wp2_with fail;refine (xF S ps wi 40000 _ _ _ _ _ W2 (fun c hc=>R8 (hS c hc) K2.out.size) (HP.out.keep hS K2.out) (HW.out.keep hS K2.out) hcap).mono ?_;rintro e W3 h3;obtain⟨k3,uv,fe,u,rfl,hu,c5,c3⟩:=aSh h3;obtain⟨up,uc,rfl,-⟩:=hu.len;have b4:=hid c5;have b3:=hid c3;have U3:=hid hu;have L3:=hid (L2.out.mono (S':=fun c=>c<W3.heap.size) (fun p hp=>k3.cell (p:=p) hp) fun c hc=>R8 hc k3.size);have K3:=hid (K2.out.trans k3);have V3:=hid (V2.out.keep k3 V2.out.facts.2.2);have B3:=hid (B2.out.keep k3 B2.out.facts.2.2);clear a0 a6 a3 a2 a5 a1 a4 V2 B2 k3 h3 hu c5 c3 L2;have a0:=V3.out.facts.1;have a6:=V3.out.facts.2.2;have a3:W3.cell? ⟨b+1,0,none⟩=some tsv:=B3.out.facts.1 0;have a2:W3.cell? ⟨b+1,1,none⟩=some inv:=B3.out.facts.1 1;have a5:W3.cell? ⟨b+1,2,none⟩=some mav:=B3.out.facts.1 2;have a1:W3.cell? ⟨b+1,3,none⟩=some onv:=B3.out.facts.1 3;have a4:=B3.out.facts.2.2;go_wp2_with fail;refine (aNk S ps wi _ _ _ _ _ W3 (fun c hc=>R8 (hS c hc) K3.out.size) (HP.out.keep hS K3.out) (HW.out.keep hS K3.out)).mono ?_;rintro e W4 ⟨rfl,k4⟩;have d1:=hid k4;have K4:=hid (K3.out.trans k4);have V4:=hid (V3.out.keep k4 V3.out.facts.2.2);have B4:=hid (B3.out.keep k4 B3.out.facts.2.2);clear a0 a6 a3 a2 a5 a1 a4 V3 B3 k4;obtain⟨cw,b9⟩:∃cw,cw=bB ps wi:=⟨_,rfl⟩;have a9:=hid b9;rw[<-b9];clear b9;go_wp2_with fail;refine (rL W4 (HE.out.keep K4.out) (c6.out.keep K4.out)).mono ?_;rintro e W5 ⟨rfl,k5⟩;have d0:=hid (d1.out.trans k5);have K5:=hid (K4.out.trans k5);have V5:=hid (V4.out.keep k5 V4.out.facts.2.2);have B5:=hid (B4.out.keep k5 B4.out.facts.2.2);clear k5 V4 B4;by_cases hz:cw=0
 ·subst hz;have a7:Hid (bB ps wi=0):=a9.out.symm;have a0:=V5.out.facts.1;have a6:=V5.out.facts.2.2;have a3:W5.cell? ⟨b+1,0,none⟩=some tsv:=B5.out.facts.1 0;have a2:W5.cell? ⟨b+1,1,none⟩=some inv:=B5.out.facts.1 1;have a5:W5.cell? ⟨b+1,2,none⟩=some mav:=B5.out.facts.1 2;have a1:W5.cell? ⟨b+1,3,none⟩=some onv:=B5.out.facts.1 3;have a4:=B5.out.facts.2.2;go_wp2_with fail;refine (nD S ps wi _ _ _ _ _ W5 (fun c hc=>R8 (hS c hc) K5.out.size) (HP.out.keep hS K5.out) (HW.out.keep hS K5.out) a7.out).mono ?_;rintro e W6 ⟨k6,c8⟩;have b2:=hid (d0.out.trans k6);have K6:=hid (K5.out.trans k6);have V6:=hid (V5.out.keep k6 V5.out.facts.2.2);have B6:=hid (B5.out.keep k6 B5.out.facts.2.2);clear k6 V5 B5 a0 a6 a3 a2 a5 a1 a4;rcases aFi ps wi with ⟨h,-⟩ | ⟨-,h1,h2,c,h3,h4⟩ | ⟨-,h1,h2,h3,h4⟩
  ·exact absurd a7.out h
  ·rcases c8 with ⟨c',v6,hb6,rfl,hm6⟩ | ⟨hn6,-⟩
   ·obtain rfl:er=0:=c0.out.symm.trans h1;obtain rfl:qn=0:=by rw[<-b8.out,h2];rfl
    obtain rfl:=h3.one hb6;obtain⟨vp,vc,c9,-⟩:=hm6.len;subst c9;have L6:=hid (L3.out.mono (S':=fun c=>c<W6.heap.size) (fun p hp=>b2.out.cell (p:=p) hp) fun c hc=>R8 hc b2.out.size);rw[h4] at L6;have b5:=hid (mV (fun c=>c<W6.heap.size) (bP ps wi c) (bP ps wi c) _ _ W6 (fun _ h=>h) L6.out hm6);generalize (bP ps wi c).length=sl at b5 |-
    clear h1 h2 h3 h4 hb6 hm6;go_wp2_with fail;refine b5.out.mono ?_;rintro e W7 ⟨β,rfl,hβ,k7⟩;obtain rfl:β=true:=hβ.2 (by simp);have K7:=hid (K6.out.trans k7);have V7:=hid (V6.out.keep k7 V6.out.facts.2.2);have B7:=hid (B6.out.keep k7 B6.out.facts.2.2);have U7:=hid (U3.out.mono (S':=fun c=>c<W7.heap.size) (fun p hp=>(b2.out.trans k7).cell (p:=p) hp) fun c hc=>R8 hc (b2.out.trans k7).size);clear k7 hβ b5;have a0:=V7.out.facts.1;have a6:=V7.out.facts.2.2;have a3:W7.cell? ⟨b+1,0,none⟩=some tsv:=B7.out.facts.1 0;have a2:W7.cell? ⟨b+1,1,none⟩=some inv:=B7.out.facts.1 1;have a5:W7.cell? ⟨b+1,2,none⟩=some mav:=B7.out.facts.1 2;have a1:W7.cell? ⟨b+1,3,none⟩=some onv:=B7.out.facts.1 3;have a4:=B7.out.facts.2.2;go_wp2_with fail;refine (nE S ps wi _ _ _ _ _ W7 (fun c hc=>R8 (hS c hc) K7.out.size) (HP.out.keep hS K7.out) (HW.out.keep hS K7.out) a7.out).mono ?_;rintro e W8 ⟨k8,b7⟩;have K8:=hid (K7.out.trans k8);have U8:=hid (U7.out.mono (S':=fun c=>c<W8.heap.size) (fun p hp=>k8.cell (p:=p) hp) fun c hc=>R8 hc k8.size);clear k8 a0 a6 a3 a2 a5 a1 a4;rcases b7 with ⟨hr,rfl⟩ | ⟨hr,v8,rfl,hn8⟩
    ·rcases b3.out with ⟨h,-⟩ | ⟨-,-,h2,h3⟩ | ⟨-,h,-⟩
     ·exact absurd a7.out h
     ·have a8:u.length=0:=by rw[h3];rfl
      rw[a8];subst h2;clear hr h3 a8;go_wp2_with fail;go_ret;exact⟨rfl,K8.out⟩
     ·exact absurd h hr
    ·rcases b3.out with ⟨h,-⟩ | ⟨-,h,-⟩ | ⟨-,-,h2,h3⟩
     ·exact absurd a7.out h
     ·exact absurd hr h
     ·subst h2;obtain⟨vp,vc,b6,-⟩:=hn8.len;subst b6;rw[<-h3] at hn8 |-
      have b0:=hid (uY (fun c=>c<W8.heap.size) u u _ _ W8 U8.out hn8 (by have:=b4.out;omega) (by have:=b4.out;omega));have HB:Hid ((u==u)=true):=by show _=_;simp
      rw[HB.out] at b0;clear hr h3 hn8;go_wp2_with fail;refine b0.out.mono ?_;rintro e W9 ⟨rfl,k9⟩;have K9:=hid (K8.out.trans k9);clear k9 b0;go_wp2_with fail;go_ret;exact⟨rfl,K9.out⟩
   ·exact (h3.some hn6).elim
  ·rcases c8 with ⟨c',v6,hb6,-,-⟩ | ⟨hn6,rfl⟩
   ·exact (hb6.some h2).elim
   ·obtain rfl:er=7:=c0.out.symm.trans h1;obtain rfl:ln=0:=by rw[<-c4.out,h3];rfl
    have d2:((qn:Int)==0)=false:=by
     have:0<(rK ps wi 40000).length:=List.length_pos_iff.2 h4;rw[b8.out] at this;simp;omega
    obtain⟨W7,rfl⟩:∃W7:World,W7=W6:=⟨_,rfl⟩;have K7:=hid K6.out;have V7:=hid V6.out;have B7:=hid B6.out;have U7:=hid (U3.out.mono (S':=fun c=>c<W7.heap.size) (fun p hp=>b2.out.cell (p:=p) hp) fun c hc=>R8 hc b2.out.size);clear h1 h2 h3 h4 hn6 V6 B6;have a0:=V7.out.facts.1;have a6:=V7.out.facts.2.2;have a3:W7.cell? ⟨b+1,0,none⟩=some tsv:=B7.out.facts.1 0;have a2:W7.cell? ⟨b+1,1,none⟩=some inv:=B7.out.facts.1 1;have a5:W7.cell? ⟨b+1,2,none⟩=some mav:=B7.out.facts.1 2;have a1:W7.cell? ⟨b+1,3,none⟩=some onv:=B7.out.facts.1 3;have a4:=B7.out.facts.2.2;go_wp2_with fail;refine (nE S ps wi _ _ _ _ _ W7 (fun c hc=>R8 (hS c hc) K7.out.size) (HP.out.keep hS K7.out) (HW.out.keep hS K7.out) a7.out).mono ?_;rintro e W8 ⟨k8,b7⟩;have K8:=hid (K7.out.trans k8);have U8:=hid (U7.out.mono (S':=fun c=>c<W8.heap.size) (fun p hp=>k8.cell (p:=p) hp) fun c hc=>R8 hc k8.size);clear k8 a0 a6 a3 a2 a5 a1 a4;rcases b7 with ⟨hr,rfl⟩ | ⟨hr,v8,rfl,hn8⟩
    ·rcases b3.out with ⟨h,-⟩ | ⟨-,-,h2,h3⟩ | ⟨-,h,-⟩
     ·exact absurd a7.out h
     ·have a8:u.length=0:=by rw[h3];rfl
      rw[a8];subst h2;clear hr h3 a8;go_wp2_with fail;go_ret;exact⟨rfl,K8.out⟩
     ·exact absurd h hr
    ·rcases b3.out with ⟨h,-⟩ | ⟨-,h,-⟩ | ⟨-,-,h2,h3⟩
     ·exact absurd a7.out h
     ·exact absurd hr h
     ·subst h2;obtain⟨vp,vc,b6,-⟩:=hn8.len;subst b6;rw[<-h3] at hn8 |-
      have b0:=hid (uY (fun c=>c<W8.heap.size) u u _ _ W8 U8.out hn8 (by have:=b4.out;omega) (by have:=b4.out;omega));have HB:Hid ((u==u)=true):=by show _=_;simp
      rw[HB.out] at b0;clear hr h3 hn8;go_wp2_with fail;refine b0.out.mono ?_;rintro e W9 ⟨rfl,k9⟩;have K9:=hid (K8.out.trans k9);clear k9 b0;go_wp2_with fail;go_ret;exact⟨rfl,K9.out⟩
 ·have d4:(cw != 0)=true:=by simp[hz]
  have d3:(cw==0)=false:=by simp[hz]
  rcases aFi ps wi with ⟨-,h1,h2,h3⟩ | ⟨h,-⟩ | ⟨h,-⟩
  ·obtain rfl:er=cw:=by rw[<-c0.out,h1,a9.out]
   obtain rfl:ln=0:=by rw[<-c4.out,h2];rfl
   obtain rfl:qn=0:=by rw[<-b8.out,h3];rfl
   rcases b3.out with ⟨-,g1,g2⟩ | ⟨h,-⟩ | ⟨h,-⟩
   ·obtain rfl:fe=er:=by rw[g1,a9.out]
    have a8:u.length=0:=by rw[g2];rfl
    rw[a8];clear hz h1 h2 h3 g1 g2 a8;go_wp2_with fail;refine (rL W5 (HE.out.keep K5.out) (c6.out.keep K5.out)).mono ?_;rintro e W6 ⟨rfl,k6⟩;have K6:=hid (K5.out.trans k6);clear k6;go_wp2_with fail;go_ret;exact⟨rfl,K6.out⟩
   ·exact absurd (a9.out.trans h) hz
   ·exact absurd (a9.out.trans h) hz
  ·exact absurd (a9.out.trans h) hz
  ·exact absurd (a9.out.trans h) hz
end Go.Proofs.YthjlcjdlelkkdaaGreatDoor
namespace Go.Proofs.YthjlcjdlelkkdaaGreatDoor
open Go.RowKit
theorem qH{P:Program}{w:World}:∀ {l:List (String × DataW Unit)} {ps:List MemPlace} {x:String × DataW Unit},DataW.LaidVars P w l ps->x∈l->∃qs,DataW.LaidVars P w [x] qs/\qs.Sublist ps
 | [],_,_,_,hx=>by cases hx
 | (n,d) :: r,ps,x,h,hx=>by
  obtain⟨g,t,cs,a0,p,q,h1,h2,h3,h4,h5,rfl⟩:=h;rcases Q3.1 hx with rfl | hx
  ·exact⟨MemPlace.row ⟨g,0,none⟩ cs.size++p++[],⟨g,t,cs,a0,p,[],h1,h2,h3,h4,rfl,rfl⟩,by rw[List.append_nil];exact List.sublist_append_left _ _⟩
  ·obtain⟨qs,h6,h7⟩:=qH h5 hx;exact⟨qs,h6,h7.trans (List.sublist_append_right _ _)⟩
theorem kS{P:Program}{w:World}{l:List (String × DataW Unit)}{x:String × DataW Unit}(h:laidMet P l w)(hx:x∈l):laidMet P [x] w:=by
 obtain⟨ps,h1,h2,h3⟩:=h;obtain⟨qs,h4,h5⟩:=qH h1 hx;exact⟨qs,h4,h5.nodup h2,fun b off hb=>h3 b off (h5.subset hb)⟩
theorem qO{w:World}{b o:Nat}{v:Value}(h:w.cell? ⟨b,o,none⟩=some v):b<w.heap.size:=by
 rcases Nat.lt_or_ge b w.heap.size with h' | h'
 ·exact h'
 ·simp[World.cell?,Array.getElem?_eq_none h'] at h
theorem aPt : Tryz.prog.globalNamed "quartermaster/atom.signs" = some 8 := by kernel_rfl
theorem aWe:(Tryz.prog.globals[8]?).map (·.type)=some 287:=by kernel_rfl
theorem aXp:(Tryz.prog.globals[1]?).map (·.type)=some 243:=by kernel_rfl
theorem aXm:Tryz.prog.cellsOf 243=20:=by kernel_rfl
theorem aXn:Tryz.prog.cellsOf 212=1:=by kernel_rfl
theorem aGm:Tryz.prog.cellsOf 9=1:=by kernel_rfl
theorem aWl:Tryz.prog.cellsOf 282=1:=by kernel_rfl
theorem aXb : Tryz.prog.globalNamed "strconv.ErrSyntax" = some 4 := by kernel_rfl
theorem aXr:(Tryz.prog.globals[4]?).map (·.type)=some 202:=by kernel_rfl
theorem aXa : Tryz.prog.globalNamed "strconv.ErrRange" = some 5 := by kernel_rfl
theorem aXq:(Tryz.prog.globals[5]?).map (·.type)=some 202:=by kernel_rfl
theorem aXj : "*" ++ "errors.errorString" = "*errors.errorString" := by decide
theorem aRf (u : TypeId) (h : Tryz.prog.typeName? 3 u = some "*errors.errorString") : u = 280 :=
 typeName_ptr_named (nm := "errors.errorString") (by rw[aXj]; kernel_rfl) (by kernel_rfl) (by decide) u (by rw[aXj]; exact h)
theorem aRq {W : World} (h : laidMet Tryz.prog [("quartermaster/atom.signs", Rows.laid_quartermaster_atom_signs)] W) : aCj W := by
 obtain⟨ps,⟨g,t,cs,a3,p,q,hg,ht,hv,hd,_,_⟩,_⟩:=h;obtain rfl:=U6 (aPt.symm.trans hg);obtain rfl:=U6 (aWe.symm.trans ht);obtain⟨xs,m,rfl,hx,a4,hn,a0⟩:=DataW.trod_array Tryz.underlying287 hd;simp only[Rows.laid_quartermaster_atom_signs,Prod.mk.injEq,DataW.agg.injEq] at hx
 match xs,hn,hx,a0 with
 | [x0,x1,x2,x3],_,hx,a0=>
  have cell:∀(k:Nat) (x:DataW Unit × List MemPlace) (l:List UInt8),k<4->[x0,x1,x2,x3][k]? = some x->x.1=.lit (.string l)->W.cell? ⟨8,k,none⟩=some (.string ⟨l.toArray⟩):=by
   intro k x l hk a2 hl;have h1:=a0 k hk;rw[a2] at h1;obtain⟨s,e1,e2,_⟩:=DataW.trod_string Tryz.underlying9 h1;rw[e2] at hl;have hs:s.data.toList=l:=by simpa using hl
   have a1:s=⟨l.toArray⟩:=by cases s;simp at hs;rw[<-hs]
   have h2:=World.var?_cell aPt hv k;rw[aGm,Nat.mul_one] at e1;have h3:cs[k]? = some (.string s):=by
    have:=Q0 (·[0]?) e1;simpa[List.getElem?_take,List.getElem?_drop] using this
   rw[h2,h3,a1]
  simp only[List.map_cons,List.map_nil,List.cons.injEq,and_true] at hx;have c1:=cell 1 x1 [61] (by decide) rfl hx.1.2.1.symm;refine⟨qO c1,c1,cell 2 x2 [62,61] (by decide) rfl hx.1.2.2.1.symm,cell 3 x3 [60] (by decide) rfl hx.1.2.2.2.symm⟩
theorem aVi {W : World} {l : List (String × DataW Unit)} (h : laidMet Tryz.prog l W) (h1 : ("quartermaster/atom.signs", Rows.laid_quartermaster_atom_signs) ∈ l) (h2 : ("internal/strconv.uint64pow10", Rows.laid_internal_strconv_uint64pow10) ∈ l)
  (h3 : ("strconv.ErrSyntax", Rows.laid_strconv_ErrSyntax) ∈ l) (h4 : ("strconv.ErrRange", Rows.laid_strconv_ErrRange) ∈ l) : Env W := by
 have a2 : Lib.TabIs Tryz.prog W "internal/strconv.uint64pow10" .u64 Lib.pow10Tab := Lib.tabIs_of_head (rest := []) kU aXp Tryz.underlying243 Tryz.underlying212 aXn aXm (kS h h2);obtain⟨a0,s0,a4,-,-,-⟩:=laid_sentinel (kS h h3) aXb aXr Tryz.underlying202 aRf Tryz.underlying280 Tryz.underlying282 rfl rfl Tryz.underlying9 aWl aGm;obtain⟨a1,s1,a3,-,-,-⟩:=laid_sentinel (kS h h4) aXa aXq Tryz.underlying202 aRf Tryz.underlying280 Tryz.underlying282 rfl rfl Tryz.underlying9 aWl aGm;have c0:W.cell? ⟨4,0,none⟩=some (.iface 280 (.pointer (some a0))):=by simpa using World.var?_cell aXb a4 0
 have c1:W.cell? ⟨5,0,none⟩=some (.iface 280 (.pointer (some a1))):=by simpa using World.var?_cell aXa a3 0
 exact⟨aRq (kS h h1),⟨qO (a2.cell kU 0 (by decide)),a2⟩,⟨qO c0,_,_,c0⟩,⟨qO c1,_,_,c1⟩⟩
end Go.Proofs.YthjlcjdlelkkdaaGreatDoor
namespace Go.Proofs.YthjlcjdlelkkdaaGreatDoor
open Go.ChangeShapes Go.WideShapes Go.ChangeAt Go.RowKit Go.Joins
theorem pV:Tryz.prog.cellsOf 63=6:=by kernel_rfl
theorem jF:Tryz.prog.cellsOf 3=1:=by kernel_rfl
theorem pW:Tryz.prog.cellsOf 4=1:=by kernel_rfl
end Go.Proofs.YthjlcjdlelkkdaaGreatDoor
namespace Go.Proofs.YthjlcjdlelkkdaaGreatDoor
open Go.ChangeShapes Go.WideShapes Go.ChangeAt Go.RowKit Go.Joins
theorem pX:Tryz.prog.cellsOf 96=10:=by kernel_rfl
theorem uN:Tryz.prog.cellsOf 94=1:=by kernel_rfl
theorem aXf{α:Type}{cs:List α}(h:cs.length=6):∃c0 c1 c2 c3 c4 c5,cs = [c0,c1,c2,c3,c4,c5]:=by
 match cs,h with
 | [c0,c1,c2,c3,c4,c5],_=>exact⟨c0,c1,c2,c3,c4,c5,rfl⟩
theorem aVn{α:Type}{cs:List α}(h:cs.length=10):∃c0 c1 c2 c3 c4 c5 c6 c7 c8 c9,cs = [c0,c1,c2,c3,c4,c5,c6,c7,c8,c9]:=by
 match cs,h with
 | [c0,c1,c2,c3,c4,c5,c6,c7,c8,c9],_=>exact⟨c0,c1,c2,c3,c4,c5,c6,c7,c8,c9,rfl⟩
section
variable {H:Type} {enc:TypeId × Value->H} {w:World} {base:Nat} {sp:Nat->Bool} {held:Bool}
theorem zY{fuel:Nat}{cs:List Value}{x:DataW H × List MemPlace}(h:DataW.trod enc Tryz.prog w base sp held fuel 63 cs=some x):∃a:At,cs = [.string a.n,.int .i64 a.op,.int .i64 a.v,.int .i64 a.sl,.string a.f,.bool a.on]:=by
 obtain⟨xs,m,_,hx,hl,a1,a0⟩:=DataW.trod_struct Tryz.underlying63 h;obtain⟨c0,c1,c2,c3,c4,c5,rfl⟩:=aXf (hl.trans pV)
 match xs,a1 with
 | [y0,y1,y2,y3,y4,y5],_=>
  obtain⟨n,e0,g0,_⟩:=DataW.trod_string Tryz.underlying9 (by simpa using a0 0 _ rfl);obtain⟨op,e1,g1,_⟩:=DataW.trod_int Tryz.underlying3 (by simpa using a0 1 _ rfl);obtain⟨v,e2,g2,_⟩:=DataW.trod_int Tryz.underlying3 (by simpa using a0 2 _ rfl);obtain⟨sl,e3,g3,_⟩:=DataW.trod_int Tryz.underlying3 (by simpa using a0 3 _ rfl);obtain⟨f,e4,g4,_⟩:=DataW.trod_string Tryz.underlying9 (by simpa using a0 4 _ rfl);obtain⟨on,e5,g5⟩:=DataW.trod_bool Tryz.underlying4 (by simpa using a0 5 _ rfl);refine⟨⟨n,op,v,sl,f,on⟩,?_⟩;simp[jF,pW,aGm] at e0 e1 e2 e3 e4 e5;rw[e0,e1,e2,e3,e4,e5]
theorem aOc:∀(a0:Nat) (cs:List Value) (x:DataW H × List MemPlace),DataW.trod enc Tryz.prog w base sp held a0 96 cs=some x->∃t:NT,aH (fun b=>b<w.heap.size) w t cs:=by
 intro a0
 induction a0 using Nat.strongRecOn with
 | ind a0 ih=>
 intro cs x h;obtain⟨xs,m,hm,hx,hl,a3,a1⟩:=DataW.trod_struct Tryz.underlying96 h;obtain⟨c0,c1,c2,c3,c4,c5,c6,c7,c8,c9,rfl⟩:=aVn (hl.trans pX)
 match xs,a3 with
 | [y0,y1,y2,y3,y4],_=>
  obtain⟨k,e0,-,-⟩:=DataW.trod_int Tryz.underlying3 (by simpa using a1 0 _ rfl);obtain⟨a,e1⟩:=zY (by simpa using a1 1 _ rfl);obtain⟨fl,e2,-,-⟩:=DataW.trod_string Tryz.underlying9 (by simpa using a1 2 _ rfl);obtain⟨nt,e3,-⟩:=DataW.trod_bool Tryz.underlying4 (by simpa using a1 3 _ rfl);have hs:=DataW.trod_slice Tryz.underlying94 (show DataW.trod enc Tryz.prog w base sp held m 94 _=some y4 by simpa using a1 4 _ rfl);simp[jF,pW,aGm,pV] at e0 e1 e2 e3;obtain⟨a6,a7,b3,a5,a9,b0⟩:=e1;rcases hs with ⟨e4,-⟩ | ⟨ad,len,cap,elems,rest,mm,hmm,e4,-,-,hlc,hcm,hle,hcell,-,-⟩
  ·simp[uN] at e4;refine⟨.node k a fl nt [],?_⟩;rw[aH];exact⟨none,0,by rw[e0,a6,a7,b3,a5,a9,b0,e2,e3,e4];rfl,Y1 _,by simp,by rw[bJ];trivial⟩
  ·simp[uN] at e4;have key:∀(q i:Nat),i+q=len->∃ts:List NT,ts.length=q/\bJ (fun b=>b<w.heap.size) w ts (some ad) i:=by
    intro q
    induction q with
    | zero=>intro i _;exact⟨[],rfl,by rw[bJ];trivial⟩
    | succ q ihq=>
     intro i hi;obtain⟨ts,a4,hk⟩:=ihq (i+1) (by omega);have b1:=hcell i (by omega);rw[pX,Q9 (by omega)] at b1;obtain⟨b2,a8,b5⟩:=Option.bind_eq_some_iff.1 b1;obtain⟨t,ht⟩:=ih mm (by omega) b2 _ b5;obtain⟨b7,b6,b4⟩:=World.cells?_some a8;have a2:=World.cells?_block a8 (by decide);refine⟨t :: ts,by simp[a4],?_⟩;rw[bJ];refine⟨⟨ad,b2,rfl,by rw[bW] at a2;exact a2,fun j v hv=>?_,ht⟩,hk⟩;have hj:j<10:=by rw[<-b6];exact (R9.1 hv).1
     rw[b4 j hj];exact hv
   obtain⟨ts,a4,hk⟩:=key len 0 (by omega);refine⟨.node k a fl nt ts,?_⟩;rw[aH];exact⟨some ad,cap,by rw[e0,a6,a7,b3,a5,a9,b0,e2,e3,e4,a4],by omega,by unfold maxLen at hcm;omega,hk⟩
end
theorem aQm{w:World}(h:w.ShapedOpen Tryz.prog):lN w:=by
 obtain⟨m,hm⟩:=cell_of_shapedOpen_int (g:=0) (t:=3) (zero:=#[.int .i64 0]) (k:= .i64) h (of_decide_eq_true (by kernel_rfl)) (by kernel_rfl) rfl (by kernel_rfl) (by kernel_rfl) Tryz.underlying3;exact⟨qO hm,m,hm⟩
theorem xY{H:Type}{enc:TypeId × Value->H}{a:Assume}{C:Checked}{os:Os}{f:FuncId}{fn:Func}{s:ChangeSpec}{conds:List PathCond}{apart fresh handsOn again:Bool}{X:World->Array Value->Prop}
  (hX:∀(w w':World) (args:Array Value),w.heap=w'.heap->X w args->X w' args)
  (own:ownKnob C.prog.godebug=none) (started:os.Started) (noInit:C.prog.inits.idxOf? f=none) (hfn:C.prog.funcs[f]? = some fn)
  (witness:∃(w:World) (tape:Tape) (i:Input),w.os=os/\(w.forCall tape i).Shaped C.prog/\i.vars = []/\Input.okWide C.prog (w.forCall tape i) .any w.heap.size f i/\
   ((s.pre enc C.prog fn conds apart (w.forCall tape i).memory i.args/\X (w.forCall tape i).memory i.args)/\sizedMet enc C.prog fn (OpenSpec.ofChange s) apart (w.forCall tape i).memory i.args)/\a.holds C.prog (lone (Frame.enter C.prog f i.args .normal) [] (w.forCall tape i)))
  (uU:∀(W:World) (base:Nat) (args:Array Value) (ds gs:List (DataW H)) (a0:List MemPlace),
   (∀(j:Nat) t v,fn.params[j]? = some t->args[j]? = some v->Value.okWide C.prog W .any base t v)->
   DataW.Whole enc C.prog fn.params.toList s.vars apart W args.toList ds gs a0->
   X W args->W.ShapedOpen C.prog->
   Calls C.prog f args W fun e W'=> ∃v,e=.returned v/\s.post enc C.prog fn apart fresh handsOn again W args v W'):
  ReturnsInHanded a C os f .any (fun w args=>(s.pre enc C.prog fn conds apart w args/\X w args)/\sizedMet enc C.prog fn (OpenSpec.ofChange s) apart w args) (s.post enc C.prog fn apart fresh handsOn again):=by
 refine returnsInHanded_of_calls own started noInit witness ?_;intro w tape i _ a4 _ a6 a3 _;obtain⟨_,_,_,a5,a1,_,_,_,_,a2⟩:=a6;obtain rfl:a5=fn:=U6 (a1.symm.trans hfn);obtain⟨⟨⟨ds,gs,a0,hw,_⟩,hx⟩,_⟩:=a3;have a7:=DataW.Whole.of_heap (w':=w.forCall tape i) (by rfl) hw;refine (uU (w.forCall tape i) w.heap.size i.args ds gs a0 a2 a7 (hX _ _ _ (by rfl) hx) a4).mono fun e W' ⟨v,he,hp⟩=>?_;subst he;exact ChangeSpec.post_blind hp
end Go.Proofs.YthjlcjdlelkkdaaGreatDoor
namespace Go.Proofs.YthjlcjdlelkkdaaGreatDoor
open Go.ChangeShapes Go.WideShapes Go.ChangeAt Go.RowKit Go.Joins
theorem yM:Tryz.prog.cellsOf 98=14:=by kernel_rfl
theorem aGo:Tryz.prog.cellsOf 93=1:=by kernel_rfl
theorem uO:Tryz.prog.cellsOf 22=1:=by kernel_rfl
theorem aGp:Tryz.prog.cellsOf 24=1:=by kernel_rfl
theorem rX{a:Addr}(h:a.spot=none):a=⟨a.block,a.off,none⟩:=by cases a;simp at h;subst h;rfl
theorem aVo{α:Type}{cs:List α}(h:cs.length=14):∃c0 c1 c2 c3 c4 c5 c6 c7 c8 c9 c10 c11 c12 c13,cs = [c0,c1,c2,c3,c4,c5,c6,c7,c8,c9,c10,c11,c12,c13]:=by
 match cs,h with
 | [c0,c1,c2,c3,c4,c5,c6,c7,c8,c9,c10,c11,c12,c13],_=>exact⟨c0,c1,c2,c3,c4,c5,c6,c7,c8,c9,c10,c11,c12,c13,rfl⟩
section
variable {H:Type} {enc:TypeId × Value->H} {w:World} {base:Nat} {sp:Nat->Bool} {held:Bool}
theorem tU{α:Type}{P:Nat->α->Prop}:∀(n:Nat),(∀i,i<n->∃x,P i x)->∃l:List α,l.length=n/\∀(i:Nat) (h:i<l.length),P i l[i]
 | 0,_=>⟨[],rfl,fun i h=>absurd h (Q5 _)⟩
 | n+1,h=>by
  obtain⟨l,hl,hp⟩:=tU n (fun i hi=>h i (by omega));obtain⟨x,hx⟩:=h n (by omega);refine⟨l++[x],by simp[hl],fun i hi=>?_⟩;by_cases hlt:i<l.length
  ·rw[List.getElem_append_left hlt];exact hp i hlt
  ·have:i=l.length:=by simp at hi;omega
   subst this;rw[List.getElem_append_right (Y1 _)];simp only[Nat.sub_self,List.getElem_cons_zero];rw[hl];exact hx
theorem aOf{fuel:Nat}{cs:List Value}{x:DataW H × List MemPlace}(h:DataW.trod enc Tryz.prog w base sp held fuel 93 cs=some x):∃(fs:List ByteArray) (v:Value),cs = [v]/\cU (fun b=>b<w.heap.size) w fs v:=by
 rcases DataW.trod_slice Tryz.underlying93 h with ⟨rfl,-⟩ | ⟨ad,len,cap,elems,rest,mm,hmm,rfl,-,-,hlc,hcm,hle,hcell,-,-⟩
 ·exact⟨[],_,rfl,Or.inl ⟨rfl,none,0,rfl⟩⟩
 ·have one:∀i,i<len->∃y:ByteArray,ad.block<w.heap.size/\w.cell? (ad.add i)=some (.string y):=by
   intro i hi;have a4:=hcell i hi;rw[aGm,Nat.mul_one,Q9 (by omega)] at a4;obtain⟨b1,a3,a7⟩:=Option.bind_eq_some_iff.1 a4;obtain⟨y,e0,-,-⟩:=DataW.trod_string Tryz.underlying9 a7;obtain⟨a9,b0,a6⟩:=World.cells?_some a3;have a0:=World.cells?_block a3 (by decide);rw[bW] at a0;refine⟨y,a0,?_⟩;have:=a6 0 (by decide);rw[e0] at this;simpa[Addr.add] using this
  by_cases h0:len=0
  ·subst h0;exact⟨[],_,rfl,Or.inl ⟨rfl,_,_,rfl⟩⟩
  ·obtain⟨fs,a8,a2⟩:=tU len one;have hz:=a2 0 (by omega);have a5:ad.spot=none:=by
    have:=World.cell?_spot hz.2;simpa[Addr.add] using this
   have a1:=rX a5;refine⟨fs,_,rfl,Or.inr ⟨ad.block,ad.off,cap,by rw[a8,<-a1],⟨hz.1,by omega⟩,by unfold maxLen at hcm;omega,fun j y hy=>?_⟩⟩;obtain⟨hj,rfl⟩:=R9.1 hy;have:=(a2 j hj).2;rw[a1] at this;rwa [Addr.add_mid] at this
theorem aSc{fuel:Nat}{cs:List Value}{x:DataW H × List MemPlace}(h:DataW.trod enc Tryz.prog w base sp held fuel 98 cs=some x):∃p:PK,eB (fun b=>b<w.heap.size) w p cs/\cs.length=14:=by
 obtain⟨xs,m,hm,hx,hl,a2,a0⟩:=DataW.trod_struct Tryz.underlying98 h;have a1:=hl.trans yM;obtain⟨c0,c1,c2,c3,c4,c5,c6,c7,c8,c9,a6,a3,a5,a4,rfl⟩:=aVo a1
 match xs,a2 with
 | [y0,y1,y2,y3,y4],_=>
  obtain⟨n,e0,-,-⟩:=DataW.trod_string Tryz.underlying9 (by simpa using a0 0 _ rfl);obtain⟨v,e1,-,-⟩:=DataW.trod_int Tryz.underlying3 (by simpa using a0 1 _ rfl);obtain⟨sl,e2,-,-⟩:=DataW.trod_int Tryz.underlying3 (by simpa using a0 2 _ rfl);obtain⟨fs,fv,e3,hf⟩:=aOf (show DataW.trod enc Tryz.prog w base sp held m 93 _=some y3 by simpa using a0 3 _ rfl);obtain⟨t,ht⟩:=aOc m _ _ (show DataW.trod enc Tryz.prog w base sp held m 96 _=some y4 by simpa using a0 4 _ rfl);simp[jF,aGm,aGo,pX] at e0 e1 e2 e3 ht;refine⟨⟨n,v,sl,fs,t⟩,⟨fv,[c4,c5,c6,c7,c8,c9,a6,a3,a5,a4],by rw[e0,e1,e2,e3],hf,ht⟩,rfl⟩
theorem aOe{fuel:Nat}{cs:List Value}{x:DataW H × List MemPlace}(h:DataW.trod enc Tryz.prog w base sp held fuel 22 cs=some x):∃(ps:List PK) (v:Value),cs = [v]/\aZ (fun b=>b<w.heap.size) w ps v:=by
 rcases DataW.trod_slice Tryz.underlying22 h with ⟨rfl,-⟩ | ⟨ad,len,cap,elems,rest,mm,hmm,rfl,-,-,hlc,hcm,hle,hcell,-,-⟩
 ·exact⟨[],_,rfl,Or.inl ⟨rfl,none,0,rfl⟩⟩
 ·have one:∀i,i<len->∃y:PK,ad.block<w.heap.size/\∃cs:List Value,cs.length=14/\(∀m,m<14->w.cell? ((ad.add (i*14)).add m)=cs[m]?)/\eB (fun b=>b<w.heap.size) w y cs:=by
   intro i hi;have a4:=hcell i hi;rw[yM,Q9 (by omega)] at a4;obtain⟨b4,a3,a7⟩:=Option.bind_eq_some_iff.1 a4;obtain⟨p,hp,hl⟩:=aSc a7;obtain⟨b5,b8,b3⟩:=World.cells?_some a3;have a0:=World.cells?_block a3 (by decide);rw[bW] at a0;exact⟨p,a0,b4,hl,b3,hp⟩
  by_cases h0:len=0
  ·subst h0;exact⟨[],_,rfl,Or.inl ⟨rfl,_,_,rfl⟩⟩
  ·obtain⟨ps,a6,a2⟩:=tU len one;obtain⟨hz,b6,b7,a5,-⟩:=a2 0 (by omega);have b2:ad.spot=none:=by
    have h1:=a5 0 (by decide);rw[Q9 (by omega)] at h1;have:=World.cell?_spot h1;simpa[Addr.add] using this
   have a1:=rX b2;refine⟨ps,_,rfl,Or.inr ⟨ad.block,ad.off,cap,by rw[a6,<-a1],hz,by unfold maxLen at hcm;omega,fun j hj=>?_⟩⟩;obtain⟨-,a8,b1,a9,b0⟩:=a2 j hj;refine⟨a8,fun m y hy=>?_,b0⟩;have hm:m<14:=by rw[<-b1];exact (R9.1 hy).1
   have:=a9 m hm;rw[a1,Addr.add_mid,Addr.add_mid,hy] at this;exact this
end
theorem aNc{H:Type}{enc:TypeId × Value->H}{w:World}{base b0:Nat}{sp:Nat->Bool}{held:Bool}{x:Value}{d:DataW H}{p:List MemPlace}(hv:Value.okWide Tryz.prog w .any b0 24 x)(h:DataW.Trod enc Tryz.prog w base sp held 24 x d p):
  ∃(ps:List PK) (v:Value),x=.agg #[v]/\aZ (fun b=>b<w.heap.size) w ps v:=by
 obtain⟨cs,rfl,a4⟩:=okWide_struct Tryz.underlying24 hv;obtain⟨a0,hf⟩:=h;obtain⟨xs,m,hm,hx,hl,a1,a3⟩:=DataW.trod_struct Tryz.underlying24 (show DataW.trod enc Tryz.prog w base sp held a0 24 cs.toList=some (d,p) from hf)
 match xs,a1 with
 | [y0],_=>
  obtain⟨ps,v,e,hp⟩:=aOe (show DataW.trod enc Tryz.prog w base sp held m 22 _=some y0 by simpa using a3 0 _ rfl);refine⟨ps,v,?_,hp⟩;have a2:=hl.trans aGp;simp[uO] at e;obtain⟨l⟩:=cs;simp at a2 e
  match l,a2 with
  | [c],_=>simp at e;subst e;rfl
end Go.Proofs.YthjlcjdlelkkdaaGreatDoor
namespace Go.Proofs.YthjlcjdlelkkdaaGreatDoor
open Go.ChangeShapes Go.WideShapes Go.ChangeAt Go.RowKit Go.Joins
theorem aCy:Tryz.prog.cellsOf 65=2:=by kernel_rfl
theorem aCx:Tryz.prog.cellsOf 50=1:=by kernel_rfl
theorem yN:Tryz.prog.cellsOf 99=2:=by kernel_rfl
theorem aLq:Tryz.prog.cellsOf 26=1:=by kernel_rfl
theorem aLp:Tryz.prog.cellsOf 25=1:=by kernel_rfl
theorem aGn:Tryz.prog.cellsOf 27=1:=by kernel_rfl
theorem aLr:Tryz.prog.cellsOf 28=1:=by kernel_rfl
theorem aGq:Tryz.prog.cellsOf 30=4:=by kernel_rfl
section
variable {H:Type} {enc:TypeId × Value->H} {w:World} {base:Nat} {sp:Nat->Bool} {held:Bool}
theorem oI{T e:TypeId}{k:Nat}(hT:Tryz.prog.underlying T=some (.slice e))(hk:Tryz.prog.cellsOf e=k)(hk0:0<k){α:Type}(R:α->List Value->Prop)
  (hel:∀(m:Nat) (cs:List Value) (y:DataW H × List MemPlace),DataW.trod enc Tryz.prog w base sp held m e cs=some y->∃a,R a cs/\cs.length=k)
  {fuel:Nat} {cs:List Value} {x:DataW H × List MemPlace} (h:DataW.trod enc Tryz.prog w base sp held fuel T cs=some x):
  ∃(xs:List α) (p:Option Addr) (cap:Nat),cs = [.slice p xs.length cap]/\(xs.length<=cap/\xs.length<=9223372036854775807)/\(0<xs.length->∃b off,p=some ⟨b,off,none⟩/\b<w.heap.size/\∀(j:Nat) (a:α),xs[j]? = some a->∃cs:List Value,cs.length=k/\R a cs/\∀(m:Nat) (v:Value),cs[m]? = some v->w.cell? ⟨b,off+j*k+m,none⟩=some v):=by
 rcases DataW.trod_slice hT h with ⟨rfl,-⟩ | ⟨ad,len,cap,elems,rest,mm,hmm,rfl,-,-,hlc,hcm,hle,hcell,-,-⟩
 ·exact⟨[],none,0,rfl,⟨Y1 _,Nat.zero_le _⟩,fun h=>absurd h (Nat.lt_irrefl 0)⟩
 ·have one:∀i,i<len->∃y:α,ad.block<w.heap.size/\∃cs:List Value,cs.length=k/\(∀m,m<k->w.cell? ((ad.add (i*k)).add m)=cs[m]?)/\R y cs:=by
   intro i hi;have a5:=hcell i hi;rw[hk,Q9 (by omega)] at a5;obtain⟨b4,a4,a8⟩:=Option.bind_eq_some_iff.1 a5;obtain⟨p,hp,hl⟩:=hel _ _ _ a8;obtain⟨b5,b8,b3⟩:=World.cells?_some a4;have a0:=World.cells?_block a4 hk0;rw[bW] at a0;exact⟨p,a0,b4,hl,b3,hp⟩
  obtain⟨ps,a7,a3⟩:=tU len one;refine⟨ps,some ad,cap,by rw[a7],⟨by omega,by unfold maxLen at hcm;omega⟩,fun hpos=>?_⟩;obtain⟨hz,b6,b7,a6,-⟩:=a3 0 hpos;have b2:ad.spot=none:=by
   have h1:=a6 0 hk0;rw[Q9 (by omega)] at h1;have:=World.cell?_spot h1;simpa[Addr.add] using this
  have a1:=rX b2;refine⟨ad.block,ad.off,by rw[<-a1],hz,fun j a ha=>?_⟩;obtain⟨hj,rfl⟩:=R9.1 ha;obtain⟨-,a9,a2,b0,b1⟩:=a3 j hj;refine⟨a9,a2,b1,fun m y hy=>?_⟩;have hm:m<k:=by rw[<-a2];exact (R9.1 hy).1
  have:=b0 m hm;rw[a1,Addr.add_mid,Addr.add_mid,hy] at this;exact this
theorem aIr{fuel:Nat}{cs:List Value}{x:DataW H × List MemPlace}(h:DataW.trod enc Tryz.prog w base sp held fuel 50 cs=some x):∃(bs:List Bool) (v:Value),cs = [v]/\bC (fun b=>b<w.heap.size) w bs v:=by
 obtain⟨bs,p,cap,rfl,hl,hr⟩:=oI Tryz.underlying50 pW (by decide) (fun (b:Bool) cs=>cs = [.bool b]) (fun m cs y hy=>by obtain⟨b,rfl,-⟩:=DataW.trod_bool Tryz.underlying4 hy;exact⟨b,rfl,rfl⟩) h;refine⟨bs,_,rfl,p,cap,rfl,hl.2,fun h0=>?_⟩;obtain⟨b,off,h1,h2,h3⟩:=hr h0;refine⟨b,off,h1,h2,fun j y hy=>?_⟩;obtain⟨cs,-,rfl,h4⟩:=h3 j y hy;have:=h4 0 _ rfl;rwa [Nat.mul_one,Nat.add_zero] at this
theorem aOd{fuel:Nat}{cs:List Value}{x:DataW H × List MemPlace}(h:DataW.trod enc Tryz.prog w base sp held fuel 27 cs=some x):∃(zs:List Int) (v:Value),cs = [v]/\aI (fun b=>b<w.heap.size) w zs v:=by
 obtain⟨bs,p,cap,rfl,hl,hr⟩:=oI Tryz.underlying27 jF (by decide) (fun (z:Int) cs=>cs = [.int .i64 z]) (fun m cs y hy=>by obtain⟨z,rfl,-,-⟩:=DataW.trod_int Tryz.underlying3 hy;exact⟨z,rfl,rfl⟩) h;refine⟨bs,_,rfl,p,cap,rfl,hl.2,fun h0=>?_⟩;obtain⟨b,off,h1,h2,h3⟩:=hr h0;refine⟨b,off,h1,h2,fun j y hy=>?_⟩;obtain⟨cs,-,rfl,h4⟩:=h3 j y hy;have:=h4 0 _ rfl;rwa [Nat.mul_one,Nat.add_zero] at this
theorem aSd{fuel:Nat}{cs:List Value}{x:DataW H × List MemPlace}(h:DataW.trod enc Tryz.prog w base sp held fuel 28 cs=some x):∃(zs:List (Int × Int)) (v:Value),cs = [v]/\gT (fun b=>b<w.heap.size) w zs v:=by
 obtain⟨bs,p,cap,rfl,hl,hr⟩:=oI Tryz.underlying28 yN (by decide) (fun (z:Int × Int) cs=>cs = [.int .i64 z.1,.int .i64 z.2]) (fun m cs y hy=>by
  obtain⟨xs,n,-,-,hl,a0,a1⟩:=DataW.trod_array Tryz.underlying99 hy;rw[yN] at hl
  match xs,a0,cs,hl with
  | [y0,y1],_,[c0,c1],_=>
   obtain⟨a,e0,-,-⟩:=DataW.trod_int Tryz.underlying3 (show DataW.trod enc Tryz.prog w base sp held n 3 _=some y0 by simpa using a1 0 (by decide));obtain⟨b,e1,-,-⟩:=DataW.trod_int Tryz.underlying3 (show DataW.trod enc Tryz.prog w base sp held n 3 _=some y1 by simpa using a1 1 (by decide));simp[jF] at e0 e1;exact⟨(a,b),by rw[e0,e1],rfl⟩) h
 refine⟨bs,_,rfl,p,cap,rfl,hl.2,fun h0=>?_⟩;obtain⟨b,off,h1,h2,h3⟩:=hr h0;refine⟨b,off,h1,h2,fun j y hy=>?_⟩;obtain⟨cs,-,rfl,h4⟩:=h3 j y hy;exact⟨by have:=h4 0 _ rfl;rwa [Nat.add_zero] at this,h4 1 _ rfl⟩
theorem aSb{fuel:Nat}{cs:List Value}{x:DataW H × List MemPlace}(h:DataW.trod enc Tryz.prog w base sp held fuel 26 cs=some x):∃(ms:List MB) (v:Value),cs = [v]/\cD (fun b=>b<w.heap.size) w ms v:=by
 obtain⟨ms,p,cap,rfl,hl,hr⟩:=oI Tryz.underlying26 aCy (by decide) (fun (m:MB) cs=> ∃ov,cs = [.int .i64 m.pl,ov]/\bC (fun b=>b<w.heap.size) w m.on ov) (fun m cs y hy=>by
  obtain⟨xs,n,-,-,hl,a0,a1⟩:=DataW.trod_struct Tryz.underlying65 hy;rw[aCy] at hl
  match xs,a0,cs,hl with
  | [y0,y1],_,[c0,c1],_=>
   obtain⟨a,e0,-,-⟩:=DataW.trod_int Tryz.underlying3 (show DataW.trod enc Tryz.prog w base sp held n 3 _=some y0 by simpa using a1 0 _ rfl);obtain⟨bs,v,e1,hb⟩:=aIr (show DataW.trod enc Tryz.prog w base sp held n 50 _=some y1 by simpa using a1 1 _ rfl);simp[jF,aCx] at e0 e1;exact⟨⟨a,bs⟩,⟨v,by rw[e0,e1],hb⟩,rfl⟩) h
 refine⟨ms,_,rfl,p,cap,rfl,hl,fun h0=>?_⟩;obtain⟨b,off,h1,h2,h3⟩:=hr h0;refine⟨b,off,h1,h2,fun j y hy=>?_⟩;obtain⟨cs,-,⟨ov,rfl,hb⟩,h4⟩:=h3 j y hy;exact⟨ov,by have:=h4 0 _ rfl;rwa [Nat.add_zero] at this,h4 1 _ rfl,hb⟩
theorem aSa{fuel:Nat}{cs:List Value}{x:DataW H × List MemPlace}(h:DataW.trod enc Tryz.prog w base sp held fuel 25 cs=some x):∃(ts:List At) (v:Value),cs = [v]/\kK (fun b=>b<w.heap.size) w ts v:=by
 obtain⟨ts,p,cap,rfl,hl,hr⟩:=oI Tryz.underlying25 pV (by decide) (fun (a:At) cs=>cs = [.string a.n,.int .i64 a.op,.int .i64 a.v,.int .i64 a.sl,.string a.f,.bool a.on]) (fun m cs y hy=>by
  obtain⟨a,e⟩:=zY hy;exact⟨a,e,by rw[e];rfl⟩) h
 refine⟨ts,_,rfl,p,cap,rfl,hl.2,fun h0=>?_⟩;obtain⟨b,off,h1,h2,h3⟩:=hr h0;refine⟨b,off,h1,h2,fun j y hy=>?_⟩;obtain⟨cs,-,rfl,h4⟩:=h3 j y hy;exact⟨by have:=h4 0 _ rfl;rwa [Nat.add_zero] at this,h4 1 _ rfl,h4 2 _ rfl,h4 3 _ rfl,h4 4 _ rfl,h4 5 _ rfl⟩
end
theorem aNd{H:Type}{enc:TypeId × Value->H}{w:World}{base b0:Nat}{sp:Nat->Bool}{held:Bool}{x:Value}{d:DataW H}{p:List MemPlace}(hv:Value.okWide Tryz.prog w .any b0 30 x)(h:DataW.Trod enc Tryz.prog w base sp held 30 x d p):
  ∃(wi:WI) (tsv inv mav onv:Value),x=.agg #[tsv,inv,mav,onv]/\dA (fun b=>b<w.heap.size) w wi tsv inv mav onv:=by
 obtain⟨cs,rfl,a4⟩:=okWide_struct Tryz.underlying30 hv;obtain⟨a1,hf⟩:=h;obtain⟨xs,m,hm,hx,hl,a2,a0⟩:=DataW.trod_struct Tryz.underlying30 (show DataW.trod enc Tryz.prog w base sp held a1 30 cs.toList=some (d,p) from hf);have a3:=hl.trans aGq;obtain⟨l⟩:=cs;simp only at a3 a0
 match xs,a2,l,a3 with
 | [y0,y1,y2,y3],_,[c0,c1,c2,c3],_=>
  obtain⟨ts,v0,e0,h0⟩:=aSa (show DataW.trod enc Tryz.prog w base sp held m 25 _=some y0 by simpa using a0 0 _ rfl);obtain⟨ins,v1,e1,h1⟩:=aSb (show DataW.trod enc Tryz.prog w base sp held m 26 _=some y1 by simpa using a0 1 _ rfl);obtain⟨ma,v2,e2,h2⟩:=aOd (show DataW.trod enc Tryz.prog w base sp held m 27 _=some y2 by simpa using a0 2 _ rfl);obtain⟨on,v3,e3,h3⟩:=aSd (show DataW.trod enc Tryz.prog w base sp held m 28 _=some y3 by simpa using a0 3 _ rfl);simp[aLp,aLq,aGn,aLr] at e0 e1 e2 e3;exact⟨⟨ts,ins,ma,on⟩,v0,v1,v2,v3,by rw[e0,e1,e2,e3],⟨h0,h1,h2,h3⟩⟩
end Go.Proofs.YthjlcjdlelkkdaaGreatDoor
namespace Go.Proofs.YthjlcjdlelkkdaaGreatDoor
open Go.RowKit
theorem aRa{H:Type}{enc:TypeId × Value->H}{w:World}{base:Nat}{sp:Nat->Bool}{held:Bool}{v:Value}{d:DataW H}{p:List MemPlace}(h:DataW.Trod enc Tryz.prog w base sp held 24 (.agg #[v]) d p):lM v:=by
 obtain⟨a0,hf⟩:=h;obtain⟨xs,m,hm,hx,hl,a1,a2⟩:=DataW.trod_struct Tryz.underlying24 (show DataW.trod enc Tryz.prog w base sp held a0 24 [v]=some (d,p) from hf)
 match xs,a1 with
 | [y0],_=>
  have h0:DataW.trod enc Tryz.prog w base sp held m 22 [v]=some y0:=by
   have:=a2 0 _ rfl;simpa[uO] using this
  rcases DataW.trod_slice Tryz.underlying22 h0 with ⟨e,-⟩ | ⟨ad,len,cap,elems,rest,mm,hmm,e,-,-,hlc,-⟩
  ·cases e;exact jE
  ·cases e;intro p n c e;cases e;exact hlc
end Go.Proofs.YthjlcjdlelkkdaaGreatDoor
