/- Steps of the proof. -/
import Derived.Test.YthjlcjdlelkkdaaGreatDoorRs17
import Derived.Laws.Shifts
import Derived.Laws.BitsLemmas
set_option maxHeartbeats 16000000
set_option maxRecDepth 100000
namespace Go.Proofs.YthjlcjdlelkkdaaGreatDoor
section
open Go.RowKit Go.Sort
def lD(ps:List PK)(ms:List MB)(k:Int)(a:At):Nat->Nat
 | 0=>0
 | n+1=>lD ps ms k a n+(if (!decide ((n:Int)=k)&&isB (cH ps (ms.getD n MB.zero)) (ms.getD n MB.zero) a)=true then 1 else 0)
theorem aJn(ps:List PK)(ms:List MB)(k:Int)(a:At):∀n,lD ps ms k a n<=n
 | 0=>Y1 0
 | n+1=>by have:=aJn ps ms k a n;rw[lD];split<;>omega
theorem yP(ps:List PK)(ms:List MB)(k:Int)(a:At):∀n,decide (0<lD ps ms k a n)=oG ps ms k a n
 | 0=>by simp[lD,oG]
 | n+1=>by
  rw[lD,oG,<-yP ps ms k a n];cases (!decide ((n:Int)=k)&&isB (cH ps (ms.getD n MB.zero)) (ms.getD n MB.zero) a)
  ·simp
  ·simp
theorem aJo(ps:List PK)(ms:List MB)(k:Int)(a:At):decide ((0:Int)<((lD ps ms k a ms.length:Nat):Int))=gR ps ms k a:=by
 unfold gR;rw[<-yP];exact decide_eq_decide.2 (by omega)
theorem aPj(ps:List PK)(ms:List MB)(k:Int)(a:At):(((lD ps ms k a ms.length:Nat):Int)==0) = !gR ps ms k a:=by
 rw[<-aJo];by_cases h:lD ps ms k a ms.length=0
 ·rw[h];rfl
 ·have h1:(0:Int)<((lD ps ms k a ms.length:Nat):Int):=by omega
  rw[Y7 h1];simp[h]
theorem aLv(g:NT->Bool)(l:List NT):decide ((0:Int)<((l.countP g:Nat):Int))=l.any g:=by
 cases h:l.any g
 ·have h0:¬0<l.countP g:=fun h1=>by
   obtain⟨a,ha,hg⟩:=List.countP_pos_iff.1 h1;rw[List.any_eq_false] at h;exact h a ha hg
  exact Y8 (by omega)
 ·rw[List.any_eq_true] at h;have:=List.countP_pos_iff.2 h;exact Y7 (by omega)
theorem aLu(g:NT->Bool)(l:List NT):(((l.countP g:Nat):Int)==(l.length:Int)) = !l.any (fun t=> !g t):=by
 cases h:l.any (fun t=> !g t)
 ·have h1:l.countP g=l.length:=List.countP_eq_length.2 fun a ha=>by
   rw[List.any_eq_false] at h;have:=h a ha;simpa using this
  simp[h1]
 ·have h1:¬l.countP g=l.length:=fun e=>by
   rw[List.any_eq_true] at h;obtain⟨a,ha,hg⟩:=h;have:=List.countP_eq_length.1 e a ha;rw[this] at hg;cases hg
  have h2:¬((l.countP g:Nat):Int)=(l.length:Int):=by omega
  simp[h2]
theorem aGv(g:NT->Bool)(l:List NT)(j:Nat)(h:j<l.length):(l.take (j+1)).countP g=(l.take j).countP g+(if g l[j]=true then 1 else 0):=by
 rw[U4 h,List.countP_append,List.countP_singleton]
theorem uZ{fs:List ByteArray}{x:ByteArray}(h:aN fs x<fs.length):fs[aN fs x]=x:=
 of_decide_eq_true (List.findIdx_getElem (p:=fun f=>decide (f=x)) (w:=h))
theorem aHg{fs:List ByteArray}{x:ByteArray}{j:Nat}(hj:j<fs.length)(e:fs[j]=x):aN fs x<=j:=
 Nat.le_of_not_lt fun h=>by
  have:=List.not_of_lt_findIdx h;simp[e] at this
theorem aMc{fs:List ByteArray}(h:cJ fs=0){x:ByteArray}{j:Nat}(hj:j<fs.length)(e:fs[j]=x):aN fs x=j:=by
 have h2:=(gZ h).1;have a2:=aHg hj e;rcases Nat.lt_or_ge (aN fs x) j with hlt | hge
 ·exfalso;have hl:aN fs x<fs.length:=by omega
  have e0:=uZ hl;have h0:aN fs x=0:=by omega
  have h1:j=1:=by omega
  subst h1;have e1:fs[0]'(by omega)=x:=by rw[<-e0];simp[h0]
  have hz:aM (flE fs) 0 fs.length=0:=by
   have:=h;unfold cJ at this;rwa [if_neg (by omega)] at this
  have a1:fs.length=2:=by omega
  rw[a1] at hz;have a0:flE fs 1=0:=by
   rw[aM,aM,aM] at hz;split at hz
   ·split at hz
    ·assumption
    ·rename_i h3;exact absurd hz h3
   ·rename_i h3;exact absurd hz h3
  unfold flE at a0;have g1:fs.getD 1 ⟨#[]⟩=x:=by rw[R0,Q9 hj,Q7,e]
  have g0:fs.getD 0 ⟨#[]⟩=x:=by rw[R0,Q9 (by omega),Q7,e1]
  have hs:leS x x=true:=by unfold leS;simp
  rw[g1,show (1:Nat)-1=0 from rfl,g0,hs] at a0;split at a0
  ·cases a0
  ·rw[if_pos ⟨by omega,rfl⟩] at a0;cases a0
 ·omega
theorem aUl{W:World}{n:Nat}(h:W.heap.size=n)(v:Value)(T:TypeId):aE n T v (W.alloc (.cells #[v] T)):=h ▸ aE.new W T v
theorem aGy(args:Array Value)(w:World):(callFunc 93 args).run Tryz.prog w=.ok (.enter 93 args) w:=enters_of Tryz.func93 (by kernel_rfl) rfl args w
theorem aQl(S:Nat->Prop)(ps:List PK)(ms:List MB)(tp lp:Option Addr)(tc lc ct cl:Nat)(but:Int)(an af:ByteArray)(aop av asl:Int)(aon:Bool)(w:World)(hS:∀b,S b->b<w.heap.size)(hp:aZ S w ps (.slice tp ps.length tc))(hct:cA ps=0)(hm:cD S w ms (.slice lp ms.length lc))(hok:yI ps ms)
  (ht:aE ct 24 (.slice tp ps.length tc) w) (hl:aE cl 26 (.slice lp ms.length lc) w):
  Calls Tryz.prog 93 #[.agg #[.string an,.int .i64 aop,.int .i64 av,.int .i64 asl,.string af,.bool aon],.int .i64 but,.pointer (some ⟨cl,0,none⟩),.pointer (some ⟨ct,0,none⟩)] w fun e w'=>e=.returned (.int .i64 ((lD ps ms but ⟨an,aop,av,asl,af,aon⟩ ms.length:Nat):Int))/\aA w w':=by
 have HP:=hid hp;have c5:=hid hm;have HT:=hid ht;have HL:=hid hl;have c8:=hid hok;have d3:=hid hct;obtain⟨-,-,-,b3⟩:=hm.len;clear hp hm ht hl hok hct;go_enter Tryz.func93,Tryz.ntmps93;go_upto_region 1 with fail;refine bE (fun W'=>aA w W'/\aL w.heap.size #[.string an,.int .i64 aop,.int .i64 av,.int .i64 asl,.string af,.bool aon] W') ⟨aA.alloc _ _,aL.new _ _ _⟩ ?_;rintro W0 ⟨k0,b0⟩;have K0:=hid k0;have B0:=hid b0;obtain⟨c1,-,c2⟩:=(HL.out.keep k0 HL.out.facts.2.2).facts;clear k0 b0;go_wp2_with fail;clear c1 c2;go_loopg [12,7] ms.length (fun gk i c wr=> ∃(j:Nat),j+gk=ms.length/\i=.int .i64 j/\c=.int .i64 ((lD ps ms but ⟨an,aop,av,asl,af,aon⟩ j:Nat):Int)/\aA w wr/\aL w.heap.size #[.string an,.int .i64 aop,.int .i64 av,.int .i64 asl,.string af,.bool aon] wr);case atStart=>exact⟨0,by simp,rfl,rfl,K0.out,B0.out⟩
 case round=>
  obtain⟨j,hj,rfl,rfl,b4,b7⟩:=hrel;have HK:=hid b4;have HB:=hid b7;clear b4 b7 K0 B0;by_cases hlt:j<ms.length
  ·have a5:∀b,S b->b<wr.heap.size:=fun b hb=>R8 (hS b hb) HK.out.size;obtain⟨mb,c6,c4,c7,c3,-,a2⟩:=(c5.out.keep hS HK.out).get hlt;cases c7;obtain⟨op,oc,a4,b2,b5,b6⟩:=a2 j _ (Q9 hlt);obtain⟨h0,h1,h2⟩:=c8.out j _ (Q9 hlt);have HC:=hid (aJn ps ms but ⟨an,aop,av,asl,af,aon⟩ j);have a0:Hid (lD ps ms but ⟨an,aop,av,asl,af,aon⟩ (j+1)=lD ps ms but ⟨an,aop,av,asl,af,aon⟩ j+(if (!decide ((j:Int)=but)&&isB (cH ps ms[j]) ms[j] ⟨an,aop,av,asl,af,aon⟩)=true then 1 else 0)):=by
    show _=_;rw[lD,gJ ms j hlt]
   have a1:Hid (∀W,aA wr W->Calls Tryz.prog 52 #[.agg #[.slice tp ps.length tc],.agg #[.int .i64 ms[j].pl,.slice op ms[j].on.length oc],.agg #[.string an,.int .i64 aop,.int .i64 av,.int .i64 asl,.string af,.bool aon]] W fun e w'=>e=.returned (.bool (isB (cH ps ms[j]) ms[j] ⟨an,aop,av,asl,af,aon⟩))/\aA W w'):=fun W kW=>
    zO S ps ms[j] op oc _ an af aop av asl aon W (fun b hb=>R8 (a5 b hb) kW.size) (HP.out.keep hS (HK.out.trans kW)) d3.out (b6.keep a5 kW) h0 h1 h2 b5
   generalize isB (cH ps ms[j]) ms[j] ⟨an,aop,av,asl,af,aon⟩=β at a0 a1;generalize ms[j].pl=pl at a4 a1;generalize ms[j].on.length=ol at b2 a1 b5;generalize b8:lD ps ms but ⟨an,aop,av,asl,af,aon⟩ j=c at a0 HC |-
   have d5:=hid b8;have d4:=HC.out;have d0:=a5 mb c3;clear a2 b6 h0 h1 h2 b8;by_cases hb:(j:Int)=but
   ·have a3:Hid (lD ps ms but ⟨an,aop,av,asl,af,aon⟩ (j+1)=c):=by show _=_;rw[a0.out,Y7 hb];rfl
    have b9:((j:Int)==but)=true:=by simp[hb]
    have c9:((j:Int) != but)=false:=by simp[hb]
    clear a0 a1 hb;go_upto_region 5 with fail;refine bE (fun W'=>aA wr W') (aA.alloc _ _) ?_;intro W1 k1;have K1:=hid (HK.out.trans k1);have B1:=hid (HB.out.keep k1 HB.out.1);clear a4 b2 k1;go_wp2_with fail;go_roundg (ms.length-(j+1));case rel=>exact⟨j+1,by omega,by go_num,by rw[a3.out],K1.out,B1.out⟩
    case measure=>omega
   ·have a3:Hid (lD ps ms but ⟨an,aop,av,asl,af,aon⟩ (j+1)=c+if β=true then 1 else 0):=by show _=_;rw[a0.out,Y8 hb];rfl
    have b9:((j:Int)==but)=false:=by simp[hb]
    have c9:((j:Int) != but)=true:=by simp[hb]
    clear a0 hb;go_upto_region 5 with fail;refine bE (fun W'=>aA wr W'/\aL wr.heap.size #[.int .i64 pl,.slice op ol oc] W') ⟨aA.alloc _ _,aL.new _ _ _⟩ ?_;rintro W1 ⟨k1,b1⟩;have d2:=hid k1;have K1:=hid (HK.out.trans k1);have B1:=hid (HB.out.keep k1 HB.out.1);have a9:=b1.2;have a6:=b1.1;have a7:=B1.out.2;have a8:=B1.out.1;obtain⟨c0,-,d1⟩:=(HT.out.keep K1.out HT.out.facts.2.2).facts;clear a4 b2 k1 b1;go_wp2_with fail;refine (a1.out W1 d2.out).mono ?_;rintro e w2 ⟨rfl,k2⟩;have K2:=hid (K1.out.trans k2);have B2:=hid (B1.out.keep k2 B1.out.1);clear k2 a9 a6 a7 a8 c0 d1 a1;cases β
    ·go_wp2_with fail;go_roundg (ms.length-(j+1));case rel=>exact⟨j+1,by omega,by go_num,by rw[a3.out];rfl,K2.out,B2.out⟩
     case measure=>omega
    ·go_wp2_with fail;go_roundg (ms.length-(j+1));case rel=>exact⟨j+1,by omega,by go_num,by rw[a3.out];go_num,K2.out,B2.out⟩
     case measure=>omega
  ·obtain rfl:j=ms.length:=by omega
   go_wp2_with fail;go_ret;exact⟨rfl,HK.out⟩
theorem aBj{S:Nat->Prop}{ps:List PK}{ms:List MB}{k:Nat}{tp lp:Option Addr}{tc lc:Nat}(hk:k<ms.length)(hok:yI ps ms)(hct:cA ps=0):
  ∀(m:Nat) (t:NT),t.size<=m->(∀f∈t.flags,aN (cH ps ms[k]).fl f<(cH ps ms[k]).fl.length)->∀(cs:List Value) (w:World),(∀b,S b->b<w.heap.size)->aZ S w ps (.slice tp ps.length tc)->cD S w ms (.slice lp ms.length lc)->aH S w t cs->
  Calls Tryz.prog 55 #[.agg #[.slice tp ps.length tc],.slice lp ms.length lc,.int .i64 k,.agg cs.toArray] w fun e w'=>e=.returned (.bool (bU ps ms k t))/\aA w w':=by
 intro m
 induction m with
 | zero=>
  rintro⟨kd,a,fl,nt,kids⟩ hm;rw[NT.size] at hm;omega
 | succ m ih=>
  rintro⟨kd,a,fl,nt,kids⟩ hm g2 cs w hS hp f0 hn;rw[NT.size] at hm;rw[aH] at hn;obtain⟨kp,kc,rfl,i2,j5,b3⟩:=hn;have HK:=hid b3;have HP:=hid hp;have g7:=hid f0;obtain⟨-,-,-,g6⟩:=f0.len;have h7:Hid (∀(j:Nat) (h:j<kids.length) (cs:List Value) (W:World),aA w W->aH S W kids[j] cs->Calls Tryz.prog 55 #[.agg #[.slice tp ps.length tc],.slice lp ms.length lc,.int .i64 k,.agg cs.toArray] W fun e w'=>e=.returned (.bool (bU ps ms k kids[j]))/\aA W w'):=fun j h cs W kw g0=>
   ih kids[j] (by have:=fA kids j h;omega) (fun f hf=>g2 f (aMl kd a fl nt kids j h f hf)) cs W (fun b hb=>R8 (hS b hb) kw.size) (hp.keep hS kw) (f0.keep hS kw) g0
  have g3:Hid (kd=5->aN (cH ps ms[k]).fl fl<(cH ps ms[k]).fl.length):=fun h5=>g2 fl (by rw[NT.flags,if_pos h5];simp);have m2:∀(fn:Fn) (first cap:Array Value) (w:World),(Instr.makeFunc fn first cap).run Tryz.prog w=.ok (.func fn first cap) w:=fun _ _ _ _=>rfl;have k9:=aGy;clear ih b3 hp f0 g2;go_enter Tryz.func55,Tryz.ntmps55;go_upto_region 1 with fail;refine bE (fun W'=>aA w W'/\aE w.heap.size 24 (.slice tp ps.length tc) W'/\aE (w.heap.size+1) 26 (.slice lp ms.length lc) W'/\aL (w.heap.size+1+1) #[.int .i64 kd,.string a.n,.int .i64 a.op,.int .i64 a.v,.int .i64 a.sl,.string a.f,.bool a.on,.string fl,.bool nt,.slice kp kids.length kc] W')
   ⟨((aA.alloc _ _).alloc' _).alloc' _,(aE.new _ _ _).keep ((aA.alloc _ _).alloc' _) (by simp),(aUl (by simp) _ _).keep (aA.alloc _ _) (by simp),oP (by simp) _ _⟩ ?_
  rintro W0 ⟨k0,v0,l0,b0⟩;generalize w.heap.size+1+1=cn at b0 |-
  generalize w.heap.size+1=cl at l0 |-
  generalize d8:w.heap.size=ct at v0 |-
  rw[<-d8] at v0;have K0:=hid k0;have V0:=hid v0;have L0:=hid l0;have B0:=hid b0;have l3:=b0.2;have a8:=b0.1;clear k0 v0 l0 b0;subst d8;go_wp2_with fail;clear l3 a8;go_loopg [19,10] kids.length (fun gk i g wr=> ∃j:Nat,j+gk=kids.length/\i=.int .i64 j/\g=.int .i64 (((kids.take j).countP (bU ps ms k):Nat):Int)/\aA w wr/\aE w.heap.size 24 (.slice tp ps.length tc) wr/\aE cl 26 (.slice lp ms.length lc) wr/\aL cn #[.int .i64 kd,.string a.n,.int .i64 a.op,.int .i64 a.v,.int .i64 a.sl,.string a.f,.bool a.on,.string fl,.bool nt,.slice kp kids.length kc] wr);case atStart=>exact⟨0,by simp,rfl,by simp,K0.out,V0.out,L0.out,B0.out⟩
  case round=>
   obtain⟨j,hj,rfl,rfl,a7,g9,i1,h6⟩:=hrel;have a2:=hid a7;have HV:=hid g9;have HL:=hid i1;have HB:=hid h6;clear a7 g9 i1 h6 K0 V0 L0 B0;by_cases hlt:j<kids.length
   ·obtain⟨p,cs,hp,m3,a1,a4⟩:=dQ (bJ.mono (bQ hS a2.out) (fun _ h=>h) kids kp 0 HK.out) j hlt;have a6:∀b,S b->b<wr.heap.size:=fun b hb=>R8 (hS b hb) a2.out.size;have a5:Hid (∀W,aA wr W->Calls Tryz.prog 55 #[.agg #[.slice tp ps.length tc],.slice lp ms.length lc,.int .i64 k,.agg cs.toArray] W fun e w'=>e=.returned (.bool (bU ps ms k kids[j]))/\aA W w'):=fun W kW=>h7.out j hlt cs W (a2.out.trans kW) (a4.keep a6 kW);have e6:=hid (aGv (bU ps ms k) kids j hlt);have f1:(kids.take j).countP (bU ps ms k)<=j:=U2 List.countP_le_length (by simp;omega);subst hp;rw[Z6] at a1;generalize bU ps ms k kids[j]=β at a5 e6;generalize j2:(kids.take j).countP (bU ps ms k)=c at e6 f1 |-
    cases hkid:kids[j] with
    | node k' a' i3 j7 d5=>
    rw[hkid,aH] at a4;obtain⟨j1,j8,rfl,-,-,-⟩:=a4;obtain⟨c0,c1,c2,c3,c4,c5,c6,c7,c8,c9⟩:=iF a1;obtain⟨f3,-,g5⟩:=HV.out.facts;obtain⟨d4,-,d2⟩:=HL.out.facts;clear a1 hkid j2;go_wp2_with fail;refine bK (fun W'=>aA wr W') (aA.alloc _ _) ?_;intro W1 k1;refine (a5.out W1 k1).mono ?_;rintro e w2 ⟨rfl,k2⟩;have e0:=k1.trans k2;have K2:=hid (a2.out.trans e0);have V2:=hid (HV.out.keep e0 HV.out.facts.2.2);have L2:=hid (HL.out.keep e0 HL.out.facts.2.2);have B2:=hid (HB.out.keep e0 HB.out.1);clear k1 k2 e0 c0 c1 c2 c3 c4 c5 c6 c7 c8 c9 a5 f3 g5 d4 d2;cases β
    ·go_wp2_with fail;go_roundg (kids.length-(j+1));case rel=>exact⟨j+1,by omega,by go_num,by rw[e6.out];rfl,K2.out,V2.out,L2.out,B2.out⟩
     case measure=>omega
    ·go_wp2_with fail;go_roundg (kids.length-(j+1));case rel=>exact⟨j+1,by omega,by go_num,by rw[e6.out];go_num,K2.out,V2.out,L2.out,B2.out⟩
     case measure=>omega
   ·obtain rfl:j=kids.length:=by omega
    have f1:(kids.take kids.length).countP (bU ps ms k)<=kids.length:=U2 List.countP_le_length (by simp);rw[Z7] at f1 |-
    have b8:=hid (aLv (bU ps ms k) kids);have b9:=hid (aLu (bU ps ms k) kids);have a0:=HB.out.2;have a8:=HB.out.1;have a6:∀b,S b->b<wr.heap.size:=fun b hb=>R8 (hS b hb) a2.out.size;have a3:Hid (∀but:Int,Calls Tryz.prog 93 #[.agg #[.string a.n,.int .i64 a.op,.int .i64 a.v,.int .i64 a.sl,.string a.f,.bool a.on],.int .i64 but,.pointer (some ⟨cl,0,none⟩),.pointer (some ⟨w.heap.size,0,none⟩)] wr fun e w'=>e=.returned (.int .i64 ((lD ps ms but a ms.length:Nat):Int))/\aA wr w'):=fun but=>
     aQl S ps ms tp lp tc lc w.heap.size cl but a.n a.f a.op a.v a.sl a.on wr a6 (HP.out.keep hS a2.out) hct (g7.out.keep hS a2.out) hok HV.out HL.out
    generalize kids.countP (bU ps ms k)=G at b8 b9 f1 |-
    clear h7;by_cases h1:kd=1
    ·subst h1;have HX:Hid (bU ps ms k (.node 1 a fl nt kids)=gR ps ms (-1) a):=by show _=_;rw[bU,if_pos rfl]
     go_wp2_with fail;refine (a3.out (-1)).mono ?_;rintro e w2 ⟨rfl,k2⟩;have K2:=hid (a2.out.trans k2);have HC:=hid (aJo ps ms (-1) a);generalize ((lD ps ms (-1) a ms.length:Nat):Int)=c at HC |-
     clear k2 a0 a8;go_wp2_with fail;go_ret;exact⟨aK (by rw[HX.out,<-HC.out]),K2.out⟩
    by_cases h2:kd=2
    ·subst h2;have HX:Hid (bU ps ms k (.node 2 a fl nt kids) = !gR ps ms k a):=by show _=_;rw[bU,if_neg (by decide),if_pos rfl]
     clear h1;go_wp2_with fail;refine (a3.out k).mono ?_;rintro e w2 ⟨rfl,k2⟩;have K2:=hid (a2.out.trans k2);have HC:=hid (aPj ps ms k a);generalize ((lD ps ms k a ms.length:Nat):Int)=c at HC |-
     clear k2 a0 a8;go_wp2_with fail;go_ret;exact⟨aK (by rw[HX.out,<-HC.out]),K2.out⟩
    by_cases h4:kd=4
    ·subst h4;have HX:Hid (bU ps ms k (.node 4 a fl nt kids)=kids.any (bU ps ms k)):=by show _=_;rw[bU,if_neg (by decide),if_neg (by decide),if_pos rfl,aCo]
     clear h1 h2;go_wp2_with fail;go_ret;exact⟨aK (by rw[HX.out,<-b8.out];exact decide_eq_decide.2 (by omega)),a2.out⟩
    have b1:(kd==1)=false:=by simp[h1]
    have b2:(kd==2)=false:=by simp[h2]
    have b4:(kd==4)=false:=by simp[h4]
    by_cases h5:kd=5
    ·have d1:=hid (g3.out h5);subst h5;clear h1 h2 h4 b1 b2 b4 g3 a3 b8;have HX:Hid (bU ps ms k (.node 5 a fl nt kids)=if ((ms.getD k MB.zero).on.getD (aN (cH ps (ms.getD k MB.zero)).fl fl) false==nt)=true then true else !kids.any (fun t=> !bU ps ms k t)):=by
      show _=_;rw[bU,if_neg (by decide),if_neg (by decide),if_neg (by decide),uJ];simp only[true_and]
     rw[gJ ms k hk,<-b9.out] at HX;obtain⟨mb,b7,l6,l9,l5,-,e3⟩:=(g7.out.keep hS a2.out).get hk;cases l9;obtain⟨op,oc,g8,d3,l2,e1⟩:=e3 k _ (Q9 hk);obtain⟨i4,j9,f2⟩:=hok k _ (Q9 hk);obtain⟨q,hq⟩:∃q:Nat,ms[k].pl=q:=⟨ms[k].pl.toNat,by omega⟩;have e8:q<ps.length:=by omega
     have h3:cH ps ms[k]=ps[q]:=by unfold cH;rw[hq,Y3,fC ps q e8]
     rw[h3] at HX d1 f2;obtain⟨tb,i9,i7,j3,k7,-,a9⟩:=(HP.out.keep hS a2.out).get e8;cases j3;obtain⟨cs,h9,f4⟩:=a9 q e8;have f9:Hid (cJ ps[q].fl=0):=(eW ((cL hct).2 _ (U5 e8))).2.2.1;generalize ps[q]=pk at f4 f2 f9 HX d1;obtain⟨kk,a',i3,j7,d5,j1,fp,j8,fc,g0,e4,rfl,hf,-⟩:=f4.spelt;obtain⟨-,-,-,c3,-⟩:=dK h9;have HF:=hid hf;rw[hq] at g8;have f7:=hid e1;have g1:=hid f2;clear h9 f4 a9 g0 hf h3 hq i4 j9 e3 e1 f2;rcases pk with ⟨n',v',sl',fs,nd'⟩;simp only at e4 c3 HF f9 HX d1 g1;have d0:=a6 mb l5;have d6:=a6 tb k7;obtain⟨f3,-,g5⟩:=HV.out.facts;obtain⟨d4,-,d2⟩:=HL.out.facts;generalize ms[k].on=on at d3 l2 f7 g1 HX;go_upto_region 17 with fail;go_quiet (fail)
     have k3:aA wr (wr.drewN nq):=aA.drewN (aA.refl _) _;generalize wr.drewN nq=W3 at k3 |-
     have m1:=hid k3;have K3:=hid (a2.out.trans k3);have L3:=hid (HL.out.keep k3 HL.out.facts.2.2);have B3:=hid (HB.out.keep k3 HB.out.1);have M1:Hid (W3.cell? ⟨mb,b7+k*2+1,none⟩=some (.slice op on.length oc)):=(k3.cell (p:=⟨mb,b7+k*2+1,none⟩) d0).trans d3;have d7:mb<W3.heap.size:=R8 d0 k3.size;have l1:=hid (HF.out.keep a6 k3);have f5:=hid (f7.out.keep a6 k3);have e7:∀b,S b->b<W3.heap.size:=fun b hb=>R8 (a6 b hb) k3.size;clear k3 g8 d3 c3 f3 g5 d4 d2 a0 a8 a2 HV HL HB HF f7 a6 d6 d0;go_wp2_with fail;go_loopg [65] fs.length (fun gk i wr'=> ∃j:Nat,j+gk=fs.length/\i=.int .i64 j/\(∀i',i'<j->fs[i']? = some fl->(on.getD i' false==nt)=false)/\aA W3 wr');case atStart=>exact⟨0,by simp,rfl,fun _ h=>absurd h (Q5 _),aA.refl _⟩
     case round=>
      obtain⟨j,hj,rfl,h8,a7⟩:=hrel;have g4:=hid h8;have b6:=hid a7;have L4:=hid (L3.out.keep a7 L3.out.facts.2.2);have B4:=hid (B3.out.keep a7 B3.out.1);have d3:=(a7.cell (p:=⟨mb,b7+k*2+1,none⟩) d7).trans M1.out;have m0:mb<wr.heap.size:=R8 d7 a7.size;clear h8 a7;by_cases hlt:j<fs.length
      ·obtain⟨fb,l8,j4,l4,i5,-,i0⟩:=(l1.out.keep e7 b6.out).get hlt;cases l4;have e9:=i0 j _ (Q9 hlt);have i8:fb<wr.heap.size:=R8 (e7 fb i5) b6.out.size;have e5:Hid (fs[j]=fl->aN fs fl=j):=fun e=>aMc f9.out hlt e;have e2:Hid (fs[j]? = some fs[j]):=Q9 hlt;generalize fs[j]=x at e9 e5 e2;have a0:=B4.out.2;have a8:=B4.out.1;obtain⟨d4,-,d2⟩:=L4.out.facts;clear i0;by_cases hx:x=fl
       ·subst hx;have h0:=e5.out rfl;have k4:(x.toList==x.toList)=true:=by simp
        have j0:j<on.length:=by have:=g1.out;omega
        obtain⟨ob,k6,l7,i6,a1⟩:=(f5.out.keep e7 b6.out).cell j0;subst l7;have k8:ob<wr.heap.size:=R8 (e7 ob i6) b6.out.size;rw[h0] at HX;generalize d9:on.getD j false=γ at a1 HX;have f6:=hid d9;clear e5 h0 d9;cases hβ:(γ==nt)
        ·have f8:Hid (∀i',i'<j+1->fs[i']? = some x->(on.getD i' false==nt)=false):=fun i' hi' h'=>by
          rcases Nat.lt_or_ge i' j with h | h
          ·exact g4.out i' h h'
          ·obtain rfl:i'=j:=by omega
           rw[f6.out];exact hβ
         go_upto_region 20 with fail;clear e9;go_quiet (fail)
         have k5:aA wr (wr.drewN nq):=aA.drewN (aA.refl _) _;generalize wr.drewN nq=W5 at k5 |-
         have K5:=hid (b6.out.trans k5);clear k5 a1 d3 a0 a8 d4 d2;go_wp2_with fail;go_roundg (fs.length-(j+1));case rel=>exact⟨j+1,by omega,by go_num,f8.out,K5.out⟩
         case measure=>omega
        ·rw[hβ] at HX;go_upto_region 20 with fail;clear e9;go_quiet (fail)
         go_wp2_with fail;go_ret;exact⟨aK (by rw[HX.out];rfl),aA.drewN (K3.out.trans b6.out) _⟩
       ·have f8:Hid (∀i',i'<j+1->fs[i']? = some fl->(on.getD i' false==nt)=false):=fun i' hi' h'=>by
         rcases Nat.lt_or_ge i' j with h | h
         ·exact g4.out i' h h'
         ·obtain rfl:i'=j:=by omega
          rw[e2.out] at h';exact absurd (U6 h') hx
        have k4:(x.toList==fl.toList)=false:=by
         rw[Q6];intro e;rw[Lib.toList_data,Lib.toList_data] at e;exact hx (gY e)
        clear e5 hx;go_upto_region 20 with fail;clear e9;go_quiet (fail)
        have k5:aA wr (wr.drewN nq):=aA.drewN (aA.refl _) _;generalize wr.drewN nq=W5 at k5 |-
        have K5:=hid (b6.out.trans k5);clear k5 d3 a0 a8 d4 d2;go_wp2_with fail;go_roundg (fs.length-(j+1));case rel=>exact⟨j+1,by omega,by go_num,f8.out,K5.out⟩
        case measure=>omega
      ·obtain rfl:j=fs.length:=by omega
       have j6:Hid (bU ps ms k (.node 5 a fl nt kids)=((G:Int)==(kids.length:Int))):=by
        show _=_;rw[HX.out,g4.out (aN fs fl) d1.out (by rw[Q9 d1.out,uZ d1.out])];rfl
       have a0:=B4.out.2;have a8:=B4.out.1;go_wp2_with fail;go_ret;exact⟨aK j6.out.symm,K3.out.trans b6.out⟩
    ·have HX:Hid (bU ps ms k (.node kd a fl nt kids) = !kids.any (fun t=> !bU ps ms k t)):=by
      show _=_;rw[bU,if_neg h1,if_neg h2,if_neg h4,if_neg (fun h=>h5 h.1),uJ]
     have b5:(kd==5)=false:=by simp[h5]
     clear h1 h2 h4 h5 g3;go_wp2_with fail;go_ret;exact⟨aK (by rw[HX.out,<-b9.out]),a2.out⟩
theorem zT(ps:List PK)(ms:List MB)(a:At):∀n,n<=ms.length->oG ps ms (-1) a n=(ms.take n).any (fun m=>isB (cH ps m) m a)
 | 0,_=>by simp[oG]
 | n+1,h=>by
  rw[oG,zT ps ms a n (by omega),U4 (by omega),List.any_append,gJ ms n (by omega),Y8 (show ¬(n:Int) = -1 by omega)];simp
theorem aNs(ps:List PK)(ms:List MB)(a:At):gR ps ms (-1) a=ms.any (fun m=>isB (cH ps m) m a):=by
 unfold gR;rw[zT ps ms a ms.length (Y1 _),Z7]
def iW(p:PK):ByteArray:=p.n++⟨#[58]⟩++⟨(Lib.decDigits p.sl.toNat).toArray⟩
theorem aHw{s:ByteArray}(h:aP s.data.toList=true):s.size<=8:=by
 unfold aP at h;rw[Z8,Z8] at h;have h2:=of_decide_eq_true h.1.1;rw[Array.length_toList] at h2;exact h2
theorem wT(p:PK):(iW p).data.toList=p.n.data.toList++[58]++Lib.decDigits p.sl.toNat:=by
 unfold iW;simp[ByteArray.data_append]
theorem wU{p q:PK}(hp:1<=p.sl/\p.sl<=9)(hq:1<=q.sl/\q.sl<=9):(iW p).data.toList=(iW q).data.toList↔(p.n.data.toList=q.n.data.toList/\p.sl=q.sl):=by
 rw[wT,wT,Lib.decDigits_one (by omega),Lib.decDigits_one (by omega)];constructor
 ·intro h;have h1:=List.append_inj_left' h rfl;have h2:=List.append_inj_right' h rfl;have h3:=List.append_inj_left' h1 rfl;refine⟨h3,?_⟩;have h4:UInt8.ofNat (48+p.sl.toNat)=UInt8.ofNat (48+q.sl.toNat):=by simpa using h2
  have h5:=Q0 UInt8.toNat h4;rw[UInt8.toNat_ofNat',UInt8.toNat_ofNat'] at h5;omega
 ·rintro⟨h1,h2⟩;rw[h1,h2]
theorem aNo{ps:List PK}{ms:List MB}(hct:cA ps=0)(hok:yI ps ms){k:Nat}(hk:k<ms.length):
  decide ((iW (cH ps ms[k])).data.toList∈((ms.take k).map fun m=>iW (cH ps m)).map (·.data.toList))=gP ps ms k k:=by
 have hr:∀(j:Nat) (h:j<ms.length),1<=(cH ps ms[j]).sl/\(cH ps ms[j]).sl<=9:=fun j h=>by
  obtain⟨h0,h1,-⟩:=hok j _ (Q9 h);obtain⟨q,hq⟩:∃q:Nat,ms[j].pl=q:=⟨ms[j].pl.toNat,by omega⟩;have a3:q<ps.length:=by omega
  have a4:cH ps ms[j]=ps[q]:=by unfold cH;rw[hq,Y3,fC ps q a3]
  rw[a4];have:=(eW ((cL hct).2 _ (U5 a3))).2.1;omega
 rw[wQ ps ms k k (by omega),gJ ms k hk];cases h:(ms.take k).any (shB ps (cH ps ms[k]))
 ·refine Y8 fun hm=>?_;rw[List.any_eq_false] at h;simp only[List.map_map,List.mem_map] at hm;obtain⟨m,a1,a0⟩:=hm;obtain⟨j,hj,rfl⟩:=List.mem_iff_getElem.1 a1;have a2:j<ms.length:=by simp at hj;omega
  have e:(ms.take k)[j]=ms[j]:=by simp
  have h1:=h _ a1;rw[e] at a0 h1;have h2:=(wU (hr j a2) (hr k hk)).1 a0;refine h1 ?_;unfold shB;rw[Lib.toList_data,Lib.toList_data,h2.1,h2.2];simp
 ·refine Y7 ?_;rw[List.any_eq_true] at h;obtain⟨m,a1,a0⟩:=h;obtain⟨j,hj,rfl⟩:=List.mem_iff_getElem.1 a1;have a2:j<ms.length:=by simp at hj;omega
  have e:(ms.take k)[j]=ms[j]:=by simp
  simp only[List.map_map,List.mem_map];refine⟨_,a1,?_⟩;rw[e] at a0 |-
  unfold shB at a0;rw[Z8,Lib.toList_data,Lib.toList_data] at a0;refine (wU (hr j a2) (hr k hk)).2 ⟨?_,?_⟩
  ·simpa using a0.1
  ·simpa using a0.2
theorem yK{H:Type}(x:List UInt8)(z:DataW H):∀(fs:List ByteArray) (D:DataW H),Maps.IsMap D->(cS D fs).atKey (.string x) z=if x∈fs.map (·.data.toList) then .lit (.bool true) else D.atKey (.string x) z
 | [],D,_=>by simp[cS]
 | f :: fs,D,hD=>by
  have ih:=yK x z fs (D.put (.string f.data.toList) (.lit (.bool true))) (by cases D<;>simp_all[Maps.IsMap,DataW.put]);show (cS (D.put (.string f.data.toList) (.lit (.bool true))) fs).atKey (.string x) z=_;rw[ih,List.map_cons];by_cases hx:x∈fs.map (·.data.toList)
  ·rw[if_pos hx,if_pos (Z3 _ hx)]
  ·rw[if_neg hx];by_cases h:x=f.data.toList
   ·subst h;rw[Maps.atKey_put_same hD (by simp[WideAt.IsKeyLit]),if_pos Y9]
   ·rw[Maps.atKey_put_other (by simpa using h),if_neg (fun hm=>(Q3.1 hm).elim h hx)]
theorem kY{H:Type}{P:Program}{e:TypeId}(he:P.underlying e=some .bool){v:Value}{c:Bool}{ps:List MemPlace}(h:plainElem (H:=H) P e v=some (.lit (.bool c),ps)):v=.bool c:=by
 unfold plainElem at h;rw[he] at h;cases v with
 | bool b=>simp at h;rw[h.1]
 | _=>simp at h
theorem aNm{w:World}{g n:Nat}{fs:List ByteArray}(h:w.ownsMap (H:=Unit) Tryz.prog 9 (plainElem Tryz.prog 4) g n (cS (.map []) fs)){s:ByteArray}(hs:s.size<=maxLen):
  (Instr.lookup 116 (.map (some g)) (.string s) false).run Tryz.prog w=.ok (.bool (decide (s.data.toList∈fs.map (·.data.toList)))) w:=by
 obtain⟨v,ps,a0,hv⟩:=h.lookup qY Tryz.underlying116 (z:= .bool false) (by kernel_rfl) (plainElem_bool Tryz.underlying4 false) (WideMaps.keyOf_string_mk Tryz.underlying9 hs);rw[yK _ _ _ _ (by simp[Maps.IsMap])] at hv;rw[a0];by_cases hm:s.data.toList∈fs.map (·.data.toList)
 ·rw[if_pos hm] at hv;rw[kY Tryz.underlying4 hv,Y7 hm]
 ·rw[if_neg hm] at hv;rw[kY Tryz.underlying4 (c:=false) hv,Y8 hm]
theorem yT(args:Array Value)(w:World):(callFunc 51 args).run Tryz.prog w=.ok (.enter 51 args) w:=enters_of Tryz.func51 (by kernel_rfl) rfl args w
theorem aTl(S:Nat->Prop)(ps:List PK)(m:MB)(op:Option Addr)(oc ct ca:Nat)(tp:Option Addr)(tc:Nat)(a:At)(w:World)(hS:∀b,S b->b<w.heap.size)(hp:aZ S w ps (.slice tp ps.length tc))(hct:cA ps=0)(ht:aE ct 24 (.slice tp ps.length tc) w)
  (ha:aL ca #[.string a.n,.int .i64 a.op,.int .i64 a.v,.int .i64 a.sl,.string a.f,.bool a.on] w) (hb:bC S w m.on (.slice op m.on.length oc)) (h0:0<=m.pl) (h1:m.pl<ps.length) (hon:m.on.length=(cH ps m).fl.length) (hom:m.on.length<=9223372036854775807):
  Calls Tryz.prog 51 #[.agg #[.int .i64 m.pl,.slice op m.on.length oc],.pointer (some ⟨ct,0,none⟩),.pointer (some ⟨ca,0,none⟩)] w fun e w'=>e=.returned (.bool (isB (cH ps m) m a))/\aA w w':=by
 have a0:Hid (∀W,aA w W->Calls Tryz.prog 52 #[.agg #[.slice tp ps.length tc],.agg #[.int .i64 m.pl,.slice op m.on.length oc],.agg #[.string a.n,.int .i64 a.op,.int .i64 a.v,.int .i64 a.sl,.string a.f,.bool a.on]] W fun e w'=>e=.returned (.bool (isB (cH ps m) m a))/\aA W w'):=fun W kW=>
  zO S ps m op oc _ a.n a.f a.op a.v a.sl a.on W (fun b hb=>R8 (hS b hb) kW.size) (hp.keep hS kW) hct (hb.keep hS kW) h0 h1 hon hom
 generalize isB (cH ps m) m a=β at a0 |-
 generalize m.pl=pl at a0 |-
 generalize m.on.length=ol at a0 hom |-
 have HT:=hid ht;have HA:=hid ha;clear hp hb ht ha h0 h1 hon;go_enter Tryz.func51,Tryz.ntmps51;go_upto_region 1 with fail;refine bE (fun W'=>aA w W'/\aL w.heap.size #[.int .i64 pl,.slice op ol oc] W') ⟨aA.alloc _ _,aL.new _ _ _⟩ ?_;rintro W1 ⟨k1,b1⟩;have K1:=hid k1;have a1:=b1.2;have a2:=b1.1;have a6:=(HA.out.keep k1 HA.out.1).2;have a5:=(HA.out.keep k1 HA.out.1).1;obtain⟨a3,-,a4⟩:=(HT.out.keep k1 HT.out.facts.2.2).facts;clear k1 b1;go_wp2_with fail;refine (a0.out W1 K1.out).mono ?_;rintro e w2 ⟨rfl,k2⟩;have K2:=hid (K1.out.trans k2);clear k2 a1 a2 a6 a5 a3 a4;go_wp2_with fail;go_ret;exact⟨rfl,K2.out⟩
theorem aBk(S:Nat->Prop)(ps:List PK)(wi:WI)(ms:List MB)(tv tsv inv mav onv lv:Value)(w:World)(hS:∀b,S b->b<w.heap.size)(hp:aZ S w ps tv)(hct:cA ps=0)(h:dA S w wi tsv inv mav onv)(hm:cD S w ms lv)(hok:yI ps ms):
  Calls Tryz.prog 22 #[.agg #[tv],.agg #[tsv,inv,mav,onv],lv] w fun e w'=>e=.returned (.bool (dR ps wi ms))/\aA w w':=by
 have HP:=hid hp;have HW:=hid h;have f8:=hid hm;have f4:=hid hok;have f6:=hid hct;obtain⟨tp,tc,rfl,j0⟩:=hp.len;obtain⟨p0,c0,rfl,n3⟩:=h.ts.len;obtain⟨p1,c1,rfl,n2⟩:=h.ins.len;obtain⟨p2,c2,rfl,n8⟩:=h.ma.len;obtain⟨p3,c3,rfl,o0⟩:=h.on.len;obtain⟨lp,lc,rfl,c5⟩:=hm.len;have HR:Hid (dR ps wi ms=(zW ps ms wi.ts&&qJ ps wi.ma ms ms.length)):=rfl;have n7:∀(fn:Fn) (first cap:Array Value) (w:World),(Instr.makeFunc fn first cap).run Tryz.prog w=.ok (.func fn first cap) w:=fun _ _ _ _=>rfl;have m1:=yT;have n4:= @run_makeMap Tryz.prog;have l5:Hid (ms.length<=maxLen):=c5;clear hp h hm hct hok;go_enter Tryz.func22,Tryz.ntmps22;go_upto_region 1 with fail;refine bE (fun W'=>aA w W'/\aE w.heap.size 24 (.slice tp ps.length tc) W'/\aL (w.heap.size+1) #[.slice p0 wi.ts.length c0,.slice p1 wi.ins.length c1,.slice p2 wi.ma.length c2,.slice p3 wi.on.length c3] W') ⟨(aA.alloc _ _).alloc' _,(aE.new _ _ _).keep (aA.alloc _ _) (by simp),oP (by simp) _ _⟩ ?_;rintro W0 ⟨k0,v0,b0⟩;have K0:=hid k0;have V0:=hid v0;have B0:=hid b0;have m8:=b0.2;have m9:=b0.1;clear k0 v0 b0;go_wp2_with fail;clear m8 m9;go_loopg [17] wi.ts.length (fun gk i wr=> ∃j:Nat,j+gk=wi.ts.length/\i=.int .i64 j/\(wi.ts.take j).all (fun a=>gR ps ms (-1) a)=true/\aA w wr/\aE w.heap.size 24 (.slice tp ps.length tc) wr/\aL (w.heap.size+1) #[.slice p0 wi.ts.length c0,.slice p1 wi.ins.length c1,.slice p2 wi.ma.length c2,.slice p3 wi.on.length c3] wr);case atStart=>exact⟨0,by simp,rfl,by simp,K0.out,V0.out,B0.out⟩
 case round=>
  obtain⟨j,hj,rfl,a7,e3,c8,e0⟩:=hrel;have a3:=hid a7;have HK:=hid e3;have HV:=hid c8;have HB:=hid e0;clear a7 e3 c8 e0 K0 V0 B0;by_cases hlt:j<wi.ts.length
  ·obtain⟨b,off,hp,n0,i8,i0,i4,i7,h4,i5⟩:=(HW.out.keep hS HK.out).ts.get hlt;subst hp;have b8:∀b,S b->b<wr.heap.size:=fun b hb=>R8 (hS b hb) HK.out.size;have a4:Hid ((wi.ts.take (j+1)).all (fun a=>gR ps ms (-1) a)=gR ps ms (-1) wi.ts[j]):=by
    show _=_;rw[U4 hlt,List.all_append,a3.out];simp
   have a9:Hid (gR ps ms (-1) wi.ts[j]=false->dR ps wi ms=false):=fun h=>by
    rw[HR.out];have:zW ps ms wi.ts=false:=by
     unfold zW;rw[List.all_eq_false];exact⟨wi.ts[j],U5 hlt,by rw[h];decide⟩
    rw[this];rfl
   generalize wi.ts[j]=a at i8 i0 i4 i7 h4 i5 a4 a9;have l6:=b8 b n0;go_upto_region 4 with fail;refine bE (fun W'=>aA wr W'/\aL wr.heap.size #[.string a.n,.int .i64 a.op,.int .i64 a.v,.int .i64 a.sl,.string a.f,.bool a.on] W') ⟨aA.alloc _ _,aL.new _ _ _⟩ ?_;rintro W3 ⟨k3,b3⟩;have k2:=hid k3;have B3:=hid b3;have h5:∀b,S b->b<W3.heap.size:=fun b hb=>R8 (b8 b hb) k3.size;have a2:=hid (qR S ms (fun m=>isB (cH ps m) m a) lp ms.length lc W3 (F:=51) (cap:=#[.pointer (some ⟨w.heap.size,0,none⟩),.pointer (some ⟨wr.heap.size,0,none⟩)]) h5 yT (f8.out.keep hS (HK.out.trans k3)) (fun i hi op oc W kW hbl=>by
    obtain⟨x0,x1,x2⟩:=f4.out i _ (Q9 hi);obtain⟨_,_,n6,m2,-⟩:=id hbl;exact aTl S ps ms[i] op oc _ _ _ tc a W (fun b hb=>R8 (h5 b hb) kW.size) (HP.out.keep hS ((HK.out.trans k3).trans kW)) f6.out ((HV.out.keep k3 HV.out.facts.2.2).keep kW (HV.out.keep k3 HV.out.facts.2.2).facts.2.2) (b3.keep kW b3.1) hbl x0 x1 x2 m2))
   rw[<-aNs] at a2;clear k3 b3 i8 i0 i4 i7 h4 i5;go_wp2_with fail;refine a2.out.mono ?_;rintro e w4 ⟨rfl,k4⟩;have g9:=hid (k2.out.trans k4);have K4:=hid (HK.out.trans g9.out);have V4:=hid (HV.out.keep g9.out HV.out.facts.2.2);have B4:=hid (HB.out.keep g9.out HB.out.1);clear k4 a2;generalize gR ps ms (-1) a=β at a4 a9 |-
   cases β
   ·have HF:=hid (a9.out rfl);clear a9;go_wp2_with fail;go_ret;exact⟨aK HF.out.symm,K4.out⟩
   ·clear a9;go_wp2_with fail;go_roundg (wi.ts.length-(j+1));case rel=>exact⟨j+1,by omega,by go_num,a4.out,K4.out,V4.out,B4.out⟩
    case measure=>omega
  ·obtain rfl:j=wi.ts.length:=by omega
   have i6:Hid (dR ps wi ms=qJ ps wi.ma ms ms.length):=by
    show _=_;have h:=a3.out;rw[Z7] at h;rw[HR.out,show zW ps ms wi.ts=true from h];rfl
   clear a3 HR hj hlt;go_upto_region 8 with fail;refine bE (fun W'=>aA w W'/\aE w.heap.size 24 (.slice tp ps.length tc) W'/\aL (w.heap.size+1) #[.slice p0 wi.ts.length c0,.slice p1 wi.ins.length c1,.slice p2 wi.ma.length c2,.slice p3 wi.on.length c3] W'/\W'.ownsMap (H:=Unit) Tryz.prog 9 (plainElem Tryz.prog 4) wr.heap.size 0 (cS (.map []) [])) ⟨HK.out.alloc' _,HV.out.keep (aA.alloc _ _) HV.out.facts.2.2,HB.out.keep (aA.alloc _ _) HB.out.1,World.ownsMap_made _ _ _ _⟩ ?_;rintro W5 ⟨k5,v5,b5,o5⟩;have l2:w.heap.size+1<wr.heap.size:=HB.out.1;generalize wr.heap.size=g at o5 l2 |-
   have K5:=hid k5;have V5:=hid v5;have B5:=hid b5;have O5:=hid o5;clear k5 v5 b5 o5 HK HV HB;go_wp2_with fail;go_loopg [29] ms.length (fun gk i wr'=> ∃j:Nat,j+gk=ms.length/\i=.int .i64 j/\qJ ps wi.ma ms j=true/\aA w wr'/\aE w.heap.size 24 (.slice tp ps.length tc) wr'/\aL (w.heap.size+1) #[.slice p0 wi.ts.length c0,.slice p1 wi.ins.length c1,.slice p2 wi.ma.length c2,.slice p3 wi.on.length c3] wr'/\wr'.ownsMap (H:=Unit) Tryz.prog 9 (plainElem Tryz.prog 4) g j (cS (.map []) ((ms.take j).map fun m=>iW (cH ps m))));case atStart=>exact⟨0,by simp,rfl,rfl,K5.out,V5.out,B5.out,by simpa using O5.out⟩
   case round=>
    obtain⟨j,hj,rfl,a7,e3,c8,e0,a6⟩:=hrel;have a3:=hid a7;have HK:=hid e3;have HV:=hid c8;have HB:=hid e0;have HO:=hid a6;clear a7 e3 c8 e0 a6 K5 V5 B5 O5;by_cases hlt:j<ms.length
    ·have b8:∀b,S b->b<wr.heap.size:=fun b hb=>R8 (hS b hb) HK.out.size;obtain⟨mb,g2,m5,m6,m4,-,e4⟩:=(f8.out.keep hS HK.out).get hlt;cases m6;obtain⟨op,oc,h8,j7,n9,-⟩:=e4 j _ (Q9 hlt);obtain⟨h0,h1,-⟩:=f4.out j _ (Q9 hlt);obtain⟨q,hq⟩:∃q:Nat,ms[j].pl=q:=⟨ms[j].pl.toNat,by omega⟩;have f1:q<ps.length:=by omega
     have c9:cH ps ms[j]=ps[q]:=by unfold cH;rw[hq,Y3,fC ps q f1]
     have a4:Hid (qJ ps wi.ma ms (j+1)=(!wi.ma.contains (q:Int)&&bU ps ms j ps[q].nd && !gP ps ms j j)):=by
      show _=_;rw[qJ,a3.out,aEk,aJv,gJ ms j hlt,c9,hq];rfl
     have a9:Hid (qJ ps wi.ma ms (j+1)=false->dR ps wi ms=false):=fun h=>by
      have:=aJd (ms.length-(j+1)) h;rw[show j+1+(ms.length-(j+1))=ms.length by omega] at this;rw[i6.out];exact this
     have c6:=hid (aNo f6.out f4.out hlt);have g6:Hid (((ms.take (j+1)).map fun m=>iW (cH ps m))=((ms.take j).map fun m=>iW (cH ps m))++[iW ps[q]]):=by
      show _=_;rw[U4 hlt,Z9,List.map_singleton,c9]
     have f0:=hid ((cL f6.out).2 _ (U5 f1));have f3:Hid (∀(cs:List Value) (W:World),aA wr W->aH S W ps[q].nd cs->Calls Tryz.prog 55 #[.agg #[.slice tp ps.length tc],.slice (some ⟨mb,g2,none⟩) ms.length lc,.int .i64 j,.agg cs.toArray] W fun e w'=>e=.returned (.bool (bU ps ms j ps[q].nd))/\aA W w'):=fun cs W kW g4=>
      aBj hlt f4.out f6.out _ ps[q].nd (Y1 _) (by rw[c9];exact oC f0.out) cs W (fun b hb=>R8 (b8 b hb) kW.size) (HP.out.keep hS (HK.out.trans kW)) (f8.out.keep hS (HK.out.trans kW)) g4
     rw[c9] at c6;rw[hq] at h8;obtain⟨tb,j6,j3,k1,l9,-,b2⟩:=(HP.out.keep hS HK.out).get f1;cases k1;obtain⟨cs,j1,g1⟩:=b2 q f1;generalize ps[q]=p at g1 a4 c6 g6 f0 f3;obtain⟨i9,⟨-,-,l3,l8⟩,-⟩:=eW f0.out;have m3:p.n.size<=8:=aHw i9;obtain⟨kk,a',h2,i1,b1,h6,j4,i3,j5,g4,e5,rfl,-,hn⟩:=g1.spelt;obtain⟨d0,d1,d2,d3,d4,d5,d6,d7,d8,d9,f9,g5,g7,g3⟩:=dK j1;have HN:=hid hn;have f5:=hid (f3.out [.int .i64 kk,.string a'.n,.int .i64 a'.op,.int .i64 a'.v,.int .i64 a'.sl,.string a'.f,.bool a'.on,.string h2,.bool i1,.slice h6 b1.length i3]);generalize n1:bU ps ms j p.nd=βh at a4 f5 f3;generalize h9:iW p=key at c6 g6;have a5:Hid (key=p.n++⟨#[58]⟩++⟨(Lib.decDigits p.sl.toNat).toArray⟩):=h9.symm;obtain⟨s,hs⟩:∃s:Nat,p.sl=s:=⟨p.sl.toNat,by omega⟩;rw[hs] at d2 a5;rw[Y3] at a5;have e1:s<100:=by omega
     clear j1 g1 b2 g4 hn e4 h0 h1 f3 h9 i9 f0 c9;rcases p with ⟨pn,pv,psl,fs,nd⟩;simp only at d0 d1 d2 d3 a5 HN m3 hs l3 l8 e5 n1 f5;have n5:=mF e1;have c7:key.size<=maxLen:=by
      rw[a5.out];have:(pn++⟨#[58]⟩++⟨(Lib.decDigits s).toArray⟩:ByteArray).size=pn.size+1+(Lib.decDigits s).length:=by
       simp[ByteArray.size_append,oW]
      rw[this];unfold maxLen;omega
     have l7:=b8 mb m4;have c4:=b8 tb l9;obtain⟨f2,-,e6⟩:=HV.out.facts;go_upto_region 11 with fail;refine bE (fun W'=>aA wr W'/\aL wr.heap.size #[.int .i64 (q:Int),.slice op ms[j].on.length oc] W') ⟨aA.alloc _ _,aL.new _ _ _⟩ ?_;rintro W6 ⟨k6,b6⟩;have gt:∀(o:Nat) (x:Value),wr.cell? ⟨tb,o,none⟩=some x->W6.cell? ⟨tb,o,none⟩=some x:=fun o x h=>(k6.cell (p:=⟨tb,o,none⟩) c4).trans h;replace d0:=gt _ _ d0
     replace d1:=gt _ _ d1
     replace d2:=gt _ _ d2
     replace d3:=gt _ _ d3
     replace d4:=gt _ _ d4
     replace d5:=gt _ _ d5
     replace d6:=gt _ _ d6
     replace d7:=gt _ _ d7
     replace d8:=gt _ _ d8
     replace d9:=gt _ _ d9
     replace f9:=gt _ _ f9
     replace g5:=gt _ _ g5
     replace g7:=gt _ _ g7
     replace g3:=gt _ _ g3
     have e2:tb<W6.heap.size:=R8 c4 k6.size;have e9:=b6.2;have f7:=b6.1;have g0:=(k6.cell (p:=⟨w.heap.size,0,none⟩) e6).trans f2;have g8:w.heap.size<W6.heap.size:=R8 e6 k6.size;have K6:=hid k6;have B6:=hid b6;clear gt k6 b6 h8 j7 f2 e6;go_upto_region 12 with fail;refine bE (fun W'=>aA W6 W'/\aL W6.heap.size #[.string pn,.int .i64 pv,.int .i64 (s:Int),.slice j4 fs.length j5,.int .i64 kk,.string a'.n,.int .i64 a'.op,.int .i64 a'.v,.int .i64 a'.sl,.string a'.f,.bool a'.on,.string h2,.bool i1,.slice h6 b1.length i3] W') ⟨aA.alloc _ _,aL.new _ _ _⟩ ?_;rintro W7 ⟨k7,b7⟩;have b9:=hid (K6.out.trans k7);have K7:=hid (HK.out.trans b9.out);have V7:=hid (HV.out.keep b9.out HV.out.facts.2.2);have B7:=hid (HB.out.keep b9.out HB.out.1);have M7:=hid (B6.out.keep k7 B6.out.1);have P7:=hid b7;have O7:Hid (W7.ownsMap (H:=Unit) Tryz.prog 9 (plainElem Tryz.prog 4) g j (cS (.map []) ((ms.take j).map fun m=>iW (cH ps m)))):=by
      obtain⟨es,a0,hb,F,hn,hD⟩:=HO.out;exact⟨es,a0,(b9.out.block g HO.out.lt).trans hb,F,hn,hD⟩
     have e7:=b7.2;have e8:=b7.1;generalize W6.heap.size=cp at b7 P7 e7 e8 |-
     generalize wr.heap.size=cm at M7 e9 f7 |-
     clear d0 d1 d2 d3 d4 d5 d6 d7 d8 d9 f9 g5 g7 g3 e9 f7 g0 g8 e2 k7 b7 K6 B6;have i2:=hid (show ∀n,Calls Tryz.prog 53 #[.int .i64 (s:Int)] (W7.drewN n) fun e w''=>e=.returned (.string ⟨(Lib.decDigits s).toArray⟩)/\∃n',w''=W7.drewN n' from fun n=>by
      refine (Tryz.strconv_Itoa_small s e1 _).mono ?_;rintro e w' ⟨rfl,rfl⟩;exact⟨rfl,n,rfl⟩)
     go_quiet ((go_at_call 53;exact i2.out _))
     rw[<-a5.out];have k8:aA W7 (W7.drewN nq):=aA.drewN (aA.refl _) _;have O8:Hid ((W7.drewN nq).ownsMap (H:=Unit) Tryz.prog 9 (plainElem Tryz.prog 4) g j (cS (.map []) ((ms.take j).map fun m=>iW (cH ps m)))):=by
      obtain⟨es,a0,hb,F,hn,hD⟩:=O7.out;exact⟨es,a0,(k8.block g O7.out.lt).trans hb,F,hn,hD⟩
     generalize W7.drewN nq=W8 at k8 O8 |-
     have h7:=hid (b9.out.trans k8);have K8:=hid (K7.out.trans k8);have V8:=hid (V7.out.keep k8 V7.out.facts.2.2);have B8:=hid (B7.out.keep k8 B7.out.1);have M8:=hid (M7.out.keep k8 M7.out.1);have P8:=hid (P7.out.keep k8 P7.out.1);have a8:=aNm O8.out (s:=key) c7;rw[show decide (key.data.toList∈((ms.take j).map fun m=>iW (cH ps m)).map (·.data.toList))=gP ps ms j j from c6.out] at a8;clear k8 e7 e8 i2 b9 K7 V7 B7 M7 P7 O7 c6;generalize gP ps ms j j=βs at a8 a4;cases βs;case true=>
      have HF:=hid (a9.out (by rw[a4.out];simp));go_wp2_with fail;go_ret;exact⟨aK HF.out.symm,K8.out⟩
     have a2:=hid (aEs S wi.ma _ (q:Int) W8 (HW.out.keep hS K8.out).ma);have l0:=B8.out.2;have m7:=B8.out.1;have e9:=M8.out.2;have f7:=M8.out.1;go_wp2_with fail;refine a2.out.mono ?_;rintro e w9 ⟨rfl,j2⟩;rw[j2];clear j2 a2 a8 l0 m7 e9 f7;generalize wi.ma.contains (q:Int)=βc at a4 |-
     cases βc;case true=>
      have HF:=hid (a9.out (by rw[a4.out];rfl));go_wp2_with fail;go_ret;exact⟨aK HF.out.symm,K8.out⟩
     have e7:=P8.out.2;have e8:=P8.out.1;obtain⟨f2,-,e6⟩:=V8.out.facts;have b4:=hid (f5.out W8 h7.out (HN.out.keep b8 h7.out));go_wp2_with fail;refine b4.out.mono ?_;rintro e w9 ⟨rfl,k9⟩;have K9:=hid (K8.out.trans k9);have V9:=hid (V8.out.keep k9 V8.out.facts.2.2);have B9:=hid (B8.out.keep k9 B8.out.1);have O9:Hid (w9.ownsMap (H:=Unit) Tryz.prog 9 (plainElem Tryz.prog 4) g j (cS (.map []) ((ms.take j).map fun m=>iW (cH ps m)))):=by
      obtain⟨es,a0,hb,F,hn,hD⟩:=O8.out;exact⟨es,a0,(k9.block g O8.out.lt).trans hb,F,hn,hD⟩
     clear k9 e7 e8 f2 e6 b4 f5;cases βh;case false=>
      have HF:=hid (a9.out (by rw[a4.out];rfl));go_wp2_with fail;go_ret;exact⟨aK HF.out.symm,K9.out⟩
     obtain⟨h3,l4,a6,a1⟩:=O9.out.update qY Tryz.underlying116 (show j<maxLen by have:=l5.out;omega) (WideMaps.keyOf_string_mk Tryz.underlying9 c7) (plainElem_bool Tryz.underlying4 true);have m0:Hid (aA w h3):=K9.out.grown a1 K9.out.size (fun i hi=>by cases hi;omega);have j8:=hid (V9.out.grew a1 (by omega));have l1:=hid (aCt B9.out a1 (by omega));have j9:Hid (h3.ownsMap (H:=Unit) Tryz.prog 9 (plainElem Tryz.prog 4) g (j+1) (cS (.map []) ((ms.take (j+1)).map fun m=>iW (cH ps m)))):=by
      rw[g6.out,lG];exact a6
     clear a6 a1;go_wp2_with fail;go_roundg (ms.length-(j+1));case rel=>exact⟨j+1,by omega,by go_num,a4.out,m0.out,j8.out,l1.out,j9.out⟩
     case measure=>omega
    ·obtain rfl:j=ms.length:=by omega
     go_wp2_with fail;go_ret;exact⟨aK (by rw[i6.out,a3.out]),HK.out⟩
end
section
open Go.RowKit Go.Lib
theorem aLy(args:Array Value)(w:World):(callFunc 48 args).run Tryz.prog w=.ok (.enter 48 args) w:=enters_of Tryz.func48 (by kernel_rfl) rfl args w
theorem aSv(x:Nat)(h:x<1000000):bits .and .i64 (x:Int) 1=((x % 2:Nat):Int):=by
 have:=bits_mask .i64 62 (by decide) (fun n h0 h1=>by rw[IntKind.wrap_i64];omega) 1 (by decide) (x:Int) (by omega) (by omega);have h2:((2:Int) ^ 1-1)=1:=by decide
 rw[h2] at this;rw[this];omega
theorem zM{n:Nat}(h:n<=14):2 ^ n<=16384:=Nat.pow_le_pow_right (n:=2) (by omega) h
theorem aUi{n:Nat}(h:n<=14):wrap64 (2 ^ n)=((2 ^ n:Nat):Int):=by
 have hp:=zM h;have:((2:Int) ^ n)=((2 ^ n:Nat):Int):=by simp
 rw[this];generalize 2 ^ n=x at hp |-
 unfold wrap64;omega
theorem aLn{g:Nat}{m:List Bool}{w:World}{S:Nat->Prop}(h:aF g 4 (m.map Value.bool).toArray w)(hS:S g)(hl:m.length<=1000):bC S w m (.slice (some ⟨g,0,none⟩) m.length m.length):=by
 refine⟨_,_,rfl,by omega,fun _=>⟨g,0,rfl,hS,fun j x hx=>?_⟩⟩;rw[Z6,h.facts.1];simp[hx]
theorem nD(S:Nat->Prop)(ps:List PK)(wi:WI)(pv tsv inv mav onv:Value)(w:World)(hS:∀b,S b->b<w.heap.size)(hp:aZ S w ps pv)(hw:dA S w wi tsv inv mav onv)(hz:bB ps wi=0):
  Calls Tryz.prog 8 #[.agg #[pv],.agg #[tsv,inv,mav,onv]] w fun e w'=>aA w w'/\((∃c v,nG ps wi c/\e=.returned (.tuple #[v,.bool true])/\cD (fun b=>b<w'.heap.size) w' (bP ps wi c) v)\/(fO ps wi/\e=.returned (.tuple #[.slice none 0 0,.bool false]))):=by
 obtain⟨i0,hi,e4,e3,e8⟩:=info_parts aHm;have HP:=hid hp;have HW:=hid hw;have HZ:=hid hz;obtain⟨hT,b9,-⟩:=cT hz;obtain⟨h8,e0,-,b5,d0,-⟩:=jL b9;have e2:=jQ b9;have b7:=(oV wi hT).1;have HT:=hid hT;have f7:=hid e2;have f3:=aLy;clear hp hw hz hT b9 e2;go_enter Tryz.func8,Tryz.ntmps8;go_upto_region 1 with fail;refine bE (fun W'=>aA w W'/\aE w.heap.size 24 pv W'/\aF (w.heap.size+1) 30 #[tsv,inv,mav,onv] W') ⟨(aA.alloc _ _).alloc' _,(aE.new _ _ _).keep (aA.alloc _ _) (by simp),?_⟩ ?_
 ·have:=aF.new (w.alloc (.cells #[pv] 24)) 30 #[tsv,inv,mav,onv];rw[aC] at this;exact this
 rintro W1 ⟨k1,v1,b1⟩;have K1:=hid k1;have V1:=hid v1;have B1:=hid b1;generalize w.heap.size=b at V1 B1 |-
 clear k1 v1 b1;have b6:=V1.out.facts.1;have c9:=V1.out.facts.2.2;have c3:W1.cell? ⟨b+1,0,none⟩=some tsv:=B1.out.facts.1 0;have c2:W1.cell? ⟨b+1,1,none⟩=some inv:=B1.out.facts.1 1;have c8:W1.cell? ⟨b+1,2,none⟩=some mav:=B1.out.facts.1 2;have b8:W1.cell? ⟨b+1,3,none⟩=some onv:=B1.out.facts.1 3;have c5:=B1.out.facts.2.2;go_wp2_with fail;refine (aDb S ps wi _ _ _ _ _ W1 (fun c hc=>R8 (hS c hc) K1.out.size) (HP.out.keep hS K1.out) (HW.out.keep hS K1.out) h8 e0 d0 (fun x hx=>by have:=b5 x hx;omega)).mono ?_;rintro e W2 ⟨k2,n2,d8,rfl⟩;rw[show (((plI wi.ins++cP (plI wi.ins) ps.length).length:Nat)+(bI ps ps.length:Nat):Int)=((aB ps wi).many:Nat) by rw[<-aKj f7.out fun x hx=>(b5 x hx).1];push_cast;rfl];have d6:=hid d8;have K2:=hid (K1.out.trans k2);have V2:=hid (V1.out.keep k2 V1.out.facts.2.2);have B2:=hid (B1.out.keep k2 B1.out.facts.2.2);clear b6 c9 c3 c2 c8 b8 c5 V1 B1 k2 d8 h8 e0 d0 b5;generalize W1.heap.size=cb at d6 |-
 obtain⟨n,hn⟩:∃n,n=(aB ps wi).many:=⟨_,rfl⟩;have HN:=hid hn;rw[<-hn] at b7 |-
 clear hn;have f6:=zM b7;go_upto_region 3 with (at_make;go_loud (refine wpList_make_full _ rfl _ _ 50 rfl W2.heap.size 4 i0 (.bool false) 1 Tryz.underlying50 hi e4 e3 .i64 .i64 (n:Int) (n:Int) n rfl rfl rfl rfl (by rw[e8];omega) (by unfold maxLen;omega) (Y1 _) ?_;intro w3 h1 h2;have f4:=hid (Cn.oT h2);have M3:=hid (Cn.gL (v:= .bool false) rfl h1);clear h1 h2))
 have c0:Hid (∀W,Below W2.heap.size w3 W->aA W2 W):=fun W h=>Below.trans f4.out h;have e9:Hid (w.heap.size<=W2.heap.size):=K2.out.size;generalize hg:W2.heap.size=g at M3 c0 e9 |-
 have HG:=hid hg;clear hg;have c1:=aUi b7;generalize d1:2 ^ n=pn at c1 f6;have d7:=hid d1;clear d1;go_wp2_with fail;rw[c1];clear c1;go_loopg [22] pn (fun gk iv wr=> ∃c:Nat,c+gk=pn/\iv=.int .i64 c/\(∀i,i<c->okC ps wi i=false)/\Below g w3 wr/\∃row:List Bool,row.length=n/\aF g 4 (row.map Value.bool).toArray wr);case atStart=>exact⟨0,by omega,rfl,fun i hi=>by omega,Below.refl _ _,List.replicate n false,by simp,by rw[List.map_replicate];exact M3.out⟩
 case round=>
  obtain⟨c,g6,rfl,e1,a8,row,f2,a9⟩:=hrel;have c7:=hid e1;have d9:=hid a8;have f8:=hid a9;clear e1 a8 a9;by_cases hlt:c<pn
  ·obtain⟨WC,rfl⟩:∃WC:World,WC=wr:=⟨_,rfl⟩;go_wp2_with fail;go_loopg [26] n (fun gk iv wr=> ∃i:Nat,i+gk=n/\iv=.int .i64 i/\Below g w3 wr/\∃row:List Bool,row.length=n/\(∀j,j<i->row[j]? = (jB n c)[j]?)/\aF g 4 (row.map Value.bool).toArray wr);case atStart=>exact⟨0,by omega,rfl,d9.out,row,f2,fun j hj=>by omega,f8.out⟩
   case round=>
    obtain⟨i,g5,rfl,a8,a1,a7,b0,a9⟩:=hrel;have a3:=hid a8;have a0:=hid a9;have b2:=hid b0;clear a8 a9 b0;by_cases hli:i<n
    ·obtain⟨r1,r2,r3⟩:=a0.out.facts;have g7:wr.cell? ⟨g,i,none⟩=some (.bool (a1.getD i false)):=by
      rw[r1];simp[a7,hli,List.getD_eq_getElem?_getD]
     have g8:=r2 i;have a5:Hid ((jB n c)[i]? = some (bits .and .i64 ((c:Int) / 2 ^ (n-1-i)) 1==1)):=by
      show _=_;have g3:c / 2 ^ (n-1-i)<=c:=Nat.div_le_self _ _;have e:(c:Int) / 2 ^ (n-1-i)=((c / 2 ^ (n-1-i):Nat):Int):=by simp
      rw[aDe n c i hli,e,aSv _ (by omega)];generalize c / 2 ^ (n-1-i)=q;congr 1;rw[Bool.eq_iff_iff];simp;omega
     generalize g2:(bits .and .i64 ((c:Int) / 2 ^ (n-1-i)) 1==1)=bb at a5;have d5:=hid (show ∀ β:Bool,aF g 4 ((a1.set i β).map Value.bool).toArray (wr.setCell ⟨g,i,none⟩ (.bool β))/\Below g w3 (wr.setCell ⟨g,i,none⟩ (.bool β)) from fun β=>by
      have:=a0.out.set i (.bool β);rw[List.setIfInBounds_toArray] at this;exact⟨by rw[List.map_set];exact this,Below.trans a3.out (aQ wr g i _)⟩)
     clear r1 r2;go_wp2_with fail;clear g2;go_roundg (n-(i+1));case rel=>exact⟨i+1,by omega,by go_num,(d5.out bb).2,a1.set i bb,by rw[List.length_set];exact a7,fun j hj=>by
      by_cases e:j=i
      ·subst e;rw[Z4 (by omega),a5.out]
      ·rw[Q8 (fun h=>e h.symm)];exact b2.out j (by omega),(d5.out bb).1⟩
     case measure=>omega
    ·obtain rfl:i=n:=by omega
     have f9:Hid (a1=jB i c):=by
      show _=_;refine List.ext_getElem? fun j=>?_;by_cases hj:j<i
      ·exact b2.out j hj
      ·rw[A9 (by omega),A9 (by rw[fR];omega)]
     rw[f9.out] at a0;have KC:=hid (c0.out wr a3.out);have f1:=hid (d6.out.keep KC.out);have a6:=hid (K2.out.trans KC.out);have VC:=hid (V2.out.keep KC.out V2.out.facts.2.2);have BC:=hid (B2.out.keep KC.out B2.out.facts.2.2);have a2:=hid (aRj (fun x=>x<wr.heap.size) ps wi pv tsv inv mav onv (.slice (some ⟨g,0,none⟩) i i) n2 cb (jB i c) wr (fun _ h=>h) ((HP.out.keep hS a6.out).mono (fun _ _=>rfl) fun x hx=>R8 (hS x hx) a6.out.size) ((HW.out.keep hS a6.out).on.mono (fun _ _=>rfl) fun x hx=>R8 (hS x hx) a6.out.size) (by have:=aLn (S:=fun x=>x<wr.heap.size) a0.out a0.out.facts.2.2 (by rw[fR];omega);rw[fR] at this;exact this) HZ.out f1.out (by rw[fR,HN.out];exact Y1 _));go_wp2_with fail;refine a2.out.mono ?_;rintro e W4 ⟨k4,v4,rfl,b4⟩;obtain⟨p4,c4,f0,-⟩:=b4.len;subst f0;have K4:=hid (a6.out.trans k4);have M4:=hid (b4.mono (S':=fun x=>x<W4.heap.size) (fun _ _=>rfl) fun x hx=>hx.2);have g1:=hid (show Below g w3 W4 from Below.trans a3.out (k4.mono (by have:=a0.out.facts.2.2;omega)));have c6:=hid (a0.out.keep k4 a0.out.facts.2.2);have V4:=hid (VC.out.keep k4 VC.out.facts.2.2);have B4:=hid (BC.out.keep k4 BC.out.facts.2.2);have a4:=aRk wi HT.out (jB i c);obtain⟨-,-,-,-,-,d4⟩:=jL a4;have b3:=hid (aBk (fun x=>x<W4.heap.size) ps wi (bP ps wi (jB i c)) pv tsv inv mav onv (.slice p4 (bP ps wi (jB i c)).length c4) W4 (fun _ h=>h) ((HP.out.keep hS K4.out).mono (fun _ _=>rfl) fun x hx=>R8 (hS x hx) K4.out.size) HT.out ((HW.out.keep hS K4.out).mono fun x hx=>R8 (hS x hx) K4.out.size) M4.out d4);have e5:Hid (dR ps wi (bP ps wi (jB i c))=okC ps wi c):=by show _=_;unfold okC;rw[<-HN.out]
     rw[e5.out] at b3;clear a4 d4 k4 b4 a2;have b6:=V4.out.facts.1;have c9:=V4.out.facts.2.2;have c3:W4.cell? ⟨b+1,0,none⟩=some tsv:=B4.out.facts.1 0;have c2:W4.cell? ⟨b+1,1,none⟩=some inv:=B4.out.facts.1 1;have c8:W4.cell? ⟨b+1,2,none⟩=some mav:=B4.out.facts.1 2;have b8:W4.cell? ⟨b+1,3,none⟩=some onv:=B4.out.facts.1 3;have c5:=B4.out.facts.2.2;generalize d2:(bP ps wi (jB i c)).length=sl at b3 M4 |-
     have g4:=hid d2;clear d2;go_wp2_with fail;refine b3.out.mono ?_;rintro e W5 ⟨rfl,k5⟩;have K5:=hid (K4.out.trans k5);have M5:=hid (M4.out.mono (S':=fun x=>x<W5.heap.size) (fun p hp=>k5.cell (p:=p) hp) fun x hx=>R8 hx k5.size);have g0:=hid (c6.out.keep k5 c6.out.facts.2.2);have e6:=hid (show Below g w3 W5 from Below.trans g1.out (k5.mono (by have:=c6.out.facts.2.2;omega)));clear k5 b3 b6 c9 c3 c2 c8 b8 c5;cases hoc:okC ps wi c
     ·have e7:Hid (∀j,j<c+1->okC ps wi j=false):=fun j hj=>by
       by_cases e:j=c
       ·rw[e];exact hoc
       ·exact c7.out j (by omega)
      clear hoc;go_wp2_with fail;go_roundg (pn-(c+1));case rel=>exact⟨c+1,by omega,by go_num,e7.out,e6.out,jB i c,fR i c,g0.out⟩
      case measure=>omega
     ·have d3:=hid (aPd (ps:=ps) (wi:=wi) (c:=c) (by rw[<-HN.out,d7.out];exact hlt) hoc c7.out);rw[<-HN.out] at d3;clear hoc;go_wp2_with fail;refine bodyPost_ret (v:= .tuple #[.slice p4 sl c4,.bool true]) ?_ rfl ?_
      ·simp[results,Tryz.results8,go_sem]
      ·exact⟨K5.out,.inl ⟨_,_,d3.out,rfl,M5.out⟩⟩
  ·obtain rfl:c=pn:=by omega
   have f5:=hid (aVu (ps:=ps) (wi:=wi) (by rw[<-HN.out,d7.out];exact c7.out));have KE:=hid (K2.out.trans (c0.out wr d9.out));go_wp2_with fail;refine bodyPost_ret (v:= .tuple #[.slice none 0 0,.bool false]) ?_ rfl ?_
   ·simp[results,Tryz.results8,go_sem]
   ·exact⟨KE.out,.inr ⟨f5.out,rfl⟩⟩
end
section
open Go.RowKit
def Er(x:Int):Prop:=0<=x/\x<=6
theorem jS{f:Nat->Int}(h:∀k,Er (f k)):∀(m i:Nat),Er (aM f i m)
 | 0,i=>by unfold Er;rw[aM];omega
 | m+1,i=>by
  rw[aM];split
  ·exact jS h m (i+1)
  ·exact h i
theorem aJl(a:At):Er (fQ a):=by
 unfold fQ chk Er
 repeat (first | split | omega)
theorem aEp:∀t:NT,Er (bF t)
 | .node k a fl nt kids=>by
  rw[bF];split
  ·unfold Er;omega
  ·split
   ·unfold Er;omega
   ·split
    ·exact aJl a
    ·unfold Er;omega
mutual
theorem aCb(inc:Int->Int):∀(t:NT) (s d:Int),Er (bZ inc fE s t d).1
 | .node k a fl nt kids,s,d=>by
  rw[bZ];split
  ·exact aKg inc kids _ _ (aEp (.node k a fl nt kids))
  ·exact aEp (.node k a fl nt kids)
theorem aKg(inc:Int->Int):∀(ts:List NT) (s d:Int),Er s->Er (bL inc fE s ts d).1
 | [],s,d,h=>by rw[bL];exact h
 | t :: ts,s,d,h=>by
  rw[bL];split
  ·exact aKg inc ts _ _ (aCb inc t s d)
  ·exact aCb inc t s d
end
theorem aTc(ps:List PK):Er (cA ps):=by
 unfold cA;split
 ·unfold Er;omega
 ·refine jS (fun k=>?_) _ _;have hP:Er (dV (ps.getD k PK.zero)):=by
   generalize ps.getD k PK.zero=p;have hF:Er (cJ p.fl):=by
    unfold cJ;split
    ·unfold Er;omega
    ·refine jS (fun k=>?_) _ _;unfold flE Er
     repeat (first | split | omega)
   have hN:Er (eH p.nd p.fl):=by
    have h1:Er (dG p.nd):=by
     unfold dG;split
     ·unfold Er;omega
     ·exact aCb _ _ _ _
    unfold eH;split
    ·unfold Er;omega
    ·split
     ·exact h1
     ·unfold Er;split<;>omega
   unfold dV;split
   ·unfold Er;omega
   ·split
    ·unfold Er;omega
    ·split
     ·exact hF
     ·exact hN
  unfold pkE;split
  ·exact hP
  ·unfold Er;repeat (first | split | omega)
theorem aJm(ps:List PK)(wi:WI):Er (bB ps wi):=by
 unfold bB;split
 ·unfold dZ;split
  ·exact aTc ps
  ·refine jS (fun k=>?_) _ _;unfold mbE Er
   repeat (first | split | omega)
 ·split
  ·unfold taE;split
   ·unfold Er;omega
   ·exact jS (fun k=>aJl _) _ _
  ·split
   ·refine jS (fun k=>?_) _ _;unfold maE Er
    repeat (first | split | omega)
   ·refine jS (fun k=>?_) _ _;unfold onE Er
    repeat (first | split | omega)
noncomputable def pZ(ps:List PK)(wi:WI)(s:Int):List MB:=if dE ps wi s=0 then bP ps wi (dD ps wi s).m else []
noncomputable def rK(ps:List PK)(wi:WI)(s:Int):List (List Int):=if dE ps wi s=7 then (dD ps wi s).P else []
theorem rJ{ps:List PK}{wi:WI}{s:Int}(h:bB ps wi=0)(he:(dD ps wi s).er=0):dE ps wi s=if (dD ps wi s).P = [] then 0 else 7:=by
 unfold dE;rw[if_neg (by simp[h]),if_neg (by simp[he])]
theorem aAy(S:Nat->Prop)(w:World):cD S w [] (.slice none 0 0):=⟨_,_,rfl,by simp,fun h=>absurd h (by simp)⟩
theorem iZ.gen{ps:List PK}{wi:WI}{s:Int}{w w':World}{e:Ending}(h:iZ ps wi s w e w')(hs:1<=s)(hs2:s<=40000):aA w w'/\∃v pv,e=.returned (.tuple #[v,pv,.int .i64 (dE ps wi s)])/\cD (fun b=>w.heap.size<=b/\b<w'.heap.size) w' (pZ ps wi s) v/\Cn.eU (fun b=>w.heap.size<=b/\b<w'.heap.size) w' (rK ps wi s) pv:=by
 obtain⟨k,h⟩:=h;refine⟨k,?_⟩;have hW:=aJm ps wi;unfold Er at hW;rcases h with ⟨h1,rfl⟩ | ⟨h1,h2,rfl⟩ | ⟨h1,h2,h3,pv,rfl,h5⟩ | ⟨h1,h2,h3,v,rfl,h5⟩
 ·have e:dE ps wi s=bB ps wi:=by unfold dE;rw[if_pos h1]
  refine⟨_,_,by rw[e],?_,?_⟩
  ·unfold pZ;rw[e,if_neg h1];exact aAy _ _
  ·unfold rK;rw[e,if_neg (by omega)];exact Cn.iH _ _
 ·have e:dE ps wi s=(dD ps wi s).er:=by unfold dE;rw[if_neg (by simp[h1]),if_pos h2]
  have e8:(dD ps wi s).er=8:=(aWc h1 hs hs2).resolve_left h2;refine⟨_,_,by rw[e],?_,?_⟩
  ·unfold pZ;rw[e,if_neg h2];exact aAy _ _
  ·unfold rK;rw[e,e8,if_neg (by decide)];exact Cn.iH _ _
 ·have e:dE ps wi s=7:=by rw[rJ h1 h2,if_neg h3]
  refine⟨_,_,by rw[e],?_,?_⟩
  ·unfold pZ;rw[e,if_neg (by decide)];exact aAy _ _
  ·unfold rK;rw[e,if_pos rfl];exact h5
 ·have e:dE ps wi s=0:=by rw[rJ h1 h2,if_pos h3]
  refine⟨_,_,by rw[e],?_,?_⟩
  ·unfold pZ;rw[e,if_pos rfl];exact h5
  ·unfold rK;rw[e,if_neg (by decide)];exact Cn.iH _ _
theorem aNj(ps:List PK)(wi:WI):(bB ps wi≠0/\dE ps wi 40000=bB ps wi/\dE ps wi 40000≠7/\pZ ps wi 40000 = [])\/(bB ps wi=0/\dE ps wi 40000=0/\∃c,nG ps wi c/\pZ ps wi 40000=bP ps wi c)\/(bB ps wi=0/\dE ps wi 40000=7/\fO ps wi/\pZ ps wi 40000 = []/\rK ps wi 40000=(dD ps wi 40000).P/\Cn.aJa (dX ps wi).cl (dD ps wi 40000).P/\(dD ps wi 40000).P.length<=40000/\∀c∈(dD ps wi 40000).P,c.length<=60/\Cn.aO (dX ps wi).n c):=by
 by_cases h:bB ps wi=0
 ·have he:=mU h;rcases wN h he with ⟨h1,h2,h3,h4⟩ | ⟨h1,h2,h3,h4,h5⟩
  ·have e:dE ps wi 40000=0:=by rw[rJ h he,if_pos h1]
   refine .inr (.inl ⟨h,e,_,h4,?_⟩);unfold pZ;rw[e,if_pos rfl,zS (jQ (cT h).2.1)]
  ·have e:dE ps wi 40000=7:=by rw[rJ h he,if_neg h1]
   refine .inr (.inr ⟨h,e,h2,?_,?_,h3,h4,h5⟩)
   ·unfold pZ;rw[e,if_neg (by decide)]
   ·unfold rK;rw[e,if_pos rfl]
 ·have e:dE ps wi 40000=bB ps wi:=by unfold dE;rw[if_pos h]
  have hW:=aJm ps wi;unfold Er at hW;refine .inl ⟨h,e,by rw[e];omega,?_⟩;unfold pZ;rw[e,if_neg h]
theorem aIu{ps:List PK}{wi:WI}{l l':List Int}(h:∀x∈l,x∈l'){ms:List MB}(hv:dR ps (mkW wi l') ms=true):dR ps (mkW wi l) ms=true:=by
 unfold dR at *;rw[Z8] at *;refine⟨hv.1,qK.2 fun k hk=>?_⟩;have h1:=qK.1 hv.2 k hk;unfold aEk at *;rw[Z8,Z8] at *;refine⟨⟨?_,h1.1.2⟩,h1.2⟩;cases hc:(mkW wi l).ma.contains (ms.getD k MB.zero).pl with
 | false=>rfl
 | true=>
  have h2:(mkW wi l').ma.contains (ms.getD k MB.zero).pl=true:=by
   rw[List.contains_iff_mem] at *;exact h _ hc
  rw[h2] at h1;exact h1.1.1
theorem aHx{ps:List PK}{wi:WI}{l l':List Int}(h:∀x∈l,x∈l')(hn:fO ps (mkW wi l)):fO ps (mkW wi l'):=fun d hd=>by
 cases hv:dR ps (mkW wi l') (bP ps (mkW wi l') d) with
 | false=>rfl
 | true=>
  have h1:dR ps (mkW wi l) (bP ps (mkW wi l) d)=true:=aIu h hv;have:=hn d hd;rw[h1] at this;cases this
theorem uR{ps:List PK}{wi:WI}(h:bB ps wi=0){l:List Int}(hl:l.Sublist wi.ma):bB ps (mkW wi l)=0:=by
 obtain⟨-,h2,-,-,h5,-,h7,h8⟩:=cT h;have a2:aM (maE ps l) 0 l.length=0:=by
  refine (cW _ 0).2 fun j hj=>?_;rw[Z6];have hg:l.getD j 0=l[j]:=by rw[R0,Q9 hj];rfl
  have hb:=h5 l[j] (hl.subset (U5 hj));unfold maE;rw[hg,if_neg (by omega),if_neg];rintro⟨h0,a3⟩;have a0:l.getD (j-1) 0=l[j-1]:=by rw[R0,Q9 (by omega)];rfl
  rw[a0] at a3;have:=List.pairwise_iff_getElem.1 (h7.sublist hl) (j-1) j (by omega) hj (by omega);omega
 have a1:taE wi.ts=0:=by
  unfold bB at h;rw[if_neg (by simp[h2])] at h;by_cases e:taE wi.ts=0
  ·exact e
  ·rw[if_pos e] at h;exact h
 unfold bB;rw[if_neg (by show ¬dZ ps wi.ins≠0;simp[h2]),if_neg (by show ¬taE wi.ts≠0;simp[a1]),if_neg (by show ¬aM (maE ps l) 0 l.length≠0;simp[a2])];exact h8
theorem rI{ps:List PK}{wi:WI}(h:bB ps wi=0){l:List Int}(hl:l.Sublist wi.ma):(dE ps (mkW wi l) 40000=0/\¬fO ps (mkW wi l))\/(dE ps (mkW wi l) 40000=7/\fO ps (mkW wi l)):=by
 have h1:=uR h hl;rcases aWb h1 with ⟨c,hc⟩ | hn
 ·exact .inl ⟨pE h1 hc,fun hn=>hc.some hn⟩
 ·exact .inr ⟨sR h1 hn,hn⟩
theorem aBz{ps:List PK}{wi:WI}(h:bB ps wi=0)(h0:¬fO ps (mkW wi [])):∀j,j<=wi.ma.length->((cK ps wi 40000 j).1.Sublist (wi.ma.take j)/\(cK ps wi 40000 j).2.Sublist (wi.ma.take j))/\(∀x∈wi.ma.take j,x∈(cK ps wi 40000 j).1\/x∈(cK ps wi 40000 j).2)/\¬fO ps (mkW wi (cK ps wi 40000 j).1)/\∀x∈(cK ps wi 40000 j).2,fO ps (mkW wi ((cK ps wi 40000 j).1++[x]))
 | 0,_=>by
  refine⟨⟨by simp[cK],by simp[cK]⟩,by simp,?_,by simp[cK]⟩;rw[cK];exact h0
 | j+1,hj=>by
  obtain⟨⟨i1,i2⟩,i3,i4,i5⟩:=aBz h h0 j (by omega);have hg:wi.ma.getD j 0=wi.ma[j]:=by rw[R0,Q9 (by omega)];rfl
  have ht:wi.ma.take (j+1)=wi.ma.take j++[wi.ma.getD j 0]:=by rw[U4 (by omega),hg]
  have hs:((cK ps wi 40000 j).1++[wi.ma.getD j 0]).Sublist wi.ma:=(i1.append (List.Sublist.refl _)).trans (by rw[<-ht];exact List.take_sublist _ _);rw[ht];rcases rI h hs with ⟨e,hn⟩ | ⟨e,hn⟩
  ·rw[rU e];refine⟨⟨i1.append (List.Sublist.refl _),i2.trans (List.sublist_append_left _ _)⟩,fun x hx=>?_,hn,fun x hx=>?_⟩
   ·rcases U0.1 hx with hx | hx
    ·rcases i3 x hx with h1 | h1
     ·exact .inl (Y6 _ h1)
     ·exact .inr h1
    ·exact .inl (Y5 _ hx)
   ·refine aHx (fun y hy=>?_) (i5 x hx);rcases U0.1 hy with hy | hy
    ·exact Y6 _ (Y6 _ hy)
    ·exact Y5 _ hy
  ·rw[uD (by show lW ps wi 40000 j≠0;rw[show lW ps wi 40000 j=7 from e];decide)];refine⟨⟨i1.trans (List.sublist_append_left _ _),i2.append (List.Sublist.refl _)⟩,fun x hx=>?_,i4,fun x hx=>?_⟩
   ·rcases U0.1 hx with hx | hx
    ·rcases i3 x hx with h1 | h1
     ·exact .inl h1
     ·exact .inr (Y6 _ h1)
    ·exact .inr (Y5 _ hx)
   ·rcases U0.1 hx with hx | hx
    ·exact i5 x hx
    ·rw[T0.1 hx];exact hn
end
section
open Go.RowKit Go.Lib
theorem sL{B:Nat}{v:Value}{zs:List Int}{w:World}(h:aT B v zs w):aI (fun b=>B<=b/\b<w.heap.size) w zs v:=by
 obtain⟨-,⟨rfl,h0⟩ | ⟨g,cap,a1,rfl,hg,ho,hn,hm,hs,ht⟩⟩:=h
 ·obtain rfl:zs = []:=Y4.1 h0;exact⟨_,_,rfl,by simp,fun h=>absurd h (by simp)⟩
 ·have a0:g<w.heap.size:=(U9.1 ho).1;refine⟨_,_,rfl,by unfold maxLen at hm;omega,fun _=>⟨g,0,rfl,⟨hg,a0⟩,fun j x hx=>?_⟩⟩;have hj:j<zs.length:=(R9.1 hx).1;have h1:=Q0 (·[j]?) ht;simp only[Nat.mul_one,List.getElem?_take,List.getElem?_map,hx,Option.map_some] at h1;rw[if_pos hj,Array.getElem?_toList] at h1;rw[Z6];simp only[World.cell?,ho];simpa using h1
theorem aNb{w:World}{b off:Nat}{zs:List Int}(h:∀(j:Nat) (x:Int),zs[j]? = some x->w.cell? ⟨b,off+j,none⟩=some (.int .i64 x)):∀(j:Nat) (u:Value),(zs.map (Value.int .i64))[j]? = some u->w.cell? ((⟨b,off,none⟩:Addr).add j)=some u:=by
 intro j u hu;rw[Z2] at hu;cases hx:zs[j]? with
 | none=>rw[hx] at hu;cases hu
 | some x=>
  rw[hx] at hu;cases hu;have:=h j x hx;rw[show (⟨b,off,none⟩:Addr).add j=⟨b,off+j,none⟩ by unfold Addr.add;split<;>simp_all];exact this
theorem aOb(w:World)(k:Int):∀(c:Nat) (zs:Array Value),aI (fun x=>w.heap.size<=x/\x<(((w.alloc (.cells #[] 3)).alloc (.cells #[.int .i64 k] 3)).alloc (.cells (#[.int .i64 k]++zs) 3)).drew.heap.size) (((w.alloc (.cells #[] 3)).alloc (.cells #[.int .i64 k] 3)).alloc (.cells (#[.int .i64 k]++zs) 3)).drew [k] (.slice (some ⟨w.heap.size+1+1,0,none⟩) 1 c)/\aA w (((w.alloc (.cells #[] 3)).alloc (.cells #[.int .i64 k] 3)).alloc (.cells (#[.int .i64 k]++zs) 3)).drew:=by
 intro c zs;have z0:=aC w (.cells #[] 3);have k0:=aA.alloc w (.cells #[] 3);generalize w.alloc (.cells #[] 3)=a0 at z0 k0 |-
 have z1:=aC a0 (.cells #[.int .i64 k] 3);have k1:=aA.alloc a0 (.cells #[.int .i64 k] 3);generalize a0.alloc (.cells #[.int .i64 k] 3)=a1 at z1 k1 |-
 have z2:=aC a1 (.cells (#[.int .i64 k]++zs) 3);have k2:=aA.alloc a1 (.cells (#[.int .i64 k]++zs) 3);have h2:(a1.alloc (.cells (#[.int .i64 k]++zs) 3)).heap[a1.heap.size]? = some (.cells (#[.int .i64 k]++zs) 3):=heap_alloc_new a1 _;generalize a1.alloc (.cells (#[.int .i64 k]++zs) 3)=a2 at z2 k2 h2 |-
 have e:a1.heap.size=w.heap.size+1+1:=by omega
 rw[e] at h2;refine⟨⟨_,_,rfl,by simp,fun _=>⟨w.heap.size+1+1,0,rfl,⟨by omega,by show _<a2.heap.size;omega⟩,fun j x hx=>?_⟩⟩,aA.drew (k0.trans (k1.trans k2))⟩;show a2.cell? _=_;have hj:j=0:=by have:=(R9.1 hx).1;simpa using this
 subst hj;simp only[World.cell?,h2];simp at hx;subst hx;rw[if_neg (by simp),Array.getElem?_append_left (by simp)];rfl
theorem aLw(args:Array Value)(w:World):(callFunc 25 args).run Tryz.prog w=.ok (.enter 25 args) w:=enters_of Tryz.func25 (by kernel_rfl) rfl args w
theorem aJj(S:Nat->Prop)(ps:List PK)(wi:WI)(l:List Int)(b:Nat)(pv tsv inv mav onv mv:Value)(w:World)(hS:∀b,S b->b<w.heap.size)(hp:aZ S w ps pv)(hw:dA S w wi tsv inv mav onv)(hm:aI S w l mv)(hz:bB ps (mkW wi l)=0)(vt:aE b 24 pv w)(vw:aF (b+1) 30 #[tsv,inv,mav,onv] w):
  Calls Tryz.prog 25 #[mv,.pointer (some ⟨b+1,0,none⟩),.pointer (some ⟨b,0,none⟩)] w fun e w'=>e=.returned (.bool (decide (dE ps (mkW wi l) 40000=0)))/\aA w w':=by
 have HP:=hid hp;obtain⟨mp,mc,rfl,-⟩:=hm.len;have HW:=hid (show dA S w (mkW wi l) tsv inv (.slice mp l.length mc) onv from⟨hw.ts,hw.ins,hm,hw.on⟩);have HZ:=hid hz;obtain⟨t1,t3,rfl,-⟩:=hw.ts.len;obtain⟨n1,n3,rfl,-⟩:=hw.ins.len;obtain⟨m1,m3,rfl,-⟩:=hw.ma.len;obtain⟨o1,o3,rfl,-⟩:=hw.on.len;clear hw;have V0:=hid vt;have a3:w.cell? ⟨b+1,0,none⟩=some (.slice t1 wi.ts.length t3):=vw.facts.1 0;have a0:w.cell? ⟨b+1,1,none⟩=some (.slice n1 wi.ins.length n3):=vw.facts.1 1;have a1:w.cell? ⟨b+1,2,none⟩=some (.slice m1 wi.ma.length m3):=vw.facts.1 2;have a2:w.cell? ⟨b+1,3,none⟩=some (.slice o1 wi.on.length o3):=vw.facts.1 3;have a4:=vw.facts.2.2;clear hp hm hz vt vw;go_enter Tryz.func25,Tryz.ntmps25;go_upto_region 2 with fail;refine bE (fun W'=>aA w W'/\aF w.heap.size 30 #[(.slice t1 wi.ts.length t3),(.slice n1 wi.ins.length n3),(.slice m1 wi.ma.length m3),(.slice o1 wi.on.length o3)] W') ⟨aA.alloc _ _,aF.new _ _ _⟩ ?_;rintro W1 ⟨k1,b1⟩;have K1:=hid k1;have B1:=hid b1;have V1:=hid (V0.out.keep k1 V0.out.facts.2.2);have a5:Hid (b<w.heap.size):=V0.out.facts.2.2;generalize hg:w.heap.size=g at B1 a5 |-
 have HG:=hid hg;clear k1 b1 a3 a0 a1 a2 a4 V0 hg;have a8:W1.cell? ⟨g,2,none⟩=some (.slice m1 wi.ma.length m3):=B1.out.facts.1 2;have a9:=B1.out.facts.2.1 2;have a6:=B1.out.facts.2.2;have HQ:=hid (show aA w (W1.setCell ⟨g,2,none⟩ (.slice mp l.length mc))/\aE b 24 pv (W1.setCell ⟨g,2,none⟩ (.slice mp l.length mc))/\aF g 30 #[(.slice t1 wi.ts.length t3),(.slice n1 wi.ins.length n3),.slice mp l.length mc,(.slice o1 wi.on.length o3)] (W1.setCell ⟨g,2,none⟩ (.slice mp l.length mc)) from⟨Below.trans K1.out ((aQ W1 g 2 _).mono (by have:=HG.out;omega)),V1.out.keep (aQ W1 g 2 _) a5.out,B1.out.set 2 (.slice mp l.length mc)⟩);go_upto_region 3 with fail;refine bE (fun W'=>aA w W'/\aE b 24 pv W'/\aF g 30 #[(.slice t1 wi.ts.length t3),(.slice n1 wi.ins.length n3),.slice mp l.length mc,(.slice o1 wi.on.length o3)] W') ?_ ?_
 ·exact HQ.out
 rintro W2 ⟨k2,v2,b2⟩;have K2:=hid k2;clear K1 V1 B1 a8 a9 a6 k2 HQ;have b0:=v2.facts.1;have b3:=v2.facts.2.2;have a3:W2.cell? ⟨g,0,none⟩=some (.slice t1 wi.ts.length t3):=b2.facts.1 0;have a0:W2.cell? ⟨g,1,none⟩=some (.slice n1 wi.ins.length n3):=b2.facts.1 1;have a1:W2.cell? ⟨g,2,none⟩=some (.slice mp l.length mc):=b2.facts.1 2;have a2:W2.cell? ⟨g,3,none⟩=some (.slice o1 wi.on.length o3):=b2.facts.1 3;have a4:=b2.facts.2.2;clear v2 b2;go_wp2_with fail;refine (nD S ps (mkW wi l) _ _ _ _ _ W2 (fun c hc=>R8 (hS c hc) K2.out.size) (HP.out.keep hS K2.out) (HW.out.keep hS K2.out) HZ.out).mono ?_;rintro e W3 ⟨k3,hd⟩;have K3:=hid (K2.out.trans k3);have a7:∃(p:Option Addr) (n c:Nat) (β:Bool),e=.returned (.tuple #[.slice p n c,.bool β])/\β=decide (dE ps (mkW wi l) 40000=0):=by
  rcases hd with ⟨c,v,hb,rfl,hv⟩ | ⟨hn,rfl⟩
  ·obtain⟨p,cc,rfl,-⟩:=hv.len;exact⟨p,_,cc,true,rfl,by rw[pE HZ.out hb];rfl⟩
  ·exact⟨none,0,0,false,rfl,by rw[sR HZ.out hn];rfl⟩
 obtain⟨p3,n3,c3,β,rfl,hβ⟩:=a7;have HB:=hid hβ;clear hd k3 hβ b0 b3 a3 a0 a1 a2 a4;go_wp2_with fail;go_ret;exact⟨aK HB.out,K3.out⟩
theorem nE(S:Nat->Prop)(ps:List PK)(wi:WI)(pv tsv inv mav onv:Value)(w:World)(hS:∀b,S b->b<w.heap.size)(hp:aZ S w ps pv)(hw:dA S w wi tsv inv mav onv)(hz:bB ps wi=0):
  Calls Tryz.prog 10 #[.agg #[pv],.agg #[tsv,inv,mav,onv]] w fun e w'=>aA w w'/\((dE ps (mkW wi []) 40000≠0/\e=.returned (.tuple #[.slice none 0 0,.bool false]))\/(dE ps (mkW wi []) 40000=0/\∃v,e=.returned (.tuple #[v,.bool true])/\aI (fun c=>c<w'.heap.size) w' (cK ps wi 40000 wi.ma.length).2 v)):=by
 obtain⟨i0,hi,b7,b5,b8⟩:=info_parts dM;have HP:=hid hp;have HW:=hid hw;have HZ:=hid hz;have g2:∀(fn:Fn) (first cap:Array Value) (w:World),(Instr.makeFunc fn first cap).run Tryz.prog w=.ok (.func fn first cap) w:=fun _ _ _ _=>rfl;have e9:=aLw;have e6:=(cT hz).2.2.2.2.2.1;clear hp hw hz;go_enter Tryz.func10,Tryz.ntmps10;go_upto_region 1 with fail;obtain⟨b,hb⟩:∃b,b=w.heap.size:=⟨_,rfl⟩;have g3:w.heap.size<=b:=by omega
 refine bE (fun W'=>aA w W'/\aE w.heap.size 24 pv W'/\aF (w.heap.size+1) 30 #[tsv,inv,mav,onv] W') ⟨(aA.alloc _ _).alloc' _,(aE.new _ _ _).keep (aA.alloc _ _) (by simp),?_⟩ ?_
 ·have:=aF.new (w.alloc (.cells #[pv] 24)) 30 #[tsv,inv,mav,onv];rw[aC] at this;exact this
 rintro W1 ⟨k1,v1,b1⟩;have K1:=hid k1;have V1:=hid v1;have B1:=hid b1;rw[<-hb] at V1 B1 |-
 clear k1 v1 b1 hb;have d4:=hid (aJj S ps wi [] b pv tsv inv mav onv (.slice none 0 0) W1 (fun c hc=>R8 (hS c hc) K1.out.size) (HP.out.keep hS K1.out) (HW.out.keep hS K1.out) (fH _ _) (uR HZ.out (List.nil_sublist _)) V1.out B1.out);go_wp2_with fail;refine d4.out.mono ?_;rintro e W2 ⟨rfl,k2⟩;have K2:=hid (K1.out.trans k2);have V2:=hid (V1.out.keep k2 V1.out.facts.2.2);have B2:=hid (B1.out.keep k2 B1.out.facts.2.2);clear k2 V1 B1 d4;by_cases he:dE ps (mkW wi []) 40000=0
 ·have HE:=hid he;rw[Y7 he];obtain⟨mp,mc,rfl,g1⟩:=HW.out.ma.len;have f4:W2.cell? ⟨b+1,2,none⟩=some (.slice mp wi.ma.length mc):=B2.out.facts.1 2;have f3:=B2.out.facts.2.2;have f0:Hid (¬fO ps (mkW wi [])):=by
   rcases rI HZ.out (List.nil_sublist wi.ma) with ⟨-,h⟩ | ⟨h,-⟩
   ·exact h
   ·rw[he] at h;cases h
  clear he;go_wp2_with fail;go_loopg [7,8,19] wi.ma.length (fun gk iw ag i wr=> ∃j:Nat,j+gk=wi.ma.length/\i=.int .i64 j/\aT (b+2) iw (cK ps wi 40000 j).2 wr/\aI (fun c=>c<wr.heap.size/\iw.ownBlock≠some c) wr (cK ps wi 40000 j).1 ag/\(∃p c,ag=.slice p (cK ps wi 40000 j).1.length c/\(p=none->c=0))/\aE b 24 pv wr/\aF (b+1) 30 #[tsv,inv,.slice mp wi.ma.length mc,onv] wr/\aA w wr);case atStart=>exact⟨0,by omega,rfl,Q1 _ _ _ _,fH _ _,⟨_,_,rfl,fun _=>rfl⟩,V2.out,B2.out,K2.out⟩
  case round=>
   obtain⟨j,hj,rfl,c5,d0,⟨d2,ac,rfl,a5⟩,hv,c2,hk⟩:=hrel;have b0:=hid c5;have HK:=hid hk;have HV:=hid hv;have c3:=hid c2;have b4:=hid d0;have c6:=rT ps wi 40000 j;have g6:b+2<=wr.heap.size:=c2.facts.2.2;clear c5 hk hv c2 d0 f4 f3;by_cases hlt:j<wi.ma.length
   ·have a9:=(aBz HZ.out f0.out j (Nat.le_of_lt hlt)).1.1;have a3:Hid (((cK ps wi 40000 j).1++[wi.ma.getD j 0]).Sublist wi.ma):=by
     show List.Sublist _ _;have h1:(wi.ma.take (j+1)).Sublist wi.ma:=List.take_sublist _ _;rw[U4 hlt] at h1;rw[R0,Q9 hlt,Q7];exact (a9.append (List.Sublist.refl _)).trans h1
    obtain⟨mb,mo,f7,c9,c8⟩:=HW.out.ma.get (by omega);subst f7;have d3:=(HK.out.cell (p:=⟨mb,mo+j,none⟩) (hS mb c9)).trans (c8 j hlt);have b9:mb<wr.heap.size:=R8 (hS mb c9) HK.out.size;have b2:Hid (lW ps wi 40000 j=dE ps (mkW wi ((cK ps wi 40000 j).1++[wi.ma.getD j 0])) 40000):=rfl;have a0:=hid (rU (ps:=ps) (wi:=wi) (s:=40000) (j:=j));have b3:=hid (uD (ps:=ps) (wi:=wi) (s:=40000) (j:=j));generalize wi.ma.getD j 0=k at d3 a3 b2 a0 b3;generalize c4:(cK ps wi 40000 j).1=ke at b4 c6 a3 b2 a0 b3 |-
    generalize c0:(cK ps wi 40000 j).2=ou at b0 c6 a0 b3;clear c8 a9 c4 c0;go_upto_region 8 with fail;go_cut [11] from 20 to 37 (fun s11 wc=> ∃p c,s11=.slice p (ke.length+1) c/\(p=none->c=0)/\aI (fun x=>wr.heap.size<=x/\x<wc.heap.size) wc (ke++[k]) s11/\aA wr wc);case first=>
     have a2:=World.ownsRow_made (base:=wr.heap.size) (e:=3) (size:=1) wr #[] 0 (Y1 _) (Nat.zero_le _) rfl;cases d2 with
     | none=>
      obtain rfl:=a5 rfl;have d6:ke.length=0:=by
       obtain⟨p',c',e',-,h3⟩:=b4.out;cases e';by_cases h:0<ke.length
       ·obtain⟨_,_,h,-⟩:=h3 h;cases h
       ·omega
      obtain rfl:=Y4.1 d6;clear d6;go_wp2_with (at_builtin;go_loud (refine wpList_append_own_none rfl _ _ 27 rfl wr.heap.size 3 i0 1 Tryz.underlying27 hi (.slice (some ⟨wr.heap.size,0,none⟩) 0 0) 0 [] rfl a2 rfl ?_))
      have d7:=hid (aOb wr k);go_meet;case rel=>exact⟨_,_,rfl,(fun h=>by cases h),(d7.out _ _).1,(d7.out 0 _).2⟩
     | some ad=>
      obtain⟨p',c',e',-,h3⟩:=id b4.out;cases e';have a7:∀(j:Nat) (u:Value),(ke.map (Value.int .i64))[j]? = some u->(wr.alloc (.cells #[] 3)).cell? (ad.add j)=some u:=fun j u hu=>by
       have g4:j<ke.length:=by
        have:=(R9.1 hu).1;simpa using this
       obtain⟨b',off,e2,e3,a8⟩:=h3 (by omega);cases e2;exact aNb (w:=wr.alloc (.cells #[] 3)) (b:=b') (off:=off) (fun j x hx=>((aA.alloc wr _).cell (p:=⟨b',off+j,none⟩) e3.1).trans (a8 j x hx)) j u hu
      have f6:(ke.map (Value.int .i64)).length=ke.length*1:=by rw[A0,Nat.mul_one]
      go_wp2_with (at_builtin;first | (refine wpList_append_own_at _ rfl _ _ 27 rfl wr.heap.size 3 i0 (.int .i64 0) 1 8 Tryz.underlying27 hi b7 b5 b8 rfl (by decide) (.slice (some ⟨wr.heap.size,0,none⟩) 0 0) 0 [] rfl a2 ad ke.length ac (ke.map (Value.int .i64)) rfl f6 a7 (by intro u hu;obtain⟨x,-,rfl⟩:=Q4.1 hu;rfl) (by unfold maxLen;omega) (by omega) (by rw[aC];omega) ?_;intro v6 w6 h1 h2 _ h4;have O6:=hid (show aT wr.heap.size v6 ke w6 from by (unfold aT;simpa using h1));have K6:=hid (show aA wr w6 from ((Below.refl _ wr).alloc (Y1 _) _).grown h2 (by rw[aC];omega) (fun g hg=>by cases hg;exact Y1 _));have f9:wr.heap.size<=w6.heap.size:=K6.out.size;clear h1 h2 h4) | (refine wpList_append_own_at _ rfl _ _ 27 rfl wr.heap.size 3 i0 (.int .i64 0) 1 8 Tryz.underlying27 hi b7 b5 b8 rfl (by decide) v6 ke.length (ke.map (Value.int .i64)) rfl (World.ownsRow.alloc O6.out _) ⟨w6.heap.size,0,none⟩ 1 1 [.int .i64 k] rfl rfl iN cG (by unfold maxLen;omega) (by omega) (by rw[aC];omega) ?_;intro v7 w7 h1 h2 _ h4;obtain⟨g7,e1,rfl⟩:=Cn.aS h1 (Q2 _);have P7:=hid (fJ f9 O6.out h1 h2);clear h1 h2 h4))
      go_meet;case rel=>exact⟨_,_,rfl,(fun h=>by cases h),sL P7.out.1,Below.trans K6.out P7.out.2⟩
    case rest=>
     obtain⟨tp,d1,rfl,f5,d5,a1⟩:=hcut;have NT:=hid d5;have KT:=hid a1;have a6:=hid (HK.out.trans a1);have VT:=hid (HV.out.keep a1 HV.out.facts.2.2);have BT:=hid (c3.out.keep a1 c3.out.facts.2.2);have f8:=hid (aX b0.out a1);have f2:=hid (b4.out.mono (S':=fun c=>c<wr.heap.size/\u7.ownBlock≠some c) (fun p hp=>a1.cell (p:=p) hp.1) fun _ h=>h);have d8:=hid (aJj (fun c=>c<wc.heap.size) ps wi (ke++[k]) b pv tsv inv (.slice (some ⟨mb,mo,none⟩) wi.ma.length mc) onv (.slice tp (ke.length+1) d1) wc (fun _ h=>h) ((HP.out.keep hS a6.out).mono (fun _ _=>rfl) fun c hc=>R8 (hS c hc) a6.out.size) ((HW.out.keep hS a6.out).mono fun c hc=>R8 (hS c hc) a6.out.size) (NT.out.mono (fun _ _=>rfl) fun c hc=>hc.2) (uR HZ.out a3.out) VT.out BT.out);have c7:Hid (wr.heap.size<=wc.heap.size):=a1.size;clear d5 a1 d3 b9 HV c3 HK;go_wp2_with fail;refine d8.out.mono ?_;rintro e W4 ⟨rfl,k4⟩;have K4:=hid (a6.out.trans k4);have V4:=hid (VT.out.keep k4 VT.out.facts.2.2);have B4:=hid (BT.out.keep k4 BT.out.facts.2.2);have b6:=hid (aX f8.out k4);have e5:=hid (f2.out.mono (S':=fun c=>c<wr.heap.size/\u7.ownBlock≠some c) (fun p hp=>k4.cell (p:=p) (R8 hp.1 c7.out)) fun _ h=>h);have d9:=hid (NT.out.mono (S':=fun c=>wr.heap.size<=c/\c<W4.heap.size) (fun p hp=>k4.cell (p:=p) hp.2) fun c hc=>⟨hc.1,R8 hc.2 k4.size⟩);have f1:Hid (wr.heap.size<=W4.heap.size):=U2 c7.out k4.size;have c1:=hid (show ∀g,u7.ownBlock=some g->g<wr.heap.size from fun g hg=>(dN b0.out hg).2);have g5:=f1.out;clear k4 d8;by_cases hr0:dE ps (mkW wi (ke++[k])) 40000=0
     ·rw[Y7 hr0];have a4:=hid (a0.out (b2.out.trans hr0));clear hr0;go_wp2_with fail;go_roundg (wi.ma.length-(j+1));case rel=>exact⟨j+1,by omega,by go_num,by rw[a4.out];exact b6.out,by rw[a4.out];exact d9.out.mono (fun _ _=>rfl) fun c hc=>⟨hc.2,fun e=>by have:=c1.out c e;omega⟩,⟨tp,d1,by rw[a4.out];simp,f5⟩,V4.out,B4.out,K4.out⟩
      case measure=>omega
     ·rw[Y8 hr0];have a4:=hid (b3.out (fun h=>hr0 (b2.out.symm.trans h)));clear hr0;go_wp2_with (at_builtin;go_loud (refine wpList_append_own_at _ rfl _ _ 27 rfl (b+2) 3 i0 (.int .i64 0) 1 8 Tryz.underlying27 hi b7 b5 b8 rfl (by decide) u7 ou.length (ou.map (Value.int .i64)) rfl (World.ownsRow.alloc b6.out _) ⟨W4.heap.size,0,none⟩ 1 1 [.int .i64 k] rfl rfl iN cG (by unfold maxLen;omega) (by omega) (by have:=aC W4 (.cells #[.int .i64 k] 3);omega) ?_;intro v7 w7 h5 h6 _ h9;have P7:=hid (fJ (by omega) b6.out h5 h6);have e7:=hid (wG e5.out (fun c hc=>⟨by omega,hc.2⟩) h6);have e4:=hid (show ∀c,c<wr.heap.size->u7.ownBlock≠some c->v7.ownBlock≠some c from fun c h1 h2 h3=>by (rcases h9 with h9 | h9;exact h2 (h9 ▸ h3);rw[h9] at h3;have:=U6 h3;rw[aC] at this;omega));clear h5 h6 h9))
      have h8:=P7.out.2;have g0:=h8.size;have K7:=hid (show aA w w7 from Below.trans K4.out (h8.mono (by omega)));have V7:=hid (V4.out.keep h8 (by omega));have B7:=hid (B4.out.keep h8 (by omega));clear h8;go_roundg (wi.ma.length-(j+1));case rel=>exact⟨j+1,by omega,by go_num,by rw[a4.out];exact P7.out.1,by rw[a4.out];exact e7.out.mono (fun _ _=>rfl) fun c hc=>⟨by omega,e4.out c hc.1 hc.2⟩,⟨d2,ac,by rw[a4.out],a5⟩,V7.out,B7.out,K7.out⟩
      case measure=>omega
   ·obtain rfl:j=wi.ma.length:=by omega
    obtain⟨xp,xc,e0,-⟩:=id (sL b0.out);have e8:=hid (sL b0.out);subst e0;go_wp2_with fail;refine bodyPost_ret (v:= .tuple #[.slice xp (cK ps wi 40000 wi.ma.length).2.length xc,.bool true]) ?_ rfl ?_
    ·simp[results,Tryz.results10,go_sem]
    ·exact⟨HK.out,.inr ⟨HE.out,_,rfl,e8.out.mono (fun _ _=>rfl) fun c hc=>hc.2⟩⟩
 ·have HE:=hid he;rw[Y8 he];clear he;go_wp2_with fail;refine bodyPost_ret (v:= .tuple #[.slice none 0 0,.bool false]) ?_ rfl ?_
  ·simp[results,Tryz.results10,go_sem]
  ·exact⟨K2.out,.inl ⟨HE.out,rfl⟩⟩
end
section
open Go.RowKit
def aIv:Nat->List (List Bool)
 | 0=> [[]]
 | n+1=>(aIv n).map (false :: ·)++(aIv n).map (true :: ·)
theorem vY:∀ {d:List Bool},d∈aIv d.length
 | []=>by simp[aIv]
 | a :: d=>by
  have:=vY (d:=d);rw[Z0,aIv,U0];cases a
  ·exact .inl (Q4.2 ⟨d,this,rfl⟩)
  ·exact .inr (Q4.2 ⟨d,this,rfl⟩)
def aTr:List Bool->List Bool->Bool
 | a :: m,b :: o=>if a=b then aTr m o else !a
 | _,_=>true
theorem aKi:∀ {m o:List Bool},m.length=o.length->aTr m o=true->Cn.nI m o
 | [],[],_,_=>.inl rfl
 | a :: m,b :: o,hl,h=>by
  rw[aTr] at h;by_cases e:a=b
  ·subst e;rw[if_pos rfl] at h;rcases aKi (by simpa using hl) h with rfl | ⟨j,hj,h1,h2,h3⟩
   ·exact .inl rfl
   ·refine .inr ⟨j+1,by simpa using hj,fun i hi=>?_,by simpa using h2,by simpa using h3⟩;cases i with
    | zero=>rfl
    | succ i=>simpa using h1 i (by omega)
  ·rw[if_neg e] at h;have ha:a=false:=by simpa using h
   subst ha;have hb:b=true:=by cases b;exact absurd rfl e;rfl
   subst hb;exact .inr ⟨0,by simp,fun i hi=>by omega,rfl,rfl⟩
theorem aJh{ps:List PK}{wi:WI}{c:List Bool}{n:Nat}(hn:(aB ps wi).many=n)(hc:c.length=n)(hv:dR ps wi (bP ps wi c)=true)(h:((aIv n).all fun d=> !dR ps wi (bP ps wi d)||aTr c d)=true):nG ps wi c:=by
 refine⟨hc.trans hn.symm,hv,fun d hd hdv=>aKi (by rw[hd,hn];exact hc) ?_⟩;have:=List.all_eq_true.1 h d (by rw[<-hn,<-hd];exact vY);rw[hdv] at this;simpa using this
theorem aTy{ps:List PK}{wi:WI}{n:Nat}(hn:(aB ps wi).many=n)(h:((aIv n).all fun d=> !dR ps wi (bP ps wi d))=true):fO ps wi:=fun d hd=>by
 have:=List.all_eq_true.1 h d (by rw[<-hn,<-hd];exact vY);simpa using this
def aLh:At:=⟨⟨#[97]⟩,0,0,0,⟨#[120]⟩,true⟩
def wR:WI:=⟨[atA],[⟨3,[]⟩],[],[]⟩
def wX(ma:List Int):WI:=⟨[aLh],[⟨3,[]⟩],ma,[]⟩
def cR:List Bool:= [false,false,true,false,false]
def cX:List Bool:= [true,false,true,true,true]
theorem aUs:dZ bG [⟨3,[]⟩]=0:=by
 unfold dZ;rw[uP];show tM bG [⟨3,[]⟩]=0;decide
theorem aVt:aP [120]=true:=by decide
theorem aVc:bB bG wR=0:=by
 have h2:taE [atA]=0:=by
  have:fQ atA=0:=by
   show chk [97] 0 0 0 [] false=0;unfold chk;rw[if_neg (by simp[aBa]),if_neg (by decide),if_neg (by decide)]
  simp[taE,aM,this]
 unfold bB;rw[show wR.ins = [⟨3,[]⟩] from rfl,show wR.ts = [atA] from rfl,show wR.ma = [] from rfl,show wR.on = [] from rfl,aUs,h2];rfl
theorem rZ{ma:List Int}(h:ma = []\/ma = [0]\/ma = [0,2]):bB bG (wX ma)=0:=by
 have h2:taE [aLh]=0:=by
  have:fQ aLh=0:=by
   show chk [97] 0 0 0 [120] true=0;unfold chk;rw[if_neg (by simp[aBa,aVt]),if_neg (by decide),if_neg (by decide)]
  simp[taE,aM,this]
 unfold bB;rw[show (wX ma).ins = [⟨3,[]⟩] from rfl,show (wX ma).ts = [aLh] from rfl,show (wX ma).ma=ma from rfl,show (wX ma).on = [] from rfl,aUs,h2];rcases h with rfl | rfl | rfl<;>rfl
theorem aVa:nG bG wR cR:=aJh (n:=5) (by decide) rfl (by decide +kernel) (by decide +kernel)
theorem aGl{ma:List Int}(h:ma = []\/ma = [0]):nG bG (wX ma) cX:=by
 rcases h with rfl | rfl<;>exact aJh (n:=5) (by decide) rfl (by decide +kernel) (by decide +kernel)
theorem aQw:fO bG (wX [0,2]):=aTy (n:=5) (by decide) (by decide +kernel)
theorem aXh:bP bG wR cR = [⟨1,[false]⟩,⟨3,[]⟩]:=rfl
theorem aXi(ma:List Int):bP bG (wX ma) cX = [⟨1,[true]⟩,⟨2,[]⟩]:=rfl
theorem aPf{W:World}{n:Nat}(h:W.heap.size=n)(T:TypeId)(cs:Array Value):aF n T cs (W.alloc (.cells cs T)):=h ▸ aF.new W T cs
theorem kO{w:World}{b o:Nat}{x:Value}{p:Addr}(h:p.block≠b):(w.setCell ⟨b,o,none⟩ x).cell? p=w.cell? p:=X0 (lU w b o x p.block h)
theorem aAl{b:Nat}{a:At}{W:World}(hb:aL b #[.string a.n,.int .i64 a.op,.int .i64 a.v,.int .i64 a.sl,.string a.f,.bool a.on] W):kK (inW W) W [a] (.slice (some ⟨b,0,none⟩) 1 1):=by
 refine⟨_,_,rfl,by simp,fun _=>⟨b,0,rfl,hb.1,fun j x hx=>?_⟩⟩
 match j,hx with
 | 0,hx=>cases hx;exact⟨hb.2 0,hb.2 1,hb.2 2,hb.2 3,hb.2 4,hb.2 5⟩
theorem vX{c:Nat}{z:Int}{W:World}(hc:aL c #[.int .i64 z,.slice none 0 0] W):cD (inW W) W [⟨z,[]⟩] (.slice (some ⟨c,0,none⟩) 1 1):=by
 refine⟨_,_,rfl,by simp,fun _=>⟨c,0,rfl,hc.1,fun j m hm=>?_⟩⟩
 match j,hm with
 | 0,hm=>cases hm;exact⟨_,hc.2 0,hc.2 1,none,0,rfl,by simp,fun h=>absurd h (by simp)⟩
theorem aKl{b c:Nat}{x:Bool}{z:Int}{W:World}(hb:aL b #[.int .i64 1,.slice (some ⟨c,0,none⟩) 1 1,.int .i64 z,.slice none 0 0] W)(hc:aL c #[.bool x] W):cD (inW W) W [⟨1,[x]⟩,⟨z,[]⟩] (.slice (some ⟨b,0,none⟩) 2 2):=by
 refine⟨_,_,rfl,by simp,fun _=>⟨b,0,rfl,hb.1,fun j m hm=>?_⟩⟩
 match j,hm with
 | 0,hm=>
  cases hm;refine⟨_,hb.2 0,hb.2 1,_,_,rfl,by simp,fun _=>⟨c,0,rfl,hc.1,fun j y hy=>?_⟩⟩
  match j,hy with
  | 0,hy=>cases hy;exact hc.2 0
 | 1,hm=>cases hm;exact⟨_,hb.2 2,hb.2 3,none,0,rfl,by simp,fun h=>absurd h (by simp)⟩
theorem aQx{b:Nat}{W:World}(hb:aL b #[.int .i64 0,.int .i64 2] W):aI (inW W) W [0,2] (.slice (some ⟨b,0,none⟩) 2 2):=by
 refine⟨_,_,rfl,by simp,fun _=>⟨b,0,rfl,hb.1,fun j z hz=>?_⟩⟩
 match j,hz with
 | 0,hz=>cases hz;exact hb.2 0
 | 1,hz=>cases hz;exact hb.2 1
theorem aBe(S:Nat->Prop)(w:World):gT S w [] (.slice none 0 0):=⟨_,_,rfl,by simp,fun h=>absurd h (by simp)⟩
theorem iZ.best{ps:List PK}{wi:WI}{c:List Bool}{w w':World}{e:Ending}(h:iZ ps wi 40000 w e w')(h0:bB ps wi=0)(hb:nG ps wi c):aA w w'/\∃v,e=.returned (.tuple #[v,.slice none 0 0,.int .i64 0])/\cD (fun b=>w.heap.size<=b/\b<w'.heap.size) w' (bP ps wi c) v:=by
 have he:=mU h0;obtain⟨k,h⟩:=h;obtain⟨g1,g2⟩:=aFg h0 he hb;rcases h with ⟨h1,-⟩ | ⟨-,h2,-⟩ | ⟨-,-,h3,-⟩ | ⟨-,-,-,v,rfl,h5⟩
 ·exact absurd h0 h1
 ·exact absurd he h2
 ·exact absurd g1 h3
 ·exact⟨k,v,rfl,g2 ▸ h5⟩
theorem iZ.none{ps:List PK}{wi:WI}{w w':World}{e:Ending}(h:iZ ps wi 40000 w e w')(h0:bB ps wi=0)(hn:fO ps wi):aA w w'/\(dD ps wi 40000).P ≠ []/\∃pv,e=.returned (.tuple #[.slice none 0 0,pv,.int .i64 7])/\Cn.eU (fun b=>w.heap.size<=b/\b<w'.heap.size) w' (dD ps wi 40000).P pv:=by
 have he:=mU h0;obtain⟨k,h⟩:=h;have g1:=aFh h0 he hn;rcases h with ⟨h1,-⟩ | ⟨-,h2,-⟩ | ⟨-,-,h3,pv,rfl,h5⟩ | ⟨-,-,h3,-⟩
 ·exact absurd h0 h1
 ·exact absurd he h2
 ·exact⟨k,h3,pv,rfl,h5⟩
 ·exact absurd h3 g1
theorem aXk:dE bG (mkW (wX [0,2]) []) 40000=0/\lW bG (wX [0,2]) 40000 0=0/\lW bG (wX [0,2]) 40000 1=7/\(cK bG (wX [0,2]) 40000 2).2 = [2]:=by
 have h1:lW bG (wX [0,2]) 40000 0=0:=pE (wi:=wX [0]) (rZ (.inr (.inl rfl))) (aGl (.inr rfl));have e1:=rU h1;have h2:lW bG (wX [0,2]) 40000 1=7:=by
  unfold lW;rw[e1];exact sR (wi:=wX [0,2]) (rZ (.inr (.inr rfl))) aQw
 have e2:=uD (j:=1) (by rw[h2];decide);refine⟨pE (wi:=wX []) (rZ (.inl rfl)) (aGl (.inl rfl)),h1,h2,?_⟩;rw[e2,e1];rfl
theorem rL(w:World)(hE:Env w)(hM:lN w):
  Calls Tryz.prog 7 #[] w fun e w'=>e=.returned (.bool true)/\aA w w':=by
 go_enter Tryz.func7,Tryz.ntmps7;go_wp2_with fail;refine (aIj w hE hM).mono ?_;rintro e w1 ⟨v1,rfl,c9,k1,a8⟩;obtain⟨p1,c1,rfl,-⟩:=c9.len;have c3:=hid (aZ.mono (S':=inW w1) (fun _ _=>rfl) (fun b hb=>hb.2) c9);have K1:=hid k1;have a1:=hid a8;clear c9 k1 hE hM a8;go_wp2_with fail;refine bK (fun W'=>aA w1 W'/\aE w1.heap.size 24 (.slice p1 bG.length c1) W'/\aL (w1.heap.size+1) #[.string ⟨#[97]⟩,.int .i64 0,.int .i64 0,.int .i64 0,.string ⟨#[]⟩,.bool false] W'/\aL (w1.heap.size+1+1) #[.int .i64 3,.slice none 0 0] W'/\aF (w1.heap.size+1+1+1) 30 #[.slice (some ⟨w1.heap.size+1,0,none⟩) 1 1,.slice (some ⟨w1.heap.size+1+1,0,none⟩) 1 1,.slice none 0 0,.slice none 0 0] W')
  ⟨(((aA.alloc _ _).alloc' _).alloc' _).alloc' _,(aE.new _ _ _).keep (((aA.alloc _ _).alloc' _).alloc' _) (by simp),(lP (by simp) _ _).keep ((aA.alloc _ _).alloc' _) (by simp),(lP (by simp) _ _).keep (aA.alloc _ _) (by simp),aPf (by simp) _ _⟩ ?_
 rintro W2 ⟨k2,v2,b2,m2,x2⟩;refine (iO (inW W2) bG wR 40000 _ _ _ _ _ W2 (fun _ h=>h) (aZ.mono (bQ (fun _ h=>h) k2) (fun b hb=>R8 hb k2.size) c3.out) ⟨aAl (a:=atA) b2,vX m2,fH _ _,aBe _ _⟩ a1.out).mono ?_;rintro e w3 h3;obtain⟨k3,a3,rfl,d0⟩:=h3.best aVc aVa;rw[aXh] at d0;have f3:w1.heap.size+1+1+1<W2.heap.size:=x2.facts.2.2;have K3:=hid (k2.trans k3);have V3:=hid (v2.keep k3 v2.facts.2.2);have M3:=hid (m2.keep k3 m2.1);have X3:=hid (x2.keep k3 x2.facts.2.2);have A3:=hid (d0.mono (S':=fun c=>W2.heap.size<=c/\c<w3.heap.size) (fun _ _=>rfl) fun _ h=>h);have f2:=k3.size;clear k2 v2 b2 m2 x2 k3 d0 h3;generalize W2.heap.size=n2 at f3 A3 f2;obtain⟨e1,e3,rfl,-⟩:=A3.out.len;obtain⟨b5,-,a7⟩:=V3.out.facts;obtain⟨a0,a9,b3⟩:=X3.out.facts;have a2:=a0 0;have b0:=a0 1;have b1:=a0 2;have b7:=a0 3;have c5:=a9 0;clear a0 a9;go_wp2_with fail;refine bK (fun W'=>aA w1 W'/\aE w1.heap.size 24 (.slice p1 bG.length c1) W'/\aL w3.heap.size #[.string ⟨#[97]⟩,.int .i64 0,.int .i64 0,.int .i64 0,.string ⟨#[120]⟩,.bool true] W'/\aL (w1.heap.size+1+1) #[.int .i64 3,.slice none 0 0] W'/\aF (w1.heap.size+1+1+1) 30 #[.slice (some ⟨w3.heap.size,0,none⟩) 1 1,.slice (some ⟨w1.heap.size+1+1,0,none⟩) 1 1,.slice none 0 0,.slice none 0 0] W'/\cD (fun c=>n2<=c/\c<w3.heap.size) W' [⟨1,[false]⟩,⟨3,[]⟩] (.slice e1 2 e3))
  ⟨aA.alloc' (show aA w1 _ from Below.trans K3.out ((aQ w3 (w1.heap.size+1+1+1) 0 _).mono (by omega))) _,(V3.out.keep (aQ w3 (w1.heap.size+1+1+1) 0 _) (by omega)).keep (aA.alloc _ _) (by rw[dI];omega),lP (dI _ _ _ _) _ _,(M3.out.keep (aQ w3 (w1.heap.size+1+1+1) 0 _) (by omega)).keep (aA.alloc _ _) (by rw[dI];omega),(X3.out.set 0 _).keep (aA.alloc _ _) (by rw[dI];omega),A3.out.mono (fun p hp=>((aA.alloc _ _).cell (p:=p) (by rw[dI];exact hp.2)).trans (kO (by omega))) fun _ h=>h⟩ ?_
 clear V3 M3 X3 A3 K3 b5 a7 a2 b0 b1 b7 c5 b3;rintro W4 ⟨k4,v4,b4,m4,x4,a4⟩;have f1:w3.heap.size<=W4.heap.size:=Nat.le_of_lt b4.1;refine (iO (inW W4) bG (wX []) 40000 _ _ _ _ _ W4 (fun _ h=>h) (aZ.mono (bQ (fun _ h=>h) k4) (fun b hb=>R8 hb k4.size) c3.out) ⟨aAl (a:=aLh) b4,vX m4,fH _ _,aBe _ _⟩ a1.out).mono ?_;rintro e w5 h5;obtain⟨k5,a5,rfl,d1⟩:=h5.best (rZ (.inl rfl)) (aGl (.inl rfl));rw[aXi] at d1;have K5:=hid (k4.trans k5);have V5:=hid (v4.keep k5 v4.facts.2.2);have B5:=hid (b4.keep k5 b4.1);have M5:=hid (m4.keep k5 m4.1);have X5:=hid (x4.keep k5 x4.facts.2.2);have A5:=hid (a4.mono (S':=fun c=>n2<=c/\c<w3.heap.size) (fun p hp=>k5.cell (p:=p) (R8 hp.2 f1)) fun _ h=>h);have C5:=hid (d1.mono (S':=fun c=>W4.heap.size<=c/\c<w5.heap.size) (fun _ _=>rfl) fun _ h=>h);have f9:=k5.size;have g1:=b4.1;clear k4 v4 b4 m4 x4 a4 k5 d1 h5;obtain⟨f7,f5,rfl,-⟩:=C5.out.len;obtain⟨b5,-,a7⟩:=V5.out.facts;obtain⟨a0,a9,b3⟩:=X5.out.facts;have a2:=a0 0;have b0:=a0 1;have b1:=a0 2;have b7:=a0 3;have c5:=a9 2;clear a0 a9;go_wp2_with fail;refine bK (fun W'=>aA w1 W'/\aE w1.heap.size 24 (.slice p1 bG.length c1) W'/\aL w3.heap.size #[.string ⟨#[97]⟩,.int .i64 0,.int .i64 0,.int .i64 0,.string ⟨#[120]⟩,.bool true] W'/\aL (w1.heap.size+1+1) #[.int .i64 3,.slice none 0 0] W'/\aF (w1.heap.size+1+1+1) 30 #[.slice (some ⟨w3.heap.size,0,none⟩) 1 1,.slice (some ⟨w1.heap.size+1+1,0,none⟩) 1 1,.slice (some ⟨w5.heap.size,0,none⟩) 2 2,.slice none 0 0] W'/\cD (fun c=>n2<=c/\c<w3.heap.size) W' [⟨1,[false]⟩,⟨3,[]⟩] (.slice e1 2 e3)/\cD (fun c=>W4.heap.size<=c/\c<w5.heap.size) W' [⟨1,[true]⟩,⟨2,[]⟩] (.slice f7 2 f5)/\aL w5.heap.size #[.int .i64 0,.int .i64 2] W')
  ⟨aA.alloc' (show aA w1 _ from Below.trans K5.out ((aQ w5 (w1.heap.size+1+1+1) 2 _).mono (by omega))) _,(V5.out.keep (aQ w5 (w1.heap.size+1+1+1) 2 _) (by omega)).keep (aA.alloc _ _) (by rw[dI];omega),⟨by rw[aC,dI];omega,fun o=>((aA.alloc _ _).cell (p:=⟨w3.heap.size,o,none⟩) (by show w3.heap.size<_;rw[dI];omega)).trans ((kO (by show w3.heap.size≠_;omega)).trans (B5.out.2 o))⟩,(M5.out.keep (aQ w5 (w1.heap.size+1+1+1) 2 _) (by omega)).keep (aA.alloc _ _) (by rw[dI];omega),(X5.out.set 2 _).keep (aA.alloc _ _) (by rw[dI];omega),A5.out.mono (fun p hp=>((aA.alloc _ _).cell (p:=p) (by rw[dI];omega)).trans (kO (by omega))) fun _ h=>h,C5.out.mono (fun p hp=>((aA.alloc _ _).cell (p:=p) (by rw[dI];exact hp.2)).trans (kO (by omega))) fun _ h=>h,lP (dI _ _ _ _) _ _⟩ ?_
 clear V5 M5 X5 A5 B5 C5 K5 b5 a7 a2 b0 b1 b7 c5 b3;rintro W6 ⟨k6,v6,b6,m6,x6,a6,c6,z6⟩;have f8:w5.heap.size<=W6.heap.size:=Nat.le_of_lt z6.1;have c7:=hid (show dA (inW W6) W6 (wX [0,2]) _ _ _ _ from⟨aAl (a:=aLh) b6,vX m6,aQx z6,aBe _ _⟩);have c2:=hid (aZ.mono (S':=inW W6) (bQ (fun _ h=>h) k6) (fun b hb=>R8 hb k6.size) c3.out);refine (iO (inW W6) bG (wX [0,2]) 40000 _ _ _ _ _ W6 (fun _ h=>h) c2.out c7.out a1.out).mono ?_;rintro e w7 h7;obtain⟨k7,e2,p7,rfl,e0⟩:=h7.none (rZ (.inr (.inr rfl))) aQw;obtain⟨g2,g0,rfl,-⟩:=e0.len;obtain⟨pl,d7⟩:∃pl:Nat,pl=(dD bG (wX [0,2]) 40000).P.length:=⟨_,rfl⟩;have f4:(0:Int)<(pl:Int):=by have:=List.length_pos_iff.2 e2;omega
 rw[<-d7];have K7:=hid (k6.trans k7);have V7:=hid (v6.keep k7 v6.facts.2.2);have X7:=hid (x6.keep k7 x6.facts.2.2);have A7:=hid (a6.mono (S':=inW w7) (fun p hp=>k7.cell (p:=p) (by omega)) fun c hc=>by have:=k7.size;show c<_;omega);have C7:=hid (c6.mono (S':=inW w7) (fun p hp=>k7.cell (p:=p) (by omega)) fun c hc=>by have:=k7.size;show c<_;omega);have e9:=hid ((c7.out.keep (fun _ h=>h) k7).mono (S':=inW w7) fun c hc=>R8 hc k7.size);have e4:=hid ((c2.out.keep (fun _ h=>h) k7).mono (S':=inW w7) (fun _ _=>rfl) fun c hc=>R8 hc k7.size);clear k6 v6 b6 m6 x6 a6 c6 z6 k7 h7 e0 e2 d7 c7 c2;obtain⟨b5,-,a7⟩:=V7.out.facts;obtain⟨a0,-,b3⟩:=X7.out.facts;have a2:=a0 0;have b0:=a0 1;have b1:=a0 2;have b7:=a0 3;clear a0;go_wp2_with fail;refine (xF (inW w7) bG (wX [0,2]) 40000 _ _ _ _ _ w7 (fun _ h=>h) e4.out e9.out a1.out).mono ?_;obtain⟨e8,f0,d8,d6⟩:=aXk;rintro e w8 ⟨k8,⟨h0,-⟩ | ⟨-,h0,-⟩ | ⟨-,-,j,hj,h1,h2,-⟩ | ⟨-,-,-,v8,rfl,h8,-⟩⟩
 ·exact absurd (rZ (.inr (.inr rfl))) h0
 ·exact absurd e8 h0
 ·match j,hj with
  | 0,_=>exact absurd f0 h1
  | 1,_=>exact absurd d8 h2
 rw[show (wX [0,2]).ma.length=2 from rfl,d6] at h8;have I8:=hid h8;have K8:=hid (K1.out.trans (K7.out.trans k8));have A8:=hid ((A7.out.keep (fun _ h=>h) k8).mono (S':=inW w8) (fun _ _=>rfl) fun c hc=>R8 hc k8.size);have C8:=hid ((C7.out.keep (fun _ h=>h) k8).mono (S':=inW w8) (fun _ _=>rfl) fun c hc=>R8 hc k8.size);obtain⟨up,uc,rfl⟩:=h8.len;have g3:=k8.size;clear k8 h8 b5 a7 a2 b0 b1 b7 b3 V7 X7 A7 C7 e9 e4 e8 f0 d8 d6;go_wp2_with fail;refine bK (fun W'=>aA w8 W'/\cD (inW W') W' [⟨1,[false]⟩,⟨3,[]⟩] (.slice (some ⟨w8.heap.size+1,0,none⟩) 2 2)) ⟨(aA.alloc _ _).alloc' _,aKl (lP (by simp) _ _) ((aL.new _ _ _).keep (aA.alloc _ _) (by simp))⟩ ?_;rintro W9 ⟨k9,m9⟩;refine (mV (inW W9) [⟨1,[false]⟩,⟨3,[]⟩] [⟨1,[false]⟩,⟨3,[]⟩] _ _ W9 (fun _ h=>h) ((A8.out.keep (fun _ h=>h) k9).mono (fun _ _=>rfl) fun c hc=>R8 hc k9.size) m9).mono ?_;rintro e c0 ⟨β,rfl,hβ,e6⟩;obtain rfl:β=true:=hβ.2 rfl;have c8:=hid (k9.trans e6);have e7:=hid ((C8.out.keep (fun _ h=>h) c8.out).mono (S':=inW c0) (fun _ _=>rfl) fun c hc=>R8 hc c8.out.size);clear k9 m9 e6 hβ A8 C8;go_wp2_with fail;refine bK (fun W'=>aA c0 W'/\cD (inW W') W' [⟨1,[true]⟩,⟨2,[]⟩] (.slice (some ⟨c0.heap.size+1,0,none⟩) 2 2)) ⟨(aA.alloc _ _).alloc' _,aKl (lP (by simp) _ _) ((aL.new _ _ _).keep (aA.alloc _ _) (by simp))⟩ ?_;rintro e5 ⟨b8,d4⟩;refine (mV (inW e5) [⟨1,[true]⟩,⟨2,[]⟩] [⟨1,[true]⟩,⟨2,[]⟩] _ _ e5 (fun _ h=>h) ((e7.out.keep (fun _ h=>h) b8).mono (fun _ _=>rfl) fun c hc=>R8 hc b8.size) d4).mono ?_;rintro e d2 ⟨β,rfl,hβ,d9⟩;obtain rfl:β=true:=hβ.2 rfl;have d3:=hid (c8.out.trans (b8.trans d9));clear b8 d4 d9 hβ e7;go_wp2_with fail;refine bK (fun W'=>aA d2 W'/\fD (.slice (some ⟨d2.heap.size,0,none⟩) 1 1) [2] W') ⟨aA.alloc _ _,.inr ⟨_,1,rfl,by simp,fun j x hx=>?_⟩⟩ ?_
 ·match j,hx with
  | 0,hx=>cases hx;exact (aL.new d2 #[.int .i64 2] _).2 0
 rintro c4 ⟨b9,d5⟩;refine (xV _ _ [2] [2] c4 (I8.out.keep (d3.out.trans b9)) d5 (by decide) (by decide)).mono ?_;rintro e f6 ⟨rfl,q,rfl⟩;rw[show (([2]:List Int) == [2])=true by decide];have KF:=hid (((K8.out.trans d3.out).trans b9).trans ((aA.refl c4).drewN q));generalize c4.drewN q=f6 at KF |-
 clear b9 d5;go_wp2_with fail;go_ret;exact⟨rfl,KF.out⟩
end
section
open Go.RowKit Go.Lib
theorem aHo(w:World)(q:Nat):aA w (w.drewN q):=⟨rfl,rfl,rfl,Y1 _,fun _ _=>rfl⟩
theorem uY(S:Nat->Prop)(xs ys:List Int)(v u:Value)(w:World)(h:aI S w xs v)(h':aI S w ys u)(hl:xs.length<=2000)(hl':ys.length<=2000):
  Calls Tryz.prog 11 #[v,u] w fun e w'=>e=.returned (.bool (xs==ys))/\aA w w':=by
 obtain⟨p,c,rfl,-,h1⟩:=h;obtain⟨q,d,rfl,-,h2⟩:=h';by_cases hne:xs.length=ys.length
 ·by_cases h0:xs = []
  ·subst h0;have hy:ys = []:=Y4.1 hne.symm;subst hy;refine (Tryz.slices_Equal_int_empty p q c 0 d w (by omega)).mono ?_;rintro e w' ⟨rfl,rfl⟩;exact⟨rfl,aA.refl _⟩
  ·have hp:=List.length_pos_iff.2 h0;obtain⟨g,off,rfl,-,hc⟩:=h1 hp;obtain⟨g',a0,rfl,-,a1⟩:=h2 (by omega);refine (Tryz.slices_Equal_int g off xs.length c g' a0 ys.length d xs ys w (Y1 _) (Y1 _) (by omega) (by omega) (fun j hj=>?_) (fun j hj=>?_)).mono ?_
   ·rw[R0,Q9 hj,Q7];exact hc j _ (Q9 hj)
   ·rw[R0,Q9 hj,Q7];exact a1 j _ (Q9 hj)
   ·rintro e w' ⟨rfl,q,rfl⟩;exact⟨aK (by rw[Z7,Z7]),aHo w q⟩
 ·refine (Tryz.slices_Equal_int_lens p q xs.length c ys.length d w hne).mono ?_;rintro e w' ⟨rfl,rfl⟩;refine⟨aK ?_,aA.refl _⟩;symm;exact Q6.2 fun e=>hne (by rw[e])
end
end Go.Proofs.YthjlcjdlelkkdaaGreatDoor
