/- Steps of the proof: EncClosed, EncAt, EncSetP, EncMeansWalk, AtomOpen, NeedOpen, TreeOpen. -/
import Derived.Test.YthhhicgjiilgmaaGreatDoorSd24
import Derived.Test.YthhhicgjiilgmaaGreatDoorSd25
import Derived.Test.YthhhicgjiilgmaaGreatDoorSd26
import Derived.Test.YthhhicgjiilgmaaGreatDoorSd23
import Derived.Test.YthhhicgjiilgmaaGreatDoorSd18
import Derived.Test.YthhhicgjiilgmaaGreatDoorSd16
import Derived.Test.YthhhicgjiilgmaaGreatDoorSd20
import Derived.Test.YthhhicgjiilgmaaGreatDoorSd03
import Derived.Lib.LaidTab
import Derived.Stop.LaidErr
import Derived.OpenShut
import Derived.Lib.SmallJoins
import Derived.Deep.DeepWitnessRowRef
import Derived.LaidMore
import Derived.Stop.Joined
import Derived.ChangeOld
import Derived.Shelf.Vars
import Derived.HandedShaped
import Derived.Test.YthhhicgjiilgmaaGreatDoorSd08
set_option maxHeartbeats 16000000
set_option maxRecDepth 100000
namespace Go.Proofs.YthhhicgjiilgmaaGreatDoor
open Go.RowKit
def wE:WI:=⟨[atA],[⟨3,[]⟩],[],[]⟩
def mE:List MB:= [⟨1,[false]⟩,⟨3,[]⟩]
def mdE:List Bool:= [false,false,true,false,false]
theorem aOg:cF bB mE=0:=by
 unfold cF;rw [mU]
 show aFv bB mE=0
 decide
theorem vO:cP bB wE=0:=by
 have h1:cF bB [⟨3,[]⟩]=0:=by
  unfold cF;rw [mU]
  show aFv bB [⟨3,[]⟩]=0
  decide
 have h2:taE [atA]=0:=by
  have:iK atA=0:=by
   show chk [97] 0 0 0 [] false=0
   unfold chk
   rw [if_neg (by simp [aDa]),if_neg (by decide),if_neg (by decide)]
  simp [taE,aV,this]
 unfold cP
 rw [show wE.ins = [⟨3,[]⟩] from rfl,show wE.ts = [atA] from rfl,show wE.ma = [] from rfl,show wE.on = [] from rfl,h1,h2]
 rfl
theorem aKt:bX bB wE mE=0:=by unfold bX;rw [vO,aOg];rfl
theorem aCo:(aB bB wE).many=5:=by decide
theorem aOf:Cn.chL ((aB bB wE).mod (iE mE)) = [-1,-2,3,-4,-5]:=by decide
theorem aOa:cA bB wE mdE=mE:=rfl
theorem sP {b c:Nat} {W:World} (hb:aL b #[.string ⟨#[97]⟩,.int .i64 0,.int .i64 0,.int .i64 0,.string ⟨#[]⟩,.bool false] W) (hc:aL c #[.int .i64 3,.slice none 0 0] W):eQ (inW W) W wE (.slice (some ⟨b,0,none⟩) 1 1) (.slice (some ⟨c,0,none⟩) 1 1) (.slice none 0 0) (.slice none 0 0):=by
 refine ⟨⟨_,_,rfl,by decide,fun _=>⟨b,0,rfl,hb.1,fun j a ha=> ?_⟩⟩,⟨_,_,rfl,by decide,fun _=>⟨c,0,rfl,hc.1,fun j m hm=> ?_⟩⟩,⟨_,_,rfl,by decide,fun h=>absurd h (by decide)⟩,⟨_,_,rfl,by decide,fun h=>absurd h (by decide)⟩⟩
 ·match j,ha with
  | 0,ha=>cases ha;exact ⟨hb.2 0,hb.2 1,hb.2 2,hb.2 3,hb.2 4,hb.2 5⟩
 ·match j,hm with
  | 0,hm=>cases hm;exact ⟨_,hc.2 0,hc.2 1,none,0,rfl,by simp,fun h=>absurd h (by simp)⟩
theorem aDv {b c:Nat} {W:World} (hb:aL b #[.int .i64 1,.slice (some ⟨c,0,none⟩) 1 1,.int .i64 3,.slice none 0 0] W) (hc:aL c #[.bool false] W):bQ (inW W) W mE (.slice (some ⟨b,0,none⟩) 2 2):=by
 refine ⟨_,_,rfl,by decide,fun _=>⟨b,0,rfl,hb.1,fun j m hm=> ?_⟩⟩
 match j,hm with
 | 0,hm=>
  cases hm
  refine ⟨_,hb.2 0,hb.2 1,_,_,rfl,by simp,fun _=>⟨c,0,rfl,hc.1,fun j y hy=> ?_⟩⟩
  match j,hy with
  | 0,hy=>cases hy;exact hc.2 0
 | 1,hm=>cases hm;exact ⟨_,hb.2 2,hb.2 3,none,0,rfl,by simp,fun h=>absurd h (by simp)⟩
theorem aFd {b:Nat} {W:World} (hb:aL b #[.bool false,.bool false,.bool true,.bool false,.bool false] W):aT (inW W) W mdE (.slice (some ⟨b,0,none⟩) 5 5):=by
 refine ⟨_,_,rfl,by decide,fun _=>⟨b,0,rfl,hb.1,fun j y hy=> ?_⟩⟩
 match j,hy with
 | 0,hy=>cases hy;exact hb.2 0
 | 1,hy=>cases hy;exact hb.2 1
 | 2,hy=>cases hy;exact hb.2 2
 | 3,hy=>cases hy;exact hb.2 3
 | 4,hy=>cases hy;exact hb.2 4
theorem yT {rb cap:Nat} {zs:List Int} {W:World} (h:aD rb 3 (zs.map (Value.int .i64)).toArray W) (hn:zs.length=cap):eH (.slice (some ⟨rb,0,none⟩) cap cap) zs W:=
 .inr ⟨rb,cap,by rw [hn],h.facts.2.2,fun j x hx=>by rw [h.facts.1,List.getElem?_toArray,List.getElem?_map,hx];rfl⟩
theorem iX (w:World) (hE:Env w) (hM:jT w) :
  Calls Tryz.prog 16 #[] w fun e w'=>e=.returned (.bool true)/\aA w w':=by
 go_enter Tryz.func16,Tryz.ntmps16
 go_wp2_with fail
 refine (aBp w hE hM).mono ?_
 rintro e w1 ⟨v1,rfl,hp1,k1,hcap⟩
 obtain ⟨p1,c1,rfl,-⟩:=hp1.len
 have HP1:=hid (bA.mono (S':=inW w1) (fun _ _=>rfl) (fun b hb=>hb.2) hp1)
 have K1:=hid k1
 have HCAP:=hid hcap
 clear hp1 k1 hE hM hcap
 go_wp2_with fail
 refine aU (fun W'=>aA w1 W'/\aE w1.heap.size 24 (.slice p1 bB.length c1) W'/\aL (w1.heap.size+1) #[.string ⟨#[97]⟩,.int .i64 0,.int .i64 0,.int .i64 0,.string ⟨#[]⟩,.bool false] W'/\aL (w1.heap.size+1+1) #[.int .i64 3,.slice none 0 0] W'/\aL (w1.heap.size+1+1+1) #[.slice (some ⟨w1.heap.size+1,0,none⟩) 1 1,.slice (some ⟨w1.heap.size+1+1,0,none⟩) 1 1,.slice none 0 0,.slice none 0 0] W')
  ⟨(((aA.alloc _ _).alloc' _).alloc' _).alloc' _,(aE.new _ _ _).keep (((aA.alloc _ _).alloc' _).alloc' _) (by simp),(jM (by simp) _ _).keep ((aA.alloc _ _).alloc' _) (by simp),(jM (by simp) _ _).keep (aA.alloc _ _) (by simp),jM (by simp) _ _⟩ ?_
 rintro W2 ⟨k2,v2,b2,m2,x2⟩
 refine (rB (inW W2) bB wE _ _ _ _ _ W2 (fun _ h=>h) (bA.mono (bC (fun _ h=>h) k2) (fun b hb=>Nat.lt_of_lt_of_le hb k2.size) HP1.out) (sP b2 m2) HCAP.out).mono ?_
 rintro e w3 ⟨k3,⟨h0,-⟩ | ⟨-,cv,rfl,hcls⟩⟩
 ·exact absurd vO h0
 obtain ⟨cp,cc,rfl,-⟩:=hcls.len
 have hn5:5<=(bF bB wE).n:=by have:=(nH vO).1;rw [aCo] at this;exact this
 have K3:=hid (k2.trans k3)
 have V3:=hid (v2.keep k3 v2.facts.2.2)
 have B3:=hid (b2.keep k3 b2.1)
 have M3:=hid (m2.keep k3 m2.1)
 have X3:=hid (x2.keep k3 x2.1)
 obtain ⟨hcv,-,hlv⟩:=V3.out.facts
 have hcx:=X3.out.2
 have hlx:=X3.out.1
 generalize (bF bB wE).cl.length=cn
 generalize (bF bB wE).n=nn at hn5 ⊢
 clear k2 v2 b2 m2 x2 k3 hcls
 go_wp2_with fail
 refine aU (fun W'=>aA w1 W'/\aE w1.heap.size 24 (.slice p1 bB.length c1) W'/\aL (w1.heap.size+1) #[.string ⟨#[97]⟩,.int .i64 0,.int .i64 0,.int .i64 0,.string ⟨#[]⟩,.bool false] W'/\aL (w1.heap.size+1+1) #[.int .i64 3,.slice none 0 0] W'/\aL (w1.heap.size+1+1+1) #[.slice (some ⟨w1.heap.size+1,0,none⟩) 1 1,.slice (some ⟨w1.heap.size+1+1,0,none⟩) 1 1,.slice none 0 0,.slice none 0 0] W'/\aL w3.heap.size #[.int .i64 nn,.slice cp cn cc] W'/\aL (w3.heap.size+1) #[.bool false] W'/\aL (w3.heap.size+1+1) #[.int .i64 1,.slice (some ⟨w3.heap.size+1,0,none⟩) 1 1,.int .i64 3,.slice none 0 0] W')
  ⟨((K3.out.alloc' _).alloc' _).alloc' _,V3.out.keep (((aA.alloc _ _).alloc' _).alloc' _) V3.out.facts.2.2,B3.out.keep (((aA.alloc _ _).alloc' _).alloc' _) B3.out.1,M3.out.keep (((aA.alloc _ _).alloc' _).alloc' _) M3.out.1,X3.out.keep (((aA.alloc _ _).alloc' _).alloc' _) X3.out.1,(aL.new _ _ _).keep ((aA.alloc _ _).alloc' _) (by simp),(jM (by simp) _ _).keep (aA.alloc _ _) (by simp),jM (by simp) _ _⟩ ?_
 rintro W4 ⟨k4,v4,b4,m4,x4,f4,y4,z4⟩
 refine (nQ (inW W4) bB wE mE _ _ _ _ _ _ W4 (fun _ h=>h) (bA.mono (bC (fun _ h=>h) k4) (fun b hb=>Nat.lt_of_lt_of_le hb k4.size) HP1.out) (sP b4 m4) (aDv z4 y4)).mono ?_
 rintro e w5 ⟨k5,⟨h0,-⟩ | ⟨-,rb,rfl,-,hrow⟩⟩
 ·exact absurd aKt h0
 rw [aOf] at hrow
 rw [aCo]
 have K5:=hid (k4.trans k5)
 have V5:=hid (v4.keep k5 v4.facts.2.2)
 have B5:=hid (b4.keep k5 b4.1)
 have M5:=hid (m4.keep k5 m4.1)
 have X5:=hid (x4.keep k5 x4.1)
 have F5:=hid (f4.keep k5 f4.1)
 have I5:=hid (yT (cap:=5) hrow rfl)
 clear k4 v4 b4 m4 x4 f4 y4 z4 k5 hrow hcv hlv hcx hlx
 obtain ⟨hcv,-,hlv⟩:=V5.out.facts
 have hcx:=X5.out.2
 have hlx:=X5.out.1
 go_wp2_with fail
 refine aU (fun W'=>aA w1 W'/\aA w5 W'/\aL (w1.heap.size+1) #[.string ⟨#[97]⟩,.int .i64 0,.int .i64 0,.int .i64 0,.string ⟨#[]⟩,.bool false] W'/\aL (w1.heap.size+1+1) #[.int .i64 3,.slice none 0 0] W'/\aL w5.heap.size #[.bool false,.bool false,.bool true,.bool false,.bool false] W')
  ⟨K5.out.alloc' _,aA.alloc _ _,B5.out.keep (aA.alloc _ _) B5.out.1,M5.out.keep (aA.alloc _ _) M5.out.1,aL.new _ _ _⟩ ?_
 rintro W6 ⟨k6,k56,b6,m6,z6⟩
 refine (vY (inW W6) bB wE mdE _ _ _ _ _ _ W6 (fun _ h=>h) (bA.mono (bC (fun _ h=>h) k6) (fun b hb=>Nat.lt_of_lt_of_le hb k6.size) HP1.out) (sP b6 m6) (aFd z6)).mono ?_
 rintro e w7 ⟨k7,⟨h0,-⟩ | ⟨-,h0,-⟩ | ⟨-,-,-,v7,rfl,hm7⟩⟩
 ·exact absurd vO h0
 ·rw [aCo] at h0;exact absurd h0 (by decide)
 rw [aOa] at hm7
 have K7:=hid (K1.out.trans (k6.trans k7))
 have K57:=hid (k56.trans k7)
 have F7:=hid (F5.out.keep K57.out F5.out.1)
 have I7:=hid (I5.out.keep K57.out)
 have M7:=hid hm7
 obtain ⟨mp7,mc7,rfl,-,-⟩:=hm7
 have hf0:w7.cell? ⟨w3.heap.size,0,none⟩=some (.int .i64 nn):=F7.out.2 0
 have hfl:=F7.out.1
 have hn5I:(5:Int)<=(nn:Int):=by omega
 clear k6 k56 b6 m6 z6 k7 hcv hlv hcx hlx V5 B5 M5 X5 F5 I5
 go_wp2_with fail
 refine aU (fun W'=>aA w7 W'/\eH (.slice (some ⟨w7.heap.size,0,none⟩) 5 5) [-1,-2,3,-4,-5] W') ⟨aA.alloc _ _,yT (cap:=5) (aD.new w7 3 ([-1,-2,3,-4,-5].map (Value.int .i64)).toArray) rfl⟩ ?_
 rintro W8 ⟨k8,i8⟩
 refine (tV _ _ [-1,-2,3,-4,-5] [-1,-2,3,-4,-5] W8 (I7.out.keep k8) i8 (by decide) (by decide)).mono ?_
 rintro e w9 ⟨rfl,q,rfl⟩
 rw [show (([-1,-2,3,-4,-5]:List Int) == [-1,-2,3,-4,-5])=true by decide]
 have K9:=hid (k8.trans ((aA.refl W8).drewN q))
 generalize W8.drewN q=w9 at K9 ⊢
 clear k8 i8
 go_wp2_with fail
 refine aU (fun W'=>aA w9 W'/\bQ (inW W') W' mE (.slice (some ⟨w9.heap.size+1,0,none⟩) 2 2)) ⟨(aA.alloc _ _).alloc' _,aDv (jM (by simp) _ _) ((aL.new _ _ _).keep (aA.alloc _ _) (by simp))⟩ ?_
 rintro W10 ⟨k10,m10⟩
 have K10:=hid (K9.out.trans k10)
 refine (wN (inW W10) mE mE _ _ W10 (fun _ h=>h) (M7.out.mono (fun p hp=>K10.out.cell (p:=p) hp.2) (fun c hc=>Nat.lt_of_lt_of_le hc.2 K10.out.size)) m10).mono ?_
 rintro e w11 ⟨β,rfl,hβ,k11⟩
 obtain rfl:β=true:=hβ.2 rfl
 have KF:=hid ((K7.out.trans K10.out).trans k11)
 clear k10 m10 k11 hβ
 go_wp2_with fail
 go_ret
 exact ⟨rfl,KF.out⟩
theorem aNr (x:Int) (n:Nat) (w:World) (hn:0<n) (hn2:n<=1000):Calls Tryz.prog 22 #[.int .i64 x,.int .i64 n] w fun e w'=> ∃ k:Nat,k<n/\e=.returned (.int .i64 k)/\w'=w:=by
 have hn0:(n:Int)≠0:=by omega
 have hnI:(0:Int)<(n:Int):=by omega
 have h1 : -(n:Int)<Int.tmod x n:=by have:=Int.lt_tmod_of_pos x hnI;omega
 have h2:Int.tmod x n<n:=Int.tmod_lt_of_pos x hnI
 go_enter Tryz.func22,Tryz.ntmps22
 go_wp2_with fail
 ·go_ret
  refine ⟨(x.tmod n+n).toNat,by omega,?_,rfl⟩
  rw [show (((x.tmod n+n).toNat:Nat):Int)=x.tmod n+n by omega]
  rfl
 ·go_ret
  refine ⟨(x.tmod n).toNat,by omega,?_,rfl⟩
  rw [show (((x.tmod n).toNat:Nat):Int)=x.tmod n by omega]
  rfl
theorem aHw {ps:List PK} (wi:WI) (hT:cU ps=0) (m:List Bool):cF ps (cA ps wi m)=0:=by
 unfold cF
 rw [if_neg (by simp [hT])]
 unfold aFv
 refine (cM _ 0).2 fun j hj=> ?_
 rw [Nat.zero_add]
 have hg:(cA ps wi m)[j]? = some (cA ps wi m)[j]:=List.getElem?_eq_getElem hj
 obtain ⟨i,hi,ht,hx⟩:=iG.1 (List.getElem_mem hj)
 unfold mbE
 rw [fR hg]
 have h3 : ¬ (0<j/\(cA ps wi m)[j].pl<=((cA ps wi m).getD (j-1) MB.zero).pl):=by
  rintro ⟨h0,hle⟩
  have hg1:(cA ps wi m)[j-1]? = some (cA ps wi m)[j-1]:=List.getElem?_eq_getElem (by omega)
  rw [fR hg1] at hle
  have:=nZ hg1 hg (by omega)
  omega
 rw [if_neg (by rw [hx];simp only;omega),if_neg h3,if_neg]
 have hfl:((aB ps wi).flags m i).length=(ps.getD i PK.zero).fl.length:=by unfold Cn.CT.flags;rw [List.length_map,List.length_range,jE wi hi]
 rw [hx,cT,Int.toNat_natCast]
 exact fun h=>h hfl
theorem tA {ps:List PK} {wi:WI} (h:cP ps wi=0) (m:List Bool):bX ps wi (cA ps wi m)=0/\gF ps wi (cA ps wi m)=kJ ps wi (cA ps wi m):=by
 have h1:bX ps wi (cA ps wi m)=0:=by unfold bX;rw [if_neg (by simp [h])];exact aHw wi (dN h).1 m
 refine ⟨h1,?_⟩
 unfold gF
 rw [h1]
 simp
theorem aFo {n:Nat} {F:List (List Int)} {A l:List Int} (h:Cn.pL n F A l) (hl:l.length=n) {j:Nat} (hj:j<l.length):l[j].natAbs=j+1:=by
 classical
 have hv:=h.vars
 have hlen:=congrArg List.length hv
 rw [List.length_map,hl] at hlen
 rw [List.filter_eq_self.2 (List.length_filter_eq_length_iff.1 (by rw [← hlen,List.length_range']))] at hv
 have h1:=congrArg (fun q=>q[j]?) hv
 simp only [List.getElem?_map,List.getElem?_eq_getElem hj,List.getElem?_range' (show j<n by omega),Option.map_some] at h1
 have:=Option.some.inj h1
 omega
theorem rN {f:Int->Value} {A:List Int} {b:Nat} {T:TypeId} {w:World} (h:Cn.cK f A A.length b T w):aD b T (A.map f).toArray w:=by
 obtain ⟨cs,h1,h2,h3⟩:=h
 have e:cs=A.map f:=by
  refine List.ext_getElem? fun i=> ?_
  by_cases hi:i<A.length
  ·rw [h2 i A[i] hi (List.getElem?_eq_getElem hi),List.getElem?_map,List.getElem?_eq_getElem hi];rfl
  ·rw [List.getElem?_eq_none (by omega),List.getElem?_eq_none (by rw [List.length_map];omega)]
 rw [← e]
 exact h3
theorem aKl (m:List Bool):(Cn.chL m).map (fun x=>Value.bool (decide (0<x)))=m.map Value.bool:=by
 refine List.ext_getElem? fun v=> ?_
 by_cases hv:v<m.length
 ·rw [List.getElem?_map,Cn.iV hv,List.getElem?_map,List.getElem?_eq_getElem hv,List.getD_eq_getElem?_getD,List.getElem?_eq_getElem hv]
  cases m[v]<;>simp<;>omega
 ·rw [List.getElem?_eq_none (by rw [List.length_map,Cn.dH];omega),List.getElem?_eq_none (by rw [List.length_map];omega)]
theorem oQ {b n:Nat} {m:List Bool} {w:World} {S:Nat->Prop} (h:aD b 4 (m.map Value.bool).toArray w) (hn:m.length=n) (hs:n<=1000) (hS:S b):aT S w m (.slice (some ⟨b,0,none⟩) n n):=by
 subst hn
 refine ⟨_,_,rfl,by omega,fun _=>⟨b,0,rfl,hS,fun j x hx=> ?_⟩⟩
 rw [Nat.zero_add,h.facts.1,List.getElem?_toArray,List.getElem?_map,hx];rfl
theorem uD (S:Nat->Prop) (ps:List PK) (wi:WI) (ms:List MB) (fs:List Int) (pv tsv inv mav onv lv fv:Value) (w:World) (hS : ∀ b,S b->b<w.heap.size) (hp:bA S w ps pv) (hw:eQ S w wi tsv inv mav onv) (hm:bQ S w ms lv) (hfs:aK S w fs fv) (hcap:kQ pv) (hcf:kQ fv) (hE:Env w) (hM:jT w) :
  Calls Tryz.prog 4 #[.agg #[pv],.agg #[tsv,inv,mav,onv],lv,fv] w fun e w'=>e=.returned (.bool true)/\aA w w':=by
 obtain ⟨i0,hi,hz0,hz1,hz2⟩:=info_parts aIj
 have HP:=hid hp
 have HW:=hid hw
 have HL:=hid hm
 have HFS:=hid hfs
 have HE:=hid hE
 have HM:=hid hM
 have HCF:=hid hcf
 obtain ⟨lp,lc,hlv,-,-⟩:=id hm
 subst hlv
 obtain ⟨fp,fc,hfv,hflen,-⟩:=id hfs
 subst hfv
 clear hp hw hm hfs hE hM hcf
 go_enter Tryz.func4,Tryz.ntmps4
 go_upto_region 1 with fail
 refine bM (fun W'=>aA w W'/\aE w.heap.size 24 pv W'/\aD (w.heap.size+1) 30 #[tsv,inv,mav,onv] W') ⟨(aA.alloc _ _).alloc' _,(aE.new _ _ _).keep (aA.alloc _ _) (by simp),?_⟩ ?_
 ·have:=aD.new (w.alloc (.cells #[pv] 24)) 30 #[tsv,inv,mav,onv]
  rw [aC] at this;exact this
 rintro W1 ⟨k1,v1,b1⟩
 have K1:=hid k1
 have V1:=hid v1
 have B1:=hid b1
 generalize w.heap.size=b at V1 B1 ⊢
 clear k1 v1 b1
 have ht0:=V1.out.facts.1
 have htl:=V1.out.facts.2.2
 have hw0:W1.cell? ⟨b+1,0,none⟩=some tsv:=B1.out.facts.1 0
 have hw1:W1.cell? ⟨b+1,1,none⟩=some inv:=B1.out.facts.1 1
 have hw2:W1.cell? ⟨b+1,2,none⟩=some mav:=B1.out.facts.1 2
 have hw3:W1.cell? ⟨b+1,3,none⟩=some onv:=B1.out.facts.1 3
 have hwl:=B1.out.facts.2.2
 go_wp2_with fail
 refine (rB S ps wi _ _ _ _ _ W1 (fun c hc=>Nat.lt_of_lt_of_le (hS c hc) K1.out.size) (HP.out.keep hS K1.out) (HW.out.keep hS K1.out) hcap).mono ?_
 rintro e W2 ⟨k2,h2o⟩
 have K2:=hid (K1.out.trans k2)
 have V2:=hid (V1.out.keep k2 V1.out.facts.2.2)
 have B2:=hid (B1.out.keep k2 B1.out.facts.2.2)
 clear ht0 htl hw0 hw1 hw2 hw3 hwl V1 B1 k2
 obtain ⟨vn,cv,er,rfl,hcv,h2⟩ : ∃ (vn:Int) (cv:Value) (er:Int),e=.returned (.tuple #[.agg #[.int .i64 vn,cv],.int .i64 er])/\(∃ p n c,cv=.slice p n c)/\er=cP ps wi/\(cP ps wi=0->vn=((bF ps wi).n:Nat)/\Cn.eY (fun b=>W1.heap.size<=b/\b<W2.heap.size) W2 (bF ps wi).cl cv):=by
  rcases h2o with ⟨hz,rfl⟩ | ⟨hz,cv,rfl,hcls⟩
  ·exact ⟨0,_,_,rfl,⟨none,0,0,rfl⟩,rfl,fun h=>absurd h hz⟩
  ·obtain ⟨p,c,e,-⟩:=hcls.len
   exact ⟨_,cv,0,rfl,⟨p,_,c,e⟩,hz.symm,fun _=>⟨rfl,hcls⟩⟩
 obtain ⟨cp,cn,cc,rfl⟩:=hcv
 have H2:=hid h2
 clear h2 h2o
 go_upto_region 2 with fail
 refine bM (fun W'=>aA W2 W'/\aD W2.heap.size 34 #[.int .i64 vn,.slice cp cn cc] W') ⟨aA.alloc _ _,aD.new _ _ _⟩ ?_
 rintro W3 ⟨k3,b3⟩
 have K23:=hid k3
 have K3:=hid (K2.out.trans k3)
 have F3:=hid b3
 have V3:=hid (V2.out.keep k3 V2.out.facts.2.2)
 have B3:=hid (B2.out.keep k3 B2.out.facts.2.2)
 have ht0:=V3.out.facts.1
 have htl:=V3.out.facts.2.2
 have hw0:W3.cell? ⟨b+1,0,none⟩=some tsv:=B3.out.facts.1 0
 have hw1:W3.cell? ⟨b+1,1,none⟩=some inv:=B3.out.facts.1 1
 have hw2:W3.cell? ⟨b+1,2,none⟩=some mav:=B3.out.facts.1 2
 have hw3:W3.cell? ⟨b+1,3,none⟩=some onv:=B3.out.facts.1 3
 have hwl:=B3.out.facts.2.2
 generalize W2.heap.size=fb at F3 ⊢
 clear k3 b3 V2 B2
 go_wp2_with fail
 refine (nQ S ps wi ms _ _ _ _ _ _ W3 (fun c hc=>Nat.lt_of_lt_of_le (hS c hc) K3.out.size) (HP.out.keep hS K3.out) (HW.out.keep hS K3.out) (HL.out.keep hS K3.out)).mono ?_
 rintro e W4 ⟨k4,h4⟩
 have K34:=hid k4
 have K4:=hid (K3.out.trans k4)
 have F4:=hid (F3.out.keep k4 F3.out.facts.2.2)
 have V4:=hid (V3.out.keep k4 V3.out.facts.2.2)
 have B4:=hid (B3.out.keep k4 B3.out.facts.2.2)
 have HB3L:=hid (show b+1<W3.heap.size/\fb<W3.heap.size from ⟨B3.out.facts.2.2,F3.out.facts.2.2⟩)
 clear ht0 htl hw0 hw1 hw2 hw3 hwl V3 B3 F3 k4
 rcases h4 with ⟨hz,rfl⟩ | ⟨hz,rb,rfl,hrb,hrow⟩
 ·have hz1:(bX ps wi ms==0)=false:=by simpa using hz
  have hz2:(bX ps wi ms != 0)=true:=by simp [bne,hz1]
  generalize bX ps wi ms=cw at hz1 hz2 ⊢
  clear hz H2
  go_wp2_with fail
  refine (iX W4 (HE.out.keep K4.out) (HM.out.keep K4.out)).mono ?_
  rintro e W5 ⟨rfl,k5⟩
  have K5:=hid (K4.out.trans k5)
  clear k5
  cases her:(er != 0)
  ·have her2:(er==0)=true:=by simpa [bne] using her
   go_wp2_with fail
   refine (iX W5 (HE.out.keep K5.out) (HM.out.keep K5.out)).mono ?_
   rintro e W6 ⟨rfl,k6⟩
   have K6:=hid (K5.out.trans k6)
   clear k6
   go_wp2_with fail
   go_ret
   exact ⟨rfl,K6.out⟩
  ·have her2:(er==0)=false:=by simpa [bne] using her
   go_wp2_with fail
   refine (iX W5 (HE.out.keep K5.out) (HM.out.keep K5.out)).mono ?_
   rintro e W6 ⟨rfl,k6⟩
   have K6:=hid (K5.out.trans k6)
   clear k6
   go_wp2_with fail
   go_ret
   exact ⟨rfl,K6.out⟩
 have hzw:cP ps wi=0:=by unfold bX at hz;by_cases e:cP ps wi=0;exact e;rw [if_pos e] at hz;exact hz
 have hzm:cF ps ms=0:=by unfold bX at hz;rw [if_neg (by simp [hzw])] at hz;exact hz
 obtain ⟨her,hform⟩:=H2.out
 obtain ⟨rfl,hcls⟩:=hform hzw
 rw [hzw] at her
 subst her
 obtain ⟨hT,hTS,-,-,-,-,-,-⟩:=dN hzw
 have h14:=(oK wi hT).1
 have HCLS:=hid hcls
 have R4:=hid hrow
 have HRB:=hid hrb
 have HZW:=hid hzw
 have HZM:=hid hzm
 clear hform hcls hrow hz hzw hzm hT hTS hrb H2
 go_wp2_with fail
 refine (iX W4 (HE.out.keep K4.out) (HM.out.keep K4.out)).mono ?_
 rintro e W5 ⟨rfl,k5⟩
 have K5:=hid (K4.out.trans k5)
 have KC5:=hid ((K23.out.trans K34.out).trans k5)
 have F5:=hid (F4.out.keep k5 F4.out.facts.2.2)
 have V5:=hid (V4.out.keep k5 V4.out.facts.2.2)
 have B5:=hid (B4.out.keep k5 B4.out.facts.2.2)
 have R5:=hid (R4.out.keep k5 R4.out.facts.2.2)
 clear k5 F4 V4 B4 R4
 go_wp2_with (at_make;refine wpList_make_full _ rfl _ _ 31 rfl W5.heap.size 4 i0 (.bool false) 1 Tryz.underlying31 hi hz0 hz1 .i64 .i64 ((aB ps wi).many:Int) ((aB ps wi).many:Int) (aB ps wi).many rfl rfl rfl rfl (by rw [hz2];omega) (by unfold maxLen;omega) (Nat.le_refl _) ?_;intro w6 h1 h2;have K56:=hid (Cn.mG h2);have M6:=hid (Cn.fJ (v:= .bool false) rfl h1);clear h1 h2)
 obtain ⟨m0,hm0⟩ : ∃ m0,m0=(aB ps wi).mod (iE ms):=⟨_,rfl⟩
 have hlen0:m0.length=(aB ps wi).many:=by
  rw [hm0];exact Cn.CT.mod_len (jV (dN HZW.out).2.1) _
 have HM0:=hid hm0
 rw [← hm0] at R5
 clear hm0
 have hcl0:(Cn.chL m0).length=(aB ps wi).many:=by rw [Cn.dH,hlen0]
 have hrb5:=R5.out.facts.2.2
 have hmne:rb≠W5.heap.size:=by omega
 have HFI:=hid (show Cn.cK (fun x=> .bool (decide (0<x))) (Cn.chL m0) 0 W5.heap.size 4 w6 from Cn.cK.start (z:= .bool false) (by rw [hcl0];exact M6.out))
 have k56:aA W5 w6:=K56.out
 have K6:=hid (K5.out.trans k56)
 have KC6:=hid (KC5.out.trans k56)
 have h2mb:W2.heap.size<=W5.heap.size:=KC5.out.size
 have h2rb:W2.heap.size<=rb:=by have:=HRB.out;have:=K23.out.size;omega
 have F6:=hid (F5.out.keep k56 F5.out.facts.2.2)
 have V6:=hid (V5.out.keep k56 V5.out.facts.2.2)
 have B6:=hid (B5.out.keep k56 B5.out.facts.2.2)
 have R6:=hid (R5.out.keep k56 R5.out.facts.2.2)
 have hbb:b+1<W5.heap.size:=B5.out.facts.2.2
 have hfbb:fb<W5.heap.size:=F5.out.facts.2.2
 have hwb:w.heap.size<=W5.heap.size:=K5.out.size
 generalize W5.heap.size=mb at HFI hmne hbb hfbb hwb h2mb ⊢
 clear F5 V5 B5 R5 k56 hrb5 M6
 go_loopg [56] (aB ps wi).many (fun gk iv wr=> ∃ j:Nat,j+gk=(aB ps wi).many/\iv=.int .i64 j/\Cn.cK (fun x=> .bool (decide (0<x))) (Cn.chL m0) j mb 4 wr/\Cn.aF (fun c=>c=mb) (fun c=>c=mb) w6 wr)
 case atStart=>exact ⟨0,by omega,rfl,HFI.out,Cn.aF.refl _ _⟩
 case round=>
 obtain ⟨j,hj,rfl,hf,ht⟩:=hrel
 have F1:=hid hf
 have T1:=hid ht
 clear hf ht
 have R1:=hid (Cn.aD.turn R6.out T1.out hmne)
 by_cases hlt:j<(aB ps wi).many
 ·have hjI:(j:Int)<((aB ps wi).many:Int):=by omega
  have hg:=List.getElem?_eq_getElem (l:=Cn.chL m0) (i:=j) (by omega)
  have hcr:wr.cell? ⟨rb,j,none⟩=some (.int .i64 ((Cn.chL m0)[j]'(by omega))):=by rw [R1.out.facts.1,List.getElem?_toArray,List.getElem?_map,hg];rfl
  have hrl:=R1.out.facts.2.2
  have hnx:=F1.out.next hg
  have HN:=hid (show Cn.cK (fun x=> .bool (decide (0<x))) (Cn.chL m0) (j+1) mb 4 _ from hnx)
  obtain ⟨⟨old,hold⟩,hfz,hml⟩:=F1.out.cell (i:=j) (by omega)
  have HT:=hid (T1.out.trans (Cn.aF.set (fun c=>c=mb) wr mb j (.bool (decide (0<(Cn.chL m0)[j]'(by omega)))) rfl))
  clear hnx hg
  generalize (Cn.chL m0)[j]'(by omega)=xj at hcr HN HT
  go_wp2_with fail
  generalize wr.setCell ⟨mb,j,none⟩ (.bool (decide (0<xj)))=W7 at HN HT ⊢
  go_roundg ((aB ps wi).many-(j+1))
  case rel=>exact ⟨j+1,by omega,by go_num,HN.out,HT.out⟩
  case measure=>omega
 have hje:j=(aB ps wi).many:=by omega
 have hnl : ¬ ((j:Int)<((aB ps wi).many:Int)):=by omega
 have M1:=hid (show aD mb 4 (m0.map Value.bool).toArray wr from by
  have:=F1.out
  rw [hje,← hcl0] at this
  have h5:=rN this
  rw [aKl] at h5
  exact h5)
 clear hje hj F1 hlt
 have hT2 : ∀ c,c≠mb->¬ (c=mb):=fun c h e=>h e
 have K7:=hid (show aA w wr from Below.trans K6.out (T1.out.below (B:=w.heap.size) K6.out.size fun c hc e=>by have e:c=mb:=e;omega))
 have KC7:=hid (show aA W2 wr from Below.trans KC6.out (T1.out.below (B:=W2.heap.size) KC6.out.size fun c hc e=>by have e:c=mb:=e;omega))
 have F7:=hid (Cn.aD.turn F6.out T1.out (fun e=>by have e:fb=mb:=e;omega))
 have V7:=hid (sM V6.out T1.out (fun e=>by have e:b=mb:=e;omega))
 have B7:=hid (Cn.aD.turn B6.out T1.out (fun e=>by have e:b+1=mb:=e;omega))
 clear R6 F6 V6 B6 HFI hT2
 have ht0:=V7.out.facts.1
 have htl:=V7.out.facts.2.2
 have hw0:wr.cell? ⟨b+1,0,none⟩=some tsv:=B7.out.facts.1 0
 have hw1:wr.cell? ⟨b+1,1,none⟩=some inv:=B7.out.facts.1 1
 have hw2:wr.cell? ⟨b+1,2,none⟩=some mav:=B7.out.facts.1 2
 have hw3:wr.cell? ⟨b+1,3,none⟩=some onv:=B7.out.facts.1 3
 have hwl:=B7.out.facts.2.2
 go_wp2_with fail
 refine (vY (fun c=>S c∨c=mb) ps wi m0 _ _ _ _ _ _ wr (fun c hc=>hc.elim (fun h=>Nat.lt_of_lt_of_le (hS c h) K7.out.size) fun h=>h ▸ M1.out.facts.2.2) ((HP.out.keep hS K7.out).mono (fun _ _=>rfl) fun _ h=> .inl h) ((HW.out.keep hS K7.out).mono fun _ h=> .inl h) (oQ M1.out hlen0 (by omega) (.inr rfl))).mono ?_
 rintro e W8 ⟨k8,⟨h0,-⟩ | ⟨-,h0,-⟩ | ⟨-,-,-,v8,rfl,hm8⟩⟩
 ·exact absurd HZW.out h0
 ·exact absurd h0 (by omega)
 have hset:cA ps wi m0=ms:=by
  unfold cA
  rw [HM0.out,Cn.CT.set_mod (jV (dN HZW.out).2.1) (yU wi HZM.out)]
  exact aNw fun x hx=>((fQ HZM.out).2.2.2.1 x hx).1
 rw [hset] at hm8
 obtain ⟨p8,c8,rfl,-,-⟩:=id hm8
 have M8:=hid hm8
 have K8:=hid (K7.out.trans k8)
 have HK8:=hid k8
 clear hset hm8 k8 ht0 htl hw0 hw1 hw2 hw3 hwl
 go_wp2_with fail
 refine (xF (fun c=>c<W8.heap.size) ms ms _ _ W8 (fun _ h=>h) (M8.out.mono (fun _ _=>rfl) fun c hc=>hc.2) ((HL.out.keep hS K8.out).mono (fun _ _=>rfl) fun c hc=>Nat.lt_of_lt_of_le (hS c hc) K8.out.size)).mono ?_
 rintro e W9 ⟨β,rfl,hβ,k9⟩
 obtain rfl:β=true:=hβ.2 rfl
 have K89:=hid (HK8.out.trans k9)
 have K9:=hid (K8.out.trans k9)
 have KC9:=hid (KC7.out.trans K89.out)
 clear hβ k9
 have hfc:fs.length<=fc:=HCF.out _ _ _ rfl
 obtain ⟨kf,hkf⟩ : ∃ kf:Nat,kf=min fs.length 20:=⟨_,rfl⟩
 have hmin:min (fs.length:Int) 20=kf:=by omega
 have hkI:(kf:Int)<=(fc:Int):=by omega
 have hkl:kf<=fs.length:=by omega
 have hk20:kf<=20:=by omega
 clear hkf hfc
 go_wp2_with fail
 have hmb9:mb<W9.heap.size:=Nat.lt_of_lt_of_le M1.out.facts.2.2 K89.out.size
 have hrb9:rb<W9.heap.size:=Nat.lt_of_lt_of_le R1.out.facts.2.2 K89.out.size
 have M9:=hid (M1.out.keep K89.out M1.out.facts.2.2)
 have R9:=hid (R1.out.keep K89.out R1.out.facts.2.2)
 have F9:=hid (F7.out.keep K89.out F7.out.facts.2.2)
 have V9:=hid (V7.out.keep K89.out V7.out.facts.2.2)
 have B9:=hid (B7.out.keep K89.out B7.out.facts.2.2)
 have HFR:=hid (show b+1<rb/\fb<rb from ⟨by have:=HRB.out;have:=HB3L.out;omega,by have:=HRB.out;have:=HB3L.out;omega⟩)
 have hrbw:w.heap.size<=rb:=by have:=HRB.out;have:=K3.out.size;omega
 clear M1 R1 F7 V7 B7 M8 K8 HK8 K7 T1
 obtain ⟨wo,rfl⟩ : ∃ wo:World,wo=wr:=⟨_,rfl⟩
 go_loopg [88] kf (fun gk iv wr=> ∃ (j:Nat) (m:List Bool),j+gk=kf/\iv=.int .i64 j/\m.length=(aB ps wi).many/\aD rb 3 ((Cn.chL m).map (Value.int .i64)).toArray wr/\aD mb 4 (m.map Value.bool).toArray wr/\Cn.aF (fun c=>c=rb∨c=mb) (fun c=>c=rb∨c=mb) W9 wr)
 case atStart=>exact ⟨0,m0,by omega,rfl,hlen0,R9.out,M9.out,Cn.aF.refl _ _⟩
 case round=>
 obtain ⟨j2,m,hj,rfl,hml,hr,hmb,ht⟩:=hrel
 have R1:=hid hr
 have M1:=hid hmb
 have T1:=hid ht
 have K1w:=hid (show aA w wr from Below.trans K9.out (ht.below (B:=w.heap.size) K9.out.size fun c hc e=>by rcases e with e | e<;>omega))
 clear hr hmb ht
 by_cases hlt:j2<kf
 ·obtain ⟨_,_,e,-,hfrow⟩:=HFS.out
  cases e
  obtain ⟨ab,ao,rfl,hSa,hcs⟩:=hfrow (by omega)
  have g0:=hcs j2 fs[j2] (List.getElem?_eq_getElem (by omega))
  have q0:=(K1w.out.cell (p:=⟨ab,ao+j2,none⟩) (hS ab hSa)).trans g0
  have hal:ab<wr.heap.size:=Nat.lt_of_lt_of_le (hS ab hSa) K1w.out.size
  have hjI:(j2:Int)<(kf:Int):=by omega
  generalize fs[j2]'(by omega)=x at q0
  clear g0 hcs hfrow
  by_cases h0:(aB ps wi).many=0
  ·have h0I : ¬ ((0:Int)<((aB ps wi).many:Int)):=by omega
   have HRel:=hid (show m.length=(aB ps wi).many from hml)
   clear h0 hml
   go_wp2_with fail
   go_roundg (kf-(j2+1))
   case rel=>exact ⟨j2+1,m,by omega,by go_num,HRel.out,R1.out,M1.out,T1.out⟩
   case measure=>omega
  have h0I:(0:Int)<((aB ps wi).many:Int):=by omega
  go_wp2_with fail
  refine (aNr x (aB ps wi).many wr (by omega) (by omega)).mono ?_
  rintro e w8 ⟨k,hk,rfl,hw8⟩
  rw [hw8]
  clear hw8
  have hkI:(k:Int)<((aB ps wi).many:Int):=by omega
  have hcle:(Cn.chL m).length=(aB ps wi).many:=by rw [Cn.dH,hml]
  have hlit:=Cn.hY m ((Cn.chL m)[k]'(by omega)) (List.getElem_mem _)
  have HCT:=hid (show Cn.chL (m.set k !(m.getD k false))=(Cn.chL m).set k (-((Cn.chL m)[k]'(by omega))) by rw [Cn.aHz (by omega),List.getD_eq_getElem?_getD (l:=Cn.chL m),List.getElem?_eq_getElem (by omega)];rfl)
  have hcr:wr.cell? ⟨rb,k,none⟩=some (.int .i64 ((Cn.chL m)[k]'(by omega))):=by rw [R1.out.facts.1,List.getElem?_toArray,List.getElem?_map,List.getElem?_eq_getElem (by omega)];rfl
  have hcm:wr.cell? ⟨mb,k,none⟩=some (.bool (m.getD k false)):=by rw [M1.out.facts.1,List.getElem?_toArray,List.getElem?_map,List.getD_eq_getElem?_getD,List.getElem?_eq_getElem (by omega)];rfl
  have hfr:=R1.out.facts.2.1 k
  have hfm:=M1.out.facts.2.1 k
  have hrl:=R1.out.facts.2.2
  have hml2:=M1.out.facts.2.2
  have HSL:=hid (show (m.set k !(m.getD k false)).length=(aB ps wi).many by rw [List.length_set,hml])
  have hcb:((Cn.chL m)[k]'(by omega)).natAbs<=1000:=by have:=hlit.2;omega
  have HMS:=hid (show (m.set k !(m.getD k false)).map Value.bool=(m.map Value.bool).set k (.bool !(m.getD k false)) from List.map_set ..)
  generalize (Cn.chL m)[k]'(by omega)=ck at hcr HCT hcb hlit
  generalize m.getD k false=bk at hcm HCT HSL HMS
  clear hlit hcle hml q0 hal
  have hwn:IntKind.i64.wrap (-ck) = -ck:=bN (by omega)
  have hne2:mb≠rb:=Ne.symm hmne
  have HQ:=hid (show aD rb 3 ((Cn.chL (m.set k !bk)).map (Value.int .i64)).toArray ((wr.setCell ⟨rb,k,none⟩ (.int .i64 (-ck))).setCell ⟨mb,k,none⟩ (.bool (!bk))).drew/\aD mb 4 ((m.set k !bk).map Value.bool).toArray ((wr.setCell ⟨rb,k,none⟩ (.int .i64 (-ck))).setCell ⟨mb,k,none⟩ (.bool (!bk))).drew/\Cn.aF (fun c=>c=rb∨c=mb) (fun c=>c=rb∨c=mb) W9 ((wr.setCell ⟨rb,k,none⟩ (.int .i64 (-ck))).setCell ⟨mb,k,none⟩ (.bool (!bk))).drew from by
   have t1:=Cn.aF.set (fun c=>c=rb∨c=mb) wr rb k (.int .i64 (-ck)) (.inl rfl)
   have t2:=Cn.aF.set (fun c=>c=rb∨c=mb) (wr.setCell ⟨rb,k,none⟩ (.int .i64 (-ck))) mb k (.bool (!bk)) (.inr rfl)
   have r1:=R1.out.set k (.int .i64 (-ck))
   have m1:=Cn.aD.turn M1.out (Cn.aF.set (fun c=>c=rb) wr rb k (.int .i64 (-ck)) rfl) (fun e=>hne2 e)
   have m2:=aD.set m1 k (.bool (!bk))
   have r2:=Cn.aD.turn r1 (Cn.aF.set (fun c=>c=mb) (wr.setCell ⟨rb,k,none⟩ (.int .i64 (-ck))) mb k (.bool (!bk)) rfl) (fun e=>hmne e)
   rw [List.setIfInBounds_toArray,← List.map_set,← HCT.out] at r2
   rw [List.setIfInBounds_toArray,← HMS.out] at m2
   exact ⟨r2,m2,((T1.out.trans t1).trans t2).trans (Cn.aF.keep (aA.drew (aA.refl _)))⟩)
  go_upto_region 19 with fail
  go_region
  generalize ((wr.setCell ⟨rb,k,none⟩ (.int .i64 (-ck))).setCell ⟨mb,k,none⟩ (.bool (!bk))).drew=W10 at HQ ⊢
  clear hcr hcm hfr hfm hrl hml2
  go_wp2_with fail
  go_roundg (kf-(j2+1))
  case rel=>exact ⟨j2+1,_,by omega,by go_num,HSL.out,HQ.out.1,HQ.out.2.1,HQ.out.2.2⟩
  case measure=>omega
 have hje:j2=kf:=by omega
 have hnl : ¬ ((j2:Int)<(kf:Int)):=by omega
 clear hje hj hlt
 have KC10:=hid (show aA W2 wr from Below.trans KC9.out (T1.out.below (B:=W2.heap.size) KC9.out.size fun c hc e=>by rcases e with e | e<;>omega))
 have F10:=hid (Cn.aD.turn F9.out T1.out (fun e=>by rcases e with e | e<;>first | omega | (have:=HFR.out;omega)))
 have V10:=hid (sM V9.out T1.out (fun e=>by rcases e with e | e<;>first | omega | (have:=HFR.out;omega)))
 have B10:=hid (Cn.aD.turn B9.out T1.out (fun e=>by rcases e with e | e<;>first | omega | (have:=HFR.out;omega)))
 have ht0:=V10.out.facts.1
 have htl:=V10.out.facts.2.2
 have hw0:wr.cell? ⟨b+1,0,none⟩=some tsv:=B10.out.facts.1 0
 have hw1:wr.cell? ⟨b+1,1,none⟩=some inv:=B10.out.facts.1 1
 have hw2:wr.cell? ⟨b+1,2,none⟩=some mav:=B10.out.facts.1 2
 have hw3:wr.cell? ⟨b+1,3,none⟩=some onv:=B10.out.facts.1 3
 have hwl:=B10.out.facts.2.2
 clear F9 V9 B9 R9 M9
 go_wp2_with fail
 refine (vY (fun c=>S c∨c=mb) ps wi m _ _ _ _ _ _ wr (fun c hc=>hc.elim (fun h=>Nat.lt_of_lt_of_le (hS c h) K1w.out.size) fun h=>h ▸ M1.out.facts.2.2) ((HP.out.keep hS K1w.out).mono (fun _ _=>rfl) fun _ h=> .inl h) ((HW.out.keep hS K1w.out).mono fun _ h=> .inl h) (oQ M1.out hml (by omega) (.inr rfl))).mono ?_
 rintro e W11 ⟨k11,⟨h0,-⟩ | ⟨-,h0,-⟩ | ⟨-,-,-,v11,rfl,hm11⟩⟩
 ·exact absurd HZW.out h0
 ·exact absurd h0 (by omega)
 obtain ⟨p11,c11,rfl,-,-⟩:=id hm11
 have M11:=hid hm11
 have K11:=hid (K1w.out.trans k11)
 have HK11:=hid k11
 have V11:=hid (V10.out.keep k11 V10.out.facts.2.2)
 have B11:=hid (B10.out.keep k11 B10.out.facts.2.2)
 have F11:=hid (F10.out.keep k11 F10.out.facts.2.2)
 have R11:=hid (R1.out.keep k11 R1.out.facts.2.2)
 clear hm11 k11 ht0 htl hw0 hw1 hw2 hw3 hwl V10 B10 F10
 have ht0:=V11.out.facts.1
 have htl:=V11.out.facts.2.2
 have hw0:W11.cell? ⟨b+1,0,none⟩=some tsv:=B11.out.facts.1 0
 have hw1:W11.cell? ⟨b+1,1,none⟩=some inv:=B11.out.facts.1 1
 have hw2:W11.cell? ⟨b+1,2,none⟩=some mav:=B11.out.facts.1 2
 have hw3:W11.cell? ⟨b+1,3,none⟩=some onv:=B11.out.facts.1 3
 have hwl:=B11.out.facts.2.2
 go_wp2_with fail
 refine (uH (fun c=>c<W11.heap.size) ps wi (cA ps wi m) _ _ _ _ _ _ W11 (fun _ h=>h) ((HP.out.keep hS K11.out).mono (fun _ _=>rfl) fun c hc=>Nat.lt_of_lt_of_le (hS c hc) K11.out.size) ((HW.out.keep hS K11.out).mono fun c hc=>Nat.lt_of_lt_of_le (hS c hc) K11.out.size) (M11.out.mono (fun _ _=>rfl) fun c hc=>hc.2)).mono ?_
 rintro e W12 ⟨rfl,k12⟩
 rw [(tA HZW.out m).1,(tA HZW.out m).2]
 have HEM:=hid (show (kJ ps wi (cA ps wi m)=true->¬ Cn.cB (bF ps wi).cl (Cn.chL m)/\Cn.rE (bF ps wi).n (bF ps wi).cl (Cn.chL m)=none)/\(kJ ps wi (cA ps wi m)=false->Cn.cB (bF ps wi).cl (Cn.chL m)) from aGh HZW.out m hml)
 have K12:=hid (K11.out.trans k12)
 have KC12:=hid ((KC10.out.trans HK11.out).trans k12)
 have F12:=hid (F11.out.keep k12 F11.out.facts.2.2)
 have R12:=hid (R11.out.keep k12 R11.out.facts.2.2)
 generalize kJ ps wi (cA ps wi m)=may at HEM ⊢
 clear k12 ht0 htl hw0 hw1 hw2 hw3 hwl V11 B11 F11 R11 M11
 have hf0:W12.cell? ⟨fb,0,none⟩=some (.int .i64 ((bF ps wi).n:Nat)):=F12.out.facts.1 0
 have hf1:W12.cell? ⟨fb,1,none⟩=some (.slice cp cn cc):=F12.out.facts.1 1
 have hfl:=F12.out.facts.2.2
 obtain ⟨_,_,ecn,-⟩:=HCLS.out.len
 cases ecn
 obtain ⟨gm,g2,g3,g4,-⟩:=nH HZW.out
 have hfo:Cn.aGq ((bF ps wi).n:Nat) (bF ps wi).cl (Cn.chL m)=0:=by
  unfold Cn.aGq
  rw [if_neg (by rw [Cn.rZ g2 g3 fun c hc=>⟨(g4 c hc).2,(g4 c hc).1⟩];simp),if_neg (by rw [Cn.dH,hml];omega)]
  exact Cn.mT.2 fun x hx=>⟨(Cn.hY m x hx).1,by have:=(Cn.hY m x hx).2;omega⟩
 have HFOL:=hid (show Calls Tryz.prog 24 #[.agg #[.int .i64 ((bF ps wi).n:Nat),.slice cp (bF ps wi).cl.length cc],.slice (some ⟨rb,0,none⟩) (aB ps wi).many (aB ps wi).many] W12 fun e w'=>Cn.aEo ((bF ps wi).n:Nat) (bF ps wi).cl (Cn.chL m) W12 e w' from by
  refine Cn.aAq (fun c=>(W1.heap.size<=c/\c<W2.heap.size)∨c=rb) _ (bF ps wi).cl (Cn.chL m) cp cc _ W12 (fun c hc=>hc.elim (fun h=>Nat.lt_of_lt_of_le h.2 KC12.out.size) fun h=>h ▸ R12.out.facts.2.2) ⟨(HCLS.out.keep (B:=W2.heap.size) (fun c hc=>hc.2) KC12.out).mono (fun _ _=>rfl) fun c hc=> .inl hc,fun c hc x hx=> ?_⟩ ?_ fun x hx=> ?_
  ·have:=((g4 c hc).1 x hx).2
   unfold Cn.InR
   omega
  ·refine ⟨_,_,by rw [Cn.dH,hml],by rw [Cn.dH,hml];omega,fun _=>⟨rb,0,rfl,.inr rfl,fun j x hx=> ?_⟩⟩
   rw [Nat.zero_add,R12.out.facts.1,List.getElem?_toArray,List.getElem?_map,hx];rfl
  ·have:=(Cn.hY m x hx).2
   unfold Cn.InR
   omega)
 have HFO:=hid hfo
 have HN:=hid (And.intro gm g2)
 clear hfo g3 g4 gm g2
 go_wp2_with fail
 refine HFOL.out.mono ?_
 rintro e W13 ⟨k13,⟨h0,-⟩ | ⟨-,n,hn,h13⟩⟩
 ·exact absurd HFO.out h0
 have k13:aA W12 W13:=k13
 have K13:=hid (K12.out.trans k13)
 have F13:=hid (F12.out.keep k13 F12.out.facts.2.2)
 obtain rfl:(bF ps wi).n=n:=by omega
 rcases h13 with ⟨v,K,L,rfl,hgood,hder,hnf,hnums⟩ | ⟨rfl,hfails⟩
 ·obtain rfl:may=true:=by
   cases may with
   | true=>rfl
   | false=>exact absurd (HEM.out.2 rfl) hnf
  have hbv:=Cn.yO hgood hder
  have hlow:=(HEM.out.1 rfl).2
  have hll:(Cn.bW K).length=(bF ps wi).n:=hbv.full.2 hlow
  have HNTH:=hid (fun j (hj:j<(Cn.bW K).length)=>aFo hbv hll hj)
  have HMD:=hid (show Cn.nG ((bF ps wi).n:Nat) (bF ps wi).cl ((Cn.bW K).map fun x=>decide (0<x))=0/\Cn.bD ((bF ps wi).n:Nat) (bF ps wi).cl ((Cn.bW K).map fun x=>decide (0<x))=true from by
   obtain ⟨gm,g2,g3,g4,-⟩:=nH HZW.out
   have hmd:=(Cn.aHu (n:=(bF ps wi).n) (F:=(bF ps wi).cl) (A:=Cn.chL m) (fun c hc=>(g4 c hc).1) (fun x hx=>⟨(Cn.hY m x hx).1,by have:=(Cn.hY m x hx).2;omega⟩) hnf hlow).1
   rw [← hbv.model hnf hlow] at hmd
   have he:Cn.nG ((bF ps wi).n:Nat) (bF ps wi).cl ((Cn.bW K).map fun x=>decide (0<x))=0:=by
    unfold Cn.nG
    rw [if_neg (by rw [Cn.rZ g2 g3 fun c hc=>⟨(g4 c hc).2,(g4 c hc).1⟩];simp),if_neg (by rw [hmd.1];simp)]
   refine ⟨he,?_⟩
   unfold Cn.bD
   rw [he,Bool.and_eq_true,List.all_eq_true]
   refine ⟨rfl,fun c hc=>List.any_eq_true.2 ?_⟩
   exact hmd.2 c hc)
  obtain ⟨kp,kc,hkv,-⟩:=hnums.shape
  subst hkv
  have HNU:=hid hnums
  have hf0:W13.cell? ⟨fb,0,none⟩=some (.int .i64 ((bF ps wi).n:Nat)):=F13.out.facts.1 0
  have hf1:W13.cell? ⟨fb,1,none⟩=some (.slice cp (bF ps wi).cl.length cc):=F13.out.facts.1 1
  have hfl:=F13.out.facts.2.2
  have hn4:=HN.out.2
  have KC13:=hid (KC12.out.trans k13)
  rw [hll] at HNU ⊢
  have HLL:=hid hll
  clear hbv hlow hgood hder hnf hnums hll hn
  go_wp2_with (at_make;refine wpList_make_full _ rfl _ _ 31 rfl W13.heap.size 4 i0 (.bool false) 1 Tryz.underlying31 hi hz0 hz1 .i64 .i64 (((bF ps wi).n:Nat):Int) (((bF ps wi).n:Nat):Int) (bF ps wi).n rfl rfl rfl rfl (by rw [hz2];omega) (by unfold maxLen;omega) (Nat.le_refl _) ?_;intro w14 h1 h2;have K14:=hid (Cn.mG h2);have M14:=hid (Cn.fJ (v:= .bool false) rfl h1);clear h1 h2)
  have k14:aA W13 w14:=K14.out
  have HFI:=hid (show Cn.cK (fun x=> .bool (decide (0<x))) (Cn.bW K) 0 W13.heap.size 4 w14 from Cn.cK.start (z:= .bool false) (by rw [HLL.out];exact M14.out))
  have F14:=hid (F13.out.keep k14 F13.out.facts.2.2)
  have K14w:=hid (K13.out.trans k14)
  have KC14:=hid (KC13.out.trans k14)
  have HNU14:=hid (Cn.aK.mono (S':=fun c=>c<W13.heap.size) (fun p hp=>k14.cell (p:=p) hp.2) (fun c hc=>hc.2) HNU.out)
  have hfbu:fb<W13.heap.size:=F13.out.facts.2.2
  have hwu:w.heap.size<=W13.heap.size:=K13.out.size
  have h2u:W2.heap.size<=W13.heap.size:=KC13.out.size
  have hl14:W13.heap.size<=w14.heap.size:=k14.size
  generalize W13.heap.size=ub at HFI HNU14 hfbu hwu h2u hl14 ⊢
  clear k14 F13 hf0 hf1 hfl M14
  obtain ⟨wo2,rfl⟩ : ∃ wo2:World,wo2=wr:=⟨_,rfl⟩
  go_loopg [159] (bF ps wi).n (fun gk iv wr=> ∃ j:Nat,j+gk=(bF ps wi).n/\iv=.int .i64 j/\Cn.cK (fun x=> .bool (decide (0<x))) (Cn.bW K) j ub 4 wr/\Cn.aF (fun c=>c=ub) (fun c=>c=ub) w14 wr)
  case atStart=>exact ⟨0,by omega,rfl,HFI.out,Cn.aF.refl _ _⟩
  case round=>
  obtain ⟨j,hj,rfl,hf,ht⟩:=hrel
  have F1:=hid hf
  have T2:=hid ht
  clear hf ht
  have hlk:=HLL.out
  by_cases hlt:j<(bF ps wi).n
  ·have hjI:(j:Int)<(((bF ps wi).n:Nat):Int):=by omega
   obtain ⟨ab,ao,hkp,hab,hkc⟩:=HNU14.out.nth (k:=j) (by omega)
   subst hkp
   have hg:=List.getElem?_eq_getElem (l:=Cn.bW K) (i:=j) (by omega)
   have hcx:=(T2.out.cell ⟨ab,ao+j,none⟩ (Nat.lt_of_lt_of_le hab hl14) (fun e=>by have e:ab=ub:=e;omega)).trans (hkc j _ hg)
   have hal:ab<wr.heap.size:=Nat.lt_of_lt_of_le (Nat.lt_of_lt_of_le hab hl14) T2.out.size
   have hnx:=F1.out.next hg
   have HNX:=hid (show Cn.cK (fun x=> .bool (decide (0<x))) (Cn.bW K) (j+1) ub 4 _ from hnx)
   obtain ⟨⟨old,hold⟩,hfz,hul⟩:=F1.out.cell (i:=j) (by omega)
   have HT:=hid (T2.out.trans (Cn.aF.set (fun c=>c=ub) wr ub j (.bool (decide (0<(Cn.bW K)[j]'(by omega)))) rfl))
   have hnat:=HNTH.out j (by omega)
   clear hnx hg hkc
   generalize (Cn.bW K)[j]'(by omega)=x at hcx HNX HT hnat
   obtain ⟨u,hu⟩ : ∃ u:Int,u=(j:Int)+1:=⟨_,rfl⟩
   have hmax:max x (-x)=u:=by omega
   have hwn:IntKind.i64.wrap (-x) = -x:=bN (by omega)
   have hsub:IntKind.i64.wrap (u-1)=j:=by rw [hu,Int.add_sub_cancel];exact bN (by omega)
   clear hu hnat hlk
   go_wp2_with fail
   generalize wr.setCell ⟨ub,j,none⟩ (.bool (decide (0<x)))=W15 at HNX HT ⊢
   clear hmax hwn hsub
   go_roundg ((bF ps wi).n-(j+1))
   case rel=>exact ⟨j+1,by omega,by go_num,HNX.out,HT.out⟩
   case measure=>omega
  have hje:j=(bF ps wi).n:=by omega
  have hnl3 : ¬ ((j:Int)<(((bF ps wi).n:Nat):Int)):=by omega
  have U1:=hid (show aD ub 4 (((Cn.bW K).map fun x=>decide (0<x)).map Value.bool).toArray wr from by
   have:=F1.out
   rw [hje,← hlk] at this
   have h5:=rN this
   rw [List.map_map]
   exact h5)
  have F15:=hid (Cn.aD.turn F14.out T2.out (fun e=>by have e:fb=ub:=e;omega))
  have K15:=hid (show aA w wr from Below.trans K14w.out (T2.out.below (B:=w.heap.size) K14w.out.size fun c hc e=>by have e:c=ub:=e;omega))
  have KC15:=hid (show aA W2 wr from Below.trans KC14.out (T2.out.below (B:=W2.heap.size) KC14.out.size fun c hc e=>by have e:c=ub:=e;omega))
  have hf0:wr.cell? ⟨fb,0,none⟩=some (.int .i64 ((bF ps wi).n:Nat)):=F15.out.facts.1 0
  have hf1:wr.cell? ⟨fb,1,none⟩=some (.slice cp (bF ps wi).cl.length cc):=F15.out.facts.1 1
  have hfl:=F15.out.facts.2.2
  have HHO:=hid (show Calls Tryz.prog 25 #[.agg #[.int .i64 ((bF ps wi).n:Nat),.slice cp (bF ps wi).cl.length cc],.slice (some ⟨ub,0,none⟩) (bF ps wi).n (bF ps wi).n] wr fun e w'=>e=.returned (.tuple #[.bool true,.int .i64 0])/\aA wr w' from by
   have h:=Cn.pF (fun c=>(W1.heap.size<=c/\c<W2.heap.size)∨c=ub) ((bF ps wi).n:Nat) (bF ps wi).cl cp cc ((Cn.bW K).map fun x=>decide (0<x)) (.slice (some ⟨ub,0,none⟩) (bF ps wi).n (bF ps wi).n) wr (fun c hc=>hc.elim (fun h=>Nat.lt_of_lt_of_le h.2 KC15.out.size) fun h=>h ▸ U1.out.facts.2.2) ⟨(HCLS.out.keep (B:=W2.heap.size) (fun c hc=>hc.2) KC15.out).mono (fun _ _=>rfl) fun c hc=> .inl hc,fun c hc x hx=>by
    obtain ⟨-,g2,-,g4,-⟩:=nH HZW.out
    have:=((g4 c hc).1 x hx).2
    unfold Cn.InR
    omega⟩ (oQ U1.out (by rw [List.length_map];exact hlk) (by omega) (.inr rfl))
   rw [HMD.out.1,HMD.out.2] at h
   exact h)
  clear hje hj hlt hlk F1
  go_wp2_with fail
  refine HHO.out.mono ?_
  rintro e W16 ⟨rfl,k16⟩
  have K16:=hid (K15.out.trans k16)
  have hf0:W16.cell? ⟨fb,0,none⟩=some (.int .i64 ((bF ps wi).n:Nat)):=(k16.cell (p:=⟨fb,0,none⟩) hfl).trans hf0
  have hfl:fb<W16.heap.size:=Nat.lt_of_lt_of_le hfl k16.size
  clear k16
  go_wp2_with fail
  go_ret
  exact ⟨rfl,K16.out⟩
 ·obtain rfl:may=false:=by
   cases may with
   | false=>rfl
   | true=>exact absurd hfails (HEM.out.1 rfl).1
  clear hfails hn k13 F13
  go_wp2_with fail
  go_ret
  exact ⟨rfl,K13.out⟩
end Go.Proofs.YthhhicgjiilgmaaGreatDoor
namespace Go.Proofs.YthhhicgjiilgmaaGreatDoor
open Go.RowKit
theorem oL {P:Program} {w:World} : ∀ {l:List (String × DataW Unit)} {ps:List MemPlace} {x:String × DataW Unit},DataW.LaidVars P w l ps->x∈l->∃ qs,DataW.LaidVars P w [x] qs/\qs.Sublist ps
 | [],_,_,_,hx=>by cases hx
 | (n,d) :: r,ps,x,h,hx=>by
  obtain ⟨g,t,cs,fuel,p,q,h1,h2,h3,h4,h5,rfl⟩:=h
  rcases List.mem_cons.1 hx with rfl | hx
  ·exact ⟨MemPlace.row ⟨g,0,none⟩ cs.size++p ++ [],⟨g,t,cs,fuel,p,[],h1,h2,h3,h4,rfl,rfl⟩,by rw [List.append_nil];exact List.sublist_append_left _ _⟩
  ·obtain ⟨qs,h6,h7⟩:=oL h5 hx
   exact ⟨qs,h6,h7.trans (List.sublist_append_right _ _)⟩
theorem iM {P:Program} {w:World} {l:List (String × DataW Unit)} {x:String × DataW Unit} (h:laidMet P l w) (hx:x∈l):laidMet P [x] w:=by
 obtain ⟨ps,h1,h2,h3⟩:=h
 obtain ⟨qs,h4,h5⟩:=oL h1 hx
 exact ⟨qs,h4,h5.nodup h2,fun b off hb=>h3 b off (h5.subset hb)⟩
theorem oN {w:World} {b o:Nat} {v:Value} (h:w.cell? ⟨b,o,none⟩=some v):b<w.heap.size:=by
 rcases Nat.lt_or_ge b w.heap.size with h' | h'
 ·exact h'
 ·simp [World.cell?,Array.getElem?_eq_none h'] at h
theorem aJv : Tryz.prog.globalNamed "quartermaster/atom.signs" = some 8 := by kernel_rfl
theorem aNl:(Tryz.prog.globals[8]?).map (·.type)=some 315:=by kernel_rfl
theorem aOt:(Tryz.prog.globals[1]?).map (·.type)=some 272:=by kernel_rfl
theorem aOy:Tryz.prog.cellsOf 272=20:=by kernel_rfl
theorem aOs:Tryz.prog.cellsOf 243=1:=by kernel_rfl
theorem aBy:Tryz.prog.cellsOf 9=1:=by kernel_rfl
theorem aOq:Tryz.prog.cellsOf 310=1:=by kernel_rfl
theorem aOd : Tryz.prog.globalNamed "strconv.ErrSyntax" = some 4 := by kernel_rfl
theorem aOw:(Tryz.prog.globals[4]?).map (·.type)=some 231:=by kernel_rfl
theorem aOl : Tryz.prog.globalNamed "strconv.ErrRange" = some 5 := by kernel_rfl
theorem aOv:(Tryz.prog.globals[5]?).map (·.type)=some 231:=by kernel_rfl
theorem aOo : "*" ++ "errors.errorString" = "*errors.errorString" := by decide
theorem aHy (u : TypeId) (h : Tryz.prog.typeName? 3 u = some "*errors.errorString") : u = 308 :=
 typeName_ptr_named (nm := "errors.errorString") (by rw [aOo]; kernel_rfl) (by kernel_rfl) (by decide) u (by rw [aOo]; exact h)
theorem aIh {W : World} (h : laidMet Tryz.prog [("quartermaster/atom.signs", Rows.laid_quartermaster_atom_signs)] W) : yL W := by
 obtain ⟨ps,⟨g,t,cs,fuel,p,q,hg,ht,hv,hd,_,_⟩,_⟩:=h
 obtain rfl:=Option.some.inj (aJv.symm.trans hg)
 obtain rfl:=Option.some.inj (aNl.symm.trans ht)
 obtain ⟨xs,m,rfl,hx,hlen,hn,hel⟩:=DataW.trod_array Tryz.underlying315 hd
 simp only [Rows.laid_quartermaster_atom_signs,Prod.mk.injEq,DataW.agg.injEq] at hx
 match xs,hn,hx,hel with
 | [x0,x1,x2,x3],_,hx,hel=>
  have cell : ∀ (k:Nat) (x:DataW Unit × List MemPlace) (l:List UInt8),k<4->[x0,x1,x2,x3][k]? = some x->x.1=.lit (.string l)->W.cell? ⟨8,k,none⟩=some (.string ⟨l.toArray⟩):=by
   intro k x l hk hxk hl
   have h1:=hel k hk
   rw [hxk] at h1
   obtain ⟨s,e1,e2,_⟩:=DataW.trod_string Tryz.underlying9 h1
   rw [e2] at hl
   have hs:s.data.toList=l:=by simpa using hl
   have hs':s=⟨l.toArray⟩:=by cases s;simp at hs;rw [← hs]
   have h2:=World.var?_cell aJv hv k
   rw [aBy,Nat.mul_one] at e1
   have h3:cs[k]? = some (.string s):=by
    have:=congrArg (·[0]?) e1
    simpa [List.getElem?_take,List.getElem?_drop] using this
   rw [h2,h3,hs']
  simp only [List.map_cons,List.map_nil,List.cons.injEq,and_true] at hx
  have c1:=cell 1 x1 [61] (by decide) rfl hx.1.2.1.symm
  refine ⟨oN c1,c1,cell 2 x2 [62,61] (by decide) rfl hx.1.2.2.1.symm,cell 3 x3 [60] (by decide) rfl hx.1.2.2.2.symm⟩
theorem aMu {W : World} {l : List (String × DataW Unit)} (h : laidMet Tryz.prog l W) (h1 : ("quartermaster/atom.signs", Rows.laid_quartermaster_atom_signs) ∈ l) (h2 : ("internal/strconv.uint64pow10", Rows.laid_internal_strconv_uint64pow10) ∈ l)
  (h3 : ("strconv.ErrSyntax", Rows.laid_strconv_ErrSyntax) ∈ l) (h4 : ("strconv.ErrRange", Rows.laid_strconv_ErrRange) ∈ l) : Env W := by
 have tab : Lib.TabIs Tryz.prog W "internal/strconv.uint64pow10" .u64 Lib.pow10Tab := Lib.tabIs_of_head (rest := []) iO aOt Tryz.underlying272 Tryz.underlying243 aOs aOy (iM h h2)
 obtain ⟨a0,s0,hv0,-,-,-⟩:=laid_sentinel (iM h h3) aOd aOw Tryz.underlying231 aHy Tryz.underlying308 Tryz.underlying310 rfl rfl Tryz.underlying9 aOq aBy
 obtain ⟨a1,s1,hv1,-,-,-⟩:=laid_sentinel (iM h h4) aOl aOv Tryz.underlying231 aHy Tryz.underlying308 Tryz.underlying310 rfl rfl Tryz.underlying9 aOq aBy
 have c0:W.cell? ⟨4,0,none⟩=some (.iface 308 (.pointer (some a0))):=by simpa using World.var?_cell aOd hv0 0
 have c1:W.cell? ⟨5,0,none⟩=some (.iface 308 (.pointer (some a1))):=by simpa using World.var?_cell aOl hv1 0
 exact ⟨aIh (iM h h1),⟨oN (tab.cell iO 0 (by decide)),tab⟩,⟨oN c0,_,_,c0⟩,⟨oN c1,_,_,c1⟩⟩
end Go.Proofs.YthhhicgjiilgmaaGreatDoor
namespace Go.Proofs.YthhhicgjiilgmaaGreatDoor
open Go.ChangeShapes Go.WideShapes Go.ChangeAt Go.RowKit Go.Joins
theorem nC:Tryz.prog.cellsOf 85=6:=by kernel_rfl
theorem gR:Tryz.prog.cellsOf 3=1:=by kernel_rfl
theorem nF:Tryz.prog.cellsOf 4=1:=by kernel_rfl
end Go.Proofs.YthhhicgjiilgmaaGreatDoor
namespace Go.Proofs.YthhhicgjiilgmaaGreatDoor
open Go.ChangeShapes Go.WideShapes Go.ChangeAt Go.RowKit Go.Joins
theorem mS:Tryz.prog.cellsOf 104=10:=by kernel_rfl
theorem rL:Tryz.prog.cellsOf 102=1:=by kernel_rfl
theorem aNx {α:Type} {cs:List α} (h:cs.length=6) : ∃ c0 c1 c2 c3 c4 c5,cs = [c0,c1,c2,c3,c4,c5]:=by
 match cs,h with
 | [c0,c1,c2,c3,c4,c5],_=>exact ⟨c0,c1,c2,c3,c4,c5,rfl⟩
theorem aNm {α:Type} {cs:List α} (h:cs.length=10) : ∃ c0 c1 c2 c3 c4 c5 c6 c7 c8 c9,cs = [c0,c1,c2,c3,c4,c5,c6,c7,c8,c9]:=by
 match cs,h with
 | [c0,c1,c2,c3,c4,c5,c6,c7,c8,c9],_=>exact ⟨c0,c1,c2,c3,c4,c5,c6,c7,c8,c9,rfl⟩
section
variable {H:Type} {enc:TypeId × Value->H} {w:World} {base:Nat} {sp:Nat->Bool} {held:Bool}
theorem uY {fuel:Nat} {cs:List Value} {x:DataW H × List MemPlace} (h:DataW.trod enc Tryz.prog w base sp held fuel 85 cs=some x) : ∃ a:At,cs = [.string a.n,.int .i64 a.op,.int .i64 a.v,.int .i64 a.sl,.string a.f,.bool a.on]:=by
 obtain ⟨xs,m,_,hx,hl,hlen,hel⟩:=DataW.trod_struct Tryz.underlying85 h
 obtain ⟨c0,c1,c2,c3,c4,c5,rfl⟩:=aNx (hl.trans nC)
 match xs,hlen with
 | [y0,y1,y2,y3,y4,y5],_=>
  obtain ⟨n,e0,g0,_⟩:=DataW.trod_string Tryz.underlying9 (by simpa using hel 0 _ rfl)
  obtain ⟨op,e1,g1,_⟩:=DataW.trod_int Tryz.underlying3 (by simpa using hel 1 _ rfl)
  obtain ⟨v,e2,g2,_⟩:=DataW.trod_int Tryz.underlying3 (by simpa using hel 2 _ rfl)
  obtain ⟨sl,e3,g3,_⟩:=DataW.trod_int Tryz.underlying3 (by simpa using hel 3 _ rfl)
  obtain ⟨f,e4,g4,_⟩:=DataW.trod_string Tryz.underlying9 (by simpa using hel 4 _ rfl)
  obtain ⟨on,e5,g5⟩:=DataW.trod_bool Tryz.underlying4 (by simpa using hel 5 _ rfl)
  refine ⟨⟨n,op,v,sl,f,on⟩,?_⟩
  simp [gR,nF,aBy] at e0 e1 e2 e3 e4 e5
  rw [e0,e1,e2,e3,e4,e5]
theorem aFy : ∀ (fuel:Nat) (cs:List Value) (x:DataW H × List MemPlace),DataW.trod enc Tryz.prog w base sp held fuel 104 cs=some x->∃ t:NT,aI (fun b=>b<w.heap.size) w t cs:=by
 intro fuel
 induction fuel using Nat.strongRecOn with
 | ind fuel ih=>
 intro cs x h
 obtain ⟨xs,m,hm,hx,hl,hlen,hel⟩:=DataW.trod_struct Tryz.underlying104 h
 obtain ⟨c0,c1,c2,c3,c4,c5,c6,c7,c8,c9,rfl⟩:=aNm (hl.trans mS)
 match xs,hlen with
 | [y0,y1,y2,y3,y4],_=>
  obtain ⟨k,e0,-,-⟩:=DataW.trod_int Tryz.underlying3 (by simpa using hel 0 _ rfl)
  obtain ⟨a,e1⟩:=uY (by simpa using hel 1 _ rfl)
  obtain ⟨fl,e2,-,-⟩:=DataW.trod_string Tryz.underlying9 (by simpa using hel 2 _ rfl)
  obtain ⟨nt,e3,-⟩:=DataW.trod_bool Tryz.underlying4 (by simpa using hel 3 _ rfl)
  have hs:=DataW.trod_slice Tryz.underlying102 (show DataW.trod enc Tryz.prog w base sp held m 102 _=some y4 by simpa using hel 4 _ rfl)
  simp [gR,nF,aBy,nC] at e0 e1 e2 e3
  obtain ⟨e10,e11,e12,e13,e14,e15⟩:=e1
  rcases hs with ⟨e4,-⟩ | ⟨ad,len,cap,elems,rest,mm,hmm,e4,-,-,hlc,hcm,hle,hcell,-,-⟩
  ·simp [rL] at e4
   refine ⟨.node k a fl nt [],?_⟩
   rw [aI]
   exact ⟨none,0,by rw [e0,e10,e11,e12,e13,e14,e15,e2,e3,e4];rfl,Nat.le_refl _,by simp,by rw [aW];trivial⟩
  ·simp [rL] at e4
   have key : ∀ (q i:Nat),i+q=len->∃ ts:List NT,ts.length=q/\aW (fun b=>b<w.heap.size) w ts (some ad) i:=by
    intro q
    induction q with
    | zero=>intro i _;exact ⟨[],rfl,by rw [aW];trivial⟩
    | succ q ihq=>
     intro i hi
     obtain ⟨ts,hts,hk⟩:=ihq (i+1) (by omega)
     have hci:=hcell i (by omega)
     rw [mS,List.getElem?_eq_getElem (by omega)] at hci
     obtain ⟨csi,hc1,hc2⟩:=Option.bind_eq_some_iff.1 hci
     obtain ⟨t,ht⟩:=ih mm (by omega) csi _ hc2
     obtain ⟨hb1,hb2,hb3⟩:=World.cells?_some hc1
     have hblk:=World.cells?_block hc1 (by decide)
     refine ⟨t :: ts,by simp [hts],?_⟩
     rw [aW]
     refine ⟨⟨ad,csi,rfl,by rw [lV] at hblk;exact hblk,fun j v hv=> ?_,ht⟩,hk⟩
     have hj:j<10:=by rw [← hb2];exact (List.getElem?_eq_some_iff.1 hv).1
     rw [hb3 j hj];exact hv
   obtain ⟨ts,hts,hk⟩:=key len 0 (by omega)
   refine ⟨.node k a fl nt ts,?_⟩
   rw [aI]
   exact ⟨some ad,cap,by rw [e0,e10,e11,e12,e13,e14,e15,e2,e3,e4,hts],by omega,by unfold maxLen at hcm;omega,hk⟩
end
theorem aJl {w:World} (h:w.ShapedOpen Tryz.prog):jT w:=by
 obtain ⟨m,hm⟩:=cell_of_shapedOpen_int (g:=0) (t:=3) (zero:=#[.int .i64 0]) (k:= .i64) h (of_decide_eq_true (by kernel_rfl)) (by kernel_rfl) rfl (by kernel_rfl) (by kernel_rfl) Tryz.underlying3
 exact ⟨oN hm,m,hm⟩
theorem tS {H:Type} {enc:TypeId × Value->H} {a:Assume} {C:Checked} {os:Os} {f:FuncId} {fn:Func} {s:ChangeSpec} {conds:List PathCond} {apart fresh handsOn again:Bool} {X:World->Array Value->Prop}
  (hX : ∀ (w w':World) (args:Array Value),w.heap=w'.heap->X w args->X w' args)
  (own:ownKnob C.prog.godebug=none) (started:os.Started) (noInit:C.prog.inits.idxOf? f=none) (hfn:C.prog.funcs[f]? = some fn)
  (witness : ∃ (w:World) (tape:Tape) (i:Input),w.os=os/\(w.forCall tape i).Shaped C.prog/\i.vars = []/\Input.okWide C.prog (w.forCall tape i) .any w.heap.size f i/\
   ((s.pre enc C.prog fn conds apart (w.forCall tape i).memory i.args/\X (w.forCall tape i).memory i.args)/\sizedMet enc C.prog fn (OpenSpec.ofChange s) apart (w.forCall tape i).memory i.args)/\a.holds C.prog (lone (Frame.enter C.prog f i.args .normal) [] (w.forCall tape i)))
  (sT : ∀ (W:World) (base:Nat) (args:Array Value) (ds gs:List (DataW H)) (before:List MemPlace),
   (∀ (j:Nat) t v,fn.params[j]? = some t->args[j]? = some v->Value.okWide C.prog W .any base t v)->
   DataW.Whole enc C.prog fn.params.toList s.vars apart W args.toList ds gs before->
   X W args->W.ShapedOpen C.prog->
   Calls C.prog f args W fun e W'=> ∃ v,e=.returned v/\s.post enc C.prog fn apart fresh handsOn again W args v W') :
  ReturnsInHanded a C os f .any (fun w args=>(s.pre enc C.prog fn conds apart w args/\X w args)/\sizedMet enc C.prog fn (OpenSpec.ofChange s) apart w args) (s.post enc C.prog fn apart fresh handsOn again):=by
 refine returnsInHanded_of_calls own started noInit witness ?_
 intro w tape i _ hsh _ hok hpre _
 obtain ⟨_,_,_,fn',hfn',_,_,_,_,hval⟩:=hok
 obtain rfl:fn'=fn:=Option.some.inj (hfn'.symm.trans hfn)
 obtain ⟨⟨⟨ds,gs,before,hw,_⟩,hx⟩,_⟩:=hpre
 have hw':=DataW.Whole.of_heap (w':=w.forCall tape i) (by rfl) hw
 refine (sT (w.forCall tape i) w.heap.size i.args ds gs before hval hw' (hX _ _ _ (by rfl) hx) hsh).mono fun e W' ⟨v,he,hp⟩=> ?_
 subst he
 exact ChangeSpec.post_blind hp
end Go.Proofs.YthhhicgjiilgmaaGreatDoor
namespace Go.Proofs.YthhhicgjiilgmaaGreatDoor
open Go.ChangeShapes Go.WideShapes Go.ChangeAt Go.RowKit Go.Joins
theorem vE:Tryz.prog.cellsOf 106=14:=by kernel_rfl
theorem aBx:Tryz.prog.cellsOf 101=1:=by kernel_rfl
theorem rM:Tryz.prog.cellsOf 22=1:=by kernel_rfl
theorem aCf:Tryz.prog.cellsOf 24=1:=by kernel_rfl
theorem oR {a:Addr} (h:a.spot=none):a=⟨a.block,a.off,none⟩:=by cases a;simp at h;subst h;rfl
theorem aMo {α:Type} {cs:List α} (h:cs.length=14) : ∃ c0 c1 c2 c3 c4 c5 c6 c7 c8 c9 c10 c11 c12 c13,cs = [c0,c1,c2,c3,c4,c5,c6,c7,c8,c9,c10,c11,c12,c13]:=by
 match cs,h with
 | [c0,c1,c2,c3,c4,c5,c6,c7,c8,c9,c10,c11,c12,c13],_=>exact ⟨c0,c1,c2,c3,c4,c5,c6,c7,c8,c9,c10,c11,c12,c13,rfl⟩
section
variable {H:Type} {enc:TypeId × Value->H} {w:World} {base:Nat} {sp:Nat->Bool} {held:Bool}
theorem qS {α:Type} {P:Nat->α->Prop} : ∀ (n:Nat),(∀ i,i<n->∃ x,P i x)->∃ l:List α,l.length=n/\∀ (i:Nat) (h:i<l.length),P i l[i]
 | 0,_=>⟨[],rfl,fun i h=>absurd h (Nat.not_lt_zero _)⟩
 | n+1,h=>by
  obtain ⟨l,hl,hp⟩:=qS n (fun i hi=>h i (by omega))
  obtain ⟨x,hx⟩:=h n (by omega)
  refine ⟨l ++ [x],by simp [hl],fun i hi=> ?_⟩
  by_cases hlt:i<l.length
  ·rw [List.getElem_append_left hlt];exact hp i hlt
  ·have:i=l.length:=by simp at hi;omega
   subst this
   rw [List.getElem_append_right (Nat.le_refl _)]
   simp only [Nat.sub_self,List.getElem_cons_zero]
   rw [hl];exact hx
theorem aGw {fuel:Nat} {cs:List Value} {x:DataW H × List MemPlace} (h:DataW.trod enc Tryz.prog w base sp held fuel 101 cs=some x) : ∃ (fs:List ByteArray) (v:Value),cs = [v]/\cD (fun b=>b<w.heap.size) w fs v:=by
 rcases DataW.trod_slice Tryz.underlying101 h with ⟨rfl,-⟩ | ⟨ad,len,cap,elems,rest,mm,hmm,rfl,-,-,hlc,hcm,hle,hcell,-,-⟩
 ·exact ⟨[],_,rfl,Or.inl ⟨rfl,none,0,rfl⟩⟩
 ·have one : ∀ i,i<len->∃ y:ByteArray,ad.block<w.heap.size/\w.cell? (ad.add i)=some (.string y):=by
   intro i hi
   have hci:=hcell i hi
   rw [aBy,Nat.mul_one,List.getElem?_eq_getElem (by omega)] at hci
   obtain ⟨csi,hc1,hc2⟩:=Option.bind_eq_some_iff.1 hci
   obtain ⟨y,e0,-,-⟩:=DataW.trod_string Tryz.underlying9 hc2
   obtain ⟨hb1,hb2,hb3⟩:=World.cells?_some hc1
   have hblk:=World.cells?_block hc1 (by decide)
   rw [lV] at hblk
   refine ⟨y,hblk,?_⟩
   have:=hb3 0 (by decide)
   rw [e0] at this
   simpa [Addr.add] using this
  by_cases h0:len=0
  ·subst h0
   exact ⟨[],_,rfl,Or.inl ⟨rfl,_,_,rfl⟩⟩
  ·obtain ⟨fs,hfl,hfs⟩:=qS len one
   have hz:=hfs 0 (by omega)
   have hsp:ad.spot=none:=by
    have:=World.cell?_spot hz.2
    simpa [Addr.add] using this
   have had:=oR hsp
   refine ⟨fs,_,rfl,Or.inr ⟨ad.block,ad.off,cap,by rw [hfl,← had],⟨hz.1,by omega⟩,by unfold maxLen at hcm;omega,fun j y hy=> ?_⟩⟩
   obtain ⟨hj,rfl⟩:=List.getElem?_eq_some_iff.1 hy
   have:=(hfs j hj).2
   rw [had] at this
   rwa [Addr.add_mid] at this
theorem aIw {fuel:Nat} {cs:List Value} {x:DataW H × List MemPlace} (h:DataW.trod enc Tryz.prog w base sp held fuel 106 cs=some x) : ∃ p:PK,dE (fun b=>b<w.heap.size) w p cs/\cs.length=14:=by
 obtain ⟨xs,m,hm,hx,hl,hlen,hel⟩:=DataW.trod_struct Tryz.underlying106 h
 have hl14:=hl.trans vE
 obtain ⟨c0,c1,c2,c3,c4,c5,c6,c7,c8,c9,c10,c11,c12,c13,rfl⟩:=aMo hl14
 match xs,hlen with
 | [y0,y1,y2,y3,y4],_=>
  obtain ⟨n,e0,-,-⟩:=DataW.trod_string Tryz.underlying9 (by simpa using hel 0 _ rfl)
  obtain ⟨v,e1,-,-⟩:=DataW.trod_int Tryz.underlying3 (by simpa using hel 1 _ rfl)
  obtain ⟨sl,e2,-,-⟩:=DataW.trod_int Tryz.underlying3 (by simpa using hel 2 _ rfl)
  obtain ⟨fs,fv,e3,hf⟩:=aGw (show DataW.trod enc Tryz.prog w base sp held m 101 _=some y3 by simpa using hel 3 _ rfl)
  obtain ⟨t,ht⟩:=aFy m _ _ (show DataW.trod enc Tryz.prog w base sp held m 104 _=some y4 by simpa using hel 4 _ rfl)
  simp [gR,aBy,aBx,mS] at e0 e1 e2 e3 ht
  refine ⟨⟨n,v,sl,fs,t⟩,⟨fv,[c4,c5,c6,c7,c8,c9,c10,c11,c12,c13],by rw [e0,e1,e2,e3],hf,ht⟩,rfl⟩
theorem aEz {fuel:Nat} {cs:List Value} {x:DataW H × List MemPlace} (h:DataW.trod enc Tryz.prog w base sp held fuel 22 cs=some x) : ∃ (ps:List PK) (v:Value),cs = [v]/\bA (fun b=>b<w.heap.size) w ps v:=by
 rcases DataW.trod_slice Tryz.underlying22 h with ⟨rfl,-⟩ | ⟨ad,len,cap,elems,rest,mm,hmm,rfl,-,-,hlc,hcm,hle,hcell,-,-⟩
 ·exact ⟨[],_,rfl,Or.inl ⟨rfl,none,0,rfl⟩⟩
 ·have one : ∀ i,i<len->∃ y:PK,ad.block<w.heap.size/\∃ cs:List Value,cs.length=14/\(∀ m,m<14->w.cell? ((ad.add (i*14)).add m)=cs[m]?)/\dE (fun b=>b<w.heap.size) w y cs:=by
   intro i hi
   have hci:=hcell i hi
   rw [vE,List.getElem?_eq_getElem (by omega)] at hci
   obtain ⟨csi,hc1,hc2⟩:=Option.bind_eq_some_iff.1 hci
   obtain ⟨p,hp,hl⟩:=aIw hc2
   obtain ⟨hb1,hb2,hb3⟩:=World.cells?_some hc1
   have hblk:=World.cells?_block hc1 (by decide)
   rw [lV] at hblk
   exact ⟨p,hblk,csi,hl,hb3,hp⟩
  by_cases h0:len=0
  ·subst h0
   exact ⟨[],_,rfl,Or.inl ⟨rfl,_,_,rfl⟩⟩
  ·obtain ⟨ps,hfl,hfs⟩:=qS len one
   obtain ⟨hz,cs0,hl0,hc0,-⟩:=hfs 0 (by omega)
   have hsp:ad.spot=none:=by
    have h1:=hc0 0 (by decide)
    rw [List.getElem?_eq_getElem (by omega)] at h1
    have:=World.cell?_spot h1
    simpa [Addr.add] using this
   have had:=oR hsp
   refine ⟨ps,_,rfl,Or.inr ⟨ad.block,ad.off,cap,by rw [hfl,← had],hz,by unfold maxLen at hcm;omega,fun j hj=> ?_⟩⟩
   obtain ⟨-,csj,hlj,hcj,hpj⟩:=hfs j hj
   refine ⟨csj,fun m y hy=> ?_,hpj⟩
   have hm:m<14:=by rw [← hlj];exact (List.getElem?_eq_some_iff.1 hy).1
   have:=hcj m hm
   rw [had,Addr.add_mid,Addr.add_mid,hy] at this
   exact this
end
theorem aFb {H:Type} {enc:TypeId × Value->H} {w:World} {base b0:Nat} {sp:Nat->Bool} {held:Bool} {x:Value} {d:DataW H} {p:List MemPlace} (hv:Value.okWide Tryz.prog w .any b0 24 x) (h:DataW.Trod enc Tryz.prog w base sp held 24 x d p) :
  ∃ (ps:List PK) (v:Value),x=.agg #[v]/\bA (fun b=>b<w.heap.size) w ps v:=by
 obtain ⟨cs,rfl,hsz⟩:=okWide_struct Tryz.underlying24 hv
 obtain ⟨fuel,hf⟩:=h
 obtain ⟨xs,m,hm,hx,hl,hlen,hel⟩:=DataW.trod_struct Tryz.underlying24 (show DataW.trod enc Tryz.prog w base sp held fuel 24 cs.toList=some (d,p) from hf)
 match xs,hlen with
 | [y0],_=>
  obtain ⟨ps,v,e,hp⟩:=aEz (show DataW.trod enc Tryz.prog w base sp held m 22 _=some y0 by simpa using hel 0 _ rfl)
  refine ⟨ps,v,?_,hp⟩
  have hl1:=hl.trans aCf
  simp [rM] at e
  obtain ⟨l⟩:=cs
  simp at hl1 e
  match l,hl1 with
  | [c],_=>simp at e;subst e;rfl
end Go.Proofs.YthhhicgjiilgmaaGreatDoor
