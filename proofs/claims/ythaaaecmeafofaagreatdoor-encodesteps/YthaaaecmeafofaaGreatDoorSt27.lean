/- Steps of the proof: EncClosed, EncStepsP. -/
import Derived.Test.YthaaaecmeafofaaGreatDoorSt24
import Derived.Test.YthaaaecmeafofaaGreatDoorSt25
import Derived.Test.YthaaaecmeafofaaGreatDoorSt26
import Derived.Test.YthaaaecmeafofaaGreatDoorSt23
set_option maxHeartbeats 16000000
set_option maxRecDepth 100000
namespace Go.Proofs.YthaaaecmeafofaaGreatDoor
open Go.RowKit
def wE:WI:=⟨[atA],[⟨3,[]⟩],[],[]⟩
def mE:List MB:= [⟨1,[false]⟩,⟨3,[]⟩]
def mdE:List Bool:= [false,false,true,false,false]
theorem aQm:cM bE mE=0:=by
 unfold cM;rw [nO]
 show aJt bE mE=0
 decide
theorem wW:cQ bE wE=0:=by
 have h1:cM bE [⟨3,[]⟩]=0:=by
  unfold cM;rw [nO]
  show aJt bE [⟨3,[]⟩]=0
  decide
 have h2:taE [atA]=0:=by
  have:iN atA=0:=by
   show chk [97] 0 0 0 [] false=0
   unfold chk
   rw [if_neg (by simp [aDm]),if_neg (by decide),if_neg (by decide)]
  simp [taE,aY,this]
 unfold cQ
 rw [show wE.ins = [⟨3,[]⟩] from rfl,show wE.ts = [atA] from rfl,show wE.ma = [] from rfl,show wE.on = [] from rfl,h1,h2]
 rfl
theorem aOb:dH bE wE mE=0:=by unfold dH;rw [wW,aQm];rfl
theorem aDg:(aB bE wE).many=5:=by decide
theorem aQl:Cn.chL ((aB bE wE).mod (kF mE)) = [-1,-2,3,-4,-5]:=by decide
theorem aQn:dT bE wE mdE=mE:=rfl
theorem uI {b c:Nat} {W:World} (hb:aL b #[.string ⟨#[97]⟩,.int .i64 0,.int .i64 0,.int .i64 0,.string ⟨#[]⟩,.bool false] W) (hc:aL c #[.int .i64 3,.slice none 0 0] W):fR (inW W) W wE (.slice (some ⟨b,0,none⟩) 1 1) (.slice (some ⟨c,0,none⟩) 1 1) (.slice none 0 0) (.slice none 0 0):=by
 refine ⟨⟨_,_,rfl,by decide,fun _=>⟨b,0,rfl,hb.1,fun j a ha=> ?_⟩⟩,⟨_,_,rfl,by decide,fun _=>⟨c,0,rfl,hc.1,fun j m hm=> ?_⟩⟩,⟨_,_,rfl,by decide,fun h=>absurd h (by decide)⟩,⟨_,_,rfl,by decide,fun h=>absurd h (by decide)⟩⟩
 ·match j,ha with
  | 0,ha=>cases ha;exact ⟨hb.2 0,hb.2 1,hb.2 2,hb.2 3,hb.2 4,hb.2 5⟩
 ·match j,hm with
  | 0,hm=>cases hm;exact ⟨_,hc.2 0,hc.2 1,none,0,rfl,by simp,fun h=>absurd h (by simp)⟩
theorem aFm {b c:Nat} {W:World} (hb:aL b #[.int .i64 1,.slice (some ⟨c,0,none⟩) 1 1,.int .i64 3,.slice none 0 0] W) (hc:aL c #[.bool false] W):bX (inW W) W mE (.slice (some ⟨b,0,none⟩) 2 2):=by
 refine ⟨_,_,rfl,by decide,fun _=>⟨b,0,rfl,hb.1,fun j m hm=> ?_⟩⟩
 match j,hm with
 | 0,hm=>
  cases hm
  refine ⟨_,hb.2 0,hb.2 1,_,_,rfl,by simp,fun _=>⟨c,0,rfl,hc.1,fun j y hy=> ?_⟩⟩
  match j,hy with
  | 0,hy=>cases hy;exact hc.2 0
 | 1,hm=>cases hm;exact ⟨_,hb.2 2,hb.2 3,none,0,rfl,by simp,fun h=>absurd h (by simp)⟩
theorem aGk {b:Nat} {W:World} (hb:aL b #[.bool false,.bool false,.bool true,.bool false,.bool false] W):aZ (inW W) W mdE (.slice (some ⟨b,0,none⟩) 5 5):=by
 refine ⟨_,_,rfl,by decide,fun _=>⟨b,0,rfl,hb.1,fun j y hy=> ?_⟩⟩
 match j,hy with
 | 0,hy=>cases hy;exact hb.2 0
 | 1,hy=>cases hy;exact hb.2 1
 | 2,hy=>cases hy;exact hb.2 2
 | 3,hy=>cases hy;exact hb.2 3
 | 4,hy=>cases hy;exact hb.2 4
theorem aAd {rb cap:Nat} {zs:List Int} {W:World} (h:aD rb 3 (zs.map (Value.int .i64)).toArray W) (hn:zs.length=cap):eI (.slice (some ⟨rb,0,none⟩) cap cap) zs W:=
 .inr ⟨rb,cap,by rw [hn],h.facts.2.2,fun j x hx=>by rw [h.facts.1,List.getElem?_toArray,List.getElem?_map,hx];rfl⟩
theorem lK (w:World) (hE:Env w) (hM:jR w) :
  Calls Tryz.prog 39 #[] w fun e w'=>e=.returned (.bool true)/\aA w w':=by
 go_enter Tryz.func39,Tryz.ntmps39
 go_wp2_with fail
 refine (aEa w hE hM).mono ?_
 rintro e w1 ⟨v1,rfl,hp1,k1,hcap⟩
 obtain ⟨p1,c1,rfl,-⟩:=hp1.len
 have HP1:=hid (bD.mono (S':=inW w1) (fun _ _=>rfl) (fun b hb=>hb.2) hp1)
 have K1:=hid k1
 have HCAP:=hid hcap
 clear hp1 k1 hE hM hcap
 go_wp2_with fail
 refine aV (fun W'=>aA w1 W'/\aE w1.heap.size 24 (.slice p1 bE.length c1) W'/\aL (w1.heap.size+1) #[.string ⟨#[97]⟩,.int .i64 0,.int .i64 0,.int .i64 0,.string ⟨#[]⟩,.bool false] W'/\aL (w1.heap.size+1+1) #[.int .i64 3,.slice none 0 0] W'/\aL (w1.heap.size+1+1+1) #[.slice (some ⟨w1.heap.size+1,0,none⟩) 1 1,.slice (some ⟨w1.heap.size+1+1,0,none⟩) 1 1,.slice none 0 0,.slice none 0 0] W')
  ⟨(((aA.alloc _ _).alloc' _).alloc' _).alloc' _,(aE.new _ _ _).keep (((aA.alloc _ _).alloc' _).alloc' _) (by simp),(jU (by simp) _ _).keep ((aA.alloc _ _).alloc' _) (by simp),(jU (by simp) _ _).keep (aA.alloc _ _) (by simp),jU (by simp) _ _⟩ ?_
 rintro W2 ⟨k2,v2,b2,m2,x2⟩
 refine (sH (inW W2) bE wE _ _ _ _ _ W2 (fun _ h=>h) (bD.mono (bF (fun _ h=>h) k2) (fun b hb=>Nat.lt_of_lt_of_le hb k2.size) HP1.out) (uI b2 m2) HCAP.out).mono ?_
 rintro e w3 ⟨k3,⟨h0,-⟩ | ⟨-,cv,rfl,hcls⟩⟩
 ·exact absurd wW h0
 obtain ⟨cp,cc,rfl,-⟩:=hcls.len
 have hn5:5<=(cG bE wE).n:=by have:=(rN wW).1;rw [aDg] at this;exact this
 have K3:=hid (k2.trans k3)
 have V3:=hid (v2.keep k3 v2.facts.2.2)
 have B3:=hid (b2.keep k3 b2.1)
 have M3:=hid (m2.keep k3 m2.1)
 have X3:=hid (x2.keep k3 x2.1)
 obtain ⟨hcv,-,hlv⟩:=V3.out.facts
 have hcx:=X3.out.2
 have hlx:=X3.out.1
 generalize (cG bE wE).cl.length=cn
 generalize (cG bE wE).n=nn at hn5 ⊢
 clear k2 v2 b2 m2 x2 k3 hcls
 go_wp2_with fail
 refine aV (fun W'=>aA w1 W'/\aE w1.heap.size 24 (.slice p1 bE.length c1) W'/\aL (w1.heap.size+1) #[.string ⟨#[97]⟩,.int .i64 0,.int .i64 0,.int .i64 0,.string ⟨#[]⟩,.bool false] W'/\aL (w1.heap.size+1+1) #[.int .i64 3,.slice none 0 0] W'/\aL (w1.heap.size+1+1+1) #[.slice (some ⟨w1.heap.size+1,0,none⟩) 1 1,.slice (some ⟨w1.heap.size+1+1,0,none⟩) 1 1,.slice none 0 0,.slice none 0 0] W'/\aL w3.heap.size #[.int .i64 nn,.slice cp cn cc] W'/\aL (w3.heap.size+1) #[.bool false] W'/\aL (w3.heap.size+1+1) #[.int .i64 1,.slice (some ⟨w3.heap.size+1,0,none⟩) 1 1,.int .i64 3,.slice none 0 0] W')
  ⟨((K3.out.alloc' _).alloc' _).alloc' _,V3.out.keep (((aA.alloc _ _).alloc' _).alloc' _) V3.out.facts.2.2,B3.out.keep (((aA.alloc _ _).alloc' _).alloc' _) B3.out.1,M3.out.keep (((aA.alloc _ _).alloc' _).alloc' _) M3.out.1,X3.out.keep (((aA.alloc _ _).alloc' _).alloc' _) X3.out.1,(aL.new _ _ _).keep ((aA.alloc _ _).alloc' _) (by simp),(jU (by simp) _ _).keep (aA.alloc _ _) (by simp),jU (by simp) _ _⟩ ?_
 rintro W4 ⟨k4,v4,b4,m4,x4,f4,y4,z4⟩
 refine (xJ (inW W4) bE wE mE _ _ _ _ _ _ W4 (fun _ h=>h) (bD.mono (bF (fun _ h=>h) k4) (fun b hb=>Nat.lt_of_lt_of_le hb k4.size) HP1.out) (uI b4 m4) (aFm z4 y4)).mono ?_
 rintro e w5 ⟨k5,⟨h0,-⟩ | ⟨-,rb,rfl,-,hrow⟩⟩
 ·exact absurd aOb h0
 rw [aQl] at hrow
 rw [aDg]
 have K5:=hid (k4.trans k5)
 have V5:=hid (v4.keep k5 v4.facts.2.2)
 have B5:=hid (b4.keep k5 b4.1)
 have M5:=hid (m4.keep k5 m4.1)
 have X5:=hid (x4.keep k5 x4.1)
 have F5:=hid (f4.keep k5 f4.1)
 have I5:=hid (aAd (cap:=5) hrow rfl)
 clear k4 v4 b4 m4 x4 f4 y4 z4 k5 hrow hcv hlv hcx hlx
 obtain ⟨hcv,-,hlv⟩:=V5.out.facts
 have hcx:=X5.out.2
 have hlx:=X5.out.1
 go_wp2_with fail
 refine aV (fun W'=>aA w1 W'/\aA w5 W'/\aL (w1.heap.size+1) #[.string ⟨#[97]⟩,.int .i64 0,.int .i64 0,.int .i64 0,.string ⟨#[]⟩,.bool false] W'/\aL (w1.heap.size+1+1) #[.int .i64 3,.slice none 0 0] W'/\aL w5.heap.size #[.bool false,.bool false,.bool true,.bool false,.bool false] W')
  ⟨K5.out.alloc' _,aA.alloc _ _,B5.out.keep (aA.alloc _ _) B5.out.1,M5.out.keep (aA.alloc _ _) M5.out.1,aL.new _ _ _⟩ ?_
 rintro W6 ⟨k6,k56,b6,m6,z6⟩
 refine (aNx (inW W6) bE wE mdE _ _ _ _ _ _ W6 (fun _ h=>h) (bD.mono (bF (fun _ h=>h) k6) (fun b hb=>Nat.lt_of_lt_of_le hb k6.size) HP1.out) (uI b6 m6) (aGk z6)).mono ?_
 rintro e w7 ⟨k7,⟨h0,-⟩ | ⟨-,h0,-⟩ | ⟨-,-,-,v7,rfl,hm7⟩⟩
 ·exact absurd wW h0
 ·rw [aDg] at h0;exact absurd h0 (by decide)
 rw [aQn] at hm7
 have K7:=hid (K1.out.trans (k6.trans k7))
 have K57:=hid (k56.trans k7)
 have F7:=hid (F5.out.keep K57.out F5.out.1)
 have I7:=hid (I5.out.keep K57.out)
 have M7:=hid hm7
 obtain ⟨mp7,mc7,rfl,-,-⟩:=hm7
 have hf0:w7.cell? ⟨w3.heap.size,0,none⟩=some (.int .i64 nn):=F7.out.2 0
 have hfl:=F7.out.1
 have hn5I:(5:Int)<=(nn:Int):=by omega
 clear k6 k56 b6 m6 z6 k7 hcv hlv hcx hlx V5 B5 M5 X5 F5 I5
 go_wp2_with fail
 refine aV (fun W'=>aA w7 W'/\eI (.slice (some ⟨w7.heap.size,0,none⟩) 5 5) [-1,-2,3,-4,-5] W') ⟨aA.alloc _ _,aAd (cap:=5) (aD.new w7 3 ([-1,-2,3,-4,-5].map (Value.int .i64)).toArray) rfl⟩ ?_
 rintro W8 ⟨k8,i8⟩
 refine (uT _ _ [-1,-2,3,-4,-5] [-1,-2,3,-4,-5] W8 (I7.out.keep k8) i8 (by decide) (by decide)).mono ?_
 rintro e w9 ⟨rfl,q,rfl⟩
 rw [show (([-1,-2,3,-4,-5]:List Int) == [-1,-2,3,-4,-5])=true by decide]
 have K9:=hid (k8.trans ((aA.refl W8).drewN q))
 generalize W8.drewN q=w9 at K9 ⊢
 clear k8 i8
 go_wp2_with fail
 refine aV (fun W'=>aA w9 W'/\bX (inW W') W' mE (.slice (some ⟨w9.heap.size+1,0,none⟩) 2 2)) ⟨(aA.alloc _ _).alloc' _,aFm (jU (by simp) _ _) ((aL.new _ _ _).keep (aA.alloc _ _) (by simp))⟩ ?_
 rintro W10 ⟨k10,m10⟩
 have K10:=hid (K9.out.trans k10)
 refine (xU (inW W10) mE mE _ _ W10 (fun _ h=>h) (M7.out.mono (fun p hp=>K10.out.cell (p:=p) hp.2) (fun c hc=>Nat.lt_of_lt_of_le hc.2 K10.out.size)) m10).mono ?_
 rintro e w11 ⟨β,rfl,hβ,k11⟩
 obtain rfl:β=true:=hβ.2 rfl
 have KF:=hid ((K7.out.trans K10.out).trans k11)
 clear k10 m10 k11 hβ
 go_wp2_with fail
 go_ret
 exact ⟨rfl,KF.out⟩
theorem aNl {ps:List PK} {wi:WI} (hok:(aB ps wi).Ok) (h0 : ∀ x∈plI wi.ins,0<=x):(plI wi.ins++cZ (plI wi.ins) ps.length).length+cK ps ps.length=(aB ps wi).many:=by
 rw [aDo ps wi h0,List.length_map,Cn.CT.order_len hok,aNy ps wi,List.take_of_length_le (by rw [bV];exact Nat.le_refl _)]
 rfl
end Go.Proofs.YthaaaecmeafofaaGreatDoor
