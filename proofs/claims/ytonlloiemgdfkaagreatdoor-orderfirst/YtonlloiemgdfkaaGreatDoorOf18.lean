/- Steps of the proof: OrdFirst, AtomOpen, NeedOpen, TreeOpen, ValidOpen. -/
import Derived.Test.YtonlloiemgdfkaaGreatDoorOf17
import Derived.Maps.RangeWalk
import Derived.Test.YtonlloiemgdfkaaGreatDoorOf03
import Derived.Lib.LaidTab
import Derived.Stop.LaidErr
import Derived.OpenShut
import Derived.Lib.SmallJoins
import Derived.Deep.DeepWitnessRowRef
import Derived.LaidMore
import Derived.Stop.Joined
import Derived.ChangeOld
import Derived.Test.YtonlloiemgdfkaaGreatDoorOf10
import Derived.Shelf.Vars
import Derived.HandedShaped
import Derived.Test.YtonlloiemgdfkaaGreatDoorOf08
import Derived.Test.YtonlloiemgdfkaaGreatDoorOf11
set_option maxHeartbeats 16000000
set_option maxRecDepth 100000
namespace Go.Proofs.YtonlloiemgdfkaaGreatDoor
open Go.RowKit Go.Sort Go.Lib
theorem vA {C:Nat->Nat->Bool} {all:List Nat} : ∀ (r:List Nat) (f:Nat->Int) (la:Int),(r.foldl (gY C all) (f,la)).2<=la+r.length
 | [],f,la=>by simp
 | k :: r,f,la=>by
  rw [List.foldl_cons]
  have h1:(gY C all (f,la) k).2<=la+1:=by unfold gY;split;simp;omega;split;simp;simp;omega
  have h2:(r.foldl (gY C all) (gY C all (f,la) k)).2<=(gY C all (f,la) k).2+r.length:=vA (C:=C) (all:=all) r (gY C all (f,la) k).1 (gY C all (f,la) k).2
  rw [List.length_cons]
  omega
theorem aBv (ps:List PK) (th ms:List MB) (k:Nat):0<=(eP ps th ms).getD k 0/\(eP ps th ms).getD k 0<=ms.length:=by
 refine ⟨aAl ps th ms k,?_⟩
 obtain ⟨-,f,la,hf,he,hok⟩:=lU ps th ms
 have h1:=vA (C:=fW ps ms) (all:=goP ps th ms) (goP ps th ms) (fun _=>0) 0
 rw [he] at h1
 have h2:=(hok.rng k).2
 have h3:=lX ps th ms
 rw [hf]
 simp only at h1
 omega
theorem uI {ps:List PK} {th ms:List MB} (hz:bA ps ms=0) {j:Nat} (h:((bH ps th ms).getD j AC.zero).out=false):(((bH ps th ms).getD j AC.zero).m.pl).natAbs<=100/\0<=((bH ps th ms).getD j AC.zero).cy/\((bH ps th ms).getD j AC.zero).cy<=100:=by
 obtain ⟨r,hr,-,e⟩:=jZ h
 obtain ⟨h8,-,-,-,hm8,hok⟩:=dL hz
 have hrm:=(fU.1 (List.getElem_mem hr)).1
 rw [e]
 obtain ⟨x1,x2,-⟩:=hok _ _ (List.getElem?_eq_getElem hrm)
 have:=aBv ps th ms (goP ps th ms)[r]
 simp only [dB ms _ hrm]
 omega
theorem zO {ps:List PK} {th ms:List MB} (hz:bA ps ms=0) (hzt:bA ps th=0):(bH ps th ms).length<=16:=by
 rw [sL]
 have h1:=nO ps th ms th.length
 have h2:=lX ps th ms
 have h3:=(dL hz).2.2.2.2.1
 have h4:=(dL hzt).2.2.2.2.1
 omega
theorem lY {g n:Nat} {f:Int->Option Int} {w:World} (h:eN g n f w):eN g (n+1) f w:=by
 obtain ⟨D,h1,h2⟩:=h
 exact ⟨D,h1.mono (Nat.le_succ _),h2⟩
theorem oQ (S:Nat->Prop) (ps:List PK) (th ms:List MB) (pv hv lv:Value) (w:World) (hS : ∀ b,S b->b<w.heap.size) (hp:aY S w ps pv) (ht:cC S w th hv) (hm:cC S w ms lv) (hE:Env w) (hM:fM w) :
  Calls Tryz.prog 9 #[.agg #[pv],hv,lv] w fun e w'=>e=.returned (.bool true)/\aA w w':=by
 have HP:=hid hp
 have HT:=hid ht
 have HM:=hid hm
 have HE:=hid hE
 have HMX:=hid hM
 obtain ⟨tp,tc,rfl,hpl⟩:=hp.len
 obtain ⟨hp',hc',rfl,hhl⟩:=ht.len
 obtain ⟨lp,lc,rfl,hll⟩:=hm.len
 have hmm:= @run_makeMap Tryz.prog
 clear hp ht hm hE hM
 go_enter Tryz.func9,Tryz.ntmps9
 go_upto_region 1 with fail
 refine bI (fun W'=>aA w W'/\aC w.heap.size 24 (.slice tp ps.length tc) W') ⟨aA.alloc _ _,aC.new _ _ _⟩ ?_
 rintro W1 ⟨k1,v1⟩
 have K1:=hid k1
 have V1:=hid v1
 generalize w.heap.size=b at V1 ⊢
 clear k1 v1
 obtain ⟨g0,-,l0⟩:=V1.out.facts
 go_wp2_with fail
 refine (pD S ps ms _ _ W1 (fun c hc=>Nat.lt_of_lt_of_le (hS c hc) K1.out.size) (HP.out.keep hS K1.out) (HM.out.keep hS K1.out)).mono ?_
 rintro e W2 ⟨k2,hd⟩
 have K2:=hid (K1.out.trans k2)
 have V2:=hid (V1.out.keep k2 V1.out.facts.2.2)
 clear k2 g0 l0 V1
 have hd2 : ∃ (rp:Option Addr) (rn rc:Nat),e=.returned (.tuple #[.slice rp rn rc,.int .i64 (bA ps ms)])/\(bA ps ms=0->rn=ms.length/\dC (fun c=>c<W2.heap.size) W2 (jT ps ms) (.slice rp ms.length rc)):=by
  rcases hd with ⟨hz,rfl⟩ | ⟨hz,v2,rfl,hr2⟩
  ·exact ⟨_,_,_,rfl,fun h=>absurd h hz⟩
  ·obtain ⟨rp,rc,hrv,-⟩:=hr2.len
   subst hrv
   rw [dI] at hr2 ⊢
   exact ⟨rp,ms.length,rc,by rw [hz],fun _=>⟨rfl,hr2.mono (fun _ _=>rfl) fun c hc=>hc.2⟩⟩
 obtain ⟨rp,rn,rc,rfl,hR⟩:=hd2
 have HRR:=hid hR
 clear hd hR
 obtain ⟨e1,he1⟩ : ∃ e1,e1=bA ps ms:=⟨_,rfl⟩
 have HE1:=hid he1
 rw [← he1]
 clear he1
 obtain ⟨g0,-,l0⟩:=V2.out.facts
 go_wp2_with fail
 refine (sK S ps th ms _ _ _ W2 (fun c hc=>Nat.lt_of_lt_of_le (hS c hc) K2.out.size) (HP.out.keep hS K2.out) (HT.out.keep hS K2.out) (HM.out.keep hS K2.out)).mono ?_
 rintro e W3 ⟨k3,hd⟩
 have K3:=hid (K2.out.trans k3)
 have KK23:=hid k3
 clear k3 g0 l0 V2
 have hd3 : ∃ (ap:Option Addr) (an ac:Nat),e=.returned (.tuple #[.slice ap an ac,.int .i64 (fG ps th ms)])/\(fG ps th ms=0->an=(bH ps th ms).length/\cP (fun c=>c<W3.heap.size) W3 (bH ps th ms) (.slice ap (bH ps th ms).length ac)):=by
  rcases hd with ⟨hz,rfl⟩ | ⟨hz,v2,rfl,hr2⟩
  ·exact ⟨_,_,_,rfl,fun h=>absurd h hz⟩
  ·obtain ⟨ap,ac,hrv,-⟩:=hr2.len
   subst hrv
   exact ⟨ap,_,ac,by rw [hz],fun _=>⟨rfl,hr2.mono (fun _ _=>rfl) fun c hc=>hc.2⟩⟩
 obtain ⟨ap,an,ac,rfl,hA⟩:=hd3
 have HAA:=hid hA
 clear hd hA
 obtain ⟨e2,he2⟩ : ∃ e2,e2=fG ps th ms:=⟨_,rfl⟩
 have HE2:=hid he2
 rw [← he2]
 clear he2
 go_wp2_with fail
 refine (lE W3 (HE.out.keep K3.out) (HMX.out.keep K3.out)).mono ?_
 rintro e W4 ⟨rfl,k4⟩
 have K4:=hid (K3.out.trans k4)
 have KK34:=hid k4
 clear k4
 have HORD:=hid (lE W4 (HE.out.keep K4.out) (HMX.out.keep K4.out))
 by_cases hz1:e1=0
 ·by_cases hz2:e2=0
  ·subst hz1
   subst hz2
   have HZ:Hid (bA ps ms=0):=HE1.out.symm
   have HPZ:Hid (fG ps th ms=0):=HE2.out.symm
   have HZT:Hid (bA ps th=0):=by
    show _=_
    have:=HPZ.out
    unfold fG at this
    rw [if_neg (by simp [HZ.out])] at this
    exact this
   obtain ⟨hrn,hrr⟩:=HRR.out HZ.out
   obtain ⟨han,haa⟩:=HAA.out HPZ.out
   subst hrn
   subst han
   have k24:=KK23.out.trans KK34.out
   have R4:=hid (hrr.mono (S':=fun c=>c<W4.heap.size) (fun p hp=>k24.cell (p:=p) hp) fun c hc=>Nat.lt_of_lt_of_le hc k24.size)
   have A4:=hid (haa.mono (S':=fun c=>c<W4.heap.size) (fun p hp=>KK34.out.cell (p:=p) hp) fun c hc=>Nat.lt_of_lt_of_le hc KK34.out.size)
   have hfew:=zO HZ.out HZT.out
   clear hrr haa k24 HRR HAA HORD
   go_upto_region 8 with fail
   refine bI (fun W'=>aA W4 W'/\eN W4.heap.size 0 (fun _=>none) W'/\eN (W4.heap.size+1) 0 (fun _=>none) W'/\eN (W4.heap.size+1+1) 0 (fun _=>none) W') ⟨((aA.alloc _ _).alloc' _).alloc' _,(kO W4).keep ((aA.alloc _ _).alloc' _),?_,?_⟩ ?_
   ·have:=kO (W4.alloc (.map #[] 0))
    rw [aE] at this;exact this.keep (aA.alloc _ _)
   ·have:=kO ((W4.alloc (.map #[] 0)).alloc (.map #[] 0))
    rw [aE,aE] at this;exact this
   rintro W5 ⟨k5,m1,m2,m3⟩
   have K45:=hid k5
   have M1:=hid m1
   have M2:=hid m2
   have M3:=hid m3
   clear k5 m1 m2 m3
   generalize hg:W4.heap.size=g at M1 M2 M3 ⊢
   have HG:=hid hg
   clear hg
   generalize hAe:bH ps th ms=A at A4 hfew ⊢
   have HAE:=hid hAe
   clear hAe
   go_wp2_with fail
   go_loopg [58] A.length (fun gk iv wr=> ∃ j:Nat,j+gk=A.length/\iv=.int .i64 j/\Below g W5 wr/\eN g j (whF A j) wr/\eN (g+1) j (cyF A j) wr/\eN (g+1+1) j (nuF A j) wr)
   case atStart=>exact ⟨0,by omega,rfl,Below.refl _ _,M1.out,M2.out,M3.out⟩
   case round=>
    obtain ⟨j,hj,rfl,hk,m1,m2,m3⟩:=hrel
    have HK:=hid hk
    have N1:=hid m1
    have N2:=hid m2
    have N3:=hid m3
    clear hk m1 m2 m3
    by_cases hlt:j<A.length
    ·have HKB:Hid (aA W4 wr):=by
      have h1:Below g W4 W5:=by rw [← HG.out];exact K45.out
      have h2:Below g W4 wr:=Below.trans h1 HK.out
      rw [← HG.out] at h2;exact h2
     have hgw:g<wr.heap.size:=N1.out.lt
     have hgw3:g+1+1<wr.heap.size:=N3.out.lt
     obtain ⟨ab,aoff,acap,hav,haS,-,hrow⟩:=(A4.out.mono (fun p hp=>HKB.out.cell (p:=p) hp) fun _ h=>h).get hlt
     cases hav
     have hxe:A.getD j AC.zero=A[j]:=by rw [List.getD_eq_getElem?_getD,List.getElem?_eq_getElem hlt];rfl
     obtain ⟨op,oc,c0,c1,c2,c3,hol,-⟩:=hrow j _ (List.getElem?_eq_getElem hlt)
     have HW1:Hid (whF A (j+1)=if A[j].out=true then whF A j else fun y=>if y=A[j].m.pl then some (j:Int) else whF A j y):=by show _=_;rw [whF,hxe]
     have HC1:Hid (cyF A (j+1)=if A[j].out=true then cyF A j else fun y=>if y=A[j].m.pl then some A[j].cy else cyF A j y):=by show _=_;rw [cyF,hxe]
     have HN1:Hid (nuF A (j+1)=if A[j].out=true∨¬ 0<A[j].cy then nuF A j else fun y=>if y=A[j].cy then some (((nuF A j) y).getD 0+1) else nuF A j y):=by show _=_;rw [nuF,hxe]
     have HON:Hid (A[j].out=false->whF A j A[j].m.pl=none/\A[j].m.pl.natAbs<=100/\0<=A[j].cy/\A[j].cy<=100):=fun h=>by
      rw [← hxe] at h ⊢
      rw [← HAE.out] at h ⊢
      exact ⟨aBh HZ.out h,uI HZ.out h⟩
     have habl:ab<wr.heap.size:=Nat.lt_of_lt_of_le haS HKB.out.size
     generalize A[j]=x at c0 c1 c2 c3 hol HW1 HC1 HN1 HON
     rcases x with ⟨xo,⟨pl,on⟩,cy⟩
     simp only at c0 c1 c2 c3 hol HW1 HC1 HN1 HON
     clear hrow hxe
     go_upto_region 11 with fail
     refine bI (fun W'=>aA wr W'/\aQ wr.heap.size 81 #[.bool xo,.int .i64 pl,.slice op on.length oc,.int .i64 cy] W') ⟨aA.alloc _ _,aQ.new _ _ _⟩ ?_
     rintro W6 ⟨k6,b6⟩
     have K6:=hid k6
     have B6:=hid b6
     have P1:=hid (N1.out.keep k6)
     have P2:=hid (N2.out.keep k6)
     have P3:=hid (N3.out.keep k6)
     have HGX:Hid (g+1+1<wr.heap.size/\wr.heap.size<W6.heap.size):=⟨hgw3,b6.facts.2.2⟩
     have hb0:W6.cell? ⟨wr.heap.size,0,none⟩=some (.bool xo):=b6.facts.1 0
     have hb1:W6.cell? ⟨wr.heap.size,1,none⟩=some (.int .i64 pl):=b6.facts.1 1
     have hb3:W6.cell? ⟨wr.heap.size,3,none⟩=some (.int .i64 cy):=b6.facts.1 3
     have hbl:=b6.facts.2.2
     have HL6:=hid (show Below g W5 W6 from Below.trans HK.out (k6.mono (by omega)))
     clear k6 b6 c0 c1 c2 c3
     generalize wr.heap.size=cx at B6 HGX hb0 hb1 hb3 hbl ⊢
     cases xo
     ·obtain ⟨hno,hpl1,hcy0,hcy1⟩:=HON.out rfl
      have HW2:Hid (whF A (j+1)=fun y=>if y=pl then some (j:Int) else whF A j y):=HW1.out
      have HC2:Hid (cyF A (j+1)=fun y=>if y=pl then some cy else cyF A j y):=HC1.out
      have hrun1:=P1.out.lookOk Tryz.underlying94 (x:=pl) (by omega)
      rw [hno] at hrun1
      simp only [Option.getD_none,Option.isSome_none] at hrun1
      have Q1:=hid (P1.out.keep (aA.drew (aA.refl W6)))
      obtain ⟨w7,hrun7,m7,gr7⟩:=Q1.out.put Tryz.underlying94 (x:=pl) (c:=(j:Int)) (by omega) (by omega) (by omega)
      have Q2:=hid ((P2.out.keep (aA.drew (aA.refl W6))).kept gr7 (by simp))
      obtain ⟨w8,hrun8,m8,gr8⟩:=Q2.out.put Tryz.underlying94 (x:=pl) (c:=cy) (by omega) (by omega) (by omega)
      have X1:=hid (m7.kept gr8 (by simp))
      have X2:=hid m8
      have X3:=hid (((P3.out.keep (aA.drew (aA.refl W6))).kept gr7 (by simp;omega)).kept gr8 (by simp))
      have hgx:=HGX.out
      have kc7 : ∀ o,w7.cell? ⟨cx,o,none⟩=W6.cell? ⟨cx,o,none⟩:=fun o=>World.cell?_of_block (gr7.block cx hgx.2 (fun e=>by have:=Option.some.inj e;omega))
      have kc8 : ∀ o,w8.cell? ⟨cx,o,none⟩=W6.cell? ⟨cx,o,none⟩:=fun o=>(World.cell?_of_block (gr8.block cx (Nat.lt_of_lt_of_le hgx.2 gr7.size) (fun e=>by have:=Option.some.inj e;omega))).trans (kc7 o)
      have HS:=hid (show W6.cell? ⟨cx,1,none⟩=some (.int .i64 pl)/\W6.cell? ⟨cx,3,none⟩=some (.int .i64 cy) from ⟨hb1,hb3⟩)
      have HSd:=hid (show W6.drew.cell? ⟨cx,1,none⟩=some (.int .i64 pl)/\W6.drew.cell? ⟨cx,3,none⟩=some (.int .i64 cy) from ⟨hb1,hb3⟩)
      have HS7:=hid (show w7.cell? ⟨cx,1,none⟩=some (.int .i64 pl)/\w7.cell? ⟨cx,3,none⟩=some (.int .i64 cy) from ⟨(kc7 1).trans hb1,(kc7 3).trans hb3⟩)
      have HS8:=hid (show w8.cell? ⟨cx,1,none⟩=some (.int .i64 pl)/\w8.cell? ⟨cx,3,none⟩=some (.int .i64 cy) from ⟨(kc8 1).trans hb1,(kc8 3).trans hb3⟩)
      have HL8:=hid (show Below g W5 w8 from by
       have h7:Below g W6 w7:=⟨gr7.os,gr7.tape,gr7.output,gr7.size,fun c hc=>gr7.block c (by show c<W6.heap.size;omega) (fun e=>by have:=Option.some.inj e;omega)⟩
       have h8:Below g w7 w8:=⟨gr8.os,gr8.tape,gr8.output,gr8.size,fun c hc=>gr8.block c (by have:=gr7.size;have:W6.drew.heap.size=W6.heap.size:=rfl;omega) (fun e=>by have:=Option.some.inj e;omega)⟩
       exact Below.trans HL6.out (Below.trans h7 h8))
      have hl8:cx<w8.heap.size:=by have h1:=gr7.size;have h2:=gr8.size;have:W6.drew.heap.size=W6.heap.size:=rfl;omega
      have hb38:=HS8.out.2
      clear m7 m8 gr7 gr8 kc7 kc8 hno
      go_upto_region 15 with fail
      go_region_held3 (fun W'=>W'.cell? ⟨cx,1,none⟩=some (.int .i64 pl)/\W'.cell? ⟨cx,3,none⟩=some (.int .i64 cy))
       (first | with_reducible exact HS.out | with_reducible exact HSd.out | with_reducible exact HS7.out | with_reducible exact HS8.out | go_keep)
       (fail)
      clear hrun1 hrun7 hrun8 HS HSd HS7 HS8 hb0 hb1 hb3 hbl Q1 Q2
      by_cases hcp:0<cy
      ·have HN2:Hid (nuF A (j+1)=fun y=>if y=cy then some (((nuF A j) y).getD 0+1) else nuF A j y):=by
        show _=_
        rw [HN1.out,if_neg (by simp [hcp])]
       have hcl:0<=((nuF A j) cy).getD 0/\((nuF A j) cy).getD 0<=j:=by
        cases hn:nuF A j cy with
        | none=>simp
        | some d=>have:=jG hn;simp;omega
       have hrun9:=X3.out.look Tryz.underlying94 (x:=cy) (by omega)
       obtain ⟨w9,hrun10,m9,gr9⟩:=X3.out.put Tryz.underlying94 (x:=cy) (c:=((nuF A j) cy).getD 0+1) (by omega) (by omega) (by omega)
       have HNF:Hid ((fun y=>if y=cy then some (((nuF A j) cy).getD 0+1) else nuF A j y)=nuF A (j+1)):=by
        show _=_
        rw [HN2.out]
        funext y
        by_cases e:y=cy
        ·subst e;simp
        ·simp [e]
       rw [HNF.out] at m9
       have Y1:=hid (X1.out.kept gr9 (by simp;omega))
       have Y2:=hid (X2.out.kept gr9 (by simp))
       have Y3:=hid m9
       have HL9:=hid (show Below g W5 w9 from Below.trans HL8.out ⟨gr9.os,gr9.tape,gr9.output,gr9.size,fun c hc=>gr9.block c (by omega) (fun e=>by have:=Option.some.inj e;omega)⟩)
       generalize ((nuF A j) cy).getD 0=c at hrun9 hrun10 hcl
       clear m9 gr9
       go_wp2_with fail
       go_roundg (A.length-(j+1))
       case rel=>exact ⟨j+1,by omega,by go_num,HL9.out,by rw [HW2.out];exact Y1.out,by rw [HC2.out];exact Y2.out,Y3.out⟩
       case measure=>omega
      ·have HN2:Hid (nuF A (j+1)=nuF A j):=by show _=_;rw [HN1.out,if_pos (.inr hcp)]
       go_wp2_with fail
       go_roundg (A.length-(j+1))
       case rel=>exact ⟨j+1,by omega,by go_num,HL8.out,by rw [HW2.out];exact X1.out,by rw [HC2.out];exact X2.out,by rw [HN2.out];exact lY X3.out⟩
       case measure=>omega
     ·have HW2:Hid (whF A (j+1)=whF A j):=HW1.out
      have HC2:Hid (cyF A (j+1)=cyF A j):=HC1.out
      have HN2:Hid (nuF A (j+1)=nuF A j):=by show _=_;rw [HN1.out,if_pos (.inl rfl)]
      go_wp2_with fail
      go_roundg (A.length-(j+1))
      case rel=>exact ⟨j+1,by omega,by go_num,HL6.out,by rw [HW2.out];exact lY P1.out,by rw [HC2.out];exact lY P2.out,by rw [HN2.out];exact lY P3.out⟩
      case measure=>omega
    ·obtain rfl:j=A.length:=by omega
     obtain ⟨WL,rfl⟩ : ∃ WL:World,WL=wr:=⟨_,rfl⟩
     have HKB:Hid (aA W4 WL):=by
      have h1:Below g W4 W5:=by rw [← HG.out];exact K45.out
      have h2:Below g W4 WL:=Below.trans h1 HK.out
      rw [← HG.out] at h2;exact h2
     have KWL:=hid (K4.out.trans HKB.out)
     have RL:=hid (R4.out.mono (S':=fun c=>c<W4.heap.size) (fun p hp=>HKB.out.cell (p:=p) hp) fun _ h=>h)
     have HWA:Hid (∀ i,i<ms.length->∀ k,whF A A.length (ms.getD i MB.zero).pl=some k->∀ jj,jj∈bX ps ms i->∀ k',whF A A.length (ms.getD jj MB.zero).pl=some k'->k<k'->(cyF A A.length (ms.getD i MB.zero).pl).getD 0≠0/\(cyF A A.length (ms.getD jj MB.zero).pl).getD 0=(cyF A A.length (ms.getD i MB.zero).pl).getD 0):=fun i hi k h1 jj hjj k' h2 hk=>by
      rw [← HAE.out] at h1 h2 ⊢
      exact yK HZ.out hi hjj h1 h2 hk
     have HN2:Hid (∀ y c,nuF A A.length y=some c->2<=c):=fun y c h=>by
      rw [← HAE.out] at h
      exact aCh h
     obtain ⟨h8,-,-,-,hm8,hok⟩:=dL HZ.out
     have HOK:=hid hok
     clear hlt hok HK A4 M1 M2 M3
     generalize whF A A.length=WF at N1 HWA
     generalize cyF A A.length=CF at N2 HWA
     generalize nuF A A.length=NF at N3 HN2
     go_wp2_with fail
     go_loopg [96] ms.length (fun gk iv wr=> ∃ i:Nat,i+gk=ms.length/\iv=.int .i64 i/\aA WL wr)
     case atStart=>exact ⟨0,by omega,rfl,aA.refl _⟩
     case round=>
      obtain ⟨i,hig,rfl,hk⟩:=hrel
      have HK:=hid hk
      clear hk
      by_cases hlt:i<ms.length
      ·have KR:=hid (KWL.out.trans HK.out)
       obtain ⟨mb,moff,mcap,hmv,hmS,-,hrow⟩:=(HM.out.keep hS KR.out).get hlt
       cases hmv
       obtain ⟨op,oc,hc0,hc1,hol,-⟩:=hrow i _ (List.getElem?_eq_getElem hlt)
       obtain ⟨x0,x1,-⟩:=HOK.out i _ (List.getElem?_eq_getElem hlt)
       have HWI:=hid (HWA.out i hlt)
       rw [dB ms i hlt] at HWI
       have hml:mb<wr.heap.size:=Nat.lt_of_lt_of_le (hS mb hmS) KR.out.size
       generalize ms[i]=m at hc0 hc1 hol x0 x1 HWI
       rcases m with ⟨pl,on⟩
       simp only at hc0 hc1 hol x0 x1 HWI
       clear hrow
       go_upto_region 22 with fail
       refine bI (fun W'=>aA wr W'/\aJ wr.heap.size #[.int .i64 pl,.slice op on.length oc] W') ⟨aA.alloc _ _,aJ.new _ _ _⟩ ?_
       rintro W6 ⟨k6,b6⟩
       have K6:=hid (HK.out.trans k6)
       have B6:=hid b6
       clear k6 b6 hc0 hc1
       generalize wr.heap.size=cm at B6 ⊢
       have P1:=hid (N1.out.keep K6.out)
       have hrun1:=P1.out.lookOk Tryz.underlying94 (x:=pl) (by omega)
       have gm:=B6.out.2
       have gl:=B6.out.1
       cases hwf:WF pl with
       | none=>
        rw [hwf] at hrun1
        simp only [Option.getD_none,Option.isSome_none] at hrun1
        go_wp2_with fail
        go_roundg (ms.length-(i+1))
        case rel=>exact ⟨i+1,by omega,by go_num,K6.out⟩
        case measure=>omega
       | some k=>
        rw [hwf] at hrun1
        simp only [Option.getD_some,Option.isSome_some] at hrun1
        have HWK:=hid (HWI.out k hwf)
        have HZJ:Hid ((jT ps ms)[i]? = some (bQ (bX ps ms i))):=kQ hlt
        have RW:=hid (RL.out.mono (S':=fun c=>c<W4.heap.size) (fun p hp=>K6.out.cell (p:=p) (Nat.lt_of_lt_of_le hp HKB.out.size)) fun _ h=>h)
        obtain ⟨rb,roff,rcap,np,nc,hrv,hrb,-,hrc,hnr⟩:=RW.out.get HZJ.out
        rw [dI] at hrv
        cases hrv
        rw [bK] at hrc hnr
        have HNR:=hid hnr
        have h4L:=HKB.out.size
        have hL6:=K6.out.size
        have hrbl:rb<W6.heap.size:=by have:rb<W4.heap.size:=hrb;omega
        have HMEM:Hid (∀ x∈bX ps ms i,x<ms.length):=fun x hx=>(iQ.1 hx).2.1
        clear hnr HWI hwf
        have hrl:(bX ps ms i).length<=1000:=by
         unfold bX
         rw [if_pos hlt]
         exact Nat.le_trans (List.length_filter_le _ _) (by rw [List.length_range];omega)
        generalize bX ps ms i=row at HZJ hrc HNR HWK HMEM hrl
        go_wp2_with fail
        clear hrun1 hrc gm gl
        go_loopg [115] row.length (fun gk iv wr=> ∃ t:Nat,t+gk=row.length/\iv=.int .i64 t/\aA W6 wr)
        case atStart=>exact ⟨0,by omega,rfl,aA.refl _⟩
        case round=>
         obtain ⟨t,htg,rfl,hk⟩:=hrel
         have HK3:=hid hk
         have K63:=hid (K6.out.trans hk)
         clear hk
         by_cases hlt3:t<row.length
         ·have KR3:=hid (KWL.out.trans K63.out)
          obtain ⟨p',c',e',-,h3⟩:=HNR.out.mono (S':=fun c=>c<W4.heap.size) (fun p hp=>HK3.out.cell (p:=p) (by have:p.block<W4.heap.size:=hp;omega)) fun _ h=>h
          rw [bK] at e' h3
          cases e'
          obtain ⟨nb,noff,rfl,hnb,hcell⟩:=h3 (by omega)
          have hcj:=hcell t _ (gD hlt3)
          have hnbl:nb<wr.heap.size:=by have:nb<W4.heap.size:=hnb;have:=HK3.out.size;omega
          have hmem:=List.getElem_mem hlt3
          have hjm:=HMEM.out _ hmem
          have HWJ:=hid (HWK.out _ hmem)
          clear h3 hcell hmem
          generalize row[t]=jj at hcj hjm HWJ
          obtain ⟨mb2,moff2,mcap2,hmv2,hmS2,-,hrow2⟩:=(HM.out.keep hS KR3.out).get hjm
          cases hmv2
          obtain ⟨op2,oc2,d0,-,-,-⟩:=hrow2 jj _ (List.getElem?_eq_getElem hjm)
          obtain ⟨y0,y1,-⟩:=HOK.out jj _ (List.getElem?_eq_getElem hjm)
          rw [dB ms jj hjm] at HWJ
          have hml2:mb<wr.heap.size:=Nat.lt_of_lt_of_le (hS mb hmS2) KR3.out.size
          generalize ms[jj].pl=po at d0 y0 y1 HWJ
          have Q1:=hid (N1.out.keep K63.out)
          have Q2:=hid (N2.out.keep K63.out)
          have BM:=hid (B6.out.keep HK3.out B6.out.1)
          have gm:=BM.out.2
          have gl:=BM.out.1
          have hrunO:=Q1.out.lookOk Tryz.underlying94 (x:=po) (by omega)
          have hrunA:=Q2.out.look Tryz.underlying94 (x:=pl) (by omega)
          have hrunB:=Q2.out.look Tryz.underlying94 (x:=po) (by omega)
          clear hrow2
          cases hwo:WF po with
          | none=>
           rw [hwo] at hrunO
           simp only [Option.getD_none,Option.isSome_none] at hrunO
           clear hrunA hrunB
           go_wp2_with fail
           go_roundg (row.length-(t+1))
           case rel=>exact ⟨t+1,by omega,by go_num,HK3.out⟩
           case measure=>omega
          | some k'=>
           rw [hwo] at hrunO
           simp only [Option.getD_some,Option.isSome_some] at hrunO
           by_cases hkk:k<k'
           ·obtain ⟨hca,hcb⟩:=HWJ.out k' hwo hkk
            rw [hcb] at hrunB
            generalize (CF pl).getD 0=ca at hca hrunA hrunB
            have hca1:(ca==0)=false:=by simpa using hca
            have hca2:(ca==ca)=true:=by simp
            have hca3:(ca != ca)=false:=by simp
            clear hca hcb
            go_wp2_with fail
            go_roundg (row.length-(t+1))
            case rel=>exact ⟨t+1,by omega,by go_num,HK3.out⟩
            case measure=>omega
           ·clear hrunA hrunB
            go_wp2_with fail
            go_roundg (row.length-(t+1))
            case rel=>exact ⟨t+1,by omega,by go_num,HK3.out⟩
            case measure=>omega
         ·go_wp2_with fail
          go_roundg (ms.length-(i+1))
          case rel=>exact ⟨i+1,by omega,by go_num,K63.out⟩
          case measure=>omega
      ·have KR:=hid (KWL.out.trans HK.out)
       have R1:=hid (N3.out.keep HK.out)
       obtain ⟨WM,rfl⟩ : ∃ WM:World,WM=wr:=⟨_,rfl⟩
       obtain ⟨D,hown,hat0,-⟩:=R1.out
       have HOWN:=hid hown
       have HAT:=hid hat0
       have hszD:=hown.size_le
       clear hown hat0
       go_wp2_with (first
        | (at_range;refine wpList_range_own _ rfl _ 94 rfl 3 3 (Maps.int_keyed Tryz.underlying3) Tryz.underlying94 _ (g+1+1) _ _ rfl HOWN.out ?_;intro w0 hrg0 hg0 hs0)
        | go_in)
       go_frame
       have K0:=hid (show aA WM w0 from ⟨hg0.os,hg0.tape,hg0.output,hg0.size,fun c hc=>hg0.block c hc (by simp)⟩)
       have HRG0:=hid hrg0
       clear hrg0 hg0 hs0
       go_loopw [28] (fun _ wr=> ∃ (left:Lit->Bool) (cnt:Nat),wr.ranges Tryz.prog 3 (plainElem Tryz.prog 3) (g+1+1) WM.heap.size A.length D left cnt/\aA WM wr) (fun _ wr=>wr.rangeLeft (g+1+1) WM.heap.size)
       case atStart=>exact ⟨_,_,HRG0.out,K0.out⟩
       case round=>
        obtain ⟨left,cnt,hrg,hkp⟩:=hrel
        have HRG:=hid hrg
        have HKP:=hid hkp
        clear hrg hkp HRG0
        go_wp2_with (first
         | (at_next;refine wpList_next_ranges_ii _ rfl _ rfl 3 3 .i64 .i64 (Maps.int_keyed Tryz.underlying3) Tryz.underlying3 Tryz.underlying3 (g+1+1) WM.heap.size _ _ _ _ rfl HRG.out ?_ ?_)
         | go_in)
        ·intro hc0 hl0
         have KF:=hid (KR.out.trans HKP.out)
         clear hc0 hl0
         go_wp2_with fail
         go_ret
         exact ⟨rfl,KF.out⟩
        ·intro x c w2 cnt2 hwx hwc hlk hat hrg2 hlt2 hg2 hs2 hen
         have hc2:2<=c:=by
          have h0:=HAT.out x
          cases hn:NF x with
          | none=>
           have h1:=h0 (.lit (.int .i64 (c+1)))
           rw [hn,hat] at h1
           exfalso
           simp only [DataW.lit.injEq,Lit.int.injEq,true_and] at h1
           omega
          | some d=>
           have h1:=h0 (.lit (.int .i64 0))
           rw [hn,hat] at h1
           have:c=d:=by simpa using h1
           rw [this];exact HN2.out x d hn
         have HRG2:=hid hrg2
         have HLT:=hid hlt2
         have K2:=hid (show aA WM w2 from HKP.out.grown hg2 HKP.out.size (fun j hj=>by cases hj;exact Nat.le_refl _))
         clear hrg2 hg2 hs2 hlt2 hlk hat hwx hwc
         go_wp2_with fail
         go_roundw
         case rel=>exact ⟨_,cnt2,HRG2.out,K2.out⟩
         case measure=>rw [HRG2.out.left_eq,HRG.out.left_eq];exact HLT.out
  ·have ha1:(e2==0)=false:=by simpa using hz2
   have ha2:(e2 != 0)=true:=by simp [bne,ha1]
   subst hz1
   clear hz2
   go_wp2_with fail
   refine HORD.out.mono ?_
   rintro e W5 ⟨rfl,k5⟩
   have K5:=hid (K4.out.trans k5)
   clear k5
   go_wp2_with fail
   go_ret
   exact ⟨rfl,K5.out⟩
 ·have ha1:(e1==0)=false:=by simpa using hz1
  have ha2:(e1 != 0)=true:=by simp [bne,ha1]
  clear hz1
  go_wp2_with fail
  refine HORD.out.mono ?_
  rintro e W5 ⟨rfl,k5⟩
  have K5:=hid (K4.out.trans k5)
  clear k5
  go_wp2_with fail
  go_ret
  exact ⟨rfl,K5.out⟩
end Go.Proofs.YtonlloiemgdfkaaGreatDoor
namespace Go.Proofs.YtonlloiemgdfkaaGreatDoor
open Go.RowKit
theorem jK {P:Program} {w:World} : ∀ {l:List (String × DataW Unit)} {ps:List MemPlace} {x:String × DataW Unit},DataW.LaidVars P w l ps->x∈l->∃ qs,DataW.LaidVars P w [x] qs/\qs.Sublist ps
 | [],_,_,_,hx=>by cases hx
 | (n,d) :: r,ps,x,h,hx=>by
  obtain ⟨g,t,cs,fuel,p,q,h1,h2,h3,h4,h5,rfl⟩:=h
  rcases List.mem_cons.1 hx with rfl | hx
  ·exact ⟨MemPlace.row ⟨g,0,none⟩ cs.size++p ++ [],⟨g,t,cs,fuel,p,[],h1,h2,h3,h4,rfl,rfl⟩,by rw [List.append_nil];exact List.sublist_append_left _ _⟩
  ·obtain ⟨qs,h6,h7⟩:=jK h5 hx
   exact ⟨qs,h6,h7.trans (List.sublist_append_right _ _)⟩
theorem fS {P:Program} {w:World} {l:List (String × DataW Unit)} {x:String × DataW Unit} (h:laidMet P l w) (hx:x∈l):laidMet P [x] w:=by
 obtain ⟨ps,h1,h2,h3⟩:=h
 obtain ⟨qs,h4,h5⟩:=jK h1 hx
 exact ⟨qs,h4,h5.nodup h2,fun b off hb=>h3 b off (h5.subset hb)⟩
theorem jM {w:World} {b o:Nat} {v:Value} (h:w.cell? ⟨b,o,none⟩=some v):b<w.heap.size:=by
 rcases Nat.lt_or_ge b w.heap.size with h' | h'
 ·exact h'
 ·simp [World.cell?,Array.getElem?_eq_none h'] at h
theorem yN : Tryz.prog.globalNamed "quartermaster/atom.signs" = some 8 := by kernel_rfl
theorem aCn:(Tryz.prog.globals[8]?).map (·.type)=some 351:=by kernel_rfl
theorem aDo:(Tryz.prog.globals[1]?).map (·.type)=some 307:=by kernel_rfl
theorem aDl:Tryz.prog.cellsOf 307=20:=by kernel_rfl
theorem aDm:Tryz.prog.cellsOf 277=1:=by kernel_rfl
theorem tC:Tryz.prog.cellsOf 9=1:=by kernel_rfl
theorem aCq:Tryz.prog.cellsOf 346=1:=by kernel_rfl
theorem aDe : Tryz.prog.globalNamed "strconv.ErrSyntax" = some 4 := by kernel_rfl
theorem aDq:(Tryz.prog.globals[4]?).map (·.type)=some 267:=by kernel_rfl
theorem aDd : Tryz.prog.globalNamed "strconv.ErrRange" = some 5 := by kernel_rfl
theorem aDp:(Tryz.prog.globals[5]?).map (·.type)=some 267:=by kernel_rfl
theorem aDk : "*" ++ "errors.errorString" = "*errors.errorString" := by decide
theorem zV (u : TypeId) (h : Tryz.prog.typeName? 3 u = some "*errors.errorString") : u = 344 :=
 typeName_ptr_named (nm := "errors.errorString") (by rw [aDk]; kernel_rfl) (by kernel_rfl) (by decide) u (by rw [aDk]; exact h)
theorem zZ {W : World} (h : laidMet Tryz.prog [("quartermaster/atom.signs", Rows.laid_quartermaster_atom_signs)] W) : qZ W := by
 obtain ⟨ps,⟨g,t,cs,fuel,p,q,hg,ht,hv,hd,_,_⟩,_⟩:=h
 obtain rfl:=Option.some.inj (yN.symm.trans hg)
 obtain rfl:=Option.some.inj (aCn.symm.trans ht)
 obtain ⟨xs,m,rfl,hx,hlen,hn,hel⟩:=DataW.trod_array Tryz.underlying351 hd
 simp only [Rows.laid_quartermaster_atom_signs,Prod.mk.injEq,DataW.agg.injEq] at hx
 match xs,hn,hx,hel with
 | [x0,x1,x2,x3],_,hx,hel=>
  have cell : ∀ (k:Nat) (x:DataW Unit × List MemPlace) (l:List UInt8),k<4->[x0,x1,x2,x3][k]? = some x->x.1=.lit (.string l)->W.cell? ⟨8,k,none⟩=some (.string ⟨l.toArray⟩):=by
   intro k x l hk hxk hl
   have h1:=hel k hk
   rw [hxk] at h1
   obtain ⟨s,e1,e2,_⟩:=DataW.trod_string Tryz.underlying9 h1
   rw [e2] at hl
   have hs:s.data.toList=l:=by simpa using hl
   have hs':s=⟨l.toArray⟩:=by cases s;simp at hs;rw [← hs]
   have h2:=World.var?_cell yN hv k
   rw [tC,Nat.mul_one] at e1
   have h3:cs[k]? = some (.string s):=by
    have:=congrArg (·[0]?) e1
    simpa [List.getElem?_take,List.getElem?_drop] using this
   rw [h2,h3,hs']
  simp only [List.map_cons,List.map_nil,List.cons.injEq,and_true] at hx
  have c1:=cell 1 x1 [61] (by decide) rfl hx.1.2.1.symm
  refine ⟨jM c1,c1,cell 2 x2 [62,61] (by decide) rfl hx.1.2.2.1.symm,cell 3 x3 [60] (by decide) rfl hx.1.2.2.2.symm⟩
theorem aBw {W : World} {l : List (String × DataW Unit)} (h : laidMet Tryz.prog l W) (h1 : ("quartermaster/atom.signs", Rows.laid_quartermaster_atom_signs) ∈ l) (h2 : ("internal/strconv.uint64pow10", Rows.laid_internal_strconv_uint64pow10) ∈ l)
  (h3 : ("strconv.ErrSyntax", Rows.laid_strconv_ErrSyntax) ∈ l) (h4 : ("strconv.ErrRange", Rows.laid_strconv_ErrRange) ∈ l) : Env W := by
 have tab : Lib.TabIs Tryz.prog W "internal/strconv.uint64pow10" .u64 Lib.pow10Tab := Lib.tabIs_of_head (rest := []) fV aDo Tryz.underlying307 Tryz.underlying277 aDm aDl (fS h h2)
 obtain ⟨a0,s0,hv0,-,-,-⟩:=laid_sentinel (fS h h3) aDe aDq Tryz.underlying267 zV Tryz.underlying344 Tryz.underlying346 rfl rfl Tryz.underlying9 aCq tC
 obtain ⟨a1,s1,hv1,-,-,-⟩:=laid_sentinel (fS h h4) aDd aDp Tryz.underlying267 zV Tryz.underlying344 Tryz.underlying346 rfl rfl Tryz.underlying9 aCq tC
 have c0:W.cell? ⟨4,0,none⟩=some (.iface 344 (.pointer (some a0))):=by simpa using World.var?_cell aDe hv0 0
 have c1:W.cell? ⟨5,0,none⟩=some (.iface 344 (.pointer (some a1))):=by simpa using World.var?_cell aDd hv1 0
 exact ⟨zZ (fS h h1),⟨jM (tab.cell fV 0 (by decide)),tab⟩,⟨jM c0,_,_,c0⟩,⟨jM c1,_,_,c1⟩⟩
end Go.Proofs.YtonlloiemgdfkaaGreatDoor
namespace Go.Proofs.YtonlloiemgdfkaaGreatDoor
open Go.ChangeShapes Go.WideShapes Go.ChangeAt Go.RowKit Go.Joins
theorem mG:Tryz.prog.cellsOf 48=6:=by kernel_rfl
theorem iL:Tryz.prog.cellsOf 3=1:=by kernel_rfl
theorem jB:Tryz.prog.cellsOf 4=1:=by kernel_rfl
end Go.Proofs.YtonlloiemgdfkaaGreatDoor
namespace Go.Proofs.YtonlloiemgdfkaaGreatDoor
open Go.ChangeShapes Go.WideShapes Go.ChangeAt Go.RowKit Go.Joins
theorem jC:Tryz.prog.cellsOf 73=10:=by kernel_rfl
theorem mH:Tryz.prog.cellsOf 71=1:=by kernel_rfl
theorem aDi {α:Type} {cs:List α} (h:cs.length=6) : ∃ c0 c1 c2 c3 c4 c5,cs = [c0,c1,c2,c3,c4,c5]:=by
 match cs,h with
 | [c0,c1,c2,c3,c4,c5],_=>exact ⟨c0,c1,c2,c3,c4,c5,rfl⟩
theorem aCb {α:Type} {cs:List α} (h:cs.length=10) : ∃ c0 c1 c2 c3 c4 c5 c6 c7 c8 c9,cs = [c0,c1,c2,c3,c4,c5,c6,c7,c8,c9]:=by
 match cs,h with
 | [c0,c1,c2,c3,c4,c5,c6,c7,c8,c9],_=>exact ⟨c0,c1,c2,c3,c4,c5,c6,c7,c8,c9,rfl⟩
section
variable {H:Type} {enc:TypeId × Value->H} {w:World} {base:Nat} {sp:Nat->Bool} {held:Bool}
theorem xI {fuel:Nat} {cs:List Value} {x:DataW H × List MemPlace} (h:DataW.trod enc Tryz.prog w base sp held fuel 48 cs=some x) : ∃ a:At,cs = [.string a.n,.int .i64 a.op,.int .i64 a.v,.int .i64 a.sl,.string a.f,.bool a.on]:=by
 obtain ⟨xs,m,_,hx,hl,hlen,hel⟩:=DataW.trod_struct Tryz.underlying48 h
 obtain ⟨c0,c1,c2,c3,c4,c5,rfl⟩:=aDi (hl.trans mG)
 match xs,hlen with
 | [y0,y1,y2,y3,y4,y5],_=>
  obtain ⟨n,e0,g0,_⟩:=DataW.trod_string Tryz.underlying9 (by simpa using hel 0 _ rfl)
  obtain ⟨op,e1,g1,_⟩:=DataW.trod_int Tryz.underlying3 (by simpa using hel 1 _ rfl)
  obtain ⟨v,e2,g2,_⟩:=DataW.trod_int Tryz.underlying3 (by simpa using hel 2 _ rfl)
  obtain ⟨sl,e3,g3,_⟩:=DataW.trod_int Tryz.underlying3 (by simpa using hel 3 _ rfl)
  obtain ⟨f,e4,g4,_⟩:=DataW.trod_string Tryz.underlying9 (by simpa using hel 4 _ rfl)
  obtain ⟨on,e5,g5⟩:=DataW.trod_bool Tryz.underlying4 (by simpa using hel 5 _ rfl)
  refine ⟨⟨n,op,v,sl,f,on⟩,?_⟩
  simp [iL,jB,tC] at e0 e1 e2 e3 e4 e5
  rw [e0,e1,e2,e3,e4,e5]
theorem xJ : ∀ (fuel:Nat) (cs:List Value) (x:DataW H × List MemPlace),DataW.trod enc Tryz.prog w base sp held fuel 73 cs=some x->∃ t:NT,aD (fun b=>b<w.heap.size) w t cs:=by
 intro fuel
 induction fuel using Nat.strongRecOn with
 | ind fuel ih=>
 intro cs x h
 obtain ⟨xs,m,hm,hx,hl,hlen,hel⟩:=DataW.trod_struct Tryz.underlying73 h
 obtain ⟨c0,c1,c2,c3,c4,c5,c6,c7,c8,c9,rfl⟩:=aCb (hl.trans jC)
 match xs,hlen with
 | [y0,y1,y2,y3,y4],_=>
  obtain ⟨k,e0,-,-⟩:=DataW.trod_int Tryz.underlying3 (by simpa using hel 0 _ rfl)
  obtain ⟨a,e1⟩:=xI (by simpa using hel 1 _ rfl)
  obtain ⟨fl,e2,-,-⟩:=DataW.trod_string Tryz.underlying9 (by simpa using hel 2 _ rfl)
  obtain ⟨nt,e3,-⟩:=DataW.trod_bool Tryz.underlying4 (by simpa using hel 3 _ rfl)
  have hs:=DataW.trod_slice Tryz.underlying71 (show DataW.trod enc Tryz.prog w base sp held m 71 _=some y4 by simpa using hel 4 _ rfl)
  simp [iL,jB,tC,mG] at e0 e1 e2 e3
  obtain ⟨e10,e11,e12,e13,e14,e15⟩:=e1
  rcases hs with ⟨e4,-⟩ | ⟨ad,len,cap,elems,rest,mm,hmm,e4,-,-,hlc,hcm,hle,hcell,-,-⟩
  ·simp [mH] at e4
   refine ⟨.node k a fl nt [],?_⟩
   rw [aD]
   exact ⟨none,0,by rw [e0,e10,e11,e12,e13,e14,e15,e2,e3,e4];rfl,Nat.le_refl _,by simp,by rw [aS];trivial⟩
  ·simp [mH] at e4
   have key : ∀ (q i:Nat),i+q=len->∃ ts:List NT,ts.length=q/\aS (fun b=>b<w.heap.size) w ts (some ad) i:=by
    intro q
    induction q with
    | zero=>intro i _;exact ⟨[],rfl,by rw [aS];trivial⟩
    | succ q ihq=>
     intro i hi
     obtain ⟨ts,hts,hk⟩:=ihq (i+1) (by omega)
     have hci:=hcell i (by omega)
     rw [jC,List.getElem?_eq_getElem (by omega)] at hci
     obtain ⟨csi,hc1,hc2⟩:=Option.bind_eq_some_iff.1 hci
     obtain ⟨t,ht⟩:=ih mm (by omega) csi _ hc2
     obtain ⟨hb1,hb2,hb3⟩:=World.cells?_some hc1
     have hblk:=World.cells?_block hc1 (by decide)
     refine ⟨t :: ts,by simp [hts],?_⟩
     rw [aS]
     refine ⟨⟨ad,csi,rfl,by rw [cM] at hblk;exact hblk,fun j v hv=> ?_,ht⟩,hk⟩
     have hj:j<10:=by rw [← hb2];exact (List.getElem?_eq_some_iff.1 hv).1
     rw [hb3 j hj];exact hv
   obtain ⟨ts,hts,hk⟩:=key len 0 (by omega)
   refine ⟨.node k a fl nt ts,?_⟩
   rw [aD]
   exact ⟨some ad,cap,by rw [e0,e10,e11,e12,e13,e14,e15,e2,e3,e4,hts],by omega,by unfold maxLen at hcm;omega,hk⟩
end
theorem yZ {w:World} (h:w.ShapedOpen Tryz.prog):fM w:=by
 obtain ⟨m,hm⟩:=cell_of_shapedOpen_int (g:=0) (t:=3) (zero:=#[.int .i64 0]) (k:= .i64) h (of_decide_eq_true (by kernel_rfl)) (by kernel_rfl) rfl (by kernel_rfl) (by kernel_rfl) Tryz.underlying3
 exact ⟨jM hm,m,hm⟩
theorem oJ {H:Type} {enc:TypeId × Value->H} {a:Assume} {C:Checked} {os:Os} {f:FuncId} {fn:Func} {s:ChangeSpec} {conds:List PathCond} {apart fresh handsOn again:Bool} {X:World->Array Value->Prop}
  (hX : ∀ (w w':World) (args:Array Value),w.heap=w'.heap->X w args->X w' args)
  (own:ownKnob C.prog.godebug=none) (started:os.Started) (noInit:C.prog.inits.idxOf? f=none) (hfn:C.prog.funcs[f]? = some fn)
  (witness : ∃ (w:World) (tape:Tape) (i:Input),w.os=os/\(w.forCall tape i).Shaped C.prog/\i.vars = []/\Input.okWide C.prog (w.forCall tape i) .any w.heap.size f i/\
   ((s.pre enc C.prog fn conds apart (w.forCall tape i).memory i.args/\X (w.forCall tape i).memory i.args)/\sizedMet enc C.prog fn (OpenSpec.ofChange s) apart (w.forCall tape i).memory i.args)/\a.holds C.prog (lone (Frame.enter C.prog f i.args .normal) [] (w.forCall tape i)))
  (mM : ∀ (W:World) (base:Nat) (args:Array Value) (ds gs:List (DataW H)) (before:List MemPlace),
   (∀ (j:Nat) t v,fn.params[j]? = some t->args[j]? = some v->Value.okWide C.prog W .any base t v)->
   DataW.Whole enc C.prog fn.params.toList s.vars apart W args.toList ds gs before->
   X W args->W.ShapedOpen C.prog->
   Calls C.prog f args W fun e W'=> ∃ v,e=.returned v/\s.post enc C.prog fn apart fresh handsOn again W args v W') :
  ReturnsInHanded a C os f .any (fun w args=>(s.pre enc C.prog fn conds apart w args/\X w args)/\sizedMet enc C.prog fn (OpenSpec.ofChange s) apart w args) (s.post enc C.prog fn apart fresh handsOn again):=by
 refine returnsInHanded_of_calls own started noInit witness ?_
 intro w tape i _ hsh _ hok hpre _
 obtain ⟨_,_,_,fn',hfn',_,_,_,_,hval⟩:=hok
 obtain rfl:fn'=fn:=Option.some.inj (hfn'.symm.trans hfn)
 obtain ⟨⟨⟨ds,gs,before,hw,_⟩,hx⟩,_⟩:=hpre
 have hw':=DataW.Whole.of_heap (w':=w.forCall tape i) (by rfl) hw
 refine (mM (w.forCall tape i) w.heap.size i.args ds gs before hval hw' (hX _ _ _ (by rfl) hx) hsh).mono fun e W' ⟨v,he,hp⟩=> ?_
 subst he
 exact ChangeSpec.post_blind hp
end Go.Proofs.YtonlloiemgdfkaaGreatDoor
namespace Go.Proofs.YtonlloiemgdfkaaGreatDoor
open Go.ChangeShapes Go.WideShapes Go.ChangeAt Go.RowKit Go.Joins
theorem oS:Tryz.prog.cellsOf 75=14:=by kernel_rfl
theorem tE:Tryz.prog.cellsOf 70=1:=by kernel_rfl
theorem tD:Tryz.prog.cellsOf 22=1:=by kernel_rfl
theorem tF:Tryz.prog.cellsOf 24=1:=by kernel_rfl
theorem kJ {a:Addr} (h:a.spot=none):a=⟨a.block,a.off,none⟩:=by cases a;simp at h;subst h;rfl
theorem aCc {α:Type} {cs:List α} (h:cs.length=14) : ∃ c0 c1 c2 c3 c4 c5 c6 c7 c8 c9 c10 c11 c12 c13,cs = [c0,c1,c2,c3,c4,c5,c6,c7,c8,c9,c10,c11,c12,c13]:=by
 match cs,h with
 | [c0,c1,c2,c3,c4,c5,c6,c7,c8,c9,c10,c11,c12,c13],_=>exact ⟨c0,c1,c2,c3,c4,c5,c6,c7,c8,c9,c10,c11,c12,c13,rfl⟩
section
variable {H:Type} {enc:TypeId × Value->H} {w:World} {base:Nat} {sp:Nat->Bool} {held:Bool}
theorem lV {α:Type} {P:Nat->α->Prop} : ∀ (n:Nat),(∀ i,i<n->∃ x,P i x)->∃ l:List α,l.length=n/\∀ (i:Nat) (h:i<l.length),P i l[i]
 | 0,_=>⟨[],rfl,fun i h=>absurd h (Nat.not_lt_zero _)⟩
 | n+1,h=>by
  obtain ⟨l,hl,hp⟩:=lV n (fun i hi=>h i (by omega))
  obtain ⟨x,hx⟩:=h n (by omega)
  refine ⟨l ++ [x],by simp [hl],fun i hi=> ?_⟩
  by_cases hlt:i<l.length
  ·rw [List.getElem_append_left hlt];exact hp i hlt
  ·have:i=l.length:=by simp at hi;omega
   subst this
   rw [List.getElem_append_right (Nat.le_refl _)]
   simp only [Nat.sub_self,List.getElem_cons_zero]
   rw [hl];exact hx
theorem xL {fuel:Nat} {cs:List Value} {x:DataW H × List MemPlace} (h:DataW.trod enc Tryz.prog w base sp held fuel 70 cs=some x) : ∃ (fs:List ByteArray) (v:Value),cs = [v]/\bJ (fun b=>b<w.heap.size) w fs v:=by
 rcases DataW.trod_slice Tryz.underlying70 h with ⟨rfl,-⟩ | ⟨ad,len,cap,elems,rest,mm,hmm,rfl,-,-,hlc,hcm,hle,hcell,-,-⟩
 ·exact ⟨[],_,rfl,Or.inl ⟨rfl,none,0,rfl⟩⟩
 ·have one : ∀ i,i<len->∃ y:ByteArray,ad.block<w.heap.size/\w.cell? (ad.add i)=some (.string y):=by
   intro i hi
   have hci:=hcell i hi
   rw [tC,Nat.mul_one,List.getElem?_eq_getElem (by omega)] at hci
   obtain ⟨csi,hc1,hc2⟩:=Option.bind_eq_some_iff.1 hci
   obtain ⟨y,e0,-,-⟩:=DataW.trod_string Tryz.underlying9 hc2
   obtain ⟨hb1,hb2,hb3⟩:=World.cells?_some hc1
   have hblk:=World.cells?_block hc1 (by decide)
   rw [cM] at hblk
   refine ⟨y,hblk,?_⟩
   have:=hb3 0 (by decide)
   rw [e0] at this
   simpa [Addr.add] using this
  by_cases h0:len=0
  ·subst h0
   exact ⟨[],_,rfl,Or.inl ⟨rfl,_,_,rfl⟩⟩
  ·obtain ⟨fs,hfl,hfs⟩:=lV len one
   have hz:=hfs 0 (by omega)
   have hsp:ad.spot=none:=by
    have:=World.cell?_spot hz.2
    simpa [Addr.add] using this
   have had:=kJ hsp
   refine ⟨fs,_,rfl,Or.inr ⟨ad.block,ad.off,cap,by rw [hfl,← had],⟨hz.1,by omega⟩,by unfold maxLen at hcm;omega,fun j y hy=> ?_⟩⟩
   obtain ⟨hj,rfl⟩:=List.getElem?_eq_some_iff.1 hy
   have:=(hfs j hj).2
   rw [had] at this
   rwa [Addr.add_mid] at this
theorem aAc {fuel:Nat} {cs:List Value} {x:DataW H × List MemPlace} (h:DataW.trod enc Tryz.prog w base sp held fuel 75 cs=some x) : ∃ p:PK,bZ (fun b=>b<w.heap.size) w p cs/\cs.length=14:=by
 obtain ⟨xs,m,hm,hx,hl,hlen,hel⟩:=DataW.trod_struct Tryz.underlying75 h
 have hl14:=hl.trans oS
 obtain ⟨c0,c1,c2,c3,c4,c5,c6,c7,c8,c9,c10,c11,c12,c13,rfl⟩:=aCc hl14
 match xs,hlen with
 | [y0,y1,y2,y3,y4],_=>
  obtain ⟨n,e0,-,-⟩:=DataW.trod_string Tryz.underlying9 (by simpa using hel 0 _ rfl)
  obtain ⟨v,e1,-,-⟩:=DataW.trod_int Tryz.underlying3 (by simpa using hel 1 _ rfl)
  obtain ⟨sl,e2,-,-⟩:=DataW.trod_int Tryz.underlying3 (by simpa using hel 2 _ rfl)
  obtain ⟨fs,fv,e3,hf⟩:=xL (show DataW.trod enc Tryz.prog w base sp held m 70 _=some y3 by simpa using hel 3 _ rfl)
  obtain ⟨t,ht⟩:=xJ m _ _ (show DataW.trod enc Tryz.prog w base sp held m 73 _=some y4 by simpa using hel 4 _ rfl)
  simp [iL,tC,tE,jC] at e0 e1 e2 e3 ht
  refine ⟨⟨n,v,sl,fs,t⟩,⟨fv,[c4,c5,c6,c7,c8,c9,c10,c11,c12,c13],by rw [e0,e1,e2,e3],hf,ht⟩,rfl⟩
theorem xK {fuel:Nat} {cs:List Value} {x:DataW H × List MemPlace} (h:DataW.trod enc Tryz.prog w base sp held fuel 22 cs=some x) : ∃ (ps:List PK) (v:Value),cs = [v]/\aY (fun b=>b<w.heap.size) w ps v:=by
 rcases DataW.trod_slice Tryz.underlying22 h with ⟨rfl,-⟩ | ⟨ad,len,cap,elems,rest,mm,hmm,rfl,-,-,hlc,hcm,hle,hcell,-,-⟩
 ·exact ⟨[],_,rfl,Or.inl ⟨rfl,none,0,rfl⟩⟩
 ·have one : ∀ i,i<len->∃ y:PK,ad.block<w.heap.size/\∃ cs:List Value,cs.length=14/\(∀ m,m<14->w.cell? ((ad.add (i*14)).add m)=cs[m]?)/\bZ (fun b=>b<w.heap.size) w y cs:=by
   intro i hi
   have hci:=hcell i hi
   rw [oS,List.getElem?_eq_getElem (by omega)] at hci
   obtain ⟨csi,hc1,hc2⟩:=Option.bind_eq_some_iff.1 hci
   obtain ⟨p,hp,hl⟩:=aAc hc2
   obtain ⟨hb1,hb2,hb3⟩:=World.cells?_some hc1
   have hblk:=World.cells?_block hc1 (by decide)
   rw [cM] at hblk
   exact ⟨p,hblk,csi,hl,hb3,hp⟩
  by_cases h0:len=0
  ·subst h0
   exact ⟨[],_,rfl,Or.inl ⟨rfl,_,_,rfl⟩⟩
  ·obtain ⟨ps,hfl,hfs⟩:=lV len one
   obtain ⟨hz,cs0,hl0,hc0,-⟩:=hfs 0 (by omega)
   have hsp:ad.spot=none:=by
    have h1:=hc0 0 (by decide)
    rw [List.getElem?_eq_getElem (by omega)] at h1
    have:=World.cell?_spot h1
    simpa [Addr.add] using this
   have had:=kJ hsp
   refine ⟨ps,_,rfl,Or.inr ⟨ad.block,ad.off,cap,by rw [hfl,← had],hz,by unfold maxLen at hcm;omega,fun j hj=> ?_⟩⟩
   obtain ⟨-,csj,hlj,hcj,hpj⟩:=hfs j hj
   refine ⟨csj,fun m y hy=> ?_,hpj⟩
   have hm:m<14:=by rw [← hlj];exact (List.getElem?_eq_some_iff.1 hy).1
   have:=hcj m hm
   rw [had,Addr.add_mid,Addr.add_mid,hy] at this
   exact this
end
theorem wY {H:Type} {enc:TypeId × Value->H} {w:World} {base b0:Nat} {sp:Nat->Bool} {held:Bool} {x:Value} {d:DataW H} {p:List MemPlace} (hv:Value.okWide Tryz.prog w .any b0 24 x) (h:DataW.Trod enc Tryz.prog w base sp held 24 x d p) :
  ∃ (ps:List PK) (v:Value),x=.agg #[v]/\aY (fun b=>b<w.heap.size) w ps v:=by
 obtain ⟨cs,rfl,hsz⟩:=okWide_struct Tryz.underlying24 hv
 obtain ⟨fuel,hf⟩:=h
 obtain ⟨xs,m,hm,hx,hl,hlen,hel⟩:=DataW.trod_struct Tryz.underlying24 (show DataW.trod enc Tryz.prog w base sp held fuel 24 cs.toList=some (d,p) from hf)
 match xs,hlen with
 | [y0],_=>
  obtain ⟨ps,v,e,hp⟩:=xK (show DataW.trod enc Tryz.prog w base sp held m 22 _=some y0 by simpa using hel 0 _ rfl)
  refine ⟨ps,v,?_,hp⟩
  have hl1:=hl.trans tF
  simp [tD] at e
  obtain ⟨l⟩:=cs
  simp at hl1 e
  match l,hl1 with
  | [c],_=>simp at e;subst e;rfl
end Go.Proofs.YtonlloiemgdfkaaGreatDoor
namespace Go.Proofs.YtonlloiemgdfkaaGreatDoor
open Go.ChangeShapes Go.WideShapes Go.ChangeAt Go.RowKit Go.Joins
theorem rF:Tryz.prog.cellsOf 68=2:=by kernel_rfl
theorem rE:Tryz.prog.cellsOf 66=1:=by kernel_rfl
section
variable {H:Type} {enc:TypeId × Value->H} {w:World} {base:Nat} {sp:Nat->Bool} {held:Bool}
theorem sW {T e:TypeId} {k:Nat} (hT:Tryz.prog.underlying T=some (.slice e)) (hk:Tryz.prog.cellsOf e=k) (hk0:0<k) {α:Type} (R:α->List Value->Prop)
  (hel : ∀ (m:Nat) (cs:List Value) (y:DataW H × List MemPlace),DataW.trod enc Tryz.prog w base sp held m e cs=some y->∃ a,R a cs/\cs.length=k)
  {fuel:Nat} {cs:List Value} {x:DataW H × List MemPlace} (h:DataW.trod enc Tryz.prog w base sp held fuel T cs=some x) :
  ∃ (xs:List α) (p:Option Addr) (cap:Nat),cs = [.slice p xs.length cap]/\(xs.length<=cap/\xs.length<=9223372036854775807)/\(0<xs.length->∃ b off,p=some ⟨b,off,none⟩/\b<w.heap.size/\∀ (j:Nat) (a:α),xs[j]? = some a->∃ cs:List Value,cs.length=k/\R a cs/\∀ (m:Nat) (v:Value),cs[m]? = some v->w.cell? ⟨b,off+j*k+m,none⟩=some v):=by
 rcases DataW.trod_slice hT h with ⟨rfl,-⟩ | ⟨ad,len,cap,elems,rest,mm,hmm,rfl,-,-,hlc,hcm,hle,hcell,-,-⟩
 ·exact ⟨[],none,0,rfl,⟨Nat.le_refl _,Nat.zero_le _⟩,fun h=>absurd h (Nat.lt_irrefl 0)⟩
 ·have one : ∀ i,i<len->∃ y:α,ad.block<w.heap.size/\∃ cs:List Value,cs.length=k/\(∀ m,m<k->w.cell? ((ad.add (i*k)).add m)=cs[m]?)/\R y cs:=by
   intro i hi
   have hci:=hcell i hi
   rw [hk,List.getElem?_eq_getElem (by omega)] at hci
   obtain ⟨csi,hc1,hc2⟩:=Option.bind_eq_some_iff.1 hci
   obtain ⟨p,hp,hl⟩:=hel _ _ _ hc2
   obtain ⟨hb1,hb2,hb3⟩:=World.cells?_some hc1
   have hblk:=World.cells?_block hc1 hk0
   rw [cM] at hblk
   exact ⟨p,hblk,csi,hl,hb3,hp⟩
  obtain ⟨ps,hfl,hfs⟩:=lV len one
  refine ⟨ps,some ad,cap,by rw [hfl],⟨by omega,by unfold maxLen at hcm;omega⟩,fun hpos=> ?_⟩
  obtain ⟨hz,cs0,hl0,hc0,-⟩:=hfs 0 hpos
  have hsp:ad.spot=none:=by
   have h1:=hc0 0 hk0
   rw [List.getElem?_eq_getElem (by omega)] at h1
   have:=World.cell?_spot h1
   simpa [Addr.add] using this
  have had:=kJ hsp
  refine ⟨ad.block,ad.off,by rw [← had],hz,fun j a ha=> ?_⟩
  obtain ⟨hj,rfl⟩:=List.getElem?_eq_some_iff.1 ha
  obtain ⟨-,csj,hlj,hcj,hpj⟩:=hfs j hj
  refine ⟨csj,hlj,hpj,fun m y hy=> ?_⟩
  have hm:m<k:=by rw [← hlj];exact (List.getElem?_eq_some_iff.1 hy).1
  have:=hcj m hm
  rw [had,Addr.add_mid,Addr.add_mid,hy] at this
  exact this
theorem uR {fuel:Nat} {cs:List Value} {x:DataW H × List MemPlace} (h:DataW.trod enc Tryz.prog w base sp held fuel 66 cs=some x) : ∃ (bs:List Bool) (v:Value),cs = [v]/\aN (fun b=>b<w.heap.size) w bs v:=by
 obtain ⟨bs,p,cap,rfl,hl,hr⟩:=sW Tryz.underlying66 jB (by decide) (fun (b:Bool) cs=>cs = [.bool b]) (fun m cs y hy=>by obtain ⟨b,rfl,-⟩:=DataW.trod_bool Tryz.underlying4 hy;exact ⟨b,rfl,rfl⟩) h
 refine ⟨bs,_,rfl,p,cap,rfl,hl.2,fun h0=> ?_⟩
 obtain ⟨b,off,h1,h2,h3⟩:=hr h0
 refine ⟨b,off,h1,h2,fun j y hy=> ?_⟩
 obtain ⟨cs,-,rfl,h4⟩:=h3 j y hy
 have:=h4 0 _ rfl
 rwa [Nat.mul_one,Nat.add_zero] at this
theorem aAb {fuel:Nat} {cs:List Value} {x:DataW H × List MemPlace} (h:DataW.trod enc Tryz.prog w base sp held fuel 26 cs=some x) : ∃ (ms:List MB) (v:Value),cs = [v]/\cC (fun b=>b<w.heap.size) w ms v:=by
 obtain ⟨ms,p,cap,rfl,hl,hr⟩:=sW Tryz.underlying26 rF (by decide) (fun (m:MB) cs=> ∃ ov,cs = [.int .i64 m.pl,ov]/\aN (fun b=>b<w.heap.size) w m.on ov) (fun m cs y hy=>by
  obtain ⟨xs,n,-,-,hl,hlen,hel⟩:=DataW.trod_struct Tryz.underlying68 hy
  rw [rF] at hl
  match xs,hlen,cs,hl with
  | [y0,y1],_,[c0,c1],_=>
   obtain ⟨a,e0,-,-⟩:=DataW.trod_int Tryz.underlying3 (show DataW.trod enc Tryz.prog w base sp held n 3 _=some y0 by simpa using hel 0 _ rfl)
   obtain ⟨bs,v,e1,hb⟩:=uR (show DataW.trod enc Tryz.prog w base sp held n 66 _=some y1 by simpa using hel 1 _ rfl)
   simp [iL,rE] at e0 e1
   exact ⟨⟨a,bs⟩,⟨v,by rw [e0,e1],hb⟩,rfl⟩) h
 refine ⟨ms,_,rfl,p,cap,rfl,hl,fun h0=> ?_⟩
 obtain ⟨b,off,h1,h2,h3⟩:=hr h0
 refine ⟨b,off,h1,h2,fun j y hy=> ?_⟩
 obtain ⟨cs,-,⟨ov,rfl,hb⟩,h4⟩:=h3 j y hy
 exact ⟨ov,by have:=h4 0 _ rfl;rwa [Nat.add_zero] at this,h4 1 _ rfl,hb⟩
end
theorem sG {H:Type} {enc:TypeId × Value->H} {w:World} {base b0:Nat} {sp:Nat->Bool} {held:Bool} {x:Value} {d:DataW H} {p:List MemPlace} (hv:Value.okWide Tryz.prog w .any b0 26 x) (h:DataW.Trod enc Tryz.prog w base sp held 26 x d p) :
  ∃ (ms:List MB),cC (fun b=>b<w.heap.size) w ms x:=by
 obtain ⟨a,len,cap,rfl⟩:=okWide_slice Tryz.underlying26 hv
 obtain ⟨fuel,hf⟩:=h
 obtain ⟨ms,v,e,hm⟩:=aAb hf
 refine ⟨ms,?_⟩
 have hx:Value.slice a len cap=v:=by simpa [Value.cells] using e
 rw [hx];exact hm
end Go.Proofs.YtonlloiemgdfkaaGreatDoor
