/- Steps of the proof: OrdMakes, AtomOpen, NeedOpen. -/
import Derived.Test.YtonlloiemgdfkaaGreatDoorOm18
import Derived.Test.YtonlloiemgdfkaaGreatDoorOm03
import Derived.Lib.LaidTab
import Derived.Stop.LaidErr
import Derived.OpenShut
import Derived.Lib.SmallJoins
import Derived.Deep.DeepWitnessRowRef
import Derived.LaidMore
import Derived.Stop.Joined
import Derived.ChangeOld
import Derived.Test.YtonlloiemgdfkaaGreatDoorOm10
import Derived.Shelf.Vars
import Derived.HandedShaped
set_option maxHeartbeats 16000000
set_option maxRecDepth 100000
namespace Go.Proofs.YtonlloiemgdfkaaGreatDoor
open Go.RowKit Go.Sort Go.Lib
theorem eB.more {B g n n':Nat} {f:Go.Lit->Option MB} {sz:Nat} {w:World} (h:eB B g n f sz w) (hn:n<=n'):eB B g n' f sz w:=by
 obtain ⟨D,h1,h2⟩:=h
 exact ⟨D,h1.mono hn,h2⟩
theorem wJ {ps:List PK} {th:List MB} (h:dN ps th) : ∀ j,j<=th.length->mE (doA ps (fun _=>none) ((inA th).take j)) j
 | 0,_=>by rw [List.take_zero];exact yL
 | j+1,hj=>by
  have hjt:j<(inA th).length:=by simp [inA];omega
  have ih:=wJ h j (by omega)
  have hp:=ih.put (bI ps (inA th)[j].m) (inA th)[j].m
  rw [h.diff.at (fun _=>none) hjt] at hp
  rw [mY _ hjt]
  have e:(inA th)[j].out=false:=by simp [inA]
  rw [e]
  exact hp
theorem yB {ps:List PK} {th ms:List MB} {i j:Nat} (hj:j<(aQ ps th ms).length) (ho:(aQ ps th ms)[j].out=true) (hij:i<j):((aQ ps th ms).getD i AC.zero).out≠false:=fun h=>by
 obtain ⟨r,hr,e1,-⟩:=kO h
 have hlen:=kP (ps:=ps) (th:=th) (ms:=ms)
 have hr2:j-(cN ps th ms th.length).length<(goP ps th ms).length:=by omega
 have hat:=hI (ps:=ps) (th:=th) (ms:=ms) hr2
 rw [show (cN ps th ms th.length).length+(j-(cN ps th ms th.length).length)=j by omega,List.getD_eq_getElem?_getD,List.getElem?_eq_getElem hj,Option.getD_some] at hat
 rw [hat] at ho
 cases ho
theorem pO (w:World) (p q:Option Addr) (a b c d:Nat):(Instr.index 77 (.agg #[.slice p a b,.slice q c d]) (.int .i64 0)).run Tryz.prog w=.ok (.slice p a b) w/\(Instr.index 77 (.agg #[.slice p a b,.slice q c d]) (.int .i64 1)).run Tryz.prog w=.ok (.slice q c d) w:=by
 constructor
 ·simp [Instr.index,run_underlying Tryz.underlying77,go_sem]
 ·simp [Instr.index,run_underlying Tryz.underlying77,go_sem]
theorem jT {ps:List PK} (h:eK ps=0) {m:MB} (h0:0<=m.pl) (h1:m.pl<ps.length):KOk ps m:=by
 obtain ⟨q,hq⟩ : ∃ q:Nat,m.pl=q:=⟨m.pl.toNat,by omega⟩
 have hqp:q<ps.length:=by omega
 have hpk:aV ps m=ps[q]:=by unfold aV;rw [hq,Int.toNat_natCast,eU ps q hqp]
 obtain ⟨g1,⟨-,-,g4,g5⟩,-⟩:=kD ((kE h).2 ps[q] (List.getElem_mem hqp))
 unfold KOk
 rw [hpk]
 refine ⟨?_,g4,g5⟩
 have h2:=iO g1
 have h3:ps[q].n.data.toList.length=ps[q].n.size:=by rw [Array.length_toList];rfl
 unfold maxLen;omega
theorem pG (S:Nat->Prop) (ps:List PK) (th ms:List MB) (pv hv lv:Value) (w:World) (hS : ∀ b,S b->b<w.heap.size) (hp:bA S w ps pv) (ht:cE S w th hv) (hm:cE S w ms lv) (hE:Env w) (hM:fV w) :
  Calls Tryz.prog 6 #[.agg #[pv],hv,lv] w fun e w'=>e=.returned (.bool true)/\aA w w':=by
 have HP:=hid hp
 have HT:=hid ht
 have HM:=hid hm
 have HE:=hid hE
 have HMX:=hid hM
 obtain ⟨tp,tc,rfl,hpl⟩:=hp.len
 obtain ⟨hp',hc',rfl,hhl⟩:=ht.len
 obtain ⟨lp,lc,rfl,hll⟩:=hm.len
 have hmm:= @run_makeMap Tryz.prog
 have hmf : ∀ (fn:Fn) (first cap:Array Value) (w:World),(Instr.makeFunc fn first cap).run Tryz.prog w=.ok (.func fn first cap) w:=fun _ _ _ _=>rfl
 have hent:=wV
 clear hp ht hm hE hM
 go_enter Tryz.func6,Tryz.ntmps6
 go_upto_region 1 with fail
 refine aY (fun W'=>aA w W'/\aC w.heap.size 24 (.slice tp ps.length tc) W') ⟨aA.alloc _ _,aC.new _ _ _⟩ ?_
 rintro W1 ⟨k1,v1⟩
 have K1:=hid k1
 have V1:=hid v1
 generalize w.heap.size=b at V1 ⊢
 clear k1 v1
 obtain ⟨g0,-,l0⟩:=V1.out.facts
 go_wp2_with fail
 refine (tH S ps th ms _ _ _ W1 (fun c hc=>Nat.lt_of_lt_of_le (hS c hc) K1.out.size) (HP.out.keep hS K1.out) (HT.out.keep hS K1.out) (HM.out.keep hS K1.out)).mono ?_
 rintro e W3 ⟨k3,hd⟩
 have K3:=hid (K1.out.trans k3)
 have V3:=hid (V1.out.keep k3 V1.out.facts.2.2)
 clear k3 g0 l0 V1
 rcases hd with ⟨hz,rfl⟩ | ⟨hz,v2,rfl,hr2⟩
 ·have ha1:(gE ps th ms==0)=false:=by simpa using hz
  have ha2:(gE ps th ms != 0)=true:=by simp [bne,ha1]
  generalize gE ps th ms=er at ha1 ha2 ⊢
  clear hz
  go_wp2_with fail
  refine (iQ W3 (HE.out.keep K3.out) (HMX.out.keep K3.out)).mono ?_
  rintro e W4 ⟨rfl,k4⟩
  have K4:=hid (K3.out.trans k4)
  clear k4
  go_wp2_with fail
  refine (iQ W4 (HE.out.keep K4.out) (HMX.out.keep K4.out)).mono ?_
  rintro e W5 ⟨rfl,k5⟩
  have K5:=hid (K4.out.trans k5)
  clear k5
  go_wp2_with fail
  go_ret
  exact ⟨rfl,K5.out⟩
 ·obtain ⟨ap,ac,hav,-⟩:=hr2.len
  subst hav
  have HZ:Hid (bK ps ms=0/\bK ps th=0):=by
   unfold gE at hz
   split at hz
   ·rename_i hn;exact absurd hz hn
   ·rename_i hn;exact ⟨Decidable.of_not_not hn,hz⟩
  have HCT:=hid (wL HZ.out.1)
  have HOKM:=hid (oH HZ.out.1)
  have HOKT:=hid (oH HZ.out.2)
  have h8m:=(fA HZ.out.1).2.2.2.2.1
  have h8t:=(fA HZ.out.2).2.2.2.2.1
  have A3:=hid (hr2.mono (S':=fun c=>c<W3.heap.size) (fun _ _=>rfl) fun c hc=>hc.2)
  have hfew:(aQ ps th ms).length<=16:=by
   rw [kP]
   have q1:=oB ps th ms th.length
   have q2:=rB ps th ms
   omega
  clear hr2 hz
  go_wp2_with fail
  refine (iQ W3 (HE.out.keep K3.out) (HMX.out.keep K3.out)).mono ?_
  rintro e W4 ⟨rfl,k4⟩
  have K4:=hid (K3.out.trans k4)
  have V4:=hid (V3.out.keep k4 V3.out.facts.2.2)
  have A4:=hid (A3.out.mono (S':=fun c=>c<W4.heap.size) (fun p hp=>k4.cell (p:=p) hp) fun c hc=>Nat.lt_of_lt_of_le hc k4.size)
  clear k4 V3 A3
  go_wp2_with fail
  go_loopg [47] 2 (fun gk iv wr=> ∃ i:Nat,i+gk=2/\iv=.int .i64 i/\aA W4 wr/\(1<=i->dN ps th)/\(2<=i->dN ps ms))
  case atStart=>exact ⟨0,by omega,rfl,aA.refl _,fun h=>by omega,fun h=>by omega⟩
  case round=>
   obtain ⟨i,hi2,rfl,hk,hk1,hk2⟩:=hrel
   have HK:=hid hk
   have HK1:=hid hk1
   have HK2:=hid hk2
   clear hk hk1 hk2
   have hix0 : ∀ w,(Instr.index 77 (.agg #[.slice hp' th.length hc',.slice lp ms.length lc]) (.int .i64 0)).run Tryz.prog w=.ok (.slice hp' th.length hc') w:=fun w=>pO w _ _ _ _ _ _ |>.1
   have hix1 : ∀ w,(Instr.index 77 (.agg #[.slice hp' th.length hc',.slice lp ms.length lc]) (.int .i64 1)).run Tryz.prog w=.ok (.slice lp ms.length lc) w:=fun w=>pO w _ _ _ _ _ _ |>.2
   have hcs:i=0∨i=1∨i=2:=by omega
   rcases hcs with rfl | rfl | rfl
   ·go_upto_region 9 with fail
    refine aY (fun W'=>aA wr W'/\jO wr.heap.size 0 (fun _=>false) W') ⟨aA.alloc _ _,qE wr⟩ ?_
    rintro W6 ⟨k6,s6⟩
    have K6:=hid (HK.out.trans k6)
    have S6:=hid s6
    have HGW:Hid (W4.heap.size<=wr.heap.size):=HK.out.size
    clear k6 s6
    generalize wr.heap.size=g at S6 HGW ⊢
    go_wp2_with fail
    go_loopg [53] th.length (fun gk iv wr=> ∃ (j:Nat) (f:Go.Lit->Bool),j+gk=th.length/\iv=.int .i64 j/\Below g W6 wr/\jO g j f wr/\(∀ kl,f kl=true ↔ ∃ x∈th.take j,bI ps x=kl)/\dN ps (th.take j))
    case atStart=>exact ⟨0,_,by omega,rfl,Below.refl _ _,S6.out,fun kl=>by simp,by rw [List.take_zero];exact List.Pairwise.nil⟩
    case round=>
     obtain ⟨j,f,hj,rfl,hk,hs,hf,hkd⟩:=hrel
     have HKB:=hid hk
     have HSM:=hid hs
     have HF:=hid hf
     have HKD:=hid hkd
     clear hk hs hf hkd
     have hg6:g<W6.heap.size:=S6.out.lt
     have KW:=hid (show aA W4 wr from Below.trans K6.out (HKB.out.mono HGW.out))
     by_cases hlt:j<th.length
     ·have KR:=hid (K4.out.trans KW.out)
      obtain ⟨mb,moff,mcap,hmv,hmS,-,hrow⟩:=(HT.out.keep hS KR.out).get hlt
      cases hmv
      obtain ⟨op,oc,hc0,hc1,hol,-⟩:=hrow j _ (List.getElem?_eq_getElem hlt)
      obtain ⟨x0,x1,-⟩:=HOKT.out j _ (List.getElem?_eq_getElem hlt)
      have hko:=jT HCT.out x0 x1
      have HTK:Hid (th.take (j+1)=th.take j ++ [th[j]]):=List.take_succ_eq_append_getElem hlt
      have hml:mb<wr.heap.size:=Nat.lt_of_lt_of_le (hS mb hmS) KR.out.size
      generalize th[j]=m at hc0 hc1 hol x0 x1 hko HTK
      clear hrow
      go_upto_region 12 with fail
      refine aY (fun W'=>aA wr W'/\aF wr.heap.size #[.int .i64 m.pl,.slice op m.on.length oc] W') ⟨aA.alloc _ _,aF.new _ _ _⟩ ?_
      rintro W7 ⟨k7,b7⟩
      have KR7:=hid (KR.out.trans k7)
      have KW7:=hid (KW.out.trans k7)
      have KB7:=hid (show Below g W6 W7 from Below.trans HKB.out (k7.mono (Nat.le_of_lt (HSM.out.lt))))
      have S7:=hid (HSM.out.keep k7)
      have V7:=hid (V4.out.keep KW7.out V4.out.facts.2.2)
      have gm:=b7.2
      have gl:=b7.1
      have B7:=hid b7
      clear k7 b7 hc0 hc1
      generalize wr.heap.size=cm at gm gl B7 ⊢
      go_wp2_with fail
      refine (gX S ps m op tp oc tc b W7 (fun c hc=>Nat.lt_of_lt_of_le (hS c hc) KR7.out.size) (HP.out.keep hS KR7.out) V7.out x0 x1 hko.2 hol).mono ?_
      rintro e W8 ⟨rfl,k8⟩
      have KR8:=hid (KR7.out.trans k8)
      have KW8:=hid (KW7.out.trans k8)
      have S8:=hid (S7.out.keep k8)
      have KB8:=hid (show Below g W6 W8 from Below.trans KB7.out (k8.mono (Nat.le_of_lt S7.out.lt)))
      have V8:=hid (V7.out.keep k8 V7.out.facts.2.2)
      have B8:=hid (B7.out.keep k8 B7.out.1)
      have hrun:=S8.out.look Tryz.underlying78 hko.1 (cF (aV ps m).sl)
      have HKF:=hid (HF.out (bI ps m))
      have hkm:eE (aV ps m).n (slS (aV ps m).sl)=bI ps m:=rfl
      rw [hkm] at hrun
      clear k8 gm gl
      cases hfk:f (bI ps m) with
      | true=>
       rw [hfk] at hrun
       go_wp2_with fail
       go_ret
       exact ⟨rfl,KR8.out⟩
      | false=>
       rw [hfk] at hrun
       have HNO:Hid (¬ ∃ x∈th.take j,bI ps x=bI ps m):=fun h=>by have:=HKF.out.2 h;rw [hfk] at this;cases this
       have gm:=B8.out.2
       have gl:=B8.out.1
       clear hfk
       go_wp2_with fail
       refine (gX S ps m op tp oc tc b W8 (fun c hc=>Nat.lt_of_lt_of_le (hS c hc) KR8.out.size) (HP.out.keep hS KR8.out) V8.out x0 x1 hko.2 hol).mono ?_
       rintro e W9 ⟨rfl,k9⟩
       have S9:=hid (S8.out.keep k9)
       have KB9:=hid (show Below g W6 W9 from Below.trans KB8.out (k9.mono (Nat.le_of_lt S8.out.lt)))
       have hjl:j<1000000:=by omega
       obtain ⟨w10,hrun10,s10,gr10⟩:=S9.out.put Tryz.underlying78 hko.1 (cF (aV ps m).sl) hjl
       rw [hkm] at s10
       have S10:=hid s10
       have KB10:=hid (show Below g W6 w10 from Below.trans KB9.out ⟨gr10.os,gr10.tape,gr10.output,gr10.size,fun c hc=>gr10.block c (by have:=S9.out.lt;omega) (fun e=>by have:=Option.some.inj e;omega)⟩)
       clear k9 s10 gr10 gm gl hrun
       go_wp2_with fail
       go_roundg (th.length-(j+1))
       case rel=>
        refine ⟨j+1,_,by omega,by go_num,KB10.out,S10.out,fun kl=> ?_,?_⟩
        ·rw [HTK.out]
         by_cases e:kl=bI ps m
         ·subst e;rw [eA];simp
         ·rw [dF _ _ e,HF.out]
          simp only [List.mem_append,List.mem_singleton]
          exact ⟨fun ⟨x,h1,h2⟩=>⟨x,.inl h1,h2⟩,fun ⟨x,h1,h2⟩=>by
           rcases h1 with h1 | h1
           ·exact ⟨x,h1,h2⟩
           ·subst h1;exact absurd h2.symm e⟩
        ·rw [HTK.out]
         unfold dN
         rw [List.pairwise_append]
         refine ⟨HKD.out,List.pairwise_singleton _ _,fun x hx y hy=> ?_⟩
         rw [List.mem_singleton.1 hy]
         exact fun e=>HNO.out ⟨x,hx,e⟩
       case measure=>omega
     ·have HKS:Hid (dN ps th):=by
       have:=HKD.out
       rw [List.take_of_length_le (by omega)] at this
       exact this
      go_wp2_with fail
      go_roundg 1
      case rel=>exact ⟨1,by omega,by go_num,KW.out,fun _=>HKS.out,fun h=>by omega⟩
      case measure=>omega
   ·go_upto_region 9 with fail
    refine aY (fun W'=>aA wr W'/\jO wr.heap.size 0 (fun _=>false) W') ⟨aA.alloc _ _,qE wr⟩ ?_
    rintro W6 ⟨k6,s6⟩
    have K6:=hid (HK.out.trans k6)
    have S6:=hid s6
    have HGW:Hid (W4.heap.size<=wr.heap.size):=HK.out.size
    clear k6 s6
    generalize wr.heap.size=g at S6 HGW ⊢
    go_wp2_with fail
    go_loopg [53] ms.length (fun gk iv wr=> ∃ (j:Nat) (f:Go.Lit->Bool),j+gk=ms.length/\iv=.int .i64 j/\Below g W6 wr/\jO g j f wr/\(∀ kl,f kl=true ↔ ∃ x∈ms.take j,bI ps x=kl)/\dN ps (ms.take j))
    case atStart=>exact ⟨0,_,by omega,rfl,Below.refl _ _,S6.out,fun kl=>by simp,by rw [List.take_zero];exact List.Pairwise.nil⟩
    case round=>
     obtain ⟨j,f,hj,rfl,hk,hs,hf,hkd⟩:=hrel
     have HKB:=hid hk
     have HSM:=hid hs
     have HF:=hid hf
     have HKD:=hid hkd
     clear hk hs hf hkd
     have hg6:g<W6.heap.size:=S6.out.lt
     have KW:=hid (show aA W4 wr from Below.trans K6.out (HKB.out.mono HGW.out))
     by_cases hlt:j<ms.length
     ·have KR:=hid (K4.out.trans KW.out)
      obtain ⟨mb,moff,mcap,hmv,hmS,-,hrow⟩:=(HM.out.keep hS KR.out).get hlt
      cases hmv
      obtain ⟨op,oc,hc0,hc1,hol,-⟩:=hrow j _ (List.getElem?_eq_getElem hlt)
      obtain ⟨x0,x1,-⟩:=HOKM.out j _ (List.getElem?_eq_getElem hlt)
      have hko:=jT HCT.out x0 x1
      have HTK:Hid (ms.take (j+1)=ms.take j ++ [ms[j]]):=List.take_succ_eq_append_getElem hlt
      have hml:mb<wr.heap.size:=Nat.lt_of_lt_of_le (hS mb hmS) KR.out.size
      generalize ms[j]=m at hc0 hc1 hol x0 x1 hko HTK
      clear hrow
      go_upto_region 12 with fail
      refine aY (fun W'=>aA wr W'/\aF wr.heap.size #[.int .i64 m.pl,.slice op m.on.length oc] W') ⟨aA.alloc _ _,aF.new _ _ _⟩ ?_
      rintro W7 ⟨k7,b7⟩
      have KR7:=hid (KR.out.trans k7)
      have KW7:=hid (KW.out.trans k7)
      have KB7:=hid (show Below g W6 W7 from Below.trans HKB.out (k7.mono (Nat.le_of_lt (HSM.out.lt))))
      have S7:=hid (HSM.out.keep k7)
      have V7:=hid (V4.out.keep KW7.out V4.out.facts.2.2)
      have gm:=b7.2
      have gl:=b7.1
      have B7:=hid b7
      clear k7 b7 hc0 hc1
      generalize wr.heap.size=cm at gm gl B7 ⊢
      go_wp2_with fail
      refine (gX S ps m op tp oc tc b W7 (fun c hc=>Nat.lt_of_lt_of_le (hS c hc) KR7.out.size) (HP.out.keep hS KR7.out) V7.out x0 x1 hko.2 hol).mono ?_
      rintro e W8 ⟨rfl,k8⟩
      have KR8:=hid (KR7.out.trans k8)
      have KW8:=hid (KW7.out.trans k8)
      have S8:=hid (S7.out.keep k8)
      have KB8:=hid (show Below g W6 W8 from Below.trans KB7.out (k8.mono (Nat.le_of_lt S7.out.lt)))
      have V8:=hid (V7.out.keep k8 V7.out.facts.2.2)
      have B8:=hid (B7.out.keep k8 B7.out.1)
      have hrun:=S8.out.look Tryz.underlying78 hko.1 (cF (aV ps m).sl)
      have HKF:=hid (HF.out (bI ps m))
      have hkm:eE (aV ps m).n (slS (aV ps m).sl)=bI ps m:=rfl
      rw [hkm] at hrun
      clear k8 gm gl
      cases hfk:f (bI ps m) with
      | true=>
       rw [hfk] at hrun
       go_wp2_with fail
       go_ret
       exact ⟨rfl,KR8.out⟩
      | false=>
       rw [hfk] at hrun
       have HNO:Hid (¬ ∃ x∈ms.take j,bI ps x=bI ps m):=fun h=>by have:=HKF.out.2 h;rw [hfk] at this;cases this
       have gm:=B8.out.2
       have gl:=B8.out.1
       clear hfk
       go_wp2_with fail
       refine (gX S ps m op tp oc tc b W8 (fun c hc=>Nat.lt_of_lt_of_le (hS c hc) KR8.out.size) (HP.out.keep hS KR8.out) V8.out x0 x1 hko.2 hol).mono ?_
       rintro e W9 ⟨rfl,k9⟩
       have S9:=hid (S8.out.keep k9)
       have KB9:=hid (show Below g W6 W9 from Below.trans KB8.out (k9.mono (Nat.le_of_lt S8.out.lt)))
       have hjl:j<1000000:=by omega
       obtain ⟨w10,hrun10,s10,gr10⟩:=S9.out.put Tryz.underlying78 hko.1 (cF (aV ps m).sl) hjl
       rw [hkm] at s10
       have S10:=hid s10
       have KB10:=hid (show Below g W6 w10 from Below.trans KB9.out ⟨gr10.os,gr10.tape,gr10.output,gr10.size,fun c hc=>gr10.block c (by have:=S9.out.lt;omega) (fun e=>by have:=Option.some.inj e;omega)⟩)
       clear k9 s10 gr10 gm gl hrun
       go_wp2_with fail
       go_roundg (ms.length-(j+1))
       case rel=>
        refine ⟨j+1,_,by omega,by go_num,KB10.out,S10.out,fun kl=> ?_,?_⟩
        ·rw [HTK.out]
         by_cases e:kl=bI ps m
         ·subst e;rw [eA];simp
         ·rw [dF _ _ e,HF.out]
          simp only [List.mem_append,List.mem_singleton]
          exact ⟨fun ⟨x,h1,h2⟩=>⟨x,.inl h1,h2⟩,fun ⟨x,h1,h2⟩=>by
           rcases h1 with h1 | h1
           ·exact ⟨x,h1,h2⟩
           ·subst h1;exact absurd h2.symm e⟩
        ·rw [HTK.out]
         unfold dN
         rw [List.pairwise_append]
         refine ⟨HKD.out,List.pairwise_singleton _ _,fun x hx y hy=> ?_⟩
         rw [List.mem_singleton.1 hy]
         exact fun e=>HNO.out ⟨x,hx,e⟩
       case measure=>omega
     ·have HKS:Hid (dN ps ms):=by
       have:=HKD.out
       rw [List.take_of_length_le (by omega)] at this
       exact this
      have HK0:=hid (HK1.out (Nat.le_refl _))
      go_wp2_with fail
      go_roundg 0
      case rel=>exact ⟨2,by omega,by go_num,KW.out,fun _=>HK0.out,fun _=>HKS.out⟩
      case measure=>omega
   ·have HKT:=hid (HK1.out (by omega))
    have HKM:=hid (HK2.out (by omega))
    go_upto_region 18 with fail
    refine aY (fun W'=>aA wr W'/\eB wr.heap.size wr.heap.size 0 (fun _=>none) 0 W') ⟨aA.alloc _ _,xN _ wr⟩ ?_
    rintro W5 ⟨k5,m5⟩
    have K5:=hid (HK.out.trans k5)
    have M5:=hid m5
    have HG4:Hid (W4.heap.size<=wr.heap.size):=HK.out.size
    have HG5:Hid (w.heap.size<=wr.heap.size):=(K4.out.trans HK.out).size
    clear k5 m5 hix0 hix1
    generalize wr.heap.size=g at M5 HG4 HG5 ⊢
    have HDT:=hid HKT.out.diff
    go_wp2_with fail
    go_loopg [71] th.length (fun gk iv wr=> ∃ j:Nat,j+gk=th.length/\iv=.int .i64 j/\Below g W5 wr/\eB g g j (doA ps (fun _=>none) ((inA th).take j)) j wr)
    case atStart=>exact ⟨0,by omega,rfl,Below.refl _ _,M5.out⟩
    case round=>
     obtain ⟨j,hj,rfl,hkb,hmm1⟩:=hrel
     have HKB:=hid hkb
     have HMM:=hid hmm1
     clear hkb hmm1
     have KW:=hid (show aA W4 wr from Below.trans K5.out (HKB.out.mono HG4.out))
     have KR:=hid (K4.out.trans KW.out)
     have hgl:g<wr.heap.size:=HMM.out.lt
     by_cases hlt:j<th.length
     ·obtain ⟨mb,moff,mcap,hmv,hmS,-,hrow⟩:=(HT.out.keep hS KR.out).get hlt
      cases hmv
      obtain ⟨op,oc,hc0,hc1,hol,hbl⟩:=hrow j _ (List.getElem?_eq_getElem hlt)
      obtain ⟨x0,x1,-⟩:=HOKT.out j _ (List.getElem?_eq_getElem hlt)
      have hko:=jT HCT.out x0 x1
      have hjt:j<(inA th).length:=by simpa [inA] using hlt
      have hje:(inA th)[j]=⟨false,th[j],0⟩:=by simp [inA]
      have HTK:Hid (doA ps (fun _=>none) ((inA th).take (j+1))=upL (doA ps (fun _=>none) ((inA th).take j)) (bI ps th[j]) (some th[j])):=by
       show _=_
       rw [mY _ hjt,hje];rfl
      have HNO:Hid (doA ps (fun _=>none) ((inA th).take j) (bI ps th[j])=none):=by
       show _=_
       have:=HDT.out.at (fun _=>none) hjt
       rw [hje] at this
       exact this
      have hml:mb<wr.heap.size:=Nat.lt_of_lt_of_le (hS mb hmS) KR.out.size
      have HBL:=hid hbl
      generalize th[j]=m at hc0 hc1 hol x0 x1 hko HTK HNO HBL
      clear hrow hbl hje
      go_upto_region 21 with fail
      refine aY (fun W'=>aA wr W'/\aF wr.heap.size #[.int .i64 m.pl,.slice op m.on.length oc] W') ⟨aA.alloc _ _,aF.new _ _ _⟩ ?_
      rintro W7 ⟨k7,b7⟩
      have KR7:=hid (KR.out.trans k7)
      have KW7:=hid (KW.out.trans k7)
      have KB7:=hid (show Below g W5 W7 from Below.trans HKB.out (k7.mono (Nat.le_of_lt hgl)))
      have M7:=hid (HMM.out.keep k7 (Nat.le_of_lt hgl))
      have V7:=hid (V4.out.keep KW7.out V4.out.facts.2.2)
      have X7:=hid (show MbV g W7 m (.agg #[.int .i64 m.pl,.slice op m.on.length oc]) from ⟨_,_,rfl,(HBL.out.keep (fun c hc=>Nat.lt_of_lt_of_le (hS c hc) KR.out.size) k7).mono (fun _ _=>rfl) fun c hc=>Nat.lt_of_lt_of_le (hS c hc) HG5.out⟩)
      have hbc:=b7.2
      have hbl7:=b7.1
      have HSz:Hid (g<wr.heap.size):=hgl
      clear k7 b7 hc0 hc1
      generalize wr.heap.size=cm at hbc hbl7 HSz ⊢
      have hc0:W7.cell? ⟨cm,0,none⟩=some (.int .i64 m.pl):=hbc 0
      have hc1:W7.cell? ⟨cm,1,none⟩=some (.slice op m.on.length oc):=hbc 1
      have HS:=hid (show W7.cell? ⟨cm,0,none⟩=some (.int .i64 m.pl)/\W7.cell? ⟨cm,1,none⟩=some (.slice op m.on.length oc) from ⟨hc0,hc1⟩)
      have HSd:=hid (show W7.drew.cell? ⟨cm,0,none⟩=some (.int .i64 m.pl)/\W7.drew.cell? ⟨cm,1,none⟩=some (.slice op m.on.length oc) from ⟨hc0,hc1⟩)
      have HCK:=hid (show ∀ W,aA W7 W->Calls Tryz.prog 39 #[.agg #[.int .i64 m.pl,.slice op m.on.length oc],.pointer (some ⟨b,0,none⟩)] W fun e w'=>e=.returned (.agg #[.string (aV ps m).n,.string (slS (aV ps m).sl)])/\aA W w' from fun W kW=>gX S ps m op tp oc tc b W (fun c hc=>Nat.lt_of_lt_of_le (Nat.lt_of_lt_of_le (hS c hc) KR7.out.size) kW.size) (HP.out.keep hS (KR7.out.trans kW)) (V7.out.keep kW V7.out.facts.2.2) x0 x1 hko.2 hol)
      have hjl:j<1000000:=by omega
      clear hbc hc0 hc1
      go_region_held3 (fun W'=>W'.cell? ⟨cm,0,none⟩=some (.int .i64 m.pl)/\W'.cell? ⟨cm,1,none⟩=some (.slice op m.on.length oc))
       (first | with_reducible exact HS.out | with_reducible exact HSd.out | with_reducible exact HS8.out | with_reducible exact HS9.out | go_keep)
       (first | (go_at_call 39;refine (HCK.out _ (aA.drew (aA.refl _))).mono ?_;rintro e w8 ⟨rfl,k8⟩;have K8:=hid (cI k8);have HS8:=hid (show w8.cell? ⟨cm,0,none⟩=some (.int .i64 m.pl)/\w8.cell? ⟨cm,1,none⟩=some (.slice op m.on.length oc) from ⟨(K8.out.cell (p:=⟨cm,0,none⟩) hbl7).trans HS.out.1,(K8.out.cell (p:=⟨cm,1,none⟩) hbl7).trans HS.out.2⟩);have M8:=hid (M7.out.keep K8.out (by have:=HSz.out;omega));obtain ⟨w9,hrun9,m9,gr9⟩:=M8.out.put Tryz.underlying79 hko.1 (cF (aV ps m).sl) hjl (Nat.le_refl g) (X7.out.keep (Below.mono K8.out (by have:=HSz.out;omega)));have M9:=hid m9;have GR9:=hid gr9;have HS9:=hid (show w9.cell? ⟨cm,0,none⟩=some (.int .i64 m.pl)/\w9.cell? ⟨cm,1,none⟩=some (.slice op m.on.length oc) from ⟨(World.cell?_of_block (gr9.block cm (Nat.lt_of_lt_of_le hbl7 K8.out.size) (fun e=>by have:=Option.some.inj e;have:=HSz.out;omega))).trans HS8.out.1,(World.cell?_of_block (gr9.block cm (Nat.lt_of_lt_of_le hbl7 K8.out.size) (fun e=>by have:=Option.some.inj e;have:=HSz.out;omega))).trans HS8.out.2⟩);clear k8 m9 gr9))
      have M10:=hid (show eB g g (j+1) (doA ps (fun _=>none) ((inA th).take (j+1))) (j+1) w9 from by
       have h1:=M9.out
       rw [show eE (aV ps m).n (slS (aV ps m).sl)=bI ps m from rfl,HNO.out] at h1
       rw [HTK.out]
       exact h1)
      have KB10:=hid (show Below g W5 w9 from Below.trans KB7.out (Below.trans (Below.mono K8.out (by have:=HSz.out;omega)) ⟨GR9.out.os,GR9.out.tape,GR9.out.output,GR9.out.size,fun c hc=>GR9.out.block c (by have:=K8.out.size;have:=HSz.out;omega) (fun e=>by have:=Option.some.inj e;omega)⟩))
      clear hrun9 M9 GR9 HS HSd HS8 HS9 HCK
      go_wp2_with fail
      go_roundg (th.length-(j+1))
      case rel=>exact ⟨j+1,by omega,by go_num,KB10.out,M10.out⟩
      case measure=>omega
     ·obtain rfl:j=th.length:=by omega
      have HM0:=hid (show eB g g th.length (doA ps (thF ps th) ((aQ ps th ms).take 0)) th.length wr from by
       have h1:=HMM.out
       rw [List.take_of_length_le (by simp [inA])] at h1
       rw [List.take_zero]
       exact h1)
      have HS0:=hid (show mE (doA ps (thF ps th) ((aQ ps th ms).take 0)) th.length from by
       have h1:=wJ HKT.out th.length (Nat.le_refl _)
       rw [List.take_of_length_le (by simp [inA])] at h1
       rw [List.take_zero]
       exact h1)
      have HOKK:=hid (show ∀ m∈th,KOk ps m from fun m hm=>by
       obtain ⟨i,hi⟩:=List.mem_iff_getElem?.1 hm
       obtain ⟨y0,y1,-⟩:=HOKT.out i m hi
       exact jT HCT.out y0 y1)
      have HOKN:=hid (show ∀ m∈ms,KOk ps m from fun m hm=>by
       obtain ⟨i,hi⟩:=List.mem_iff_getElem?.1 hm
       obtain ⟨y0,y1,-⟩:=HOKM.out i m hi
       exact jT HCT.out y0 y1)
      have HDF:=hid (yE HOKK.out HOKN.out HKT.out HKM.out)
      have HSTEP:=hid (fun (j:Nat) (hj:j<(aQ ps th ms).length)=>yG HDF.out HKT.out hj)
      have HPK:=hid (show ∀ (j:Nat) (hj:j<(aQ ps th ms).length),0<=(aQ ps th ms)[j].m.pl/\(aQ ps th ms)[j].m.pl<ps.length from fun j hj=>by
       have hm:=List.getElem_mem hj
       generalize (aQ ps th ms)[j]=x at hm
       unfold aQ at hm
       rcases List.mem_append.1 hm with hm | hm
       ·obtain ⟨m,hmm,rfl⟩:=List.mem_map.1 hm
        obtain ⟨i,hi⟩:=List.mem_iff_getElem?.1 (List.mem_filter.1 hmm).1
        obtain ⟨y0,y1,-⟩:=HOKT.out i m hi
        exact ⟨y0,y1⟩
       ·obtain ⟨k,hk,rfl⟩:=List.mem_map.1 hm
        have hkm:=(cL.1 hk).1
        obtain ⟨y0,y1,-⟩:=HOKM.out k _ (List.getElem?_eq_getElem hkm)
        show 0<=(ms.getD k MB.zero).pl/\(ms.getD k MB.zero).pl<ps.length
        rw [cJ ms k hkm];exact ⟨y0,y1⟩)
      have HFST:=hid (fun (i j:Nat) (hj:j<(aQ ps th ms).length) (ho:(aQ ps th ms)[j].out=true) (hij:i<j)=>yB hj ho hij)
      have HTAKE:=hid (fun (j:Nat) (hj:j<(aQ ps th ms).length)=>mY (ps:=ps) (thF ps th) hj)
      have HEND:=hid (fun (m:MB) (hm:m∈ms)=>oE HDF.out HOKN.out HKT.out HKM.out HOKK.out hm)
      have HSIZE:=hid (fun (sz:Nat) (hs:mE (doA ps (thF ps th) (aQ ps th ms)) sz)=>yF HDF.out HOKN.out HKT.out HKM.out HOKK.out hs)
      clear hlt HMM M5 HDT HDF
      generalize thF ps th=F0 at HM0 HS0 HSTEP HTAKE HEND HSIZE
      generalize aQ ps th ms=A at HM0 HS0 HSTEP HPK HFST HTAKE HEND HSIZE A4 hfew ⊢
      go_wp2_with fail
      go_loopg [83,18] A.length (fun gk iv bv wr=> ∃ (j:Nat) (β:Bool) (sz:Nat),j+gk=A.length/\iv=.int .i64 j/\bv=.bool β/\(β=true->∃ i,i<j/\(A.getD i AC.zero).out=false)/\Below g W5 wr/\eB g g (th.length+j) (doA ps F0 (A.take j)) sz wr/\mE (doA ps F0 (A.take j)) sz)
      case atStart=>exact ⟨0,false,th.length,by omega,rfl,rfl,fun h=>(by cases h),HKB.out,HM0.out,HS0.out⟩
      case round=>
       obtain ⟨j,β,sz,hj,rfl,rfl,hβ,hkb,hmm1,hsp⟩:=hrel
       have HKB4:=hid hkb
       have HMM4:=hid hmm1
       have HSP:=hid hsp
       have HBE:=hid hβ
       clear hkb hmm1 hsp hβ
       have KW4:=hid (show aA W4 wr from Below.trans K5.out (HKB4.out.mono HG4.out))
       have KR4:=hid (K4.out.trans KW4.out)
       have hgl4:g<wr.heap.size:=HMM4.out.lt
       by_cases hlt:j<A.length
       ·obtain ⟨ab,aoff,acap,hav,haS,-,hrow⟩:=(A4.out.mono (fun p hp=>KW4.out.cell (p:=p) hp) fun _ h=>h).get hlt
        cases hav
        obtain ⟨op,oc,c0,c1,c2,c3,hol,hbl⟩:=hrow j _ (List.getElem?_eq_getElem hlt)
        obtain ⟨x0,x1⟩:=HPK.out j hlt
        have HST:=hid (HSTEP.out j hlt)
        have HTK:=hid (HTAKE.out j hlt)
        have HFS:=hid (fun (i:Nat) (ho:A[j].out=true) (hij:i<j)=>HFST.out i j hlt ho hij)
        have hxe:A.getD j AC.zero=A[j]:=by rw [List.getD_eq_getElem?_getD,List.getElem?_eq_getElem hlt];rfl
        have HXE:=hid hxe
        have habl:ab<wr.heap.size:=Nat.lt_of_lt_of_le haS KW4.out.size
        have HBL:=hid hbl
        generalize A[j]=x at c0 c1 c2 c3 hol x0 x1 HST HTK HFS HBL HXE
        rcases x with ⟨xo,m,cy⟩
        simp only at c0 c1 c2 c3 hol x0 x1 HST HTK HFS HBL HXE
        have hko:=jT HCT.out x0 x1
        have hkm:eE (aV ps m).n (slS (aV ps m).sl)=bI ps m:=rfl
        clear hrow hbl hxe
        go_upto_region 27 with fail
        refine aY (fun W'=>aA wr W'/\aF wr.heap.size #[.bool xo,.int .i64 m.pl,.slice op m.on.length oc,.int .i64 cy] W') ⟨aA.alloc _ _,aF.new _ _ _⟩ ?_
        rintro W7 ⟨k7,b7⟩
        have KW7:=hid (KW4.out.trans k7)
        have KR7:=hid (KR4.out.trans k7)
        have KB7:=hid (show Below g W5 W7 from Below.trans HKB4.out (k7.mono (Nat.le_of_lt hgl4)))
        have M7:=hid (HMM4.out.keep k7 (Nat.le_of_lt hgl4))
        have V7:=hid (V4.out.keep KW7.out V4.out.facts.2.2)
        have Y7:=hid (show aJ (fun c=>c<g) W7 m.on (.slice op m.on.length oc) from (HBL.out.mono (fun p hp=>k7.cell (p:=p) (Nat.lt_of_lt_of_le hp KW4.out.size)) fun c hc=>Nat.lt_of_lt_of_le hc HG4.out))
        have B7:=hid b7
        have HSz:Hid (g<wr.heap.size/\wr.heap.size<W7.heap.size):=⟨hgl4,b7.1⟩
        clear k7 b7 c0 c1 c2 c3
        generalize wr.heap.size=cx at B7 HSz ⊢
        have gx:=B7.out.2
        have gl:=B7.out.1
        have HCK:=hid (show ∀ W,aA W7 W->Calls Tryz.prog 39 #[.agg #[.int .i64 m.pl,.slice op m.on.length oc],.pointer (some ⟨b,0,none⟩)] W fun e w'=>e=.returned (.agg #[.string (aV ps m).n,.string (slS (aV ps m).sl)])/\aA W w' from fun W kW=>gX S ps m op tp oc tc b W (fun c hc=>Nat.lt_of_lt_of_le (Nat.lt_of_lt_of_le (hS c hc) KR7.out.size) kW.size) (HP.out.keep hS (KR7.out.trans kW)) (V7.out.keep kW V7.out.facts.2.2) x0 x1 hko.2 hol)
        have hjl:th.length+j<1000000:=by omega
        cases xo
        ·have HNE:=hid (HST.out.2 rfl)
         go_wp2_with fail
         refine (HCK.out W7 (aA.refl _)).mono ?_
         rintro e W8 ⟨rfl,k8⟩
         have K78:=hid k8
         have M8:=hid (M7.out.keep k8 (by have:=HSz.out;omega))
         have hlk:=M8.out.lookOk Tryz.underlying79 hko.1 (cF (aV ps m).sl)
         rw [hkm] at hlk
         have B8:=hid (B7.out.keep k8 B7.out.1)
         have hg8:g<W8.heap.size:=M8.out.lt
         clear k8 gx gl
         have gx:=B8.out.2
         have gl:=B8.out.1
         rcases hlk with ⟨hfn,p8,c8,k8v,hrun8⟩ | ⟨m',hfs,p8,c8,hrun8,hb8⟩
         ·have HFN:=hid hfn
          clear hfn
          go_upto_region 34 with fail
          refine aY (fun W'=>aA W8 W') (aA.alloc _ _) ?_
          intro W9 k9
          have K79:=hid (K78.out.trans k9)
          have B9:=hid (B8.out.keep k9 B8.out.1)
          have M9:=hid (M8.out.keep k9 (Nat.le_of_lt hg8))
          clear k9 hrun8 gx gl
          have hb1:W9.cell? ⟨cx,1,none⟩=some (.int .i64 m.pl):=B9.out.2 1
          have hb2:W9.cell? ⟨cx,2,none⟩=some (.slice op m.on.length oc):=B9.out.2 2
          have hbx:cx<W9.heap.size:=B9.out.1
          have HS:=hid (show W9.cell? ⟨cx,1,none⟩=some (.int .i64 m.pl)/\W9.cell? ⟨cx,2,none⟩=some (.slice op m.on.length oc) from ⟨hb1,hb2⟩)
          have HSd:=hid (show W9.drew.cell? ⟨cx,1,none⟩=some (.int .i64 m.pl)/\W9.drew.cell? ⟨cx,2,none⟩=some (.slice op m.on.length oc) from ⟨hb1,hb2⟩)
          have hgW:g<W9.heap.size:=M9.out.lt
          clear hb1 hb2
          go_upto_region 36 with fail
          go_region_held3 (fun W'=>W'.cell? ⟨cx,1,none⟩=some (.int .i64 m.pl)/\W'.cell? ⟨cx,2,none⟩=some (.slice op m.on.length oc))
           (first | with_reducible exact HS.out | with_reducible exact HSd.out | with_reducible exact HS12.out | with_reducible exact HS13.out | go_keep)
           (first | (go_at_call 39;refine (HCK.out _ (aA.drew K79.out)).mono ?_;rintro e w12 ⟨rfl,k12⟩;have K12:=hid (show aA W9 w12 from cI k12);have HS12:=hid (show w12.cell? ⟨cx,1,none⟩=some (.int .i64 m.pl)/\w12.cell? ⟨cx,2,none⟩=some (.slice op m.on.length oc) from ⟨(K12.out.cell (p:=⟨cx,1,none⟩) hbx).trans HS.out.1,(K12.out.cell (p:=⟨cx,2,none⟩) hbx).trans HS.out.2⟩);have M12:=hid (M9.out.keep K12.out (Nat.le_of_lt hgW));obtain ⟨w13,hrun13,m13,gr13⟩:=M12.out.put Tryz.underlying79 hko.1 (cF (aV ps m).sl) hjl (Nat.le_refl g) (show MbV g w12 m (.agg #[.int .i64 m.pl,.slice op m.on.length oc]) from ⟨_,_,rfl,Y7.out.keep (B:=g) (fun _ h=>h) (Below.mono (K79.out.trans K12.out) (by have:=HSz.out;omega))⟩);have M13:=hid m13;have GR13:=hid gr13;have HS13:=hid (show w13.cell? ⟨cx,1,none⟩=some (.int .i64 m.pl)/\w13.cell? ⟨cx,2,none⟩=some (.slice op m.on.length oc) from ⟨(World.cell?_of_block (gr13.block cx (Nat.lt_of_lt_of_le hbx K12.out.size) (fun e=>by have:=Option.some.inj e;have:=HSz.out;omega))).trans HS12.out.1,(World.cell?_of_block (gr13.block cx (Nat.lt_of_lt_of_le hbx K12.out.size) (fun e=>by have:=Option.some.inj e;have:=HSz.out;omega))).trans HS12.out.2⟩);clear k12 m13 gr13))
          have KB13:=hid (show Below g W5 w13 from Below.trans KB7.out (Below.trans (Below.mono (K79.out.trans K12.out) (by have:=HSz.out;omega)) ⟨GR13.out.os,GR13.out.tape,GR13.out.output,GR13.out.size,fun c hc=>GR13.out.block c (by have:=K12.out.size;omega) (fun e=>by have:=Option.some.inj e;omega)⟩))
          have HSU:=hid (HSP.out.put (bI ps m) m)
          have HTK2:Hid (doA ps F0 (A.take (j+1))=upL (doA ps F0 (A.take j)) (bI ps m) (some m)):=HTK.out
          have HIN:Hid (∃ i,i<j+1/\(A.getD i AC.zero).out=false):=⟨j,Nat.lt_succ_self _,by rw [HXE.out]⟩
          clear hrun13 GR13 HS HSd HS12 HS13
          go_wp2_with fail
          go_roundg (A.length-(j+1))
          case rel=>exact ⟨j+1,true,_,by omega,by go_num,rfl,fun _=>HIN.out,KB13.out,by rw [HTK2.out];exact M13.out,by rw [HTK2.out];exact HSU.out⟩
          case measure=>omega
         ·have HFS2:=hid hfs
          have hmne:m'≠m:=fun e=>HNE.out (by rw [hfs,e])
          have HB8:=hid hb8
          clear hfs hb8
          go_upto_region 34 with fail
          refine aY (fun W'=>aA W8 W'/\aF W8.heap.size #[.int .i64 m'.pl,.slice p8 m'.on.length c8] W') ⟨aA.alloc _ _,aF.new _ _ _⟩ ?_
          rintro W9 ⟨k9,b9⟩
          have K79:=hid (K78.out.trans k9)
          have B9:=hid (B8.out.keep k9 B8.out.1)
          have Bo9:=hid b9
          have M9:=hid (M8.out.keep k9 (Nat.le_of_lt hg8))
          have Z9:=hid (HB8.out.keep (B:=g) (fun _ h=>h) (k9.mono (Nat.le_of_lt hg8)))
          have Y9:=hid (Y7.out.keep (B:=g) (fun _ h=>h) (Below.mono K79.out (by have:=HSz.out;omega)))
          clear k9 b9 hrun8 gx gl
          generalize W8.heap.size=co at Bo9 ⊢
          have gx:=B9.out.2
          have gl:=B9.out.1
          have ox:=Bo9.out.2
          have ol:=Bo9.out.1
          have hg9:g<W9.heap.size:=M9.out.lt
          go_wp2_with fail
          refine (hN (fun c=>c<g) m' m _ _ W9 (fun c hc=>by have:c<g:=hc;omega) Z9.out Y9.out).mono ?_
          rintro e W10 ⟨γ,rfl,hγ,k10⟩
          have hγf:γ=false:=by
           cases hg:γ with
           | false=>rfl
           | true=>exact absurd (hγ.1 hg) hmne
          subst hγf
          have K710:=hid (K79.out.trans k10)
          have B10:=hid (B9.out.keep k10 B9.out.1)
          have M10:=hid (M9.out.keep k10 (Nat.le_of_lt hg9))
          clear k10 hγ gx gl ox ol hmne
          have hb1:W10.cell? ⟨cx,1,none⟩=some (.int .i64 m.pl):=B10.out.2 1
          have hb2:W10.cell? ⟨cx,2,none⟩=some (.slice op m.on.length oc):=B10.out.2 2
          have hbx:cx<W10.heap.size:=B10.out.1
          have HS:=hid (show W10.cell? ⟨cx,1,none⟩=some (.int .i64 m.pl)/\W10.cell? ⟨cx,2,none⟩=some (.slice op m.on.length oc) from ⟨hb1,hb2⟩)
          have HSd:=hid (show W10.drew.cell? ⟨cx,1,none⟩=some (.int .i64 m.pl)/\W10.drew.cell? ⟨cx,2,none⟩=some (.slice op m.on.length oc) from ⟨hb1,hb2⟩)
          have hgW:g<W10.heap.size:=M10.out.lt
          clear hb1 hb2
          go_upto_region 36 with fail
          go_region_held3 (fun W'=>W'.cell? ⟨cx,1,none⟩=some (.int .i64 m.pl)/\W'.cell? ⟨cx,2,none⟩=some (.slice op m.on.length oc))
           (first | with_reducible exact HS.out | with_reducible exact HSd.out | with_reducible exact HS12.out | with_reducible exact HS13.out | go_keep)
           (first | (go_at_call 39;refine (HCK.out _ (aA.drew K710.out)).mono ?_;rintro e w12 ⟨rfl,k12⟩;have K12:=hid (show aA W10 w12 from cI k12);have HS12:=hid (show w12.cell? ⟨cx,1,none⟩=some (.int .i64 m.pl)/\w12.cell? ⟨cx,2,none⟩=some (.slice op m.on.length oc) from ⟨(K12.out.cell (p:=⟨cx,1,none⟩) hbx).trans HS.out.1,(K12.out.cell (p:=⟨cx,2,none⟩) hbx).trans HS.out.2⟩);have M12:=hid (M10.out.keep K12.out (Nat.le_of_lt hgW));obtain ⟨w13,hrun13,m13,gr13⟩:=M12.out.put Tryz.underlying79 hko.1 (cF (aV ps m).sl) hjl (Nat.le_refl g) (show MbV g w12 m (.agg #[.int .i64 m.pl,.slice op m.on.length oc]) from ⟨_,_,rfl,Y7.out.keep (B:=g) (fun _ h=>h) (Below.mono (K710.out.trans K12.out) (by have:=HSz.out;omega))⟩);have M13:=hid m13;have GR13:=hid gr13;have HS13:=hid (show w13.cell? ⟨cx,1,none⟩=some (.int .i64 m.pl)/\w13.cell? ⟨cx,2,none⟩=some (.slice op m.on.length oc) from ⟨(World.cell?_of_block (gr13.block cx (Nat.lt_of_lt_of_le hbx K12.out.size) (fun e=>by have:=Option.some.inj e;have:=HSz.out;omega))).trans HS12.out.1,(World.cell?_of_block (gr13.block cx (Nat.lt_of_lt_of_le hbx K12.out.size) (fun e=>by have:=Option.some.inj e;have:=HSz.out;omega))).trans HS12.out.2⟩);clear k12 m13 gr13))
          have KB13:=hid (show Below g W5 w13 from Below.trans KB7.out (Below.trans (Below.mono (K710.out.trans K12.out) (by have:=HSz.out;omega)) ⟨GR13.out.os,GR13.out.tape,GR13.out.output,GR13.out.size,fun c hc=>GR13.out.block c (by have:=K12.out.size;omega) (fun e=>by have:=Option.some.inj e;omega)⟩))
          have HSU:=hid (HSP.out.put (bI ps m) m)
          have HTK2:Hid (doA ps F0 (A.take (j+1))=upL (doA ps F0 (A.take j)) (bI ps m) (some m)):=HTK.out
          have HIN:Hid (∃ i,i<j+1/\(A.getD i AC.zero).out=false):=⟨j,Nat.lt_succ_self _,by rw [HXE.out]⟩
          clear hrun13 GR13 HS HSd HS12 HS13
          go_wp2_with fail
          go_roundg (A.length-(j+1))
          case rel=>exact ⟨j+1,true,_,by omega,by go_num,rfl,fun _=>HIN.out,KB13.out,by rw [HTK2.out];exact M13.out,by rw [HTK2.out];exact HSU.out⟩
          case measure=>omega
        ·obtain ⟨hfk,hcy⟩:=HST.out.1 rfl
         subst hcy
         have hβf:β=false:=by
          cases hb:β with
          | false=>rfl
          | true=>
           obtain ⟨i,hi,hio⟩:=HBE.out hb
           exact absurd hio (HFS.out i rfl hi)
         subst hβf
         have HFK:=hid hfk
         clear hfk
         go_wp2_with fail
         refine (HCK.out W7 (aA.refl _)).mono ?_
         rintro e W8 ⟨rfl,k8⟩
         have K78:=hid k8
         have M8:=hid (M7.out.keep k8 (by have:=HSz.out;omega))
         have hlk:=M8.out.lookOk Tryz.underlying79 hko.1 (cF (aV ps m).sl)
         rw [hkm,HFK.out] at hlk
         have hlk2 : ∃ p c,(Instr.lookup 79 (.map (some g)) (.agg #[.string (aV ps m).n,.string (slS (aV ps m).sl)]) true).run Tryz.prog W8=.ok (.tuple #[.agg #[.int .i64 m.pl,.slice p m.on.length c],.bool true]) W8/\aJ (fun b=>b<g) W8 m.on (.slice p m.on.length c):=by
          rcases hlk with ⟨h,-⟩ | ⟨m',h,p,c,h2,h3⟩
          ·cases h
          ·cases h;exact ⟨p,c,h2,h3⟩
         obtain ⟨op8,oc8,hrun8,hb8⟩:=hlk2
         have HB8:=hid hb8
         have B8:=hid (B7.out.keep k8 B7.out.1)
         clear k8 hlk gx gl hb8
         have gx:=B8.out.2
         have gl:=B8.out.1
         go_upto_region 29 with fail
         refine aY (fun W'=>aA W8 W'/\aF W8.heap.size #[.int .i64 m.pl,.slice op8 m.on.length oc8] W') ⟨aA.alloc _ _,aF.new _ _ _⟩ ?_
         rintro W9 ⟨k9,b9⟩
         have K79:=hid (K78.out.trans k9)
         have Bo9:=hid b9
         have B9:=hid (B8.out.keep k9 B8.out.1)
         have hg8:g<W8.heap.size:=M8.out.lt
         have Z9:=hid (HB8.out.keep (B:=g) (fun _ h=>h) (k9.mono (Nat.le_of_lt hg8)))
         have Y9:=hid (Y7.out.keep (B:=g) (fun _ h=>h) (Below.mono K79.out (by have:=HSz.out;omega)))
         have M9:=hid (M8.out.keep k9 (Nat.le_of_lt hg8))
         clear k9 b9 hrun8 gx gl
         generalize W8.heap.size=co at Bo9 ⊢
         have gx:=B9.out.2
         have gl:=B9.out.1
         have ox:=Bo9.out.2
         have ol:=Bo9.out.1
         have hg9:g<W9.heap.size:=M9.out.lt
         go_wp2_with fail
         refine (hN (fun c=>c<g) m m _ _ W9 (fun c hc=>by have:c<g:=hc;omega) Z9.out Y9.out).mono ?_
         rintro e W10 ⟨γ,rfl,hγ,k10⟩
         obtain rfl:γ=true:=hγ.2 rfl
         have K710:=hid (K79.out.trans k10)
         have B10:=hid (B9.out.keep k10 B9.out.1)
         have M10:=hid (M9.out.keep k10 (Nat.le_of_lt hg9))
         clear k10 hγ gx gl ox ol
         have gx:=B10.out.2
         have gl:=B10.out.1
         go_wp2_with fail
         refine (HCK.out W10 K710.out).mono ?_
         rintro e W11 ⟨rfl,k11⟩
         have M11:=hid (M10.out.keep k11 (Nat.le_of_lt M10.out.lt))
         have KB11:=hid (show Below g W5 W11 from Below.trans KB7.out ((K710.out.trans k11).mono (by have:=HSz.out;omega)))
         obtain ⟨w12,hrun12,m12,gr12⟩:=M11.out.del Tryz.underlying79 hko.1 (cF (aV ps m).sl) (Nat.le_refl g) (by rw [hkm,HFK.out];rfl) 0
         have hrunD : ∀ ty,(Builtin.delete_ #[79,69] ty #[.map (some g),.agg #[.string (aV ps m).n,.string (slS (aV ps m).sl)]]).run Tryz.prog W11=.ok (.tuple #[]) w12:=fun ty=>hrun12
         rw [hkm] at m12
         have M12:=hid m12
         have KB12:=hid (show Below g W5 w12 from Below.trans KB11.out ⟨gr12.os,gr12.tape,gr12.output,gr12.size,fun c hc=>gr12.block c (by have:=M11.out.lt;omega) (fun e=>by have:=Option.some.inj e;omega)⟩)
         have HSD:=hid (HSP.out.del (k:=bI ps m) (by rw [HFK.out];rfl))
         have HTK2:Hid (doA ps F0 (A.take (j+1))=upL (doA ps F0 (A.take j)) (bI ps m) none):=HTK.out
         clear k11 m12 gr12 hrun12 gx gl
         go_wp2_with fail
         go_roundg (A.length-(j+1))
         case rel=>exact ⟨j+1,false,sz-1,by omega,by go_num,rfl,fun h=>(by cases h),KB12.out,by rw [HTK2.out];exact M12.out.more (by omega),by rw [HTK2.out];exact HSD.out⟩
         case measure=>omega
       ·obtain rfl:j=A.length:=by omega
        have HMF:=hid (show eB g g (th.length+A.length) (doA ps F0 A) sz wr from by
         have h1:=HMM4.out
         rw [List.take_of_length_le (Nat.le_refl _)] at h1
         exact h1)
        obtain rfl:sz=ms.length:=HSIZE.out sz (by
         have h1:=HSP.out
         rw [List.take_of_length_le (Nat.le_refl _)] at h1
         exact h1)
        have hrunL : ∀ ty,(Builtin.len_ #[79] ty #[.map (some g)]).run Tryz.prog wr=.ok (.int .i64 ms.length) wr:=fun ty=>HMF.out.len Tryz.underlying79 ty
        clear HMM4 HSP HBE hlt HSTEP HTAKE HFST HPK HSIZE
        obtain ⟨W6,rfl⟩ : ∃ W6,W6=wr:=⟨_,rfl⟩
        go_wp2_with fail
        clear hrunL
        go_loopg [151] ms.length (fun gk iv wr=> ∃ j:Nat,j+gk=ms.length/\iv=.int .i64 j/\aA W6 wr)
        case atStart=>exact ⟨0,by omega,rfl,aA.refl _⟩
        case round=>
         obtain ⟨j,hj,rfl,hk⟩:=hrel
         have K6:=hid hk
         have KR6:=hid (KR4.out.trans hk)
         have KW6:=hid (KW4.out.trans hk)
         clear hk
         by_cases hlt:j<ms.length
         ·obtain ⟨mb,moff,mcap,hmv,hmS,-,hrow⟩:=(HM.out.keep hS KR6.out).get hlt
          cases hmv
          obtain ⟨op,oc,hc0,hc1,hol,hbl⟩:=hrow j _ (List.getElem?_eq_getElem hlt)
          obtain ⟨x0,x1,-⟩:=HOKM.out j _ (List.getElem?_eq_getElem hlt)
          have hko:=jT HCT.out x0 x1
          have HFK:=hid (HEND.out ms[j] (List.getElem_mem hlt))
          have hml:mb<wr.heap.size:=Nat.lt_of_lt_of_le (hS mb hmS) KR6.out.size
          have HBL:=hid hbl
          generalize ms[j]=m at hc0 hc1 hol x0 x1 hko HFK HBL
          have hkm:eE (aV ps m).n (slS (aV ps m).sl)=bI ps m:=rfl
          clear hrow hbl
          go_upto_region 43 with fail
          refine aY (fun W'=>aA wr W'/\aF wr.heap.size #[.int .i64 m.pl,.slice op m.on.length oc] W') ⟨aA.alloc _ _,aF.new _ _ _⟩ ?_
          rintro W7 ⟨k7,b7⟩
          have K67:=hid (K6.out.trans k7)
          have KR7:=hid (KR6.out.trans k7)
          have KW7:=hid (KW6.out.trans k7)
          have M7:=hid (HMF.out.keep K67.out (Nat.le_of_lt HMF.out.lt))
          have V7:=hid (V4.out.keep KW7.out V4.out.facts.2.2)
          have Y7:=hid (show aJ (fun c=>c<g) W7 m.on (.slice op m.on.length oc) from (HBL.out.keep (fun c hc=>Nat.lt_of_lt_of_le (hS c hc) KR6.out.size) k7).mono (fun _ _=>rfl) fun c hc=>Nat.lt_of_lt_of_le (Nat.lt_of_lt_of_le (hS c hc) K4.out.size) HG4.out)
          have B7:=hid b7
          clear k7 b7 hc0 hc1
          generalize wr.heap.size=cm at B7 ⊢
          have gx:=B7.out.2
          have gl:=B7.out.1
          go_wp2_with fail
          refine (gX S ps m op tp oc tc b W7 (fun c hc=>Nat.lt_of_lt_of_le (hS c hc) KR7.out.size) (HP.out.keep hS KR7.out) V7.out x0 x1 hko.2 hol).mono ?_
          rintro e W8 ⟨rfl,k8⟩
          have hg7:g<W7.heap.size:=M7.out.lt
          have K78:=hid k8
          have M8:=hid (M7.out.keep k8 (Nat.le_of_lt hg7))
          have hlk:=M8.out.lookOk Tryz.underlying79 hko.1 (cF (aV ps m).sl)
          rw [hkm,HFK.out] at hlk
          have hlk2 : ∃ p c,(Instr.lookup 79 (.map (some g)) (.agg #[.string (aV ps m).n,.string (slS (aV ps m).sl)]) true).run Tryz.prog W8=.ok (.tuple #[.agg #[.int .i64 m.pl,.slice p m.on.length c],.bool true]) W8/\aJ (fun b=>b<g) W8 m.on (.slice p m.on.length c):=by
           rcases hlk with ⟨h,-⟩ | ⟨m',h,p,c,h2,h3⟩
           ·cases h
           ·cases h;exact ⟨p,c,h2,h3⟩
          obtain ⟨op8,oc8,hrun8,hb8⟩:=hlk2
          have HB8:=hid hb8
          have B8:=hid (B7.out.keep k8 B7.out.1)
          clear k8 hlk gx gl hb8
          have gx:=B8.out.2
          have gl:=B8.out.1
          go_upto_region 44 with fail
          refine aY (fun W'=>aA W8 W'/\aF W8.heap.size #[.int .i64 m.pl,.slice op8 m.on.length oc8] W') ⟨aA.alloc _ _,aF.new _ _ _⟩ ?_
          rintro W9 ⟨k9,b9⟩
          have K79:=hid (K78.out.trans k9)
          have Bo9:=hid b9
          have B9:=hid (B8.out.keep k9 B8.out.1)
          have hg8:g<W8.heap.size:=M8.out.lt
          have Z9:=hid (HB8.out.keep (B:=g) (fun _ h=>h) (k9.mono (Nat.le_of_lt hg8)))
          have Y9:=hid (Y7.out.keep (B:=g) (fun _ h=>h) (Below.mono K79.out (Nat.le_of_lt hg7)))
          have hg9:g<W9.heap.size:=Nat.lt_of_lt_of_le hg8 k9.size
          clear k9 b9 hrun8 gx gl
          generalize W8.heap.size=co at Bo9 ⊢
          have gx:=B9.out.2
          have gl:=B9.out.1
          have ox:=Bo9.out.2
          have ol:=Bo9.out.1
          go_wp2_with fail
          refine (hN (fun c=>c<g) m m _ _ W9 (fun c hc=>by have:c<g:=hc;omega) Z9.out Y9.out).mono ?_
          rintro e W10 ⟨γ,rfl,hγ,k10⟩
          obtain rfl:γ=true:=hγ.2 rfl
          have K610:=hid (K67.out.trans (K79.out.trans k10))
          clear k10 hγ gx gl ox ol
          go_wp2_with fail
          go_roundg (ms.length-(j+1))
          case rel=>exact ⟨j+1,by omega,by go_num,K610.out⟩
          case measure=>omega
         ·go_wp2_with fail
          go_ret
          exact ⟨rfl,KR6.out⟩
end Go.Proofs.YtonlloiemgdfkaaGreatDoor
namespace Go.Proofs.YtonlloiemgdfkaaGreatDoor
open Go.RowKit
theorem jY {P:Program} {w:World} : ∀ {l:List (String × DataW Unit)} {ps:List MemPlace} {x:String × DataW Unit},DataW.LaidVars P w l ps->x∈l->∃ qs,DataW.LaidVars P w [x] qs/\qs.Sublist ps
 | [],_,_,_,hx=>by cases hx
 | (n,d) :: r,ps,x,h,hx=>by
  obtain ⟨g,t,cs,fuel,p,q,h1,h2,h3,h4,h5,rfl⟩:=h
  rcases List.mem_cons.1 hx with rfl | hx
  ·exact ⟨MemPlace.row ⟨g,0,none⟩ cs.size++p ++ [],⟨g,t,cs,fuel,p,[],h1,h2,h3,h4,rfl,rfl⟩,by rw [List.append_nil];exact List.sublist_append_left _ _⟩
  ·obtain ⟨qs,h6,h7⟩:=jY h5 hx
   exact ⟨qs,h6,h7.trans (List.sublist_append_right _ _)⟩
theorem gB {P:Program} {w:World} {l:List (String × DataW Unit)} {x:String × DataW Unit} (h:laidMet P l w) (hx:x∈l):laidMet P [x] w:=by
 obtain ⟨ps,h1,h2,h3⟩:=h
 obtain ⟨qs,h4,h5⟩:=jY h1 hx
 exact ⟨qs,h4,h5.nodup h2,fun b off hb=>h3 b off (h5.subset hb)⟩
theorem kA {w:World} {b o:Nat} {v:Value} (h:w.cell? ⟨b,o,none⟩=some v):b<w.heap.size:=by
 rcases Nat.lt_or_ge b w.heap.size with h' | h'
 ·exact h'
 ·simp [World.cell?,Array.getElem?_eq_none h'] at h
theorem zS : Tryz.prog.globalNamed "quartermaster/atom.signs" = some 8 := by kernel_rfl
theorem aDn:(Tryz.prog.globals[8]?).map (·.type)=some 351:=by kernel_rfl
theorem aEt:(Tryz.prog.globals[1]?).map (·.type)=some 307:=by kernel_rfl
theorem aEp:Tryz.prog.cellsOf 307=20:=by kernel_rfl
theorem aEq:Tryz.prog.cellsOf 277=1:=by kernel_rfl
theorem tY:Tryz.prog.cellsOf 9=1:=by kernel_rfl
theorem aDq:Tryz.prog.cellsOf 346=1:=by kernel_rfl
theorem aEf : Tryz.prog.globalNamed "strconv.ErrSyntax" = some 4 := by kernel_rfl
theorem aEv:(Tryz.prog.globals[4]?).map (·.type)=some 267:=by kernel_rfl
theorem aEe : Tryz.prog.globalNamed "strconv.ErrRange" = some 5 := by kernel_rfl
theorem aEu:(Tryz.prog.globals[5]?).map (·.type)=some 267:=by kernel_rfl
theorem aEl : "*" ++ "errors.errorString" = "*errors.errorString" := by decide
theorem aBa (u : TypeId) (h : Tryz.prog.typeName? 3 u = some "*errors.errorString") : u = 344 :=
 typeName_ptr_named (nm := "errors.errorString") (by rw [aEl]; kernel_rfl) (by kernel_rfl) (by decide) u (by rw [aEl]; exact h)
theorem aBd {W : World} (h : laidMet Tryz.prog [("quartermaster/atom.signs", Rows.laid_quartermaster_atom_signs)] W) : rW W := by
 obtain ⟨ps,⟨g,t,cs,fuel,p,q,hg,ht,hv,hd,_,_⟩,_⟩:=h
 obtain rfl:=Option.some.inj (zS.symm.trans hg)
 obtain rfl:=Option.some.inj (aDn.symm.trans ht)
 obtain ⟨xs,m,rfl,hx,hlen,hn,hel⟩:=DataW.trod_array Tryz.underlying351 hd
 simp only [Rows.laid_quartermaster_atom_signs,Prod.mk.injEq,DataW.agg.injEq] at hx
 match xs,hn,hx,hel with
 | [x0,x1,x2,x3],_,hx,hel=>
  have cell : ∀ (k:Nat) (x:DataW Unit × List MemPlace) (l:List UInt8),k<4->[x0,x1,x2,x3][k]? = some x->x.1=.lit (.string l)->W.cell? ⟨8,k,none⟩=some (.string ⟨l.toArray⟩):=by
   intro k x l hk hxk hl
   have h1:=hel k hk
   rw [hxk] at h1
   obtain ⟨s,e1,e2,_⟩:=DataW.trod_string Tryz.underlying9 h1
   rw [e2] at hl
   have hs:s.data.toList=l:=by simpa using hl
   have hs':s=⟨l.toArray⟩:=by cases s;simp at hs;rw [← hs]
   have h2:=World.var?_cell zS hv k
   rw [tY,Nat.mul_one] at e1
   have h3:cs[k]? = some (.string s):=by
    have:=congrArg (·[0]?) e1
    simpa [List.getElem?_take,List.getElem?_drop] using this
   rw [h2,h3,hs']
  simp only [List.map_cons,List.map_nil,List.cons.injEq,and_true] at hx
  have c1:=cell 1 x1 [61] (by decide) rfl hx.1.2.1.symm
  refine ⟨kA c1,c1,cell 2 x2 [62,61] (by decide) rfl hx.1.2.2.1.symm,cell 3 x3 [60] (by decide) rfl hx.1.2.2.2.symm⟩
theorem aCx {W : World} {l : List (String × DataW Unit)} (h : laidMet Tryz.prog l W) (h1 : ("quartermaster/atom.signs", Rows.laid_quartermaster_atom_signs) ∈ l) (h2 : ("internal/strconv.uint64pow10", Rows.laid_internal_strconv_uint64pow10) ∈ l)
  (h3 : ("strconv.ErrSyntax", Rows.laid_strconv_ErrSyntax) ∈ l) (h4 : ("strconv.ErrRange", Rows.laid_strconv_ErrRange) ∈ l) : Env W := by
 have tab : Lib.TabIs Tryz.prog W "internal/strconv.uint64pow10" .u64 Lib.pow10Tab := Lib.tabIs_of_head (rest := []) gD aEt Tryz.underlying307 Tryz.underlying277 aEq aEp (gB h h2)
 obtain ⟨a0,s0,hv0,-,-,-⟩:=laid_sentinel (gB h h3) aEf aEv Tryz.underlying267 aBa Tryz.underlying344 Tryz.underlying346 rfl rfl Tryz.underlying9 aDq tY
 obtain ⟨a1,s1,hv1,-,-,-⟩:=laid_sentinel (gB h h4) aEe aEu Tryz.underlying267 aBa Tryz.underlying344 Tryz.underlying346 rfl rfl Tryz.underlying9 aDq tY
 have c0:W.cell? ⟨4,0,none⟩=some (.iface 344 (.pointer (some a0))):=by simpa using World.var?_cell aEf hv0 0
 have c1:W.cell? ⟨5,0,none⟩=some (.iface 344 (.pointer (some a1))):=by simpa using World.var?_cell aEe hv1 0
 exact ⟨aBd (gB h h1),⟨kA (tab.cell gD 0 (by decide)),tab⟩,⟨kA c0,_,_,c0⟩,⟨kA c1,_,_,c1⟩⟩
end Go.Proofs.YtonlloiemgdfkaaGreatDoor
namespace Go.Proofs.YtonlloiemgdfkaaGreatDoor
open Go.ChangeShapes Go.WideShapes Go.ChangeAt Go.RowKit Go.Joins
theorem mT:Tryz.prog.cellsOf 48=6:=by kernel_rfl
theorem iY:Tryz.prog.cellsOf 3=1:=by kernel_rfl
theorem jP:Tryz.prog.cellsOf 4=1:=by kernel_rfl
end Go.Proofs.YtonlloiemgdfkaaGreatDoor
namespace Go.Proofs.YtonlloiemgdfkaaGreatDoor
open Go.ChangeShapes Go.WideShapes Go.ChangeAt Go.RowKit Go.Joins
theorem jQ:Tryz.prog.cellsOf 73=10:=by kernel_rfl
theorem mU:Tryz.prog.cellsOf 71=1:=by kernel_rfl
theorem aEj {α:Type} {cs:List α} (h:cs.length=6) : ∃ c0 c1 c2 c3 c4 c5,cs = [c0,c1,c2,c3,c4,c5]:=by
 match cs,h with
 | [c0,c1,c2,c3,c4,c5],_=>exact ⟨c0,c1,c2,c3,c4,c5,rfl⟩
theorem aDc {α:Type} {cs:List α} (h:cs.length=10) : ∃ c0 c1 c2 c3 c4 c5 c6 c7 c8 c9,cs = [c0,c1,c2,c3,c4,c5,c6,c7,c8,c9]:=by
 match cs,h with
 | [c0,c1,c2,c3,c4,c5,c6,c7,c8,c9],_=>exact ⟨c0,c1,c2,c3,c4,c5,c6,c7,c8,c9,rfl⟩
section
variable {H:Type} {enc:TypeId × Value->H} {w:World} {base:Nat} {sp:Nat->Bool} {held:Bool}
theorem yO {fuel:Nat} {cs:List Value} {x:DataW H × List MemPlace} (h:DataW.trod enc Tryz.prog w base sp held fuel 48 cs=some x) : ∃ a:At,cs = [.string a.n,.int .i64 a.op,.int .i64 a.v,.int .i64 a.sl,.string a.f,.bool a.on]:=by
 obtain ⟨xs,m,_,hx,hl,hlen,hel⟩:=DataW.trod_struct Tryz.underlying48 h
 obtain ⟨c0,c1,c2,c3,c4,c5,rfl⟩:=aEj (hl.trans mT)
 match xs,hlen with
 | [y0,y1,y2,y3,y4,y5],_=>
  obtain ⟨n,e0,g0,_⟩:=DataW.trod_string Tryz.underlying9 (by simpa using hel 0 _ rfl)
  obtain ⟨op,e1,g1,_⟩:=DataW.trod_int Tryz.underlying3 (by simpa using hel 1 _ rfl)
  obtain ⟨v,e2,g2,_⟩:=DataW.trod_int Tryz.underlying3 (by simpa using hel 2 _ rfl)
  obtain ⟨sl,e3,g3,_⟩:=DataW.trod_int Tryz.underlying3 (by simpa using hel 3 _ rfl)
  obtain ⟨f,e4,g4,_⟩:=DataW.trod_string Tryz.underlying9 (by simpa using hel 4 _ rfl)
  obtain ⟨on,e5,g5⟩:=DataW.trod_bool Tryz.underlying4 (by simpa using hel 5 _ rfl)
  refine ⟨⟨n,op,v,sl,f,on⟩,?_⟩
  simp [iY,jP,tY] at e0 e1 e2 e3 e4 e5
  rw [e0,e1,e2,e3,e4,e5]
theorem yP : ∀ (fuel:Nat) (cs:List Value) (x:DataW H × List MemPlace),DataW.trod enc Tryz.prog w base sp held fuel 73 cs=some x->∃ t:NT,aD (fun b=>b<w.heap.size) w t cs:=by
 intro fuel
 induction fuel using Nat.strongRecOn with
 | ind fuel ih=>
 intro cs x h
 obtain ⟨xs,m,hm,hx,hl,hlen,hel⟩:=DataW.trod_struct Tryz.underlying73 h
 obtain ⟨c0,c1,c2,c3,c4,c5,c6,c7,c8,c9,rfl⟩:=aDc (hl.trans jQ)
 match xs,hlen with
 | [y0,y1,y2,y3,y4],_=>
  obtain ⟨k,e0,-,-⟩:=DataW.trod_int Tryz.underlying3 (by simpa using hel 0 _ rfl)
  obtain ⟨a,e1⟩:=yO (by simpa using hel 1 _ rfl)
  obtain ⟨fl,e2,-,-⟩:=DataW.trod_string Tryz.underlying9 (by simpa using hel 2 _ rfl)
  obtain ⟨nt,e3,-⟩:=DataW.trod_bool Tryz.underlying4 (by simpa using hel 3 _ rfl)
  have hs:=DataW.trod_slice Tryz.underlying71 (show DataW.trod enc Tryz.prog w base sp held m 71 _=some y4 by simpa using hel 4 _ rfl)
  simp [iY,jP,tY,mT] at e0 e1 e2 e3
  obtain ⟨e10,e11,e12,e13,e14,e15⟩:=e1
  rcases hs with ⟨e4,-⟩ | ⟨ad,len,cap,elems,rest,mm,hmm,e4,-,-,hlc,hcm,hle,hcell,-,-⟩
  ·simp [mU] at e4
   refine ⟨.node k a fl nt [],?_⟩
   rw [aD]
   exact ⟨none,0,by rw [e0,e10,e11,e12,e13,e14,e15,e2,e3,e4];rfl,Nat.le_refl _,by simp,by rw [aT];trivial⟩
  ·simp [mU] at e4
   have key : ∀ (q i:Nat),i+q=len->∃ ts:List NT,ts.length=q/\aT (fun b=>b<w.heap.size) w ts (some ad) i:=by
    intro q
    induction q with
    | zero=>intro i _;exact ⟨[],rfl,by rw [aT];trivial⟩
    | succ q ihq=>
     intro i hi
     obtain ⟨ts,hts,hk⟩:=ihq (i+1) (by omega)
     have hci:=hcell i (by omega)
     rw [jQ,List.getElem?_eq_getElem (by omega)] at hci
     obtain ⟨csi,hc1,hc2⟩:=Option.bind_eq_some_iff.1 hci
     obtain ⟨t,ht⟩:=ih mm (by omega) csi _ hc2
     obtain ⟨hb1,hb2,hb3⟩:=World.cells?_some hc1
     have hblk:=World.cells?_block hc1 (by decide)
     refine ⟨t :: ts,by simp [hts],?_⟩
     rw [aT]
     refine ⟨⟨ad,csi,rfl,by rw [cT] at hblk;exact hblk,fun j v hv=> ?_,ht⟩,hk⟩
     have hj:j<10:=by rw [← hb2];exact (List.getElem?_eq_some_iff.1 hv).1
     rw [hb3 j hj];exact hv
   obtain ⟨ts,hts,hk⟩:=key len 0 (by omega)
   refine ⟨.node k a fl nt ts,?_⟩
   rw [aD]
   exact ⟨some ad,cap,by rw [e0,e10,e11,e12,e13,e14,e15,e2,e3,e4,hts],by omega,by unfold maxLen at hcm;omega,hk⟩
end
theorem aAf {w:World} (h:w.ShapedOpen Tryz.prog):fV w:=by
 obtain ⟨m,hm⟩:=cell_of_shapedOpen_int (g:=0) (t:=3) (zero:=#[.int .i64 0]) (k:= .i64) h (of_decide_eq_true (by kernel_rfl)) (by kernel_rfl) rfl (by kernel_rfl) (by kernel_rfl) Tryz.underlying3
 exact ⟨kA hm,m,hm⟩
theorem oY {H:Type} {enc:TypeId × Value->H} {a:Assume} {C:Checked} {os:Os} {f:FuncId} {fn:Func} {s:ChangeSpec} {conds:List PathCond} {apart fresh handsOn again:Bool} {X:World->Array Value->Prop}
  (hX : ∀ (w w':World) (args:Array Value),w.heap=w'.heap->X w args->X w' args)
  (own:ownKnob C.prog.godebug=none) (started:os.Started) (noInit:C.prog.inits.idxOf? f=none) (hfn:C.prog.funcs[f]? = some fn)
  (witness : ∃ (w:World) (tape:Tape) (i:Input),w.os=os/\(w.forCall tape i).Shaped C.prog/\i.vars = []/\Input.okWide C.prog (w.forCall tape i) .any w.heap.size f i/\
   ((s.pre enc C.prog fn conds apart (w.forCall tape i).memory i.args/\X (w.forCall tape i).memory i.args)/\sizedMet enc C.prog fn (OpenSpec.ofChange s) apart (w.forCall tape i).memory i.args)/\a.holds C.prog (lone (Frame.enter C.prog f i.args .normal) [] (w.forCall tape i)))
  (mX : ∀ (W:World) (base:Nat) (args:Array Value) (ds gs:List (DataW H)) (before:List MemPlace),
   (∀ (j:Nat) t v,fn.params[j]? = some t->args[j]? = some v->Value.okWide C.prog W .any base t v)->
   DataW.Whole enc C.prog fn.params.toList s.vars apart W args.toList ds gs before->
   X W args->W.ShapedOpen C.prog->
   Calls C.prog f args W fun e W'=> ∃ v,e=.returned v/\s.post enc C.prog fn apart fresh handsOn again W args v W') :
  ReturnsInHanded a C os f .any (fun w args=>(s.pre enc C.prog fn conds apart w args/\X w args)/\sizedMet enc C.prog fn (OpenSpec.ofChange s) apart w args) (s.post enc C.prog fn apart fresh handsOn again):=by
 refine returnsInHanded_of_calls own started noInit witness ?_
 intro w tape i _ hsh _ hok hpre _
 obtain ⟨_,_,_,fn',hfn',_,_,_,_,hval⟩:=hok
 obtain rfl:fn'=fn:=Option.some.inj (hfn'.symm.trans hfn)
 obtain ⟨⟨⟨ds,gs,before,hw,_⟩,hx⟩,_⟩:=hpre
 have hw':=DataW.Whole.of_heap (w':=w.forCall tape i) (by rfl) hw
 refine (mX (w.forCall tape i) w.heap.size i.args ds gs before hval hw' (hX _ _ _ (by rfl) hx) hsh).mono fun e W' ⟨v,he,hp⟩=> ?_
 subst he
 exact ChangeSpec.post_blind hp
end Go.Proofs.YtonlloiemgdfkaaGreatDoor
