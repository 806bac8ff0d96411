/- Steps of the proof: TreeSet, EqualInts, ResClosed, ResOnMem, ResNothing, AtomOpen, NeedOpen. -/
import Derived.Test.YtonlloiemgdfkaaGreatDoorRn10
import Derived.Test.YtonlloiemgdfkaaGreatDoorRn29
import Derived.Test.YtonlloiemgdfkaaGreatDoorRn09
import Derived.Shelf.Spec.SlicesGrow
import Derived.Laws.AppendOwnNone
import Derived.Sort.OwnSortedInts
import Derived.Test.YtonlloiemgdfkaaGreatDoorRn03
import Derived.Lib.LaidTab
import Derived.Stop.LaidErr
import Derived.OpenShut
import Derived.Lib.SmallJoins
import Derived.Deep.DeepWitnessRowRef
import Derived.LaidMore
import Derived.Stop.Joined
import Derived.ChangeOld
import Derived.Shelf.Vars
import Derived.HandedShaped
set_option maxHeartbeats 16000000
set_option maxRecDepth 100000
namespace Go.Proofs.YtonlloiemgdfkaaGreatDoor
open Go.RowKit
theorem oN {α:Type} {xs ys:List α} (hl:xs.length=ys.length) (h : ∀ i,i<xs.length->xs[i]? = ys[i]?):xs=ys:=by
 refine List.ext_getElem? fun i=> ?_
 by_cases hi:i<xs.length
 ·exact h i hi
 ·rw [List.getElem?_eq_none (by omega),List.getElem?_eq_none (by omega)]
theorem aGp (S:Nat->Prop) (xs ys:List Bool) (v1 v2:Value) (w:World) (hS : ∀ b,S b->b<w.heap.size) (h1:aZ S w xs v1) (h2:aZ S w ys v2) :
  Calls Tryz.prog 98 #[v1,v2] w fun e w'=> ∃ β:Bool,e=.returned (.bool β)/\(β=true↔xs=ys)/\aA w w':=by
 have H1:=hid h1
 have H2:=hid h2
 obtain ⟨p1,c1,rfl,hl1,-⟩:=h1
 obtain ⟨p2,c2,rfl,hl2,-⟩:=h2
 by_cases hl:xs.length=ys.length
 ·have HL:=hid hl
  have HW:Hid (aA w w):=aA.refl _
  rw [← hl]
  clear hl
  go_enter Tryz.func98,Tryz.ntmps98
  go_wp2_with fail
  go_loopg [13] xs.length (fun gk i wr=> ∃ j:Nat,j+gk=xs.length/\i=.int .i64 j/\(∀ i,i<j->xs[i]? = ys[i]?)/\aA w wr)
  case atStart=>exact ⟨0,by simp,rfl,fun i hi=>absurd hi (Nat.not_lt_zero _),HW.out⟩
  case round=>
   obtain ⟨j,hj,rfl,hal,hkp⟩:=hrel
   have HKP:=hid hkp
   have HAL:=hid hal
   clear hkp hal
   by_cases hlt:j<xs.length
   ·obtain ⟨q1,d1,hv1,-,hr1⟩:=H1.out.keep hS HKP.out
    obtain ⟨q2,d2,hv2,-,hr2⟩:=H2.out.keep hS HKP.out
    rw [← HL.out] at hv2 hr2
    cases hv1
    cases hv2
    obtain ⟨b1,o1,rfl,hb1,hc1⟩:=hr1 (by omega)
    obtain ⟨b2,o2,rfl,hb2,hc2⟩:=hr2 (by omega)
    have hlt2:j<ys.length:=by rw [← HL.out];exact hlt
    have e1:xs[j]? = some xs[j]:=List.getElem?_eq_getElem hlt
    have e2:ys[j]? = some ys[j]:=List.getElem?_eq_getElem hlt2
    have g1:=hc1 j _ e1
    have g2:=hc2 j _ e2
    have E1:=hid e1
    have E2:=hid e2
    clear hc1 hc2 hr1 hr2 e1 e2
    generalize xs[j]=x at g1 E1
    generalize ys[j]=y at g2 E2
    by_cases hxy:x=y
    ·subst hxy
     have HN:Hid (∀ i,i<j+1->xs[i]? = ys[i]?):=fun i hi=>by
      by_cases e:i=j
      ·subst e;rw [E1.out,E2.out]
      ·exact HAL.out i (by omega)
     go_wp2_with fail
     go_quiet (fail)
     go_wp2_with fail
     go_roundg (xs.length-(j+1))
     case rel=>exact ⟨j+1,by omega,by go_num,HN.out,aA.drewN HKP.out _⟩
     case measure=>omega
    ·have hxy1:(x==y)=false:=by simp [hxy]
     have hxy2:(x != y)=true:=by simp [hxy]
     have HF:Hid (¬ xs=ys):=fun e=>hxy (by have h1:=E1.out;rw [e,E2.out] at h1;exact (Option.some.inj h1).symm)
     clear hxy
     go_wp2_with fail
     go_quiet (fail)
     go_wp2_with fail
     go_ret
     exact ⟨false,rfl,⟨fun h=>Bool.noConfusion h,fun h=>absurd h HF.out⟩,aA.drewN HKP.out _⟩
   ·have HF:Hid (xs=ys):=oN HL.out fun i hi=>HAL.out i (by omega)
    go_wp2_with fail
    go_ret
    exact ⟨true,rfl,⟨fun _=>HF.out,fun _=>rfl⟩,HKP.out⟩
 ·have hz1:((xs.length:Int)==(ys.length:Int))=false:=beq_eq_false_iff_ne.2 fun e=>hl (by omega)
  have hz2:((xs.length:Int) != (ys.length:Int))=true:=bne_iff_ne.2 fun e=>hl (by omega)
  have HF:Hid (¬ xs=ys):=fun e=>hl (by rw [e])
  clear hl
  go_enter Tryz.func98,Tryz.ntmps98
  go_wp2_with fail
  go_ret
  exact ⟨false,rfl,⟨fun h=>Bool.noConfusion h,fun h=>absurd h HF.out⟩,aA.refl _⟩
theorem aEc (args:Array Value) (w:World):(callFunc 71 args).run Tryz.prog w=.ok (.enter 71 args) w:=enters_of Tryz.func71 (by kernel_rfl) rfl args w
theorem aFh (S:Nat->Prop) (x y:MB) (v1 v2:Value) (w:World) (hS : ∀ b,S b->b<w.heap.size) (h1:aZ S w x.on v1) (h2:aZ S w y.on v2) :
  Calls Tryz.prog 71 #[.agg #[.int .i64 x.pl,v1],.agg #[.int .i64 y.pl,v2]] w fun e w'=> ∃ β:Bool,e=.returned (.bool β)/\(β=true↔x=y)/\aA w w':=by
 have H1:=hid h1
 have H2:=hid h2
 obtain ⟨p1,c1,rfl,-,-⟩:=h1
 obtain ⟨p2,c2,rfl,-,-⟩:=h2
 rcases x with ⟨xp,xs⟩
 rcases y with ⟨yp,ys⟩
 simp only at H1 H2 ⊢
 by_cases hp:xp=yp
 ·subst hp
  go_enter Tryz.func71,Tryz.ntmps71
  go_wp2_with fail
  refine aX (fun W'=>aA w W') ((aA.alloc _ _).alloc' _) ?_
  intro W2 k2
  refine (aGp S xs ys _ _ W2 (fun b hb=>Nat.lt_of_lt_of_le (hS b hb) k2.size) (H1.out.keep hS k2) (H2.out.keep hS k2)).mono ?_
  rintro e w3 ⟨β,rfl,hβ,k3⟩
  have K3:=hid (k2.trans k3)
  have HB:=hid hβ
  clear k2 k3 hβ
  go_wp2_with fail
  go_ret
  exact ⟨β,rfl,⟨fun h=>by rw [HB.out.1 h],fun h=>HB.out.2 (by cases h;rfl)⟩,K3.out⟩
 ·have hz1:(xp==yp)=false:=by simp [hp]
  have HF:Hid (¬ (⟨xp,xs⟩:MB)=⟨yp,ys⟩):=fun e=>hp (by cases e;rfl)
  have HW:Hid (aA w ((w.alloc (.cells #[.int .i64 xp,.slice p1 xs.length c1] 68)).alloc (.cells #[.int .i64 yp,.slice p2 ys.length c2] 68))):=(aA.alloc _ _).alloc' _
  clear hp
  go_enter Tryz.func71,Tryz.ntmps71
  go_wp2_with fail
  go_ret
  exact ⟨false,rfl,⟨fun h=>Bool.noConfusion h,fun h=>absurd h HF.out⟩,HW.out⟩
theorem aBa (S:Nat->Prop) (xs ys:List MB) (v1 v2:Value) (w:World) (hS : ∀ b,S b->b<w.heap.size) (h1:bI S w xs v1) (h2:bI S w ys v2) :
  Calls Tryz.prog 69 #[v1,v2,.func (.func 71) #[] #[]] w fun e w'=> ∃ β:Bool,e=.returned (.bool β)/\(β=true↔xs=ys)/\aA w w':=by
 have H1:=hid h1
 have H2:=hid h2
 obtain ⟨p1,c1,rfl,⟨-,hl1⟩,-⟩:=h1
 obtain ⟨p2,c2,rfl,⟨-,hl2⟩,-⟩:=h2
 have hent:=aEc
 by_cases hl:xs.length=ys.length
 ·have HL:=hid hl
  have HW:Hid (aA w w):=aA.refl _
  rw [← hl]
  clear hl
  go_enter Tryz.func69,Tryz.ntmps69
  go_wp2_with fail
  go_loopg [17] xs.length (fun gk i wr=> ∃ j:Nat,j+gk=xs.length/\i=.int .i64 j/\(∀ i,i<j->xs[i]? = ys[i]?)/\aA w wr)
  case atStart=>exact ⟨0,by simp,rfl,fun i hi=>absurd hi (Nat.not_lt_zero _),HW.out⟩
  case round=>
   obtain ⟨j,hj,rfl,hal,hkp⟩:=hrel
   have HKP:=hid hkp
   have HAL:=hid hal
   clear hkp hal
   by_cases hlt:j<xs.length
   ·obtain ⟨q1,d1,hv1,-,hr1⟩:=H1.out.keep hS HKP.out
    obtain ⟨q2,d2,hv2,-,hr2⟩:=H2.out.keep hS HKP.out
    rw [← HL.out] at hv2 hr2
    cases hv1
    cases hv2
    obtain ⟨b1,o1,rfl,hb1,hc1⟩:=hr1 (by omega)
    obtain ⟨b2,o2,rfl,hb2,hc2⟩:=hr2 (by omega)
    have hlt2:j<ys.length:=by rw [← HL.out];exact hlt
    have e1:xs[j]? = some xs[j]:=List.getElem?_eq_getElem hlt
    have e2:ys[j]? = some ys[j]:=List.getElem?_eq_getElem hlt2
    obtain ⟨ov1,g1,g1',hbo1⟩:=hc1 j _ e1
    obtain ⟨ov2,g2,g2',hbo2⟩:=hc2 j _ e2
    have E1:=hid e1
    have E2:=hid e2
    have hb1':b1<wr.heap.size:=Nat.lt_of_lt_of_le (hS _ hb1) HKP.out.size
    have hb2':b2<wr.heap.size:=Nat.lt_of_lt_of_le (hS _ hb2) HKP.out.size
    generalize xs[j]=x at g1 E1 hbo1
    generalize ys[j]=y at g2 E2 hbo2
    have HO1:=hid hbo1
    have HO2:=hid hbo2
    obtain ⟨r1,s1,rfl,-,-⟩:=hbo1
    obtain ⟨r2,s2,rfl,-,-⟩:=hbo2
    clear hc1 hc2 hr1 hr2 e1 e2
    go_wp2_with fail
    refine aX (fun W'=>aA wr W') ((aA.alloc _ _).alloc' _) ?_
    intro W2 k2
    have hS2 : ∀ b,S b->b<wr.heap.size:=fun b hb=>Nat.lt_of_lt_of_le (hS b hb) HKP.out.size
    refine (aFh S x y _ _ W2 (fun b hb=>Nat.lt_of_lt_of_le (hS2 b hb) k2.size) (HO1.out.keep hS2 k2) (HO2.out.keep hS2 k2)).mono ?_
    rintro e w3 ⟨β,rfl,hβ,k3⟩
    have K3:=hid (HKP.out.trans (k2.trans k3))
    clear k2 k3 hS2 g1 g1' g2 g2'
    cases β
    ·have HF:Hid (¬ xs=ys):=fun e=>Bool.noConfusion (hβ.2 (by have h1:=E1.out;rw [e,E2.out] at h1;exact (Option.some.inj h1).symm))
     clear hβ
     go_wp2_with fail
     go_ret
     exact ⟨false,rfl,⟨fun h=>Bool.noConfusion h,fun h=>absurd h HF.out⟩,K3.out⟩
    ·have HN:Hid (∀ i,i<j+1->xs[i]? = ys[i]?):=fun i hi=>by
      by_cases e:i=j
      ·subst e;rw [E1.out,E2.out,hβ.1 rfl]
      ·exact HAL.out i (by omega)
     clear hβ
     go_wp2_with fail
     go_roundg (xs.length-(j+1))
     case rel=>exact ⟨j+1,by omega,by go_num,HN.out,K3.out⟩
     case measure=>omega
   ·have HF:Hid (xs=ys):=oN HL.out fun i hi=>HAL.out i (by omega)
    go_wp2_with fail
    go_ret
    exact ⟨true,rfl,⟨fun _=>HF.out,fun _=>rfl⟩,HKP.out⟩
 ·have hz1:((xs.length:Int)==(ys.length:Int))=false:=beq_eq_false_iff_ne.2 fun e=>hl (by omega)
  have hz2:((xs.length:Int) != (ys.length:Int))=true:=bne_iff_ne.2 fun e=>hl (by omega)
  have HF:Hid (¬ xs=ys):=fun e=>hl (by rw [e])
  clear hl
  go_enter Tryz.func69,Tryz.ntmps69
  go_wp2_with fail
  go_ret
  exact ⟨false,rfl,⟨fun h=>Bool.noConfusion h,fun h=>absurd h HF.out⟩,aA.refl _⟩
theorem zC (S:Nat->Prop) (xs ys:List MB) (v1 v2:Value) (w:World) (hS : ∀ b,S b->b<w.heap.size) (h1:bI S w xs v1) (h2:bI S w ys v2) :
  Calls Tryz.prog 25 #[v1,v2] w fun e w'=> ∃ β:Bool,e=.returned (.bool β)/\(β=true↔xs=ys)/\aA w w':=by
 have H1:=hid h1
 have H2:=hid h2
 clear h1 h2
 go_enter Tryz.func25,Tryz.ntmps25
 go_wp2_with fail
 refine (aBa S xs ys _ _ w hS H1.out H2.out).mono ?_
 rintro e w3 ⟨β,rfl,hβ,k3⟩
 have K3:=hid k3
 have HB:=hid hβ
 clear k3 hβ
 go_wp2_with fail
 go_ret
 exact ⟨β,rfl,HB.out,K3.out⟩
theorem aEb (args:Array Value) (w:World):(callFunc 40 args).run Tryz.prog w=.ok (.enter 40 args) w:=enters_of Tryz.func40 (by kernel_rfl) rfl args w
theorem aFg (S:Nat->Prop) (x y:MB) (v1 v2:Value) (w:World) (hS : ∀ b,S b->b<w.heap.size) (h1:aZ S w x.on v1) (h2:aZ S w y.on v2) :
  Calls Tryz.prog 40 #[.agg #[.int .i64 x.pl,v1],.agg #[.int .i64 y.pl,v2]] w fun e w'=> ∃ β:Bool,e=.returned (.bool β)/\(β=true↔x=y)/\aA w w':=by
 have H1:=hid h1
 have H2:=hid h2
 obtain ⟨p1,c1,rfl,-,-⟩:=h1
 obtain ⟨p2,c2,rfl,-,-⟩:=h2
 rcases x with ⟨xp,xs⟩
 rcases y with ⟨yp,ys⟩
 simp only at H1 H2 ⊢
 by_cases hp:xp=yp
 ·subst hp
  go_enter Tryz.func40,Tryz.ntmps40
  go_wp2_with fail
  refine aX (fun W'=>aA w W') ((aA.alloc _ _).alloc' _) ?_
  intro W2 k2
  refine (aGp S xs ys _ _ W2 (fun b hb=>Nat.lt_of_lt_of_le (hS b hb) k2.size) (H1.out.keep hS k2) (H2.out.keep hS k2)).mono ?_
  rintro e w3 ⟨β,rfl,hβ,k3⟩
  have K3:=hid (k2.trans k3)
  have HB:=hid hβ
  clear k2 k3 hβ
  go_wp2_with fail
  go_ret
  exact ⟨β,rfl,⟨fun h=>by rw [HB.out.1 h],fun h=>HB.out.2 (by cases h;rfl)⟩,K3.out⟩
 ·have hz1:(xp==yp)=false:=by simp [hp]
  have HF:Hid (¬ (⟨xp,xs⟩:MB)=⟨yp,ys⟩):=fun e=>hp (by cases e;rfl)
  have HW:Hid (aA w ((w.alloc (.cells #[.int .i64 xp,.slice p1 xs.length c1] 68)).alloc (.cells #[.int .i64 yp,.slice p2 ys.length c2] 68))):=(aA.alloc _ _).alloc' _
  clear hp
  go_enter Tryz.func40,Tryz.ntmps40
  go_wp2_with fail
  go_ret
  exact ⟨false,rfl,⟨fun h=>Bool.noConfusion h,fun h=>absurd h HF.out⟩,HW.out⟩
theorem aAz (S:Nat->Prop) (xs ys:List MB) (v1 v2:Value) (w:World) (hS : ∀ b,S b->b<w.heap.size) (h1:bI S w xs v1) (h2:bI S w ys v2) :
  Calls Tryz.prog 69 #[v1,v2,.func (.func 40) #[] #[]] w fun e w'=> ∃ β:Bool,e=.returned (.bool β)/\(β=true↔xs=ys)/\aA w w':=by
 have H1:=hid h1
 have H2:=hid h2
 obtain ⟨p1,c1,rfl,⟨-,hl1⟩,-⟩:=h1
 obtain ⟨p2,c2,rfl,⟨-,hl2⟩,-⟩:=h2
 have hent:=aEb
 by_cases hl:xs.length=ys.length
 ·have HL:=hid hl
  have HW:Hid (aA w w):=aA.refl _
  rw [← hl]
  clear hl
  go_enter Tryz.func69,Tryz.ntmps69
  go_wp2_with fail
  go_loopg [17] xs.length (fun gk i wr=> ∃ j:Nat,j+gk=xs.length/\i=.int .i64 j/\(∀ i,i<j->xs[i]? = ys[i]?)/\aA w wr)
  case atStart=>exact ⟨0,by simp,rfl,fun i hi=>absurd hi (Nat.not_lt_zero _),HW.out⟩
  case round=>
   obtain ⟨j,hj,rfl,hal,hkp⟩:=hrel
   have HKP:=hid hkp
   have HAL:=hid hal
   clear hkp hal
   by_cases hlt:j<xs.length
   ·obtain ⟨q1,d1,hv1,-,hr1⟩:=H1.out.keep hS HKP.out
    obtain ⟨q2,d2,hv2,-,hr2⟩:=H2.out.keep hS HKP.out
    rw [← HL.out] at hv2 hr2
    cases hv1
    cases hv2
    obtain ⟨b1,o1,rfl,hb1,hc1⟩:=hr1 (by omega)
    obtain ⟨b2,o2,rfl,hb2,hc2⟩:=hr2 (by omega)
    have hlt2:j<ys.length:=by rw [← HL.out];exact hlt
    have e1:xs[j]? = some xs[j]:=List.getElem?_eq_getElem hlt
    have e2:ys[j]? = some ys[j]:=List.getElem?_eq_getElem hlt2
    obtain ⟨ov1,g1,g1',hbo1⟩:=hc1 j _ e1
    obtain ⟨ov2,g2,g2',hbo2⟩:=hc2 j _ e2
    have E1:=hid e1
    have E2:=hid e2
    have hb1':b1<wr.heap.size:=Nat.lt_of_lt_of_le (hS _ hb1) HKP.out.size
    have hb2':b2<wr.heap.size:=Nat.lt_of_lt_of_le (hS _ hb2) HKP.out.size
    generalize xs[j]=x at g1 E1 hbo1
    generalize ys[j]=y at g2 E2 hbo2
    have HO1:=hid hbo1
    have HO2:=hid hbo2
    obtain ⟨r1,s1,rfl,-,-⟩:=hbo1
    obtain ⟨r2,s2,rfl,-,-⟩:=hbo2
    clear hc1 hc2 hr1 hr2 e1 e2
    go_wp2_with fail
    refine aX (fun W'=>aA wr W') ((aA.alloc _ _).alloc' _) ?_
    intro W2 k2
    have hS2 : ∀ b,S b->b<wr.heap.size:=fun b hb=>Nat.lt_of_lt_of_le (hS b hb) HKP.out.size
    refine (aFg S x y _ _ W2 (fun b hb=>Nat.lt_of_lt_of_le (hS2 b hb) k2.size) (HO1.out.keep hS2 k2) (HO2.out.keep hS2 k2)).mono ?_
    rintro e w3 ⟨β,rfl,hβ,k3⟩
    have K3:=hid (HKP.out.trans (k2.trans k3))
    clear k2 k3 hS2 g1 g1' g2 g2'
    cases β
    ·have HF:Hid (¬ xs=ys):=fun e=>Bool.noConfusion (hβ.2 (by have h1:=E1.out;rw [e,E2.out] at h1;exact (Option.some.inj h1).symm))
     clear hβ
     go_wp2_with fail
     go_ret
     exact ⟨false,rfl,⟨fun h=>Bool.noConfusion h,fun h=>absurd h HF.out⟩,K3.out⟩
    ·have HN:Hid (∀ i,i<j+1->xs[i]? = ys[i]?):=fun i hi=>by
      by_cases e:i=j
      ·subst e;rw [E1.out,E2.out,hβ.1 rfl]
      ·exact HAL.out i (by omega)
     clear hβ
     go_wp2_with fail
     go_roundg (xs.length-(j+1))
     case rel=>exact ⟨j+1,by omega,by go_num,HN.out,K3.out⟩
     case measure=>omega
   ·have HF:Hid (xs=ys):=oN HL.out fun i hi=>HAL.out i (by omega)
    go_wp2_with fail
    go_ret
    exact ⟨true,rfl,⟨fun _=>HF.out,fun _=>rfl⟩,HKP.out⟩
 ·have hz1:((xs.length:Int)==(ys.length:Int))=false:=beq_eq_false_iff_ne.2 fun e=>hl (by omega)
  have hz2:((xs.length:Int) != (ys.length:Int))=true:=bne_iff_ne.2 fun e=>hl (by omega)
  have HF:Hid (¬ xs=ys):=fun e=>hl (by rw [e])
  clear hl
  go_enter Tryz.func69,Tryz.ntmps69
  go_wp2_with fail
  go_ret
  exact ⟨false,rfl,⟨fun h=>Bool.noConfusion h,fun h=>absurd h HF.out⟩,aA.refl _⟩
theorem pZ (S:Nat->Prop) (xs ys:List MB) (v1 v2:Value) (w:World) (hS : ∀ b,S b->b<w.heap.size) (h1:bI S w xs v1) (h2:bI S w ys v2) :
  Calls Tryz.prog 20 #[v1,v2] w fun e w'=> ∃ β:Bool,e=.returned (.bool β)/\(β=true↔xs=ys)/\aA w w':=by
 have H1:=hid h1
 have H2:=hid h2
 clear h1 h2
 go_enter Tryz.func20,Tryz.ntmps20
 go_wp2_with fail
 refine (aAz S xs ys _ _ w hS H1.out H2.out).mono ?_
 rintro e w3 ⟨β,rfl,hβ,k3⟩
 have K3:=hid k3
 have HB:=hid hβ
 clear k3 hβ
 go_wp2_with fail
 go_ret
 exact ⟨β,rfl,HB.out,K3.out⟩
end Go.Proofs.YtonlloiemgdfkaaGreatDoor
namespace Go.Proofs.YtonlloiemgdfkaaGreatDoor
open Go.RowKit Go.Lib
theorem eY.get0 {v:Value} {zs:List Int} {w:World} (h:eY v zs w) (hn:0<zs.length) : ∃ g cap,v=.slice (some ⟨g,0,none⟩) zs.length cap/\g<w.heap.size/\(∀ j,j<zs.length->w.cell? ⟨g,0+j,none⟩=some (.int .i64 (zs.getD j 0))):=by
 rcases h with ⟨rfl,-⟩ | ⟨g,cap,h1,h2,h3⟩
 ·exact absurd hn (Nat.not_lt_zero _)
 ·refine ⟨g,cap,h1,h2,fun j hj=> ?_⟩
  rw [Nat.zero_add,List.getD_eq_getElem?_getD,List.getElem?_eq_getElem hj,Option.getD_some]
  exact h3 j _ (List.getElem?_eq_getElem hj)
theorem vT (v u:Value) (xs ys:List Int) (w:World) (h:eY v xs w) (h':eY u ys w) (hl:xs.length<=2000) (hl':ys.length<=2000) :
  Calls Tryz.prog 22 #[v,u] w fun e w'=>e=.returned (.bool (xs==ys))/\∃ q,w'=w.drewN q:=by
 obtain ⟨q,d,rfl⟩:=h'.len
 obtain ⟨p,c,rfl⟩:=h.len
 by_cases hne:xs.length=ys.length
 ·by_cases h0:xs = []
  ·subst h0
   have hy:ys = []:=List.length_eq_zero_iff.1 hne.symm
   subst hy
   refine (Tryz.slices_Equal_int_empty p q c 0 d w (by omega)).mono ?_
   rintro e w' ⟨rfl,rfl⟩
   exact ⟨rfl,0,rfl⟩
  ·have hp:=List.length_pos_iff.2 h0
   obtain ⟨g,cap,e1,-,hc⟩:=h.get0 hp
   obtain ⟨g',cap',e2,-,hc'⟩:=h'.get0 (by omega)
   cases e1
   cases e2
   refine (Tryz.slices_Equal_int g 0 xs.length c g' 0 ys.length d xs ys w (Nat.le_refl _) (Nat.le_refl _) (by omega) (by omega) hc hc').mono ?_
   rintro e w' ⟨rfl,q,rfl⟩
   exact ⟨aK (by rw [List.take_length,List.take_length]),q,rfl⟩
 ·refine (Tryz.slices_Equal_int_lens p q xs.length c ys.length d w hne).mono ?_
  rintro e w' ⟨rfl,rfl⟩
  refine ⟨aK ?_,0,rfl⟩
  symm
  exact beq_eq_false_iff_ne.2 fun e=>hne (by rw [e])
end Go.Proofs.YtonlloiemgdfkaaGreatDoor
namespace Go.Proofs.YtonlloiemgdfkaaGreatDoor
open Go.RowKit
theorem aQo {W:World} {n:Nat} (h:W.heap.size=n) (T:TypeId) (cs:Array Value):aD n T cs (W.alloc (.cells cs T)):=h ▸ aD.new W T cs
theorem jP {w:World} {b o:Nat} {x:Value} {p:Addr} (h:p.block≠b):(w.setCell ⟨b,o,none⟩ x).cell? p=w.cell? p:=World.cell?_of_block (gM w b o x p.block h)
theorem yD {b:Nat} {a:At} {W:World} (hb:aN b #[.string a.n,.int .i64 a.op,.int .i64 a.v,.int .i64 a.sl,.string a.f,.bool a.on] W):kK (inW W) W [a] (.slice (some ⟨b,0,none⟩) 1 1):=by
 refine ⟨_,_,rfl,by simp,fun _=>⟨b,0,rfl,hb.1,fun j x hx=> ?_⟩⟩
 match j,hx with
 | 0,hx=>cases hx;exact ⟨hb.2 0,hb.2 1,hb.2 2,hb.2 3,hb.2 4,hb.2 5⟩
theorem uG {c:Nat} {z:Int} {W:World} (hc:aN c #[.int .i64 z,.slice none 0 0] W):bI (inW W) W [⟨z,[]⟩] (.slice (some ⟨c,0,none⟩) 1 1):=by
 refine ⟨_,_,rfl,by simp,fun _=>⟨c,0,rfl,hc.1,fun j m hm=> ?_⟩⟩
 match j,hm with
 | 0,hm=>cases hm;exact ⟨_,hc.2 0,hc.2 1,none,0,rfl,by simp,fun h=>absurd h (by simp)⟩
theorem aHh {b c:Nat} {x:Bool} {z:Int} {W:World} (hb:aN b #[.int .i64 1,.slice (some ⟨c,0,none⟩) 1 1,.int .i64 z,.slice none 0 0] W) (hc:aN c #[.bool x] W):bI (inW W) W [⟨1,[x]⟩,⟨z,[]⟩] (.slice (some ⟨b,0,none⟩) 2 2):=by
 refine ⟨_,_,rfl,by simp,fun _=>⟨b,0,rfl,hb.1,fun j m hm=> ?_⟩⟩
 match j,hm with
 | 0,hm=>
  cases hm
  refine ⟨_,hb.2 0,hb.2 1,_,_,rfl,by simp,fun _=>⟨c,0,rfl,hc.1,fun j y hy=> ?_⟩⟩
  match j,hy with
  | 0,hy=>cases hy;exact hc.2 0
 | 1,hm=>cases hm;exact ⟨_,hb.2 2,hb.2 3,none,0,rfl,by simp,fun h=>absurd h (by simp)⟩
theorem aMw {b:Nat} {W:World} (hb:aN b #[.int .i64 0,.int .i64 2] W):aH (inW W) W [0,2] (.slice (some ⟨b,0,none⟩) 2 2):=by
 refine ⟨_,_,rfl,by simp,fun _=>⟨b,0,rfl,hb.1,fun j z hz=> ?_⟩⟩
 match j,hz with
 | 0,hz=>cases hz;exact hb.2 0
 | 1,hz=>cases hz;exact hb.2 1
theorem sQ (S:Nat->Prop) (w:World):jN S w [] (.slice none 0 0):=⟨_,_,rfl,by simp,fun h=>absurd h (by simp)⟩
theorem iG.best {ps:List PK} {wi:WI} {c:List Bool} {w w':World} {e:Ending} (h:iG ps wi 40000 w e w') (h0:bE ps wi=0) (hb:oF ps wi c):aA w w'/\∃ v,e=.returned (.tuple #[v,.slice none 0 0,.int .i64 0])/\bI (fun b=>w.heap.size<=b/\b<w'.heap.size) w' (bZ ps wi c) v:=by
 have he:=pX h0
 obtain ⟨k,h⟩:=h
 obtain ⟨g1,g2⟩:=aCn h0 he hb
 rcases h with ⟨h1,-⟩ | ⟨-,h2,-⟩ | ⟨-,-,h3,-⟩ | ⟨-,-,-,v,rfl,h5⟩
 ·exact absurd h0 h1
 ·exact absurd he h2
 ·exact absurd g1 h3
 ·exact ⟨k,v,rfl,g2 ▸ h5⟩
theorem iG.none {ps:List PK} {wi:WI} {w w':World} {e:Ending} (h:iG ps wi 40000 w e w') (h0:bE ps wi=0) (hn:nY ps wi):aA w w'/\(cK ps wi 40000).P ≠ []/\∃ pv,e=.returned (.tuple #[.slice none 0 0,pv,.int .i64 7])/\Cn.eC (fun b=>w.heap.size<=b/\b<w'.heap.size) w' (cK ps wi 40000).P pv:=by
 have he:=pX h0
 obtain ⟨k,h⟩:=h
 have g1:=aCo h0 he hn
 rcases h with ⟨h1,-⟩ | ⟨-,h2,-⟩ | ⟨-,-,h3,pv,rfl,h5⟩ | ⟨-,-,h3,-⟩
 ·exact absurd h0 h1
 ·exact absurd he h2
 ·exact ⟨k,h3,pv,rfl,h5⟩
 ·exact absurd h3 g1
theorem aSy:dZ bA (mkW (wX [0,2]) []) 40000=0/\mZ bA (wX [0,2]) 40000 0=0/\mZ bA (wX [0,2]) 40000 1=7/\(eJ bA (wX [0,2]) 40000 2).2 = [2]:=by
 have h1:mZ bA (wX [0,2]) 40000 0=0:=xG (wi:=wX [0]) (qK (.inr (.inl rfl))) (aDq (.inr rfl))
 have e1:=aDj h1
 have h2:mZ bA (wX [0,2]) 40000 1=7:=by
  unfold mZ
  rw [e1]
  exact aJw (wi:=wX [0,2]) (qK (.inr (.inr rfl))) aMv
 have e2:=aHw (j:=1) (by rw [h2];decide)
 refine ⟨xG (wi:=wX []) (qK (.inl rfl)) (aDq (.inl rfl)),h1,h2,?_⟩
 rw [e2,e1]
 rfl
theorem pY (w:World) (hE:Env w) (hM:kM w) :
  Calls Tryz.prog 18 #[] w fun e w'=>e=.returned (.bool true)/\aA w w':=by
 go_enter Tryz.func18,Tryz.ntmps18
 go_wp2_with fail
 refine (aFm w hE hM).mono ?_
 rintro e w1 ⟨v1,rfl,hp1,k1,hcap⟩
 obtain ⟨p1,c1,rfl,-⟩:=hp1.len
 have HP1:=hid (bC.mono (S':=inW w1) (fun _ _=>rfl) (fun b hb=>hb.2) hp1)
 have K1:=hid k1
 have HCAP:=hid hcap
 clear hp1 k1 hE hM hcap
 go_wp2_with fail
 refine aX (fun W'=>aA w1 W'/\aE w1.heap.size 24 (.slice p1 bA.length c1) W'/\aN (w1.heap.size+1) #[.string ⟨#[97]⟩,.int .i64 0,.int .i64 0,.int .i64 0,.string ⟨#[]⟩,.bool false] W'/\aN (w1.heap.size+1+1) #[.int .i64 3,.slice none 0 0] W'/\aD (w1.heap.size+1+1+1) 30 #[.slice (some ⟨w1.heap.size+1,0,none⟩) 1 1,.slice (some ⟨w1.heap.size+1+1,0,none⟩) 1 1,.slice none 0 0,.slice none 0 0] W')
  ⟨(((aA.alloc _ _).alloc' _).alloc' _).alloc' _,(aE.new _ _ _).keep (((aA.alloc _ _).alloc' _).alloc' _) (by simp),(kO (by simp) _ _).keep ((aA.alloc _ _).alloc' _) (by simp),(kO (by simp) _ _).keep (aA.alloc _ _) (by simp),aQo (by simp) _ _⟩ ?_
 rintro W2 ⟨k2,v2,b2,m2,x2⟩
 refine (fQ (inW W2) bA wR 40000 _ _ _ _ _ W2 (fun _ h=>h) (bC.mono (bF (fun _ h=>h) k2) (fun b hb=>Nat.lt_of_lt_of_le hb k2.size) HP1.out) ⟨yD (a:=atA) b2,uG m2,fY _ _,sQ _ _⟩ HCAP.out).mono ?_
 rintro e w3 h3
 obtain ⟨k3,a3,rfl,ha3⟩:=h3.best aQq aQn
 rw [aSv] at ha3
 have HB1:w1.heap.size+1+1+1<W2.heap.size:=x2.facts.2.2
 have K3:=hid (k2.trans k3)
 have V3:=hid (v2.keep k3 v2.facts.2.2)
 have M3:=hid (m2.keep k3 m2.1)
 have X3:=hid (x2.keep k3 x2.facts.2.2)
 have A3:=hid (ha3.mono (S':=fun c=>W2.heap.size<=c/\c<w3.heap.size) (fun _ _=>rfl) fun _ h=>h)
 have hs3:=k3.size
 clear k2 v2 b2 m2 x2 k3 ha3 h3
 generalize W2.heap.size=n2 at HB1 A3 hs3
 obtain ⟨ap3,ac3,rfl,-⟩:=A3.out.len
 obtain ⟨hcv,-,hlv⟩:=V3.out.facts
 obtain ⟨hcx,hfx,hlx⟩:=X3.out.facts
 have hx0:=hcx 0
 have hx1:=hcx 1
 have hx2:=hcx 2
 have hx3:=hcx 3
 have hf0:=hfx 0
 clear hcx hfx
 go_wp2_with fail
 refine aX (fun W'=>aA w1 W'/\aE w1.heap.size 24 (.slice p1 bA.length c1) W'/\aN w3.heap.size #[.string ⟨#[97]⟩,.int .i64 0,.int .i64 0,.int .i64 0,.string ⟨#[120]⟩,.bool true] W'/\aN (w1.heap.size+1+1) #[.int .i64 3,.slice none 0 0] W'/\aD (w1.heap.size+1+1+1) 30 #[.slice (some ⟨w3.heap.size,0,none⟩) 1 1,.slice (some ⟨w1.heap.size+1+1,0,none⟩) 1 1,.slice none 0 0,.slice none 0 0] W'/\bI (fun c=>n2<=c/\c<w3.heap.size) W' [⟨1,[false]⟩,⟨3,[]⟩] (.slice ap3 2 ac3))
  ⟨aA.alloc' (show aA w1 _ from Below.trans K3.out ((aM w3 (w1.heap.size+1+1+1) 0 _).mono (by omega))) _,(V3.out.keep (aM w3 (w1.heap.size+1+1+1) 0 _) (by omega)).keep (aA.alloc _ _) (by rw [cO];omega),kO (cO _ _ _ _) _ _,(M3.out.keep (aM w3 (w1.heap.size+1+1+1) 0 _) (by omega)).keep (aA.alloc _ _) (by rw [cO];omega),(X3.out.set 0 _).keep (aA.alloc _ _) (by rw [cO];omega),A3.out.mono (fun p hp=>((aA.alloc _ _).cell (p:=p) (by rw [cO];exact hp.2)).trans (jP (by omega))) fun _ h=>h⟩ ?_
 clear V3 M3 X3 A3 K3 hcv hlv hx0 hx1 hx2 hx3 hf0 hlx
 rintro W4 ⟨k4,v4,b4,m4,x4,a4⟩
 have hn4:w3.heap.size<=W4.heap.size:=Nat.le_of_lt b4.1
 refine (fQ (inW W4) bA (wX []) 40000 _ _ _ _ _ W4 (fun _ h=>h) (bC.mono (bF (fun _ h=>h) k4) (fun b hb=>Nat.lt_of_lt_of_le hb k4.size) HP1.out) ⟨yD (a:=aIe) b4,uG m4,fY _ _,sQ _ _⟩ HCAP.out).mono ?_
 rintro e w5 h5
 obtain ⟨k5,a5,rfl,ha5⟩:=h5.best (qK (.inl rfl)) (aDq (.inl rfl))
 rw [aSw] at ha5
 have K5:=hid (k4.trans k5)
 have V5:=hid (v4.keep k5 v4.facts.2.2)
 have B5:=hid (b4.keep k5 b4.1)
 have M5:=hid (m4.keep k5 m4.1)
 have X5:=hid (x4.keep k5 x4.facts.2.2)
 have A5:=hid (a4.mono (S':=fun c=>n2<=c/\c<w3.heap.size) (fun p hp=>k5.cell (p:=p) (Nat.lt_of_lt_of_le hp.2 hn4)) fun _ h=>h)
 have C5:=hid (ha5.mono (S':=fun c=>W4.heap.size<=c/\c<w5.heap.size) (fun _ _=>rfl) fun _ h=>h)
 have hs5:=k5.size
 have hb4:=b4.1
 clear k4 v4 b4 m4 x4 a4 k5 ha5 h5
 obtain ⟨ap5,ac5,rfl,-⟩:=C5.out.len
 obtain ⟨hcv,-,hlv⟩:=V5.out.facts
 obtain ⟨hcx,hfx,hlx⟩:=X5.out.facts
 have hx0:=hcx 0
 have hx1:=hcx 1
 have hx2:=hcx 2
 have hx3:=hcx 3
 have hf0:=hfx 2
 clear hcx hfx
 go_wp2_with fail
 refine aX (fun W'=>aA w1 W'/\aE w1.heap.size 24 (.slice p1 bA.length c1) W'/\aN w3.heap.size #[.string ⟨#[97]⟩,.int .i64 0,.int .i64 0,.int .i64 0,.string ⟨#[120]⟩,.bool true] W'/\aN (w1.heap.size+1+1) #[.int .i64 3,.slice none 0 0] W'/\aD (w1.heap.size+1+1+1) 30 #[.slice (some ⟨w3.heap.size,0,none⟩) 1 1,.slice (some ⟨w1.heap.size+1+1,0,none⟩) 1 1,.slice (some ⟨w5.heap.size,0,none⟩) 2 2,.slice none 0 0] W'/\bI (fun c=>n2<=c/\c<w3.heap.size) W' [⟨1,[false]⟩,⟨3,[]⟩] (.slice ap3 2 ac3)/\bI (fun c=>W4.heap.size<=c/\c<w5.heap.size) W' [⟨1,[true]⟩,⟨2,[]⟩] (.slice ap5 2 ac5)/\aN w5.heap.size #[.int .i64 0,.int .i64 2] W')
  ⟨aA.alloc' (show aA w1 _ from Below.trans K5.out ((aM w5 (w1.heap.size+1+1+1) 2 _).mono (by omega))) _,(V5.out.keep (aM w5 (w1.heap.size+1+1+1) 2 _) (by omega)).keep (aA.alloc _ _) (by rw [cO];omega),⟨by rw [aC,cO];omega,fun o=>((aA.alloc _ _).cell (p:=⟨w3.heap.size,o,none⟩) (by show w3.heap.size<_;rw [cO];omega)).trans ((jP (by show w3.heap.size≠_;omega)).trans (B5.out.2 o))⟩,(M5.out.keep (aM w5 (w1.heap.size+1+1+1) 2 _) (by omega)).keep (aA.alloc _ _) (by rw [cO];omega),(X5.out.set 2 _).keep (aA.alloc _ _) (by rw [cO];omega),A5.out.mono (fun p hp=>((aA.alloc _ _).cell (p:=p) (by rw [cO];omega)).trans (jP (by omega))) fun _ h=>h,C5.out.mono (fun p hp=>((aA.alloc _ _).cell (p:=p) (by rw [cO];exact hp.2)).trans (jP (by omega))) fun _ h=>h,kO (cO _ _ _ _) _ _⟩ ?_
 clear V5 M5 X5 A5 B5 C5 K5 hcv hlv hx0 hx1 hx2 hx3 hf0 hlx
 rintro W6 ⟨k6,v6,b6,m6,x6,a6,c6,z6⟩
 have hn6:w5.heap.size<=W6.heap.size:=Nat.le_of_lt z6.1
 have HW6:=hid (show eQ (inW W6) W6 (wX [0,2]) _ _ _ _ from ⟨yD (a:=aIe) b6,uG m6,aMw z6,sQ _ _⟩)
 have HP6:=hid (bC.mono (S':=inW W6) (bF (fun _ h=>h) k6) (fun b hb=>Nat.lt_of_lt_of_le hb k6.size) HP1.out)
 refine (fQ (inW W6) bA (wX [0,2]) 40000 _ _ _ _ _ W6 (fun _ h=>h) HP6.out HW6.out HCAP.out).mono ?_
 rintro e w7 h7
 obtain ⟨k7,hP7,p7,rfl,hp7⟩:=h7.none (qK (.inr (.inr rfl))) aMv
 obtain ⟨pp7,pc7,rfl,-⟩:=hp7.len
 obtain ⟨pl,hpl⟩ : ∃ pl:Nat,pl=(cK bA (wX [0,2]) 40000).P.length:=⟨_,rfl⟩
 have hpl1:(0:Int)<(pl:Int):=by have:=List.length_pos_iff.2 hP7;omega
 rw [← hpl]
 have K7:=hid (k6.trans k7)
 have V7:=hid (v6.keep k7 v6.facts.2.2)
 have X7:=hid (x6.keep k7 x6.facts.2.2)
 have A7:=hid (a6.mono (S':=inW w7) (fun p hp=>k7.cell (p:=p) (by omega)) fun c hc=>by have:=k7.size;show c<_;omega)
 have C7:=hid (c6.mono (S':=inW w7) (fun p hp=>k7.cell (p:=p) (by omega)) fun c hc=>by have:=k7.size;show c<_;omega)
 have HW7:=hid ((HW6.out.keep (fun _ h=>h) k7).mono (S':=inW w7) fun c hc=>Nat.lt_of_lt_of_le hc k7.size)
 have HP7:=hid ((HP6.out.keep (fun _ h=>h) k7).mono (S':=inW w7) (fun _ _=>rfl) fun c hc=>Nat.lt_of_lt_of_le hc k7.size)
 clear k6 v6 b6 m6 x6 a6 c6 z6 k7 h7 hp7 hP7 hpl HW6 HP6
 obtain ⟨hcv,-,hlv⟩:=V7.out.facts
 obtain ⟨hcx,-,hlx⟩:=X7.out.facts
 have hx0:=hcx 0
 have hx1:=hcx 1
 have hx2:=hcx 2
 have hx3:=hcx 3
 clear hcx
 go_wp2_with fail
 refine (aFw (inW w7) bA (wX [0,2]) 40000 _ _ _ _ _ w7 (fun _ h=>h) HP7.out HW7.out HCAP.out).mono ?_
 obtain ⟨hu0,hu1,hu2,hu3⟩:=aSy
 rintro e w8 ⟨k8,⟨h0,-⟩ | ⟨-,h0,-⟩ | ⟨-,-,j,hj,h1,h2,-⟩ | ⟨-,-,-,v8,rfl,h8,-⟩⟩
 ·exact absurd (qK (.inr (.inr rfl))) h0
 ·exact absurd hu0 h0
 ·match j,hj with
  | 0,_=>exact absurd hu1 h1
  | 1,_=>exact absurd hu2 h2
 rw [show (wX [0,2]).ma.length=2 from rfl,hu3] at h8
 have I8:=hid h8
 have K8:=hid (K1.out.trans (K7.out.trans k8))
 have A8:=hid ((A7.out.keep (fun _ h=>h) k8).mono (S':=inW w8) (fun _ _=>rfl) fun c hc=>Nat.lt_of_lt_of_le hc k8.size)
 have C8:=hid ((C7.out.keep (fun _ h=>h) k8).mono (S':=inW w8) (fun _ _=>rfl) fun c hc=>Nat.lt_of_lt_of_le hc k8.size)
 obtain ⟨up,uc,rfl⟩:=h8.len
 have hs8:=k8.size
 clear k8 h8 hcv hlv hx0 hx1 hx2 hx3 hlx V7 X7 A7 C7 HW7 HP7 hu0 hu1 hu2 hu3
 go_wp2_with fail
 refine aX (fun W'=>aA w8 W'/\bI (inW W') W' [⟨1,[false]⟩,⟨3,[]⟩] (.slice (some ⟨w8.heap.size+1,0,none⟩) 2 2)) ⟨(aA.alloc _ _).alloc' _,aHh (kO (by simp) _ _) ((aN.new _ _ _).keep (aA.alloc _ _) (by simp))⟩ ?_
 rintro W9 ⟨k9,m9⟩
 refine (pZ (inW W9) [⟨1,[false]⟩,⟨3,[]⟩] [⟨1,[false]⟩,⟨3,[]⟩] _ _ W9 (fun _ h=>h) ((A8.out.keep (fun _ h=>h) k9).mono (fun _ _=>rfl) fun c hc=>Nat.lt_of_lt_of_le hc k9.size) m9).mono ?_
 rintro e w10 ⟨β,rfl,hβ,k10⟩
 obtain rfl:β=true:=hβ.2 rfl
 have K10:=hid (k9.trans k10)
 have C10:=hid ((C8.out.keep (fun _ h=>h) K10.out).mono (S':=inW w10) (fun _ _=>rfl) fun c hc=>Nat.lt_of_lt_of_le hc K10.out.size)
 clear k9 m9 k10 hβ A8 C8
 go_wp2_with fail
 refine aX (fun W'=>aA w10 W'/\bI (inW W') W' [⟨1,[true]⟩,⟨2,[]⟩] (.slice (some ⟨w10.heap.size+1,0,none⟩) 2 2)) ⟨(aA.alloc _ _).alloc' _,aHh (kO (by simp) _ _) ((aN.new _ _ _).keep (aA.alloc _ _) (by simp))⟩ ?_
 rintro W11 ⟨k11,m11⟩
 refine (pZ (inW W11) [⟨1,[true]⟩,⟨2,[]⟩] [⟨1,[true]⟩,⟨2,[]⟩] _ _ W11 (fun _ h=>h) ((C10.out.keep (fun _ h=>h) k11).mono (fun _ _=>rfl) fun c hc=>Nat.lt_of_lt_of_le hc k11.size) m11).mono ?_
 rintro e w12 ⟨β,rfl,hβ,k12⟩
 obtain rfl:β=true:=hβ.2 rfl
 have K12:=hid (K10.out.trans (k11.trans k12))
 clear k11 m11 k12 hβ C10
 go_wp2_with fail
 refine aX (fun W'=>aA w12 W'/\eY (.slice (some ⟨w12.heap.size,0,none⟩) 1 1) [2] W') ⟨aA.alloc _ _,.inr ⟨_,1,rfl,by simp,fun j x hx=> ?_⟩⟩ ?_
 ·match j,hx with
  | 0,hx=>cases hx;exact (aN.new w12 #[.int .i64 2] _).2 0
 rintro W13 ⟨k13,i13⟩
 refine (vT _ _ [2] [2] W13 (I8.out.keep (K12.out.trans k13)) i13 (by decide) (by decide)).mono ?_
 rintro e w14 ⟨rfl,q,rfl⟩
 rw [show (([2]:List Int) == [2])=true by decide]
 have KF:=hid (((K8.out.trans K12.out).trans k13).trans ((aA.refl W13).drewN q))
 generalize W13.drewN q=w14 at KF ⊢
 clear k13 i13
 go_wp2_with fail
 go_ret
 exact ⟨rfl,KF.out⟩
theorem aRc:(Tryz.prog.info? 105).map (fun i=>(i.zero,i.size,i.bytes))=some (some (.agg #[.int .i64 0,.int .i64 0]),2,16):=by kernel_rfl
def prV (l:List (Int × Int)):List Value:=l.flatMap fun x=> [.int .i64 x.1,.int .i64 x.2]
def xY (B:Nat) (v:Value) (l:List (Int × Int)) (w:World):Prop:=w.ownsRow B 105 2 v l.length (prV l)
theorem aHn : ∀ {l:List (Int × Int)} {j:Nat} {x:Int × Int},l[j]? = some x->(prV l)[j*2]? = some (.int .i64 x.1)/\(prV l)[j*2+1]? = some (.int .i64 x.2)
 | [],j,x,h=>by cases h
 | a :: l,0,x,h=>by cases h;exact ⟨rfl,rfl⟩
 | a :: l,j+1,x,h=>by
  have:=aHn (l:=l) (j:=j) (x:=x) (by simpa using h)
  unfold prV at *
  rw [List.flatMap_cons,show (j+1)*2=j*2+1+1 by omega]
  exact this
theorem aJt {w:World} {x y:Value} {T:TypeId} (j:Nat) (u:Value) (h : [x,y][j]? = some u):(w.alloc (.cells #[x,y] T)).cell? ((⟨w.heap.size,0,none⟩:Addr).add j)=some u:=by
 have hb:=(aN.new w #[x,y] T).2
 rw [Addr.add_mid,Nat.zero_add,hb j]
 simpa using h
theorem aJs {x y:Int} (u:Value) (h:u ∈ [Value.int .i64 x,.int .i64 y]):u.oneCell'=true:=by
 rcases List.mem_cons.1 h with rfl | h
 ·rfl
 ·rw [List.mem_singleton.1 h];rfl
theorem xY.prs {B:Nat} {v:Value} {l:List (Int × Int)} {w:World} {S:Nat->Prop} (h:xY B v l w) (hS : ∀ g,B<=g->g<w.heap.size->S g) (hl:l.length<=1000):jN S w l v:=by
 obtain ⟨-,⟨rfl,hn⟩ | ⟨g,cap,cur,rfl,h1,h2,h3,h4,h5,h6⟩⟩:=h
 ·have:l = []:=List.length_eq_zero_iff.1 hn
  subst this
  exact ⟨_,_,rfl,by simp,fun h=>absurd h (by simp)⟩
 ·refine ⟨_,_,rfl,by omega,fun _=>⟨g,0,rfl,hS g h1 (Array.getElem?_eq_some_iff.1 h2).1,fun j x hx=> ?_⟩⟩
  have hj:=(List.getElem?_eq_some_iff.1 hx).1
  obtain ⟨a1,a2⟩:=aHn hx
  have hc : ∀ o u,o<l.length*2->(prV l)[o]? = some u->w.cell? ⟨g,0+o,none⟩=some u:=fun o u ho hu=>by
   rw [← h6,List.getElem?_take,if_pos ho] at hu
   have hu:cur[o]? = some u:=by simpa using hu
   rw [Nat.zero_add]
   simp [World.cell?,h2,hu]
  exact ⟨hc _ _ (by omega) a1,by rw [Nat.add_assoc];exact hc _ _ (by omega) a2⟩
theorem yV {ps:List PK} {ms:List MB} (hs:bU ps ms=0) : ∀ j,j<=ms.length->(onN ms j).length<=2*j
 | 0,_=>by simp [onN]
 | j+1,hj=>by
  have hjl:j<ms.length:=by omega
  rw [aCc hjl,List.length_append]
  have h1:=dR hs
  have h2:=h1.2.2.2.2.2 j ms[j] (List.getElem?_eq_getElem hjl)
  have h3:=h1.2.1 (cN ps ms[j]) (by unfold cN;rw [List.getD_eq_getElem?_getD,List.getElem?_eq_getElem (show ms[j].pl.toNat<ps.length by omega)];exact List.getElem_mem _)
  have h4:=h2.2.2
  have h5:(onK ms[j] ms[j].on.length).length<=ms[j].on.length:=by
   unfold onK
   refine Nat.le_trans (List.length_filterMap_le _ _) ?_
   simp
  have:=yV hs j (by omega)
  omega
theorem aRn {ps:List PK} {ms:List MB} (hs:bU ps ms=0) {i:Nat} (hi:i<ms.length):ms[i].on.length<=2:=by
 have h1:=dR hs
 have h2:=h1.2.2.2.2.2 i ms[i] (List.getElem?_eq_getElem hi)
 have h3:=h1.2.1 (cN ps ms[i]) (by unfold cN;rw [List.getD_eq_getElem?_getD,List.getElem?_eq_getElem (show ms[i].pl.toNat<ps.length by omega)];exact List.getElem_mem _)
 have h4:=h2.2.2
 omega
structure OnM (c:Nat) (tsv inv mav ov:Value) (l:List (Int × Int)) (W0 w:World):Prop where
 bx:aD c 30 #[tsv,inv,mav,ov] w
 own:xY (c+1) ov l w
 kp:Below c W0 w
theorem OnM.keep {c:Nat} {tsv inv mav ov:Value} {l:List (Int × Int)} {W0 w w':World} (h:OnM c tsv inv mav ov l W0 w) (k:aA w w'):OnM c tsv inv mav ov l W0 w':=
 ⟨h.bx.keep k h.bx.facts.2.2,bJ h.own k,h.kp.trans (k.mono (Nat.le_of_lt h.bx.facts.2.2))⟩
theorem OnM.push {c mb:Nat} {T:TypeId} {cs:Array Value} {tsv inv mav ov v':Value} {l:List (Int × Int)} {x y:Int} {W0 w w5:World} {o:Obj} (h:OnM c tsv inv mav ov l W0 w) (hm:aD mb T cs w) (hmc:c<mb) (hmo:ov.ownBlock≠some mb)
  (h5:w5.ownsRow (c+1) 105 2 v' (l.length+1) (prV l ++ [.int .i64 x,.int .i64 y])) (h6:(w.alloc o).grownBy w5 ov.ownBlock) (h9:v'.ownBlock=ov.ownBlock∨v'.ownBlock=some (w.heap.size+1)) :
  aD c 30 #[tsv,inv,mav,ov] w5/\OnM c tsv inv mav v' (l ++ [(x,y)]) W0 (w5.setCell ⟨c,3,none⟩ v')/\aD mb T cs (w5.setCell ⟨c,3,none⟩ v')/\v'.ownBlock≠some mb:=by
 have hcl:=h.bx.facts.2.2
 have hml:=hm.facts.2.2
 have hin : ∀ g,ov.ownBlock=some g->c+1<=g:=fun g hg=>(cQ h.own hg).1
 have hblk : ∀ g,g<w.heap.size->ov.ownBlock≠some g->w5.heap[g]? = w.heap[g]? :=fun g hg hn=>by
  rw [h6.block g (by rw [aC];omega) (fun e=>hn e.symm)]
  exact (aA.alloc w o).block g hg
 have b5:aD c 30 #[tsv,inv,mav,ov] w5:=by
  have:=h.bx
  unfold aD at *
  rw [hblk c hcl fun e=>by have:=hin c e;omega];exact this
 have m5:aD mb T cs w5:=by
  unfold aD at *
  rw [hblk mb hml hmo];exact hm
 refine ⟨b5,⟨?_,?_,?_⟩,?_,?_⟩
 ·have:=b5.set 3 v'
  simpa only [List.setIfInBounds_toArray,List.set_cons_zero,List.set_cons_succ] using this
 ·unfold xY
  rw [show prV (l ++ [(x,y)])=prV l ++ [.int .i64 x,.int .i64 y] by unfold prV;rw [List.flatMap_append];simp,List.length_append]
  obtain ⟨hl,hh⟩:=h5
  refine ⟨hl,?_⟩
  rcases hh with hh | ⟨g,cap,cur,rfl,e1,e2,e3⟩
  ·exact .inl hh
  ·exact .inr ⟨g,cap,cur,rfl,e1,by rw [gM _ _ _ _ g (by omega)];exact e2,e3⟩
 ·have k1:Below c w w5:=Below.grown ((Below.refl c w).alloc (by omega) _) h6 (by rw [aC];omega) fun g hg=>by have:=hin g hg;omega
  exact (h.kp.trans k1).trans (aM w5 c 3 v')
 ·unfold aD at *
  rw [gM _ _ _ _ mb (by omega)];exact m5
 ·intro e
  rcases h9 with h9 | h9
  ·exact hmo (h9 ▸ e)
  ·rw [h9] at e
   have:=Option.some.inj e
   omega
theorem aAj {ps:List PK} {wi:WI} {c:List Bool} (h:bE ps wi=0) (hb:oF ps wi c):dZ ps wi 40000=0/\nW ps wi 40000=bZ ps wi c:=by
 rcases xH ps wi with ⟨h0,-⟩ | ⟨-,h1,d,hd,h2⟩ | ⟨-,-,hn,-⟩
 ·exact absurd h h0
 ·exact ⟨h1,by rw [h2,hd.one hb]⟩
 ·exact (hb.some hn).elim
def wO:WI:=⟨[],[],[],[]⟩
theorem aLn {ps:List PK} (h:cV ps=0):bU ps []=0/\eK ps wO []=true:=by
 refine ⟨?_,rfl⟩
 unfold bU
 rw [if_neg (by simp [h])]
 rfl
theorem yS {ps:List PK} {ms:List MB} (h:hZ ps wO ms=0):bE ps wO=0/\bU ps ms=0/\(dZ ps wO 40000=0/\nW ps wO 40000 = [])/\dZ ps (cD wO ms) 40000=0/\(eK ps wO ms=true->nW ps (cD wO ms) 40000=ms):=by
 have hw:bE ps wO=0:=by unfold hZ at h;by_cases e:bE ps wO=0;exact e;rw [if_pos e] at h;exact h
 have hs:bU ps ms=0:=by unfold hZ at h;rw [if_neg (by simp [hw])] at h;exact h
 obtain ⟨e1,e2⟩:=aLn (dM hw).1
 have hk:=aMa hw hs
 refine ⟨hw,hs,?_,?_,fun hv=> ?_⟩
 ·obtain ⟨b1,b2⟩:=wS (wi:=wO) e1 e2
  obtain ⟨r1,r2⟩:=aAj (wi:=cD wO []) hw b1
  exact ⟨r1,r2.trans b2⟩
 ·rcases xH ps (cD wO ms) with ⟨h0,-⟩ | ⟨-,h1,-⟩ | ⟨-,-,hn,-⟩
  ·exact absurd hk h0
  ·exact h1
  ·have:=hn.not (gT (wi:=cD wO ms) hs) e1
   rw [show eK ps (cD wO ms) []=eK ps wO [] from rfl,e2] at this
   cases this
 ·obtain ⟨b1,b2⟩:=wS (wi:=wO) hs hv
  exact (aAj hk b1).2.trans b2
theorem sC (S:Nat->Prop) (ps:List PK) (ms:List MB) (pv lv:Value) (w:World) (hS : ∀ b,S b->b<w.heap.size) (hp:bC S w ps pv) (hm:bI S w ms lv) (hcap:kL pv) (hE:Env w) (hM:kM w) :
  Calls Tryz.prog 13 #[.agg #[pv],lv] w fun e w'=>e=.returned (.bool true)/\aA w w':=by
 obtain ⟨i0,hi,hz0,hz1,hz2⟩:=info_parts aRc
 have HP:=hid hp
 have HM:=hid hm
 have HE:=hid hE
 have HMX:=hid hM
 obtain ⟨lp,lc,rfl,-⟩:=hm.len
 have HW0:=hid (show ∀ W,eQ S W wO (.slice none 0 0) (.slice none 0 0) (.slice none 0 0) (.slice none 0 0) from fun W=>⟨⟨_,_,rfl,by simp [wO],fun h=>absurd h (by simp [wO])⟩,sP _ _,fY _ _,sQ _ _⟩)
 clear hp hm hE hM
 go_enter Tryz.func13,Tryz.ntmps13
 go_upto_region 1 with fail
 refine bK (fun W'=>aA w W'/\aE w.heap.size 24 pv W') ⟨aA.alloc _ _,aE.new _ _ _⟩ ?_
 rintro W1 ⟨k1,v1⟩
 have K1:=hid k1
 have V1:=hid v1
 generalize w.heap.size=b at V1 ⊢
 clear k1 v1
 have ht0:=V1.out.facts.1
 have htl:=V1.out.facts.2.2
 go_wp2_with fail
 refine (aKn S ps wO ms _ _ _ _ _ _ W1 (fun c hc=>Nat.lt_of_lt_of_le (hS c hc) K1.out.size) (HP.out.keep hS K1.out) (HW0.out W1) (HM.out.keep hS K1.out)).mono ?_
 rintro e W2 ⟨rfl,k2⟩
 have K2:=hid (K1.out.trans k2)
 have V2:=hid (V1.out.keep k2 V1.out.facts.2.2)
 clear ht0 htl V1 k2
 obtain ⟨ve,hve⟩ : ∃ ve,ve=hZ ps wO ms:=⟨_,rfl⟩
 have HVE:=hid hve
 obtain ⟨okv,hok⟩ : ∃ okv,okv=jI ps wO ms:=⟨_,rfl⟩
 have HOK:=hid hok
 rw [← hve,← hok]
 clear hve hok
 go_wp2_with fail
 refine (pY W2 (HE.out.keep K2.out) (HMX.out.keep K2.out)).mono ?_
 rintro e W3 ⟨rfl,k3⟩
 have K3:=hid (K2.out.trans k3)
 have V3:=hid (V2.out.keep k3 V2.out.facts.2.2)
 clear V2 k3
 by_cases hz:ve=0
 ·subst hz
  obtain ⟨hw,hs,⟨hr0,hl0⟩,hr1,hl1⟩:=yS HVE.out.symm
  have HWZ:=hid hw
  have HS:=hid hs
  have HR0:=hid hr0
  have HL0:=hid hl0
  have HR1:=hid hr1
  have HL1:=hid (show okv=true->nW ps (cD wO ms) 40000=ms from fun h=>hl1 (by
   rw [HOK.out] at h
   unfold jI at h
   rw [Bool.and_eq_true] at h
   exact h.2))
  have hlen8:=(dR hs).2.2.2.2.1
  clear hw hs hr0 hl0 hr1 hl1
  have ht0:=V3.out.facts.1
  have htl:=V3.out.facts.2.2
  go_wp2_with fail
  refine (fQ S ps wO 40000 _ _ _ _ _ W3 (fun c hc=>Nat.lt_of_lt_of_le (hS c hc) K3.out.size) (HP.out.keep hS K3.out) (HW0.out W3) hcap).mono ?_
  rintro e W4 h4
  obtain ⟨k4,l4,p4,rfl,hm4,-⟩:=h4.gen (by decide) (by decide)
  rw [HR0.out]
  rw [HL0.out] at hm4
  obtain ⟨lp4,lc4,rfl,-⟩:=hm4.len
  have K4:=hid (K3.out.trans k4)
  have V4:=hid (V3.out.keep k4 V3.out.facts.2.2)
  clear k4 h4 hm4 ht0 htl V3
  go_upto_region 8 with fail
  refine bK (fun W'=>OnM W4.heap.size (.slice none 0 0) (.slice lp ms.length lc) (.slice none 0 0) (.slice none 0 0) [] W4 W') ⟨aD.new _ _ _,World.ownsRow_nil _ _ _ _,aA.alloc _ _⟩ ?_
  intro W5 h5
  have O5:=hid h5
  obtain ⟨wb,hwb⟩ : ∃ wb,wb=W4.heap.size:=⟨_,rfl⟩
  have hwb1:W4.heap.size<=wb:=by omega
  have hwb2:w.heap.size<=wb:=by have:=K4.out.size;omega
  have hwb3:wb<=W4.heap.size:=by omega
  have hbw:b<wb:=by have:=V4.out.facts.2.2;omega
  rw [← hwb] at O5 ⊢
  clear hwb h5
  go_wp2_with fail
  go_loopg [48] ms.length (fun gk iv wr=> ∃ (i:Nat) (ov:Value),i+gk=ms.length/\iv=.int .i64 i/\OnM wb (.slice none 0 0) (.slice lp ms.length lc) (.slice none 0 0) ov (onN ms i) W4 wr)
  case atStart=>exact ⟨0,_,by omega,rfl,O5.out⟩
  case round=>
  obtain ⟨i,ov,hi',rfl,ho⟩:=hrel
  have O1:=hid ho
  clear ho
  have HKW:=hid (show aA w wr from Below.trans K4.out (O1.out.kp.mono hwb2))
  by_cases hlt:i<ms.length
  ·have hiI:(i:Int)<(ms.length:Int):=by omega
   obtain ⟨lb,lo,lc',hlv,hlS,-,hcells⟩:=HM.out.get hlt
   cases hlv
   obtain ⟨op,oc,hc0,hc1,hol,hbs⟩:=hcells i ms[i] (List.getElem?_eq_getElem hlt)
   have hc0':=(HKW.out.cell (p:=⟨lb,lo+i*2,none⟩) (hS lb hlS)).trans hc0
   have hc1':=(HKW.out.cell (p:=⟨lb,lo+i*2+1,none⟩) (hS lb hlS)).trans hc1
   have hlbl:lb<wr.heap.size:=Nat.lt_of_lt_of_le (hS lb hlS) HKW.out.size
   have HBS:=hid hbs
   have HN:=hid (aCc hlt)
   have hmo2:=aRn HS.out hlt
   have hacc:=yV HS.out i (by omega)
   clear hc0 hc1 hcells hbs
   generalize hmi:ms[i]=m at hc0' hc1' hol HBS HN hmo2
   clear hmi
   go_upto_region 11 with fail
   refine bK (fun W'=>OnM wb (.slice none 0 0) (.slice (some ⟨lb,lo,none⟩) ms.length lc) (.slice none 0 0) ov (onN ms i) W4 W'/\aD wr.heap.size 68 #[.int .i64 m.pl,.slice op m.on.length oc] W') ⟨O1.out.keep (aA.alloc _ _),aD.new _ _ _⟩ ?_
   rintro W6 ⟨o6,b6⟩
   have O6:=hid o6
   have M6:=hid b6
   have hwm:wb<wr.heap.size:=O1.out.bx.facts.2.2
   have hno:ov.ownBlock≠some wr.heap.size:=fun e=>by have:=(cQ O1.out.own e).2;omega
   obtain ⟨mb,hmb⟩ : ∃ mb,mb=wr.heap.size:=⟨_,rfl⟩
   rw [← hmb] at M6 hwm hno ⊢
   have hm1:W6.cell? ⟨mb,1,none⟩=some (.slice op m.on.length oc):=M6.out.facts.1 1
   have hml:=M6.out.facts.2.2
   clear o6 b6 hmb hc0' hc1' hlbl
   go_wp2_with fail
   clear hm1 hml
   obtain ⟨wo,rfl⟩ : ∃ wo:World,wo=wr:=⟨_,rfl⟩
   go_loopg [55] m.on.length (fun gk kv wr=> ∃ (k:Nat) (ou:Value),k+gk=m.on.length/\kv=.int .i64 k/\OnM wb (.slice none 0 0) (.slice (some ⟨lb,lo,none⟩) ms.length lc) (.slice none 0 0) ou (onN ms i++onK m k) W4 wr/\aD mb 68 #[.int .i64 m.pl,.slice op m.on.length oc] wr/\ou.ownBlock≠some mb)
   case atStart=>exact ⟨0,ov,by omega,rfl,by rw [show onK m 0 = [] from rfl,List.append_nil];exact O6.out,M6.out,hno⟩
   case round=>
   obtain ⟨k,ou,hk,rfl,ho,hb,hn⟩:=hrel
   have O7:=hid ho
   have M7:=hid hb
   clear ho hb
   have HKW7:=hid (show aA w wr from Below.trans K4.out (O7.out.kp.mono hwb2))
   by_cases hkl:k<m.on.length
   ·have hkI:(k:Int)<(m.on.length:Int):=by omega
    obtain ⟨p',c',hpe,-,hrow⟩:=HBS.out
    cases hpe
    obtain ⟨fb,fo,hfp,hfS,hfc⟩:=hrow (by omega)
    subst hfp
    have hcx:=(HKW7.out.cell (p:=⟨fb,fo+k,none⟩) (hS fb hfS)).trans (hfc k m.on[k] (List.getElem?_eq_getElem hkl))
    have hfl:fb<wr.heap.size:=Nat.lt_of_lt_of_le (hS fb hfS) HKW7.out.size
    have hgd:m.on.getD k false=m.on[k]:=by rw [List.getD_eq_getElem?_getD,List.getElem?_eq_getElem hkl];rfl
    clear hfc hrow
    cases hbk:m.on[k]
    ·rw [hbk] at hcx hgd
     have HKN:=hid (show onK m (k+1)=onK m k by rw [uO,hgd];simp)
     clear hgd hbk
     go_wp2_with fail
     go_roundg (m.on.length-(k+1))
     case rel=>exact ⟨k+1,ou,by omega,by go_num,by rw [HKN.out];exact O7.out,M7.out,hn⟩
     case measure=>omega
    ·rw [hbk] at hcx hgd
     have HKN:=hid (show onN ms i++onK m (k+1)=(onN ms i++onK m k) ++ [(m.pl,(k:Int))] by rw [uO,hgd];simp)
     have hal:(onN ms i++onK m k).length<=100:=by
      rw [List.length_append]
      have h5:(onK m k).length<=k:=by
       unfold onK
       refine Nat.le_trans (List.length_filterMap_le _ _) ?_
       simp
      omega
     have hw3:wr.cell? ⟨wb,3,none⟩=some ou:=O7.out.bx.facts.1 3
     have hwl:=O7.out.bx.facts.2.2
     have hm0:wr.cell? ⟨mb,0,none⟩=some (.int .i64 m.pl):=M7.out.facts.1 0
     have hml:=M7.out.facts.2.2
     clear hgd hbk
     generalize onN ms i++onK m k=acc at O7 HKN hal
     go_wp2_with (at_builtin;refine wpList_append_own_at _ rfl _ _ 28 rfl (wb+1) 105 i0 (.agg #[.int .i64 0,.int .i64 0]) 2 16 Tryz.underlying28 hi hz0 hz1 hz2 rfl (by decide) ou acc.length (prV acc) rfl (World.ownsRow.alloc O7.out.own _) ⟨wr.heap.size,0,none⟩ 1 1 [.int .i64 m.pl,.int .i64 k] rfl rfl aJt aJs (by unfold maxLen;omega) (by omega) (by have:=aC wr (.cells #[.int .i64 m.pl,.int .i64 k] 105);omega) ?_)
     intro v8 w8 h5 h6 _ h9
     obtain ⟨b8,o8,m8,n8⟩:=OnM.push O7.out M7.out hwm hn h5 h6 (by
      rcases h9 with h9 | h9
      ·exact .inl h9
      ·exact .inr (by rw [h9];try rw [aC]))
     obtain ⟨g8,c8,rfl⟩:=aW h5 (Nat.succ_pos _)
     have O8:=hid o8
     have M8:=hid m8
     have hc3:w8.cell? ⟨wb,3,none⟩=some ou:=b8.facts.1 3
     have hf3:=b8.facts.2.1 3
     have hl3:=b8.facts.2.2
     clear h5 h6 h9 b8 o8 m8 hw3 hwl hm0 hml
     go_wp2_with fail
     generalize w8.setCell ⟨wb,3,none⟩ (.slice (some ⟨g8,0,none⟩) (acc.length+1) c8)=W9 at O8 M8 ⊢
     clear hc3 hf3 hl3
     go_roundg (m.on.length-(k+1))
     case rel=>exact ⟨k+1,_,by omega,by go_num,by rw [HKN.out];exact O8.out,M8.out,n8⟩
     case measure=>omega
   ·have hkn : ¬ ((k:Int)<(m.on.length:Int)):=by omega
    have hke:k=m.on.length:=by omega
    have O9:=hid (show OnM wb (.slice none 0 0) (.slice (some ⟨lb,lo,none⟩) ms.length lc) (.slice none 0 0) ou (onN ms (i+1)) W4 wr by rw [HN.out,← hke];exact O7.out)
    clear hke
    go_wp2_with fail
    go_roundg (ms.length-(i+1))
    case rel=>exact ⟨i+1,_,by omega,by go_num,O9.out⟩
    case measure=>omega
  ·have hnl : ¬ ((i:Int)<(ms.length:Int)):=by omega
   have hie:i=ms.length:=by omega
   have O2:=hid (show OnM wb (.slice none 0 0) (.slice lp ms.length lc) (.slice none 0 0) ov (oP ms) W4 wr by have:=O1.out;rw [hie] at this;exact this)
   clear hie
   have ht0:wr.cell? ⟨b,0,none⟩=some pv:=(O2.out.kp.cell (p:=⟨b,0,none⟩) hbw).trans V4.out.facts.1
   have htl:b<wr.heap.size:=by have:=O2.out.bx.facts.2.2;omega
   have hw0:wr.cell? ⟨wb,0,none⟩=some (.slice none 0 0):=O2.out.bx.facts.1 0
   have hw1:wr.cell? ⟨wb,1,none⟩=some (.slice lp ms.length lc):=O2.out.bx.facts.1 1
   have hw2:wr.cell? ⟨wb,2,none⟩=some (.slice none 0 0):=O2.out.bx.facts.1 2
   have hw3:wr.cell? ⟨wb,3,none⟩=some ov:=O2.out.bx.facts.1 3
   have hwl:=O2.out.bx.facts.2.2
   have hon:(oP ms).length<=1000:=by have:=yV HS.out ms.length (Nat.le_refl _);unfold oP;omega
   go_wp2_with fail
   refine (fQ (fun c=>c<wr.heap.size) ps (cD wO ms) 40000 _ _ _ _ _ wr (fun _ h=>h) ((HP.out.keep hS HKW.out).mono (fun _ _=>rfl) fun c hc=>Nat.lt_of_lt_of_le (hS c hc) HKW.out.size) ⟨⟨_,_,rfl,by simp [cD,wO],fun h=>absurd h (by simp [cD,wO])⟩,(HM.out.keep hS HKW.out).mono (fun _ _=>rfl) fun c hc=>Nat.lt_of_lt_of_le (hS c hc) HKW.out.size,fY _ _,O2.out.own.prs (fun g _ h=>h) hon⟩ hcap).mono ?_
   rintro e W9 h9
   obtain ⟨k9,l9,p9,rfl,hm9,-⟩:=h9.gen (by decide) (by decide)
   rw [HR1.out]
   obtain ⟨lp9,lc9,rfl,-⟩:=hm9.len
   have M9:=hid hm9
   have K9:=hid (HKW.out.trans k9)
   clear k9 h9 hm9 ht0 htl hw0 hw1 hw2 hw3 hwl
   cases okv
   ·go_wp2_with fail
    go_ret
    exact ⟨rfl,K9.out⟩
   ·go_wp2_with fail
    refine (zC (fun c=>c<W9.heap.size) (nW ps (cD wO ms) 40000) ms _ _ W9 (fun _ h=>h) (M9.out.mono (fun _ _=>rfl) fun c hc=>hc.2) ((HM.out.keep hS K9.out).mono (fun _ _=>rfl) fun c hc=>Nat.lt_of_lt_of_le (hS c hc) K9.out.size)).mono ?_
    rintro e W10 ⟨γ,rfl,hγ,k10⟩
    obtain rfl:γ=true:=hγ.2 (HL1.out trivial)
    have K10:=hid (K9.out.trans k10)
    clear k10 hγ
    go_wp2_with fail
    go_ret
    exact ⟨rfl,K10.out⟩
 ·have ha1:(ve==0)=false:=by simpa using hz
  have ha2:(ve != 0)=true:=by simp [bne,ha1]
  clear hz
  go_wp2_with fail
  refine (pY W3 (HE.out.keep K3.out) (HMX.out.keep K3.out)).mono ?_
  rintro e W4 ⟨rfl,k4⟩
  have K4:=hid (K3.out.trans k4)
  clear k4
  go_wp2_with fail
  go_ret
  exact ⟨rfl,K4.out⟩
end Go.Proofs.YtonlloiemgdfkaaGreatDoor
namespace Go.Proofs.YtonlloiemgdfkaaGreatDoor
open Go.RowKit
theorem oW {P:Program} {w:World} : ∀ {l:List (String × DataW Unit)} {ps:List MemPlace} {x:String × DataW Unit},DataW.LaidVars P w l ps->x∈l->∃ qs,DataW.LaidVars P w [x] qs/\qs.Sublist ps
 | [],_,_,_,hx=>by cases hx
 | (n,d) :: r,ps,x,h,hx=>by
  obtain ⟨g,t,cs,fuel,p,q,h1,h2,h3,h4,h5,rfl⟩:=h
  rcases List.mem_cons.1 hx with rfl | hx
  ·exact ⟨MemPlace.row ⟨g,0,none⟩ cs.size++p ++ [],⟨g,t,cs,fuel,p,[],h1,h2,h3,h4,rfl,rfl⟩,by rw [List.append_nil];exact List.sublist_append_left _ _⟩
  ·obtain ⟨qs,h6,h7⟩:=oW h5 hx
   exact ⟨qs,h6,h7.trans (List.sublist_append_right _ _)⟩
theorem jW {P:Program} {w:World} {l:List (String × DataW Unit)} {x:String × DataW Unit} (h:laidMet P l w) (hx:x∈l):laidMet P [x] w:=by
 obtain ⟨ps,h1,h2,h3⟩:=h
 obtain ⟨qs,h4,h5⟩:=oW h1 hx
 exact ⟨qs,h4,h5.nodup h2,fun b off hb=>h3 b off (h5.subset hb)⟩
theorem pB {w:World} {b o:Nat} {v:Value} (h:w.cell? ⟨b,o,none⟩=some v):b<w.heap.size:=by
 rcases Nat.lt_or_ge b w.heap.size with h' | h'
 ·exact h'
 ·simp [World.cell?,Array.getElem?_eq_none h'] at h
theorem aLu : Tryz.prog.globalNamed "quartermaster/atom.signs" = some 8 := by kernel_rfl
theorem aRt:(Tryz.prog.globals[8]?).map (·.type)=some 351:=by kernel_rfl
theorem aTd:(Tryz.prog.globals[1]?).map (·.type)=some 307:=by kernel_rfl
theorem aTa:Tryz.prog.cellsOf 307=20:=by kernel_rfl
theorem aTb:Tryz.prog.cellsOf 277=1:=by kernel_rfl
theorem aDs:Tryz.prog.cellsOf 9=1:=by kernel_rfl
theorem aRz:Tryz.prog.cellsOf 346=1:=by kernel_rfl
theorem aSo : Tryz.prog.globalNamed "strconv.ErrSyntax" = some 4 := by kernel_rfl
theorem aTf:(Tryz.prog.globals[4]?).map (·.type)=some 267:=by kernel_rfl
theorem aSn : Tryz.prog.globalNamed "strconv.ErrRange" = some 5 := by kernel_rfl
theorem aTe:(Tryz.prog.globals[5]?).map (·.type)=some 267:=by kernel_rfl
theorem aSx : "*" ++ "errors.errorString" = "*errors.errorString" := by decide
theorem aNh (u : TypeId) (h : Tryz.prog.typeName? 3 u = some "*errors.errorString") : u = 344 :=
 typeName_ptr_named (nm := "errors.errorString") (by rw [aSx]; kernel_rfl) (by kernel_rfl) (by decide) u (by rw [aSx]; exact h)
theorem aNn {W : World} (h : laidMet Tryz.prog [("quartermaster/atom.signs", Rows.laid_quartermaster_atom_signs)] W) : zY W := by
 obtain ⟨ps,⟨g,t,cs,fuel,p,q,hg,ht,hv,hd,_,_⟩,_⟩:=h
 obtain rfl:=Option.some.inj (aLu.symm.trans hg)
 obtain rfl:=Option.some.inj (aRt.symm.trans ht)
 obtain ⟨xs,m,rfl,hx,hlen,hn,hel⟩:=DataW.trod_array Tryz.underlying351 hd
 simp only [Rows.laid_quartermaster_atom_signs,Prod.mk.injEq,DataW.agg.injEq] at hx
 match xs,hn,hx,hel with
 | [x0,x1,x2,x3],_,hx,hel=>
  have cell : ∀ (k:Nat) (x:DataW Unit × List MemPlace) (l:List UInt8),k<4->[x0,x1,x2,x3][k]? = some x->x.1=.lit (.string l)->W.cell? ⟨8,k,none⟩=some (.string ⟨l.toArray⟩):=by
   intro k x l hk hxk hl
   have h1:=hel k hk
   rw [hxk] at h1
   obtain ⟨s,e1,e2,_⟩:=DataW.trod_string Tryz.underlying9 h1
   rw [e2] at hl
   have hs:s.data.toList=l:=by simpa using hl
   have hs':s=⟨l.toArray⟩:=by cases s;simp at hs;rw [← hs]
   have h2:=World.var?_cell aLu hv k
   rw [aDs,Nat.mul_one] at e1
   have h3:cs[k]? = some (.string s):=by
    have:=congrArg (·[0]?) e1
    simpa [List.getElem?_take,List.getElem?_drop] using this
   rw [h2,h3,hs']
  simp only [List.map_cons,List.map_nil,List.cons.injEq,and_true] at hx
  have c1:=cell 1 x1 [61] (by decide) rfl hx.1.2.1.symm
  refine ⟨pB c1,c1,cell 2 x2 [62,61] (by decide) rfl hx.1.2.2.1.symm,cell 3 x3 [60] (by decide) rfl hx.1.2.2.2.symm⟩
theorem aQv {W : World} {l : List (String × DataW Unit)} (h : laidMet Tryz.prog l W) (h1 : ("quartermaster/atom.signs", Rows.laid_quartermaster_atom_signs) ∈ l) (h2 : ("internal/strconv.uint64pow10", Rows.laid_internal_strconv_uint64pow10) ∈ l)
  (h3 : ("strconv.ErrSyntax", Rows.laid_strconv_ErrSyntax) ∈ l) (h4 : ("strconv.ErrRange", Rows.laid_strconv_ErrRange) ∈ l) : Env W := by
 have tab : Lib.TabIs Tryz.prog W "internal/strconv.uint64pow10" .u64 Lib.pow10Tab := Lib.tabIs_of_head (rest := []) jY aTd Tryz.underlying307 Tryz.underlying277 aTb aTa (jW h h2)
 obtain ⟨a0,s0,hv0,-,-,-⟩:=laid_sentinel (jW h h3) aSo aTf Tryz.underlying267 aNh Tryz.underlying344 Tryz.underlying346 rfl rfl Tryz.underlying9 aRz aDs
 obtain ⟨a1,s1,hv1,-,-,-⟩:=laid_sentinel (jW h h4) aSn aTe Tryz.underlying267 aNh Tryz.underlying344 Tryz.underlying346 rfl rfl Tryz.underlying9 aRz aDs
 have c0:W.cell? ⟨4,0,none⟩=some (.iface 344 (.pointer (some a0))):=by simpa using World.var?_cell aSo hv0 0
 have c1:W.cell? ⟨5,0,none⟩=some (.iface 344 (.pointer (some a1))):=by simpa using World.var?_cell aSn hv1 0
 exact ⟨aNn (jW h h1),⟨pB (tab.cell jY 0 (by decide)),tab⟩,⟨pB c0,_,_,c0⟩,⟨pB c1,_,_,c1⟩⟩
end Go.Proofs.YtonlloiemgdfkaaGreatDoor
namespace Go.Proofs.YtonlloiemgdfkaaGreatDoor
open Go.ChangeShapes Go.WideShapes Go.ChangeAt Go.RowKit Go.Joins
theorem tA:Tryz.prog.cellsOf 48=6:=by kernel_rfl
theorem nD:Tryz.prog.cellsOf 3=1:=by kernel_rfl
theorem oL:Tryz.prog.cellsOf 4=1:=by kernel_rfl
end Go.Proofs.YtonlloiemgdfkaaGreatDoor
namespace Go.Proofs.YtonlloiemgdfkaaGreatDoor
open Go.ChangeShapes Go.WideShapes Go.ChangeAt Go.RowKit Go.Joins
theorem oM:Tryz.prog.cellsOf 73=10:=by kernel_rfl
theorem tB:Tryz.prog.cellsOf 71=1:=by kernel_rfl
theorem aSs {α:Type} {cs:List α} (h:cs.length=6) : ∃ c0 c1 c2 c3 c4 c5,cs = [c0,c1,c2,c3,c4,c5]:=by
 match cs,h with
 | [c0,c1,c2,c3,c4,c5],_=>exact ⟨c0,c1,c2,c3,c4,c5,rfl⟩
theorem aRe {α:Type} {cs:List α} (h:cs.length=10) : ∃ c0 c1 c2 c3 c4 c5 c6 c7 c8 c9,cs = [c0,c1,c2,c3,c4,c5,c6,c7,c8,c9]:=by
 match cs,h with
 | [c0,c1,c2,c3,c4,c5,c6,c7,c8,c9],_=>exact ⟨c0,c1,c2,c3,c4,c5,c6,c7,c8,c9,rfl⟩
section
variable {H:Type} {enc:TypeId × Value->H} {w:World} {base:Nat} {sp:Nat->Bool} {held:Bool}
theorem aKh {fuel:Nat} {cs:List Value} {x:DataW H × List MemPlace} (h:DataW.trod enc Tryz.prog w base sp held fuel 48 cs=some x) : ∃ a:At,cs = [.string a.n,.int .i64 a.op,.int .i64 a.v,.int .i64 a.sl,.string a.f,.bool a.on]:=by
 obtain ⟨xs,m,_,hx,hl,hlen,hel⟩:=DataW.trod_struct Tryz.underlying48 h
 obtain ⟨c0,c1,c2,c3,c4,c5,rfl⟩:=aSs (hl.trans tA)
 match xs,hlen with
 | [y0,y1,y2,y3,y4,y5],_=>
  obtain ⟨n,e0,g0,_⟩:=DataW.trod_string Tryz.underlying9 (by simpa using hel 0 _ rfl)
  obtain ⟨op,e1,g1,_⟩:=DataW.trod_int Tryz.underlying3 (by simpa using hel 1 _ rfl)
  obtain ⟨v,e2,g2,_⟩:=DataW.trod_int Tryz.underlying3 (by simpa using hel 2 _ rfl)
  obtain ⟨sl,e3,g3,_⟩:=DataW.trod_int Tryz.underlying3 (by simpa using hel 3 _ rfl)
  obtain ⟨f,e4,g4,_⟩:=DataW.trod_string Tryz.underlying9 (by simpa using hel 4 _ rfl)
  obtain ⟨on,e5,g5⟩:=DataW.trod_bool Tryz.underlying4 (by simpa using hel 5 _ rfl)
  refine ⟨⟨n,op,v,sl,f,on⟩,?_⟩
  simp [nD,oL,aDs] at e0 e1 e2 e3 e4 e5
  rw [e0,e1,e2,e3,e4,e5]
theorem aKi : ∀ (fuel:Nat) (cs:List Value) (x:DataW H × List MemPlace),DataW.trod enc Tryz.prog w base sp held fuel 73 cs=some x->∃ t:NT,aI (fun b=>b<w.heap.size) w t cs:=by
 intro fuel
 induction fuel using Nat.strongRecOn with
 | ind fuel ih=>
 intro cs x h
 obtain ⟨xs,m,hm,hx,hl,hlen,hel⟩:=DataW.trod_struct Tryz.underlying73 h
 obtain ⟨c0,c1,c2,c3,c4,c5,c6,c7,c8,c9,rfl⟩:=aRe (hl.trans oM)
 match xs,hlen with
 | [y0,y1,y2,y3,y4],_=>
  obtain ⟨k,e0,-,-⟩:=DataW.trod_int Tryz.underlying3 (by simpa using hel 0 _ rfl)
  obtain ⟨a,e1⟩:=aKh (by simpa using hel 1 _ rfl)
  obtain ⟨fl,e2,-,-⟩:=DataW.trod_string Tryz.underlying9 (by simpa using hel 2 _ rfl)
  obtain ⟨nt,e3,-⟩:=DataW.trod_bool Tryz.underlying4 (by simpa using hel 3 _ rfl)
  have hs:=DataW.trod_slice Tryz.underlying71 (show DataW.trod enc Tryz.prog w base sp held m 71 _=some y4 by simpa using hel 4 _ rfl)
  simp [nD,oL,aDs,tA] at e0 e1 e2 e3
  obtain ⟨e10,e11,e12,e13,e14,e15⟩:=e1
  rcases hs with ⟨e4,-⟩ | ⟨ad,len,cap,elems,rest,mm,hmm,e4,-,-,hlc,hcm,hle,hcell,-,-⟩
  ·simp [tB] at e4
   refine ⟨.node k a fl nt [],?_⟩
   rw [aI]
   exact ⟨none,0,by rw [e0,e10,e11,e12,e13,e14,e15,e2,e3,e4];rfl,Nat.le_refl _,by simp,by rw [bB];trivial⟩
  ·simp [tB] at e4
   have key : ∀ (q i:Nat),i+q=len->∃ ts:List NT,ts.length=q/\bB (fun b=>b<w.heap.size) w ts (some ad) i:=by
    intro q
    induction q with
    | zero=>intro i _;exact ⟨[],rfl,by rw [bB];trivial⟩
    | succ q ihq=>
     intro i hi
     obtain ⟨ts,hts,hk⟩:=ihq (i+1) (by omega)
     have hci:=hcell i (by omega)
     rw [oM,List.getElem?_eq_getElem (by omega)] at hci
     obtain ⟨csi,hc1,hc2⟩:=Option.bind_eq_some_iff.1 hci
     obtain ⟨t,ht⟩:=ih mm (by omega) csi _ hc2
     obtain ⟨hb1,hb2,hb3⟩:=World.cells?_some hc1
     have hblk:=World.cells?_block hc1 (by decide)
     refine ⟨t :: ts,by simp [hts],?_⟩
     rw [bB]
     refine ⟨⟨ad,csi,rfl,by rw [nC] at hblk;exact hblk,fun j v hv=> ?_,ht⟩,hk⟩
     have hj:j<10:=by rw [← hb2];exact (List.getElem?_eq_some_iff.1 hv).1
     rw [hb3 j hj];exact hv
   obtain ⟨ts,hts,hk⟩:=key len 0 (by omega)
   refine ⟨.node k a fl nt ts,?_⟩
   rw [aI]
   exact ⟨some ad,cap,by rw [e0,e10,e11,e12,e13,e14,e15,e2,e3,e4,hts],by omega,by unfold maxLen at hcm;omega,hk⟩
end
theorem aMl {w:World} (h:w.ShapedOpen Tryz.prog):kM w:=by
 obtain ⟨m,hm⟩:=cell_of_shapedOpen_int (g:=0) (t:=3) (zero:=#[.int .i64 0]) (k:= .i64) h (of_decide_eq_true (by kernel_rfl)) (by kernel_rfl) rfl (by kernel_rfl) (by kernel_rfl) Tryz.underlying3
 exact ⟨pB hm,m,hm⟩
theorem vW {H:Type} {enc:TypeId × Value->H} {a:Assume} {C:Checked} {os:Os} {f:FuncId} {fn:Func} {s:ChangeSpec} {conds:List PathCond} {apart fresh handsOn again:Bool} {X:World->Array Value->Prop}
  (hX : ∀ (w w':World) (args:Array Value),w.heap=w'.heap->X w args->X w' args)
  (own:ownKnob C.prog.godebug=none) (started:os.Started) (noInit:C.prog.inits.idxOf? f=none) (hfn:C.prog.funcs[f]? = some fn)
  (witness : ∃ (w:World) (tape:Tape) (i:Input),w.os=os/\(w.forCall tape i).Shaped C.prog/\i.vars = []/\Input.okWide C.prog (w.forCall tape i) .any w.heap.size f i/\
   ((s.pre enc C.prog fn conds apart (w.forCall tape i).memory i.args/\X (w.forCall tape i).memory i.args)/\sizedMet enc C.prog fn (OpenSpec.ofChange s) apart (w.forCall tape i).memory i.args)/\a.holds C.prog (lone (Frame.enter C.prog f i.args .normal) [] (w.forCall tape i)))
  (tG : ∀ (W:World) (base:Nat) (args:Array Value) (ds gs:List (DataW H)) (before:List MemPlace),
   (∀ (j:Nat) t v,fn.params[j]? = some t->args[j]? = some v->Value.okWide C.prog W .any base t v)->
   DataW.Whole enc C.prog fn.params.toList s.vars apart W args.toList ds gs before->
   X W args->W.ShapedOpen C.prog->
   Calls C.prog f args W fun e W'=> ∃ v,e=.returned v/\s.post enc C.prog fn apart fresh handsOn again W args v W') :
  ReturnsInHanded a C os f .any (fun w args=>(s.pre enc C.prog fn conds apart w args/\X w args)/\sizedMet enc C.prog fn (OpenSpec.ofChange s) apart w args) (s.post enc C.prog fn apart fresh handsOn again):=by
 refine returnsInHanded_of_calls own started noInit witness ?_
 intro w tape i _ hsh _ hok hpre _
 obtain ⟨_,_,_,fn',hfn',_,_,_,_,hval⟩:=hok
 obtain rfl:fn'=fn:=Option.some.inj (hfn'.symm.trans hfn)
 obtain ⟨⟨⟨ds,gs,before,hw,_⟩,hx⟩,_⟩:=hpre
 have hw':=DataW.Whole.of_heap (w':=w.forCall tape i) (by rfl) hw
 refine (tG (w.forCall tape i) w.heap.size i.args ds gs before hval hw' (hX _ _ _ (by rfl) hx) hsh).mono fun e W' ⟨v,he,hp⟩=> ?_
 subst he
 exact ChangeSpec.post_blind hp
end Go.Proofs.YtonlloiemgdfkaaGreatDoor
