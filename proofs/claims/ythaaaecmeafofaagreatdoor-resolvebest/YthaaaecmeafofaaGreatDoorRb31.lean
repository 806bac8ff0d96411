/- Steps of the proof: TreeSet, EqualInts, ResClosed, ResOnMem, EncLiterals, ResNothing. -/
import Derived.Test.YthaaaecmeafofaaGreatDoorRb10
import Derived.Test.YthaaaecmeafofaaGreatDoorRb30
import Derived.Test.YthaaaecmeafofaaGreatDoorRb09
import Derived.Shelf.Spec.SlicesGrow
import Derived.Laws.AppendOwnNone
import Derived.Sort.OwnSortedInts
import Derived.Test.YthaaaecmeafofaaGreatDoorRb26
import Derived.Test.YthaaaecmeafofaaGreatDoorRb19
import Derived.Test.YthaaaecmeafofaaGreatDoorRb14
import Derived.Test.YthaaaecmeafofaaGreatDoorRb23
set_option maxHeartbeats 16000000
set_option maxRecDepth 100000
namespace Go.Proofs.YthaaaecmeafofaaGreatDoor
open Go.RowKit
theorem oZ {α:Type} {xs ys:List α} (hl:xs.length=ys.length) (h : ∀ i,i<xs.length->xs[i]? = ys[i]?):xs=ys:=by
 refine List.ext_getElem? fun i=> ?_
 by_cases hi:i<xs.length
 ·exact h i hi
 ·rw [List.getElem?_eq_none (by omega),List.getElem?_eq_none (by omega)]
theorem aHi (S:Nat->Prop) (xs ys:List Bool) (v1 v2:Value) (w:World) (hS : ∀ b,S b->b<w.heap.size) (h1:aZ S w xs v1) (h2:aZ S w ys v2) :
  Calls Tryz.prog 115 #[v1,v2] w fun e w'=> ∃ β:Bool,e=.returned (.bool β)/\(β=true↔xs=ys)/\aA w w':=by
 have H1:=hid h1
 have H2:=hid h2
 obtain ⟨p1,c1,rfl,hl1,-⟩:=h1
 obtain ⟨p2,c2,rfl,hl2,-⟩:=h2
 by_cases hl:xs.length=ys.length
 ·have HL:=hid hl
  have HW:Hid (aA w w):=aA.refl _
  rw [← hl]
  clear hl
  go_enter Tryz.func115,Tryz.ntmps115
  go_wp2_with fail
  go_loopg [13] xs.length (fun gk i wr=> ∃ j:Nat,j+gk=xs.length/\i=.int .i64 j/\(∀ i,i<j->xs[i]? = ys[i]?)/\aA w wr)
  case atStart=>exact ⟨0,by simp,rfl,fun i hi=>absurd hi (Nat.not_lt_zero _),HW.out⟩
  case round=>
   obtain ⟨j,hj,rfl,hal,hkp⟩:=hrel
   have HKP:=hid hkp
   have HAL:=hid hal
   clear hkp hal
   by_cases hlt:j<xs.length
   ·obtain ⟨q1,d1,hv1,-,hr1⟩:=H1.out.keep hS HKP.out
    obtain ⟨q2,d2,hv2,-,hr2⟩:=H2.out.keep hS HKP.out
    rw [← HL.out] at hv2 hr2
    cases hv1
    cases hv2
    obtain ⟨b1,o1,rfl,hb1,hc1⟩:=hr1 (by omega)
    obtain ⟨b2,o2,rfl,hb2,hc2⟩:=hr2 (by omega)
    have hlt2:j<ys.length:=by rw [← HL.out];exact hlt
    have e1:xs[j]? = some xs[j]:=List.getElem?_eq_getElem hlt
    have e2:ys[j]? = some ys[j]:=List.getElem?_eq_getElem hlt2
    have g1:=hc1 j _ e1
    have g2:=hc2 j _ e2
    have E1:=hid e1
    have E2:=hid e2
    clear hc1 hc2 hr1 hr2 e1 e2
    generalize xs[j]=x at g1 E1
    generalize ys[j]=y at g2 E2
    by_cases hxy:x=y
    ·subst hxy
     have HN:Hid (∀ i,i<j+1->xs[i]? = ys[i]?):=fun i hi=>by
      by_cases e:i=j
      ·subst e;rw [E1.out,E2.out]
      ·exact HAL.out i (by omega)
     go_wp2_with fail
     go_quiet (fail)
     go_wp2_with fail
     go_roundg (xs.length-(j+1))
     case rel=>exact ⟨j+1,by omega,by go_num,HN.out,aA.drewN HKP.out _⟩
     case measure=>omega
    ·have hxy1:(x==y)=false:=by simp [hxy]
     have hxy2:(x != y)=true:=by simp [hxy]
     have HF:Hid (¬ xs=ys):=fun e=>hxy (by have h1:=E1.out;rw [e,E2.out] at h1;exact (Option.some.inj h1).symm)
     clear hxy
     go_wp2_with fail
     go_quiet (fail)
     go_wp2_with fail
     go_ret
     exact ⟨false,rfl,⟨fun h=>Bool.noConfusion h,fun h=>absurd h HF.out⟩,aA.drewN HKP.out _⟩
   ·have HF:Hid (xs=ys):=oZ HL.out fun i hi=>HAL.out i (by omega)
    go_wp2_with fail
    go_ret
    exact ⟨true,rfl,⟨fun _=>HF.out,fun _=>rfl⟩,HKP.out⟩
 ·have hz1:((xs.length:Int)==(ys.length:Int))=false:=beq_eq_false_iff_ne.2 fun e=>hl (by omega)
  have hz2:((xs.length:Int) != (ys.length:Int))=true:=bne_iff_ne.2 fun e=>hl (by omega)
  have HF:Hid (¬ xs=ys):=fun e=>hl (by rw [e])
  clear hl
  go_enter Tryz.func115,Tryz.ntmps115
  go_wp2_with fail
  go_ret
  exact ⟨false,rfl,⟨fun h=>Bool.noConfusion h,fun h=>absurd h HF.out⟩,aA.refl _⟩
theorem aEv (args:Array Value) (w:World):(callFunc 85 args).run Tryz.prog w=.ok (.enter 85 args) w:=enters_of Tryz.func85 (by kernel_rfl) rfl args w
theorem aGc (S:Nat->Prop) (x y:MB) (v1 v2:Value) (w:World) (hS : ∀ b,S b->b<w.heap.size) (h1:aZ S w x.on v1) (h2:aZ S w y.on v2) :
  Calls Tryz.prog 85 #[.agg #[.int .i64 x.pl,v1],.agg #[.int .i64 y.pl,v2]] w fun e w'=> ∃ β:Bool,e=.returned (.bool β)/\(β=true↔x=y)/\aA w w':=by
 have H1:=hid h1
 have H2:=hid h2
 obtain ⟨p1,c1,rfl,-,-⟩:=h1
 obtain ⟨p2,c2,rfl,-,-⟩:=h2
 rcases x with ⟨xp,xs⟩
 rcases y with ⟨yp,ys⟩
 simp only at H1 H2 ⊢
 by_cases hp:xp=yp
 ·subst hp
  go_enter Tryz.func85,Tryz.ntmps85
  go_wp2_with fail
  refine aX (fun W'=>aA w W') ((aA.alloc _ _).alloc' _) ?_
  intro W2 k2
  refine (aHi S xs ys _ _ W2 (fun b hb=>Nat.lt_of_lt_of_le (hS b hb) k2.size) (H1.out.keep hS k2) (H2.out.keep hS k2)).mono ?_
  rintro e w3 ⟨β,rfl,hβ,k3⟩
  have K3:=hid (k2.trans k3)
  have HB:=hid hβ
  clear k2 k3 hβ
  go_wp2_with fail
  go_ret
  exact ⟨β,rfl,⟨fun h=>by rw [HB.out.1 h],fun h=>HB.out.2 (by cases h;rfl)⟩,K3.out⟩
 ·have hz1:(xp==yp)=false:=by simp [hp]
  have HF:Hid (¬ (⟨xp,xs⟩:MB)=⟨yp,ys⟩):=fun e=>hp (by cases e;rfl)
  have HW:Hid (aA w ((w.alloc (.cells #[.int .i64 xp,.slice p1 xs.length c1] 64)).alloc (.cells #[.int .i64 yp,.slice p2 ys.length c2] 64))):=(aA.alloc _ _).alloc' _
  clear hp
  go_enter Tryz.func85,Tryz.ntmps85
  go_wp2_with fail
  go_ret
  exact ⟨false,rfl,⟨fun h=>Bool.noConfusion h,fun h=>absurd h HF.out⟩,HW.out⟩
theorem aBs (S:Nat->Prop) (xs ys:List MB) (v1 v2:Value) (w:World) (hS : ∀ b,S b->b<w.heap.size) (h1:bI S w xs v1) (h2:bI S w ys v2) :
  Calls Tryz.prog 75 #[v1,v2,.func (.func 85) #[] #[]] w fun e w'=> ∃ β:Bool,e=.returned (.bool β)/\(β=true↔xs=ys)/\aA w w':=by
 have H1:=hid h1
 have H2:=hid h2
 obtain ⟨p1,c1,rfl,⟨-,hl1⟩,-⟩:=h1
 obtain ⟨p2,c2,rfl,⟨-,hl2⟩,-⟩:=h2
 have hent:=aEv
 by_cases hl:xs.length=ys.length
 ·have HL:=hid hl
  have HW:Hid (aA w w):=aA.refl _
  rw [← hl]
  clear hl
  go_enter Tryz.func75,Tryz.ntmps75
  go_wp2_with fail
  go_loopg [17] xs.length (fun gk i wr=> ∃ j:Nat,j+gk=xs.length/\i=.int .i64 j/\(∀ i,i<j->xs[i]? = ys[i]?)/\aA w wr)
  case atStart=>exact ⟨0,by simp,rfl,fun i hi=>absurd hi (Nat.not_lt_zero _),HW.out⟩
  case round=>
   obtain ⟨j,hj,rfl,hal,hkp⟩:=hrel
   have HKP:=hid hkp
   have HAL:=hid hal
   clear hkp hal
   by_cases hlt:j<xs.length
   ·obtain ⟨q1,d1,hv1,-,hr1⟩:=H1.out.keep hS HKP.out
    obtain ⟨q2,d2,hv2,-,hr2⟩:=H2.out.keep hS HKP.out
    rw [← HL.out] at hv2 hr2
    cases hv1
    cases hv2
    obtain ⟨b1,o1,rfl,hb1,hc1⟩:=hr1 (by omega)
    obtain ⟨b2,o2,rfl,hb2,hc2⟩:=hr2 (by omega)
    have hlt2:j<ys.length:=by rw [← HL.out];exact hlt
    have e1:xs[j]? = some xs[j]:=List.getElem?_eq_getElem hlt
    have e2:ys[j]? = some ys[j]:=List.getElem?_eq_getElem hlt2
    obtain ⟨ov1,g1,g1',hbo1⟩:=hc1 j _ e1
    obtain ⟨ov2,g2,g2',hbo2⟩:=hc2 j _ e2
    have E1:=hid e1
    have E2:=hid e2
    have hb1':b1<wr.heap.size:=Nat.lt_of_lt_of_le (hS _ hb1) HKP.out.size
    have hb2':b2<wr.heap.size:=Nat.lt_of_lt_of_le (hS _ hb2) HKP.out.size
    generalize xs[j]=x at g1 E1 hbo1
    generalize ys[j]=y at g2 E2 hbo2
    have HO1:=hid hbo1
    have HO2:=hid hbo2
    obtain ⟨r1,s1,rfl,-,-⟩:=hbo1
    obtain ⟨r2,s2,rfl,-,-⟩:=hbo2
    clear hc1 hc2 hr1 hr2 e1 e2
    go_wp2_with fail
    refine aX (fun W'=>aA wr W') ((aA.alloc _ _).alloc' _) ?_
    intro W2 k2
    have hS2 : ∀ b,S b->b<wr.heap.size:=fun b hb=>Nat.lt_of_lt_of_le (hS b hb) HKP.out.size
    refine (aGc S x y _ _ W2 (fun b hb=>Nat.lt_of_lt_of_le (hS2 b hb) k2.size) (HO1.out.keep hS2 k2) (HO2.out.keep hS2 k2)).mono ?_
    rintro e w3 ⟨β,rfl,hβ,k3⟩
    have K3:=hid (HKP.out.trans (k2.trans k3))
    clear k2 k3 hS2 g1 g1' g2 g2'
    cases β
    ·have HF:Hid (¬ xs=ys):=fun e=>Bool.noConfusion (hβ.2 (by have h1:=E1.out;rw [e,E2.out] at h1;exact (Option.some.inj h1).symm))
     clear hβ
     go_wp2_with fail
     go_ret
     exact ⟨false,rfl,⟨fun h=>Bool.noConfusion h,fun h=>absurd h HF.out⟩,K3.out⟩
    ·have HN:Hid (∀ i,i<j+1->xs[i]? = ys[i]?):=fun i hi=>by
      by_cases e:i=j
      ·subst e;rw [E1.out,E2.out,hβ.1 rfl]
      ·exact HAL.out i (by omega)
     clear hβ
     go_wp2_with fail
     go_roundg (xs.length-(j+1))
     case rel=>exact ⟨j+1,by omega,by go_num,HN.out,K3.out⟩
     case measure=>omega
   ·have HF:Hid (xs=ys):=oZ HL.out fun i hi=>HAL.out i (by omega)
    go_wp2_with fail
    go_ret
    exact ⟨true,rfl,⟨fun _=>HF.out,fun _=>rfl⟩,HKP.out⟩
 ·have hz1:((xs.length:Int)==(ys.length:Int))=false:=beq_eq_false_iff_ne.2 fun e=>hl (by omega)
  have hz2:((xs.length:Int) != (ys.length:Int))=true:=bne_iff_ne.2 fun e=>hl (by omega)
  have HF:Hid (¬ xs=ys):=fun e=>hl (by rw [e])
  clear hl
  go_enter Tryz.func75,Tryz.ntmps75
  go_wp2_with fail
  go_ret
  exact ⟨false,rfl,⟨fun h=>Bool.noConfusion h,fun h=>absurd h HF.out⟩,aA.refl _⟩
theorem zU (S:Nat->Prop) (xs ys:List MB) (v1 v2:Value) (w:World) (hS : ∀ b,S b->b<w.heap.size) (h1:bI S w xs v1) (h2:bI S w ys v2) :
  Calls Tryz.prog 30 #[v1,v2] w fun e w'=> ∃ β:Bool,e=.returned (.bool β)/\(β=true↔xs=ys)/\aA w w':=by
 have H1:=hid h1
 have H2:=hid h2
 clear h1 h2
 go_enter Tryz.func30,Tryz.ntmps30
 go_wp2_with fail
 refine (aBs S xs ys _ _ w hS H1.out H2.out).mono ?_
 rintro e w3 ⟨β,rfl,hβ,k3⟩
 have K3:=hid k3
 have HB:=hid hβ
 clear k3 hβ
 go_wp2_with fail
 go_ret
 exact ⟨β,rfl,HB.out,K3.out⟩
theorem aEu (args:Array Value) (w:World):(callFunc 65 args).run Tryz.prog w=.ok (.enter 65 args) w:=enters_of Tryz.func65 (by kernel_rfl) rfl args w
theorem aGb (S:Nat->Prop) (x y:MB) (v1 v2:Value) (w:World) (hS : ∀ b,S b->b<w.heap.size) (h1:aZ S w x.on v1) (h2:aZ S w y.on v2) :
  Calls Tryz.prog 65 #[.agg #[.int .i64 x.pl,v1],.agg #[.int .i64 y.pl,v2]] w fun e w'=> ∃ β:Bool,e=.returned (.bool β)/\(β=true↔x=y)/\aA w w':=by
 have H1:=hid h1
 have H2:=hid h2
 obtain ⟨p1,c1,rfl,-,-⟩:=h1
 obtain ⟨p2,c2,rfl,-,-⟩:=h2
 rcases x with ⟨xp,xs⟩
 rcases y with ⟨yp,ys⟩
 simp only at H1 H2 ⊢
 by_cases hp:xp=yp
 ·subst hp
  go_enter Tryz.func65,Tryz.ntmps65
  go_wp2_with fail
  refine aX (fun W'=>aA w W') ((aA.alloc _ _).alloc' _) ?_
  intro W2 k2
  refine (aHi S xs ys _ _ W2 (fun b hb=>Nat.lt_of_lt_of_le (hS b hb) k2.size) (H1.out.keep hS k2) (H2.out.keep hS k2)).mono ?_
  rintro e w3 ⟨β,rfl,hβ,k3⟩
  have K3:=hid (k2.trans k3)
  have HB:=hid hβ
  clear k2 k3 hβ
  go_wp2_with fail
  go_ret
  exact ⟨β,rfl,⟨fun h=>by rw [HB.out.1 h],fun h=>HB.out.2 (by cases h;rfl)⟩,K3.out⟩
 ·have hz1:(xp==yp)=false:=by simp [hp]
  have HF:Hid (¬ (⟨xp,xs⟩:MB)=⟨yp,ys⟩):=fun e=>hp (by cases e;rfl)
  have HW:Hid (aA w ((w.alloc (.cells #[.int .i64 xp,.slice p1 xs.length c1] 64)).alloc (.cells #[.int .i64 yp,.slice p2 ys.length c2] 64))):=(aA.alloc _ _).alloc' _
  clear hp
  go_enter Tryz.func65,Tryz.ntmps65
  go_wp2_with fail
  go_ret
  exact ⟨false,rfl,⟨fun h=>Bool.noConfusion h,fun h=>absurd h HF.out⟩,HW.out⟩
theorem aBr (S:Nat->Prop) (xs ys:List MB) (v1 v2:Value) (w:World) (hS : ∀ b,S b->b<w.heap.size) (h1:bI S w xs v1) (h2:bI S w ys v2) :
  Calls Tryz.prog 75 #[v1,v2,.func (.func 65) #[] #[]] w fun e w'=> ∃ β:Bool,e=.returned (.bool β)/\(β=true↔xs=ys)/\aA w w':=by
 have H1:=hid h1
 have H2:=hid h2
 obtain ⟨p1,c1,rfl,⟨-,hl1⟩,-⟩:=h1
 obtain ⟨p2,c2,rfl,⟨-,hl2⟩,-⟩:=h2
 have hent:=aEu
 by_cases hl:xs.length=ys.length
 ·have HL:=hid hl
  have HW:Hid (aA w w):=aA.refl _
  rw [← hl]
  clear hl
  go_enter Tryz.func75,Tryz.ntmps75
  go_wp2_with fail
  go_loopg [17] xs.length (fun gk i wr=> ∃ j:Nat,j+gk=xs.length/\i=.int .i64 j/\(∀ i,i<j->xs[i]? = ys[i]?)/\aA w wr)
  case atStart=>exact ⟨0,by simp,rfl,fun i hi=>absurd hi (Nat.not_lt_zero _),HW.out⟩
  case round=>
   obtain ⟨j,hj,rfl,hal,hkp⟩:=hrel
   have HKP:=hid hkp
   have HAL:=hid hal
   clear hkp hal
   by_cases hlt:j<xs.length
   ·obtain ⟨q1,d1,hv1,-,hr1⟩:=H1.out.keep hS HKP.out
    obtain ⟨q2,d2,hv2,-,hr2⟩:=H2.out.keep hS HKP.out
    rw [← HL.out] at hv2 hr2
    cases hv1
    cases hv2
    obtain ⟨b1,o1,rfl,hb1,hc1⟩:=hr1 (by omega)
    obtain ⟨b2,o2,rfl,hb2,hc2⟩:=hr2 (by omega)
    have hlt2:j<ys.length:=by rw [← HL.out];exact hlt
    have e1:xs[j]? = some xs[j]:=List.getElem?_eq_getElem hlt
    have e2:ys[j]? = some ys[j]:=List.getElem?_eq_getElem hlt2
    obtain ⟨ov1,g1,g1',hbo1⟩:=hc1 j _ e1
    obtain ⟨ov2,g2,g2',hbo2⟩:=hc2 j _ e2
    have E1:=hid e1
    have E2:=hid e2
    have hb1':b1<wr.heap.size:=Nat.lt_of_lt_of_le (hS _ hb1) HKP.out.size
    have hb2':b2<wr.heap.size:=Nat.lt_of_lt_of_le (hS _ hb2) HKP.out.size
    generalize xs[j]=x at g1 E1 hbo1
    generalize ys[j]=y at g2 E2 hbo2
    have HO1:=hid hbo1
    have HO2:=hid hbo2
    obtain ⟨r1,s1,rfl,-,-⟩:=hbo1
    obtain ⟨r2,s2,rfl,-,-⟩:=hbo2
    clear hc1 hc2 hr1 hr2 e1 e2
    go_wp2_with fail
    refine aX (fun W'=>aA wr W') ((aA.alloc _ _).alloc' _) ?_
    intro W2 k2
    have hS2 : ∀ b,S b->b<wr.heap.size:=fun b hb=>Nat.lt_of_lt_of_le (hS b hb) HKP.out.size
    refine (aGb S x y _ _ W2 (fun b hb=>Nat.lt_of_lt_of_le (hS2 b hb) k2.size) (HO1.out.keep hS2 k2) (HO2.out.keep hS2 k2)).mono ?_
    rintro e w3 ⟨β,rfl,hβ,k3⟩
    have K3:=hid (HKP.out.trans (k2.trans k3))
    clear k2 k3 hS2 g1 g1' g2 g2'
    cases β
    ·have HF:Hid (¬ xs=ys):=fun e=>Bool.noConfusion (hβ.2 (by have h1:=E1.out;rw [e,E2.out] at h1;exact (Option.some.inj h1).symm))
     clear hβ
     go_wp2_with fail
     go_ret
     exact ⟨false,rfl,⟨fun h=>Bool.noConfusion h,fun h=>absurd h HF.out⟩,K3.out⟩
    ·have HN:Hid (∀ i,i<j+1->xs[i]? = ys[i]?):=fun i hi=>by
      by_cases e:i=j
      ·subst e;rw [E1.out,E2.out,hβ.1 rfl]
      ·exact HAL.out i (by omega)
     clear hβ
     go_wp2_with fail
     go_roundg (xs.length-(j+1))
     case rel=>exact ⟨j+1,by omega,by go_num,HN.out,K3.out⟩
     case measure=>omega
   ·have HF:Hid (xs=ys):=oZ HL.out fun i hi=>HAL.out i (by omega)
    go_wp2_with fail
    go_ret
    exact ⟨true,rfl,⟨fun _=>HF.out,fun _=>rfl⟩,HKP.out⟩
 ·have hz1:((xs.length:Int)==(ys.length:Int))=false:=beq_eq_false_iff_ne.2 fun e=>hl (by omega)
  have hz2:((xs.length:Int) != (ys.length:Int))=true:=bne_iff_ne.2 fun e=>hl (by omega)
  have HF:Hid (¬ xs=ys):=fun e=>hl (by rw [e])
  clear hl
  go_enter Tryz.func75,Tryz.ntmps75
  go_wp2_with fail
  go_ret
  exact ⟨false,rfl,⟨fun h=>Bool.noConfusion h,fun h=>absurd h HF.out⟩,aA.refl _⟩
theorem qS (S:Nat->Prop) (xs ys:List MB) (v1 v2:Value) (w:World) (hS : ∀ b,S b->b<w.heap.size) (h1:bI S w xs v1) (h2:bI S w ys v2) :
  Calls Tryz.prog 26 #[v1,v2] w fun e w'=> ∃ β:Bool,e=.returned (.bool β)/\(β=true↔xs=ys)/\aA w w':=by
 have H1:=hid h1
 have H2:=hid h2
 clear h1 h2
 go_enter Tryz.func26,Tryz.ntmps26
 go_wp2_with fail
 refine (aBr S xs ys _ _ w hS H1.out H2.out).mono ?_
 rintro e w3 ⟨β,rfl,hβ,k3⟩
 have K3:=hid k3
 have HB:=hid hβ
 clear k3 hβ
 go_wp2_with fail
 go_ret
 exact ⟨β,rfl,HB.out,K3.out⟩
end Go.Proofs.YthaaaecmeafofaaGreatDoor
namespace Go.Proofs.YthaaaecmeafofaaGreatDoor
open Go.RowKit Go.Lib
theorem eZ.get0 {v:Value} {zs:List Int} {w:World} (h:eZ v zs w) (hn:0<zs.length) : ∃ g cap,v=.slice (some ⟨g,0,none⟩) zs.length cap/\g<w.heap.size/\(∀ j,j<zs.length->w.cell? ⟨g,0+j,none⟩=some (.int .i64 (zs.getD j 0))):=by
 rcases h with ⟨rfl,-⟩ | ⟨g,cap,h1,h2,h3⟩
 ·exact absurd hn (Nat.not_lt_zero _)
 ·refine ⟨g,cap,h1,h2,fun j hj=> ?_⟩
  rw [Nat.zero_add,List.getD_eq_getElem?_getD,List.getElem?_eq_getElem hj,Option.getD_some]
  exact h3 j _ (List.getElem?_eq_getElem hj)
theorem wH (v u:Value) (xs ys:List Int) (w:World) (h:eZ v xs w) (h':eZ u ys w) (hl:xs.length<=2000) (hl':ys.length<=2000) :
  Calls Tryz.prog 18 #[v,u] w fun e w'=>e=.returned (.bool (xs==ys))/\∃ q,w'=w.drewN q:=by
 obtain ⟨q,d,rfl⟩:=h'.len
 obtain ⟨p,c,rfl⟩:=h.len
 by_cases hne:xs.length=ys.length
 ·by_cases h0:xs = []
  ·subst h0
   have hy:ys = []:=List.length_eq_zero_iff.1 hne.symm
   subst hy
   refine (Tryz.slices_Equal_int_empty p q c 0 d w (by omega)).mono ?_
   rintro e w' ⟨rfl,rfl⟩
   exact ⟨rfl,0,rfl⟩
  ·have hp:=List.length_pos_iff.2 h0
   obtain ⟨g,cap,e1,-,hc⟩:=h.get0 hp
   obtain ⟨g',cap',e2,-,hc'⟩:=h'.get0 (by omega)
   cases e1
   cases e2
   refine (Tryz.slices_Equal_int g 0 xs.length c g' 0 ys.length d xs ys w (Nat.le_refl _) (Nat.le_refl _) (by omega) (by omega) hc hc').mono ?_
   rintro e w' ⟨rfl,q,rfl⟩
   exact ⟨aK (by rw [List.take_length,List.take_length]),q,rfl⟩
 ·refine (Tryz.slices_Equal_int_lens p q xs.length c ys.length d w hne).mono ?_
  rintro e w' ⟨rfl,rfl⟩
  refine ⟨aK ?_,0,rfl⟩
  symm
  exact beq_eq_false_iff_ne.2 fun e=>hne (by rw [e])
end Go.Proofs.YthaaaecmeafofaaGreatDoor
namespace Go.Proofs.YthaaaecmeafofaaGreatDoor
open Go.RowKit
theorem aMg {W:World} {n:Nat} (h:W.heap.size=n) (T:TypeId) (cs:Array Value):aD n T cs (W.alloc (.cells cs T)):=h ▸ aD.new W T cs
theorem jX {w:World} {b o:Nat} {x:Value} {p:Addr} (h:p.block≠b):(w.setCell ⟨b,o,none⟩ x).cell? p=w.cell? p:=World.cell?_of_block (gS w b o x p.block h)
theorem yQ {b:Nat} {a:At} {W:World} (hb:aN b #[.string a.n,.int .i64 a.op,.int .i64 a.v,.int .i64 a.sl,.string a.f,.bool a.on] W):jS (inW W) W [a] (.slice (some ⟨b,0,none⟩) 1 1):=by
 refine ⟨_,_,rfl,by simp,fun _=>⟨b,0,rfl,hb.1,fun j x hx=> ?_⟩⟩
 match j,hx with
 | 0,hx=>cases hx;exact ⟨hb.2 0,hb.2 1,hb.2 2,hb.2 3,hb.2 4,hb.2 5⟩
theorem uT {c:Nat} {z:Int} {W:World} (hc:aN c #[.int .i64 z,.slice none 0 0] W):bI (inW W) W [⟨z,[]⟩] (.slice (some ⟨c,0,none⟩) 1 1):=by
 refine ⟨_,_,rfl,by simp,fun _=>⟨c,0,rfl,hc.1,fun j m hm=> ?_⟩⟩
 match j,hm with
 | 0,hm=>cases hm;exact ⟨_,hc.2 0,hc.2 1,none,0,rfl,by simp,fun h=>absurd h (by simp)⟩
theorem aHz {b c:Nat} {x:Bool} {z:Int} {W:World} (hb:aN b #[.int .i64 1,.slice (some ⟨c,0,none⟩) 1 1,.int .i64 z,.slice none 0 0] W) (hc:aN c #[.bool x] W):bI (inW W) W [⟨1,[x]⟩,⟨z,[]⟩] (.slice (some ⟨b,0,none⟩) 2 2):=by
 refine ⟨_,_,rfl,by simp,fun _=>⟨b,0,rfl,hb.1,fun j m hm=> ?_⟩⟩
 match j,hm with
 | 0,hm=>
  cases hm
  refine ⟨_,hb.2 0,hb.2 1,_,_,rfl,by simp,fun _=>⟨c,0,rfl,hc.1,fun j y hy=> ?_⟩⟩
  match j,hy with
  | 0,hy=>cases hy;exact hc.2 0
 | 1,hm=>cases hm;exact ⟨_,hb.2 2,hb.2 3,none,0,rfl,by simp,fun h=>absurd h (by simp)⟩
theorem aNs {b:Nat} {W:World} (hb:aN b #[.int .i64 0,.int .i64 2] W):aH (inW W) W [0,2] (.slice (some ⟨b,0,none⟩) 2 2):=by
 refine ⟨_,_,rfl,by simp,fun _=>⟨b,0,rfl,hb.1,fun j z hz=> ?_⟩⟩
 match j,hz with
 | 0,hz=>cases hz;exact hb.2 0
 | 1,hz=>cases hz;exact hb.2 1
theorem zO (S:Nat->Prop) (w:World):iW S w [] (.slice none 0 0):=⟨_,_,rfl,by simp,fun h=>absurd h (by simp)⟩
theorem iK.best {ps:List PK} {wi:WI} {c:List Bool} {w w':World} {e:Ending} (h:iK ps wi 40000 w e w') (h0:bE ps wi=0) (hb:mG ps wi c):aA w w'/\∃ v,e=.returned (.tuple #[v,.slice none 0 0,.int .i64 0])/\bI (fun b=>w.heap.size<=b/\b<w'.heap.size) w' (bN ps wi c) v:=by
 have he:=qP h0
 obtain ⟨k,h⟩:=h
 obtain ⟨g1,g2⟩:=aDe h0 he hb
 rcases h with ⟨h1,-⟩ | ⟨-,h2,-⟩ | ⟨-,-,h3,-⟩ | ⟨-,-,-,v,rfl,h5⟩
 ·exact absurd h0 h1
 ·exact absurd he h2
 ·exact absurd g1 h3
 ·exact ⟨k,v,rfl,g2 ▸ h5⟩
theorem iK.none {ps:List PK} {wi:WI} {w w':World} {e:Ending} (h:iK ps wi 40000 w e w') (h0:bE ps wi=0) (hn:rT ps wi):aA w w'/\(cO ps wi 40000).P ≠ []/\∃ pv,e=.returned (.tuple #[.slice none 0 0,pv,.int .i64 7])/\Cn.eE (fun b=>w.heap.size<=b/\b<w'.heap.size) w' (cO ps wi 40000).P pv:=by
 have he:=qP h0
 obtain ⟨k,h⟩:=h
 have g1:=aDf h0 he hn
 rcases h with ⟨h1,-⟩ | ⟨-,h2,-⟩ | ⟨-,-,h3,pv,rfl,h5⟩ | ⟨-,-,h3,-⟩
 ·exact absurd h0 h1
 ·exact absurd he h2
 ·exact ⟨k,h3,pv,rfl,h5⟩
 ·exact absurd h3 g1
theorem aTx:eC bA (mkW (wX [0,2]) []) 40000=0/\nJ bA (wX [0,2]) 40000 0=0/\nJ bA (wX [0,2]) 40000 1=7/\(eM bA (wX [0,2]) 40000 2).2 = [2]:=by
 have h1:nJ bA (wX [0,2]) 40000 0=0:=xS (wi:=wX [0]) (rF (.inr (.inl rfl))) (aEh (.inr rfl))
 have e1:=aEa h1
 have h2:nJ bA (wX [0,2]) 40000 1=7:=by
  unfold nJ
  rw [e1]
  exact aKr (wi:=wX [0,2]) (rF (.inr (.inr rfl))) aNr
 have e2:=aIn (j:=1) (by rw [h2];decide)
 refine ⟨xS (wi:=wX []) (rF (.inl rfl)) (aEh (.inl rfl)),h1,h2,?_⟩
 rw [e2,e1]
 rfl
theorem qQ (w:World) (hE:Env w) (hM:kX w) :
  Calls Tryz.prog 24 #[] w fun e w'=>e=.returned (.bool true)/\aA w w':=by
 go_enter Tryz.func24,Tryz.ntmps24
 go_wp2_with fail
 refine (aGg w hE hM).mono ?_
 rintro e w1 ⟨v1,rfl,hp1,k1,hcap⟩
 obtain ⟨p1,c1,rfl,-⟩:=hp1.len
 have HP1:=hid (bC.mono (S':=inW w1) (fun _ _=>rfl) (fun b hb=>hb.2) hp1)
 have K1:=hid k1
 have HCAP:=hid hcap
 clear hp1 k1 hE hM hcap
 go_wp2_with fail
 refine aX (fun W'=>aA w1 W'/\aE w1.heap.size 24 (.slice p1 bA.length c1) W'/\aN (w1.heap.size+1) #[.string ⟨#[97]⟩,.int .i64 0,.int .i64 0,.int .i64 0,.string ⟨#[]⟩,.bool false] W'/\aN (w1.heap.size+1+1) #[.int .i64 3,.slice none 0 0] W'/\aD (w1.heap.size+1+1+1) 46 #[.slice (some ⟨w1.heap.size+1,0,none⟩) 1 1,.slice (some ⟨w1.heap.size+1+1,0,none⟩) 1 1,.slice none 0 0,.slice none 0 0] W')
  ⟨(((aA.alloc _ _).alloc' _).alloc' _).alloc' _,(aE.new _ _ _).keep (((aA.alloc _ _).alloc' _).alloc' _) (by simp),(kZ (by simp) _ _).keep ((aA.alloc _ _).alloc' _) (by simp),(kZ (by simp) _ _).keep (aA.alloc _ _) (by simp),aMg (by simp) _ _⟩ ?_
 rintro W2 ⟨k2,v2,b2,m2,x2⟩
 refine (fU (inW W2) bA wR 40000 _ _ _ _ _ W2 (fun _ h=>h) (bC.mono (bG (fun _ h=>h) k2) (fun b hb=>Nat.lt_of_lt_of_le hb k2.size) HP1.out) ⟨yQ (a:=atA) b2,uT m2,jK _ _,zO _ _⟩ HCAP.out).mono ?_
 rintro e w3 h3
 obtain ⟨k3,a3,rfl,ha3⟩:=h3.best aRo aRm
 rw [aTu] at ha3
 have HB1:w1.heap.size+1+1+1<W2.heap.size:=x2.facts.2.2
 have K3:=hid (k2.trans k3)
 have V3:=hid (v2.keep k3 v2.facts.2.2)
 have M3:=hid (m2.keep k3 m2.1)
 have X3:=hid (x2.keep k3 x2.facts.2.2)
 have A3:=hid (ha3.mono (S':=fun c=>W2.heap.size<=c/\c<w3.heap.size) (fun _ _=>rfl) fun _ h=>h)
 have hs3:=k3.size
 clear k2 v2 b2 m2 x2 k3 ha3 h3
 generalize W2.heap.size=n2 at HB1 A3 hs3
 obtain ⟨ap3,ac3,rfl,-⟩:=A3.out.len
 obtain ⟨hcv,-,hlv⟩:=V3.out.facts
 obtain ⟨hcx,hfx,hlx⟩:=X3.out.facts
 have hx0:=hcx 0
 have hx1:=hcx 1
 have hx2:=hcx 2
 have hx3:=hcx 3
 have hf0:=hfx 0
 clear hcx hfx
 go_wp2_with fail
 refine aX (fun W'=>aA w1 W'/\aE w1.heap.size 24 (.slice p1 bA.length c1) W'/\aN w3.heap.size #[.string ⟨#[97]⟩,.int .i64 0,.int .i64 0,.int .i64 0,.string ⟨#[120]⟩,.bool true] W'/\aN (w1.heap.size+1+1) #[.int .i64 3,.slice none 0 0] W'/\aD (w1.heap.size+1+1+1) 46 #[.slice (some ⟨w3.heap.size,0,none⟩) 1 1,.slice (some ⟨w1.heap.size+1+1,0,none⟩) 1 1,.slice none 0 0,.slice none 0 0] W'/\bI (fun c=>n2<=c/\c<w3.heap.size) W' [⟨1,[false]⟩,⟨3,[]⟩] (.slice ap3 2 ac3))
  ⟨aA.alloc' (show aA w1 _ from Below.trans K3.out ((aM w3 (w1.heap.size+1+1+1) 0 _).mono (by omega))) _,(V3.out.keep (aM w3 (w1.heap.size+1+1+1) 0 _) (by omega)).keep (aA.alloc _ _) (by rw [cT];omega),kZ (cT _ _ _ _) _ _,(M3.out.keep (aM w3 (w1.heap.size+1+1+1) 0 _) (by omega)).keep (aA.alloc _ _) (by rw [cT];omega),(X3.out.set 0 _).keep (aA.alloc _ _) (by rw [cT];omega),A3.out.mono (fun p hp=>((aA.alloc _ _).cell (p:=p) (by rw [cT];exact hp.2)).trans (jX (by omega))) fun _ h=>h⟩ ?_
 clear V3 M3 X3 A3 K3 hcv hlv hx0 hx1 hx2 hx3 hf0 hlx
 rintro W4 ⟨k4,v4,b4,m4,x4,a4⟩
 have hn4:w3.heap.size<=W4.heap.size:=Nat.le_of_lt b4.1
 refine (fU (inW W4) bA (wX []) 40000 _ _ _ _ _ W4 (fun _ h=>h) (bC.mono (bG (fun _ h=>h) k4) (fun b hb=>Nat.lt_of_lt_of_le hb k4.size) HP1.out) ⟨yQ (a:=aIv) b4,uT m4,jK _ _,zO _ _⟩ HCAP.out).mono ?_
 rintro e w5 h5
 obtain ⟨k5,a5,rfl,ha5⟩:=h5.best (rF (.inl rfl)) (aEh (.inl rfl))
 rw [aTv] at ha5
 have K5:=hid (k4.trans k5)
 have V5:=hid (v4.keep k5 v4.facts.2.2)
 have B5:=hid (b4.keep k5 b4.1)
 have M5:=hid (m4.keep k5 m4.1)
 have X5:=hid (x4.keep k5 x4.facts.2.2)
 have A5:=hid (a4.mono (S':=fun c=>n2<=c/\c<w3.heap.size) (fun p hp=>k5.cell (p:=p) (Nat.lt_of_lt_of_le hp.2 hn4)) fun _ h=>h)
 have C5:=hid (ha5.mono (S':=fun c=>W4.heap.size<=c/\c<w5.heap.size) (fun _ _=>rfl) fun _ h=>h)
 have hs5:=k5.size
 have hb4:=b4.1
 clear k4 v4 b4 m4 x4 a4 k5 ha5 h5
 obtain ⟨ap5,ac5,rfl,-⟩:=C5.out.len
 obtain ⟨hcv,-,hlv⟩:=V5.out.facts
 obtain ⟨hcx,hfx,hlx⟩:=X5.out.facts
 have hx0:=hcx 0
 have hx1:=hcx 1
 have hx2:=hcx 2
 have hx3:=hcx 3
 have hf0:=hfx 2
 clear hcx hfx
 go_wp2_with fail
 refine aX (fun W'=>aA w1 W'/\aE w1.heap.size 24 (.slice p1 bA.length c1) W'/\aN w3.heap.size #[.string ⟨#[97]⟩,.int .i64 0,.int .i64 0,.int .i64 0,.string ⟨#[120]⟩,.bool true] W'/\aN (w1.heap.size+1+1) #[.int .i64 3,.slice none 0 0] W'/\aD (w1.heap.size+1+1+1) 46 #[.slice (some ⟨w3.heap.size,0,none⟩) 1 1,.slice (some ⟨w1.heap.size+1+1,0,none⟩) 1 1,.slice (some ⟨w5.heap.size,0,none⟩) 2 2,.slice none 0 0] W'/\bI (fun c=>n2<=c/\c<w3.heap.size) W' [⟨1,[false]⟩,⟨3,[]⟩] (.slice ap3 2 ac3)/\bI (fun c=>W4.heap.size<=c/\c<w5.heap.size) W' [⟨1,[true]⟩,⟨2,[]⟩] (.slice ap5 2 ac5)/\aN w5.heap.size #[.int .i64 0,.int .i64 2] W')
  ⟨aA.alloc' (show aA w1 _ from Below.trans K5.out ((aM w5 (w1.heap.size+1+1+1) 2 _).mono (by omega))) _,(V5.out.keep (aM w5 (w1.heap.size+1+1+1) 2 _) (by omega)).keep (aA.alloc _ _) (by rw [cT];omega),⟨by rw [aC,cT];omega,fun o=>((aA.alloc _ _).cell (p:=⟨w3.heap.size,o,none⟩) (by show w3.heap.size<_;rw [cT];omega)).trans ((jX (by show w3.heap.size≠_;omega)).trans (B5.out.2 o))⟩,(M5.out.keep (aM w5 (w1.heap.size+1+1+1) 2 _) (by omega)).keep (aA.alloc _ _) (by rw [cT];omega),(X5.out.set 2 _).keep (aA.alloc _ _) (by rw [cT];omega),A5.out.mono (fun p hp=>((aA.alloc _ _).cell (p:=p) (by rw [cT];omega)).trans (jX (by omega))) fun _ h=>h,C5.out.mono (fun p hp=>((aA.alloc _ _).cell (p:=p) (by rw [cT];exact hp.2)).trans (jX (by omega))) fun _ h=>h,kZ (cT _ _ _ _) _ _⟩ ?_
 clear V5 M5 X5 A5 B5 C5 K5 hcv hlv hx0 hx1 hx2 hx3 hf0 hlx
 rintro W6 ⟨k6,v6,b6,m6,x6,a6,c6,z6⟩
 have hn6:w5.heap.size<=W6.heap.size:=Nat.le_of_lt z6.1
 have HW6:=hid (show dZ (inW W6) W6 (wX [0,2]) _ _ _ _ from ⟨yQ (a:=aIv) b6,uT m6,aNs z6,zO _ _⟩)
 have HP6:=hid (bC.mono (S':=inW W6) (bG (fun _ h=>h) k6) (fun b hb=>Nat.lt_of_lt_of_le hb k6.size) HP1.out)
 refine (fU (inW W6) bA (wX [0,2]) 40000 _ _ _ _ _ W6 (fun _ h=>h) HP6.out HW6.out HCAP.out).mono ?_
 rintro e w7 h7
 obtain ⟨k7,hP7,p7,rfl,hp7⟩:=h7.none (rF (.inr (.inr rfl))) aNr
 obtain ⟨pp7,pc7,rfl,-⟩:=hp7.len
 obtain ⟨pl,hpl⟩ : ∃ pl:Nat,pl=(cO bA (wX [0,2]) 40000).P.length:=⟨_,rfl⟩
 have hpl1:(0:Int)<(pl:Int):=by have:=List.length_pos_iff.2 hP7;omega
 rw [← hpl]
 have K7:=hid (k6.trans k7)
 have V7:=hid (v6.keep k7 v6.facts.2.2)
 have X7:=hid (x6.keep k7 x6.facts.2.2)
 have A7:=hid (a6.mono (S':=inW w7) (fun p hp=>k7.cell (p:=p) (by omega)) fun c hc=>by have:=k7.size;show c<_;omega)
 have C7:=hid (c6.mono (S':=inW w7) (fun p hp=>k7.cell (p:=p) (by omega)) fun c hc=>by have:=k7.size;show c<_;omega)
 have HW7:=hid ((HW6.out.keep (fun _ h=>h) k7).mono (S':=inW w7) fun c hc=>Nat.lt_of_lt_of_le hc k7.size)
 have HP7:=hid ((HP6.out.keep (fun _ h=>h) k7).mono (S':=inW w7) (fun _ _=>rfl) fun c hc=>Nat.lt_of_lt_of_le hc k7.size)
 clear k6 v6 b6 m6 x6 a6 c6 z6 k7 h7 hp7 hP7 hpl HW6 HP6
 obtain ⟨hcv,-,hlv⟩:=V7.out.facts
 obtain ⟨hcx,-,hlx⟩:=X7.out.facts
 have hx0:=hcx 0
 have hx1:=hcx 1
 have hx2:=hcx 2
 have hx3:=hcx 3
 clear hcx
 go_wp2_with fail
 refine (aGq (inW w7) bA (wX [0,2]) 40000 _ _ _ _ _ w7 (fun _ h=>h) HP7.out HW7.out HCAP.out).mono ?_
 obtain ⟨hu0,hu1,hu2,hu3⟩:=aTx
 rintro e w8 ⟨k8,⟨h0,-⟩ | ⟨-,h0,-⟩ | ⟨-,-,j,hj,h1,h2,-⟩ | ⟨-,-,-,v8,rfl,h8,-⟩⟩
 ·exact absurd (rF (.inr (.inr rfl))) h0
 ·exact absurd hu0 h0
 ·match j,hj with
  | 0,_=>exact absurd hu1 h1
  | 1,_=>exact absurd hu2 h2
 rw [show (wX [0,2]).ma.length=2 from rfl,hu3] at h8
 have I8:=hid h8
 have K8:=hid (K1.out.trans (K7.out.trans k8))
 have A8:=hid ((A7.out.keep (fun _ h=>h) k8).mono (S':=inW w8) (fun _ _=>rfl) fun c hc=>Nat.lt_of_lt_of_le hc k8.size)
 have C8:=hid ((C7.out.keep (fun _ h=>h) k8).mono (S':=inW w8) (fun _ _=>rfl) fun c hc=>Nat.lt_of_lt_of_le hc k8.size)
 obtain ⟨up,uc,rfl⟩:=h8.len
 have hs8:=k8.size
 clear k8 h8 hcv hlv hx0 hx1 hx2 hx3 hlx V7 X7 A7 C7 HW7 HP7 hu0 hu1 hu2 hu3
 go_wp2_with fail
 refine aX (fun W'=>aA w8 W'/\bI (inW W') W' [⟨1,[false]⟩,⟨3,[]⟩] (.slice (some ⟨w8.heap.size+1,0,none⟩) 2 2)) ⟨(aA.alloc _ _).alloc' _,aHz (kZ (by simp) _ _) ((aN.new _ _ _).keep (aA.alloc _ _) (by simp))⟩ ?_
 rintro W9 ⟨k9,m9⟩
 refine (qS (inW W9) [⟨1,[false]⟩,⟨3,[]⟩] [⟨1,[false]⟩,⟨3,[]⟩] _ _ W9 (fun _ h=>h) ((A8.out.keep (fun _ h=>h) k9).mono (fun _ _=>rfl) fun c hc=>Nat.lt_of_lt_of_le hc k9.size) m9).mono ?_
 rintro e w10 ⟨β,rfl,hβ,k10⟩
 obtain rfl:β=true:=hβ.2 rfl
 have K10:=hid (k9.trans k10)
 have C10:=hid ((C8.out.keep (fun _ h=>h) K10.out).mono (S':=inW w10) (fun _ _=>rfl) fun c hc=>Nat.lt_of_lt_of_le hc K10.out.size)
 clear k9 m9 k10 hβ A8 C8
 go_wp2_with fail
 refine aX (fun W'=>aA w10 W'/\bI (inW W') W' [⟨1,[true]⟩,⟨2,[]⟩] (.slice (some ⟨w10.heap.size+1,0,none⟩) 2 2)) ⟨(aA.alloc _ _).alloc' _,aHz (kZ (by simp) _ _) ((aN.new _ _ _).keep (aA.alloc _ _) (by simp))⟩ ?_
 rintro W11 ⟨k11,m11⟩
 refine (qS (inW W11) [⟨1,[true]⟩,⟨2,[]⟩] [⟨1,[true]⟩,⟨2,[]⟩] _ _ W11 (fun _ h=>h) ((C10.out.keep (fun _ h=>h) k11).mono (fun _ _=>rfl) fun c hc=>Nat.lt_of_lt_of_le hc k11.size) m11).mono ?_
 rintro e w12 ⟨β,rfl,hβ,k12⟩
 obtain rfl:β=true:=hβ.2 rfl
 have K12:=hid (K10.out.trans (k11.trans k12))
 clear k11 m11 k12 hβ C10
 go_wp2_with fail
 refine aX (fun W'=>aA w12 W'/\eZ (.slice (some ⟨w12.heap.size,0,none⟩) 1 1) [2] W') ⟨aA.alloc _ _,.inr ⟨_,1,rfl,by simp,fun j x hx=> ?_⟩⟩ ?_
 ·match j,hx with
  | 0,hx=>cases hx;exact (aN.new w12 #[.int .i64 2] _).2 0
 rintro W13 ⟨k13,i13⟩
 refine (wH _ _ [2] [2] W13 (I8.out.keep (K12.out.trans k13)) i13 (by decide) (by decide)).mono ?_
 rintro e w14 ⟨rfl,q,rfl⟩
 rw [show (([2]:List Int) == [2])=true by decide]
 have KF:=hid (((K8.out.trans K12.out).trans k13).trans ((aA.refl W13).drewN q))
 generalize W13.drewN q=w14 at KF ⊢
 clear k13 i13
 go_wp2_with fail
 go_ret
 exact ⟨rfl,KF.out⟩
theorem aSa:(Tryz.prog.info? 65).map (fun i=>(i.zero,i.size,i.bytes))=some (some (.agg #[.int .i64 0,.int .i64 0]),2,16):=by kernel_rfl
def prV (l:List (Int × Int)):List Value:=l.flatMap fun x=> [.int .i64 x.1,.int .i64 x.2]
def yL (B:Nat) (v:Value) (l:List (Int × Int)) (w:World):Prop:=w.ownsRow B 65 2 v l.length (prV l)
theorem aIf : ∀ {l:List (Int × Int)} {j:Nat} {x:Int × Int},l[j]? = some x->(prV l)[j*2]? = some (.int .i64 x.1)/\(prV l)[j*2+1]? = some (.int .i64 x.2)
 | [],j,x,h=>by cases h
 | a :: l,0,x,h=>by cases h;exact ⟨rfl,rfl⟩
 | a :: l,j+1,x,h=>by
  have:=aIf (l:=l) (j:=j) (x:=x) (by simpa using h)
  unfold prV at *
  rw [List.flatMap_cons,show (j+1)*2=j*2+1+1 by omega]
  exact this
theorem aKo {w:World} {x y:Value} {T:TypeId} (j:Nat) (u:Value) (h : [x,y][j]? = some u):(w.alloc (.cells #[x,y] T)).cell? ((⟨w.heap.size,0,none⟩:Addr).add j)=some u:=by
 have hb:=(aN.new w #[x,y] T).2
 rw [Addr.add_mid,Nat.zero_add,hb j]
 simpa using h
theorem aKn {x y:Int} (u:Value) (h:u ∈ [Value.int .i64 x,.int .i64 y]):u.oneCell'=true:=by
 rcases List.mem_cons.1 h with rfl | h
 ·rfl
 ·rw [List.mem_singleton.1 h];rfl
theorem yL.prs {B:Nat} {v:Value} {l:List (Int × Int)} {w:World} {S:Nat->Prop} (h:yL B v l w) (hS : ∀ g,B<=g->g<w.heap.size->S g) (hl:l.length<=1000):iW S w l v:=by
 obtain ⟨-,⟨rfl,hn⟩ | ⟨g,cap,cur,rfl,h1,h2,h3,h4,h5,h6⟩⟩:=h
 ·have:l = []:=List.length_eq_zero_iff.1 hn
  subst this
  exact ⟨_,_,rfl,by simp,fun h=>absurd h (by simp)⟩
 ·refine ⟨_,_,rfl,by omega,fun _=>⟨g,0,rfl,hS g h1 (Array.getElem?_eq_some_iff.1 h2).1,fun j x hx=> ?_⟩⟩
  have hj:=(List.getElem?_eq_some_iff.1 hx).1
  obtain ⟨a1,a2⟩:=aIf hx
  have hc : ∀ o u,o<l.length*2->(prV l)[o]? = some u->w.cell? ⟨g,0+o,none⟩=some u:=fun o u ho hu=>by
   rw [← h6,List.getElem?_take,if_pos ho] at hu
   have hu:cur[o]? = some u:=by simpa using hu
   rw [Nat.zero_add]
   simp [World.cell?,h2,hu]
  exact ⟨hc _ _ (by omega) a1,by rw [Nat.add_assoc];exact hc _ _ (by omega) a2⟩
theorem zL {ps:List PK} {ms:List MB} (hs:bV ps ms=0) : ∀ j,j<=ms.length->(onN ms j).length<=2*j
 | 0,_=>by simp [onN]
 | j+1,hj=>by
  have hjl:j<ms.length:=by omega
  rw [aCu hjl,List.length_append]
  have h1:=dD hs
  have h2:=h1.2.2.2.2.2 j ms[j] (List.getElem?_eq_getElem hjl)
  have h3:=h1.2.1 (cN ps ms[j]) (by unfold cN;rw [List.getD_eq_getElem?_getD,List.getElem?_eq_getElem (show ms[j].pl.toNat<ps.length by omega)];exact List.getElem_mem _)
  have h4:=h2.2.2
  have h5:(onK ms[j] ms[j].on.length).length<=ms[j].on.length:=by
   unfold onK
   refine Nat.le_trans (List.length_filterMap_le _ _) ?_
   simp
  have:=zL hs j (by omega)
  omega
theorem aSm {ps:List PK} {ms:List MB} (hs:bV ps ms=0) {i:Nat} (hi:i<ms.length):ms[i].on.length<=2:=by
 have h1:=dD hs
 have h2:=h1.2.2.2.2.2 i ms[i] (List.getElem?_eq_getElem hi)
 have h3:=h1.2.1 (cN ps ms[i]) (by unfold cN;rw [List.getD_eq_getElem?_getD,List.getElem?_eq_getElem (show ms[i].pl.toNat<ps.length by omega)];exact List.getElem_mem _)
 have h4:=h2.2.2
 omega
structure OnM (c:Nat) (tsv inv mav ov:Value) (l:List (Int × Int)) (W0 w:World):Prop where
 bx:aD c 46 #[tsv,inv,mav,ov] w
 own:yL (c+1) ov l w
 kp:Below c W0 w
theorem OnM.keep {c:Nat} {tsv inv mav ov:Value} {l:List (Int × Int)} {W0 w w':World} (h:OnM c tsv inv mav ov l W0 w) (k:aA w w'):OnM c tsv inv mav ov l W0 w':=
 ⟨h.bx.keep k h.bx.facts.2.2,bK h.own k,h.kp.trans (k.mono (Nat.le_of_lt h.bx.facts.2.2))⟩
theorem OnM.push {c mb:Nat} {T:TypeId} {cs:Array Value} {tsv inv mav ov v':Value} {l:List (Int × Int)} {x y:Int} {W0 w w5:World} {o:Obj} (h:OnM c tsv inv mav ov l W0 w) (hm:aD mb T cs w) (hmc:c<mb) (hmo:ov.ownBlock≠some mb)
  (h5:w5.ownsRow (c+1) 65 2 v' (l.length+1) (prV l ++ [.int .i64 x,.int .i64 y])) (h6:(w.alloc o).grownBy w5 ov.ownBlock) (h9:v'.ownBlock=ov.ownBlock∨v'.ownBlock=some (w.heap.size+1)) :
  aD c 46 #[tsv,inv,mav,ov] w5/\OnM c tsv inv mav v' (l ++ [(x,y)]) W0 (w5.setCell ⟨c,3,none⟩ v')/\aD mb T cs (w5.setCell ⟨c,3,none⟩ v')/\v'.ownBlock≠some mb:=by
 have hcl:=h.bx.facts.2.2
 have hml:=hm.facts.2.2
 have hin : ∀ g,ov.ownBlock=some g->c+1<=g:=fun g hg=>(cV h.own hg).1
 have hblk : ∀ g,g<w.heap.size->ov.ownBlock≠some g->w5.heap[g]? = w.heap[g]? :=fun g hg hn=>by
  rw [h6.block g (by rw [aC];omega) (fun e=>hn e.symm)]
  exact (aA.alloc w o).block g hg
 have b5:aD c 46 #[tsv,inv,mav,ov] w5:=by
  have:=h.bx
  unfold aD at *
  rw [hblk c hcl fun e=>by have:=hin c e;omega];exact this
 have m5:aD mb T cs w5:=by
  unfold aD at *
  rw [hblk mb hml hmo];exact hm
 refine ⟨b5,⟨?_,?_,?_⟩,?_,?_⟩
 ·have:=b5.set 3 v'
  simpa only [List.setIfInBounds_toArray,List.set_cons_zero,List.set_cons_succ] using this
 ·unfold yL
  rw [show prV (l ++ [(x,y)])=prV l ++ [.int .i64 x,.int .i64 y] by unfold prV;rw [List.flatMap_append];simp,List.length_append]
  obtain ⟨hl,hh⟩:=h5
  refine ⟨hl,?_⟩
  rcases hh with hh | ⟨g,cap,cur,rfl,e1,e2,e3⟩
  ·exact .inl hh
  ·exact .inr ⟨g,cap,cur,rfl,e1,by rw [gS _ _ _ _ g (by omega)];exact e2,e3⟩
 ·have k1:Below c w w5:=Below.grown ((Below.refl c w).alloc (by omega) _) h6 (by rw [aC];omega) fun g hg=>by have:=hin g hg;omega
  exact (h.kp.trans k1).trans (aM w5 c 3 v')
 ·unfold aD at *
  rw [gS _ _ _ _ mb (by omega)];exact m5
 ·intro e
  rcases h9 with h9 | h9
  ·exact hmo (h9 ▸ e)
  ·rw [h9] at e
   have:=Option.some.inj e
   omega
theorem yT (args:Array Value) (w:World):(callFunc 82 args).run Tryz.prog w=.ok (.enter 82 args) w:=enters_of Tryz.func82 (by kernel_rfl) rfl args w
def aPi (ps:List PK) (wi:WI) (ms:List MB) (w:World) (e:Ending) (w':World):Prop:=
 aA w w'/\((cW ps wi ms≠0/\e=.returned (.tuple #[.slice none 0 0,.int .i64 (cW ps wi ms)]))∨(cW ps wi ms=0/\∃ rb,e=.returned (.tuple #[.slice (some ⟨rb,0,none⟩) (aB ps wi).many (aB ps wi).many,.int .i64 0])/\w.heap.size<=rb/\aD rb 3 ((Cn.chL ((aB ps wi).mod (eW ms))).map (Value.int .i64)).toArray w'))
theorem aOy {c:Nat} {T:TypeId} {v:Value} {w w':World} {O O':Nat->Prop} (h:aE c T v w) (k:Cn.aF O O' w w') (hc : ¬ O c):aE c T v w':=by
 have hl:=h.facts.2.2
 unfold aE at *;rw [k.block c hl hc];exact h
structure LB (ps:List PK) (wi:WI) (cb tb g lb rb:Nat) (W:World):Prop where
 bx:aD cb 134 #[.int .i64 (aB ps wi).many,.slice (some ⟨tb,0,none⟩) ps.length ps.length,.map (some g)] W
 tk:Cn.aH (fun b=>b=tb) W (aB ps wi).tks (.slice (some ⟨tb,0,none⟩) ps.length ps.length)
 fg : ∃ k,Cn.gH g k ((aB ps wi).fgs wi.on) W
 lv:aE lb 37 (.slice (some ⟨rb,0,none⟩) (aB ps wi).many (aB ps wi).many) W
theorem LB.turn {ps:List PK} {wi:WI} {cb tb g lb rb:Nat} {W W':World} (h:LB ps wi cb tb g lb rb W) (hn:rb≠cb/\rb≠tb/\rb≠g/\rb≠lb) (htl:tb<W.heap.size) (t:Cn.aF (fun c=>c=rb) (fun c=>c=rb) W W'):LB ps wi cb tb g lb rb W':=by
 obtain ⟨h1,h2,h3,h4⟩:=hn
 obtain ⟨k,hf⟩:=h.fg
 exact ⟨Cn.aD.turn h.bx t (Ne.symm h1),h.tk.mono (fun p hp=>by have e:p.block=tb:=hp;exact World.cell?_of_block (w:=W) (t.block _ (by omega) (by omega))) (fun _ h=>h),⟨k,hf.at (t.block _ hf.lt (Ne.symm h3))⟩,aOy h.lv t (Ne.symm h4)⟩
def aTy (s2 s8 g s3 s4:Nat):Prop:=s3≠s8/\s3≠s2+3/\s3≠g/\s3≠s4
theorem qE (S:Nat->Prop) (ps:List PK) (wi:WI) (ms:List MB) (pv tsv inv mav onv lv:Value) (w:World) (hS : ∀ b,S b->b<w.heap.size) (hp:bC S w ps pv) (hw:dZ S w wi tsv inv mav onv) (hm:bI S w ms lv) :
  Calls Tryz.prog 29 #[.agg #[pv],.agg #[tsv,inv,mav,onv],lv] w fun e w'=>aPi ps wi ms w e w':=by
 obtain ⟨i0,hi,hz0,hz1,hz2⟩:=info_parts dG
 have HP:=hid hp
 have HW:=hid hw
 have HM:=hid hm
 have hent:=yT
 obtain ⟨lp,lc,hlv,⟨hlc,hlen⟩,-⟩:=id hm
 subst hlv
 clear hp hw hm
 go_enter Tryz.func29,Tryz.ntmps29
 go_upto_region 1 with fail
 refine bF (fun W'=>aA w W'/\aE w.heap.size 24 pv W'/\aD (w.heap.size+1) 46 #[tsv,inv,mav,onv] W') ⟨(aA.alloc _ _).alloc' _,(aE.new _ _ _).keep (aA.alloc _ _) (by simp),?_⟩ ?_
 ·have:=aD.new (w.alloc (.cells #[pv] 24)) 46 #[tsv,inv,mav,onv]
  rw [aC] at this;exact this
 rintro W1 ⟨k1,v1,b1⟩
 have K1:=hid k1
 have V1:=hid v1
 have B1:=hid b1
 obtain ⟨b,hb⟩ : ∃ b,b=w.heap.size:=⟨_,rfl⟩
 rw [← hb] at V1 B1 ⊢
 have HB:=hid hb
 clear k1 v1 b1 hb
 have ht0:=V1.out.facts.1
 have htl:=V1.out.facts.2.2
 have hw0:W1.cell? ⟨b+1,0,none⟩=some tsv:=B1.out.facts.1 0
 have hw1:W1.cell? ⟨b+1,1,none⟩=some inv:=B1.out.facts.1 1
 have hw2:W1.cell? ⟨b+1,2,none⟩=some mav:=B1.out.facts.1 2
 have hw3:W1.cell? ⟨b+1,3,none⟩=some onv:=B1.out.facts.1 3
 have hwl:=B1.out.facts.2.2
 go_wp2_with fail
 refine (yC S ps wi ms _ _ _ _ _ _ W1 (fun c hc=>Nat.lt_of_lt_of_le (hS c hc) K1.out.size) (HP.out.keep hS K1.out) (HW.out.keep hS K1.out) (HM.out.keep hS K1.out)).mono ?_
 rintro e W2 ⟨rfl,k2⟩
 have K2:=hid (K1.out.trans k2)
 have V2:=hid (V1.out.keep k2 V1.out.facts.2.2)
 have B2:=hid (B1.out.keep k2 B1.out.facts.2.2)
 clear ht0 htl hw0 hw1 hw2 hw3 hwl V1 B1 K1 k2
 generalize iF ps wi ms=vr
 by_cases hz:cW ps wi ms=0
 ·have hz1':(cW ps wi ms==0)=true:=by simpa using hz
  have hz2':(cW ps wi ms != 0)=false:=by simp [bne,hz1']
  have HZ:=hid hz
  rw [hz] at hz1' hz2' ⊢
  have hzw:bE ps wi=0:=by unfold cW at hz;by_cases e:bE ps wi=0;exact e;rw [if_pos e] at hz;exact hz
  have hzm:bV ps ms=0:=by unfold cW at hz;rw [if_neg (by simp [hzw])] at hz;exact hz
  obtain ⟨hT,hTS,-,-,-,-,-,hone⟩:=cI hzw
  obtain ⟨h8,hf2,-,hin,hil,-⟩:=dD hTS
  have hok:=gB hTS
  have h14:=(nT wi hT).1
  have hon:=vC hone h8 hf2
  have HSET:=hid (vL wi hzm)
  have hms:=dD hzm
  have HMS:=hid hms
  have ht0:=V2.out.facts.1
  have htl:=V2.out.facts.2.2
  have hw0:W2.cell? ⟨b+1,0,none⟩=some tsv:=B2.out.facts.1 0
  have hw1:W2.cell? ⟨b+1,1,none⟩=some inv:=B2.out.facts.1 1
  have hw2:W2.cell? ⟨b+1,2,none⟩=some mav:=B2.out.facts.1 2
  have hw3:W2.cell? ⟨b+1,3,none⟩=some onv:=B2.out.facts.1 3
  have hwl:=B2.out.facts.2.2
  clear hz hone hms
  go_wp2_with fail
  refine (oY S ps wi _ _ _ _ _ W2 (fun c hc=>Nat.lt_of_lt_of_le (hS c hc) K2.out.size) (HP.out.keep hS K2.out) (HW.out.keep hS K2.out) h8 hf2 hok hin hil h14 hon).mono ?_
  rintro e w8 ⟨g,kk,rfl,htk,hfg,hge,k8⟩
  have G1:=hid htk
  have G2:=hid hfg
  have G3:=hid hge
  have K8:=hid (K2.out.trans k8)
  have K28:=hid k8.size
  clear htk hfg hge k8 ht0 htl hw0 hw1 hw2 hw3 hwl V2 B2
  go_upto_region 5 with fail
  refine bF (fun W'=>aA w8 W'/\W'.heap.size=w8.heap.size+1/\aD w8.heap.size 134 #[.int .i64 (aB ps wi).many,.slice (some ⟨W2.heap.size+3,0,none⟩) ps.length ps.length,.map (some g)] W') ⟨aA.alloc _ _,aC _ _,aD.new _ _ _⟩ ?_
  rintro W3 ⟨k3,z3,b3⟩
  have hc0:W3.cell? ⟨w8.heap.size,0,none⟩=some (.int .i64 (aB ps wi).many):=b3.facts.1 0
  have hcl:=b3.facts.2.2
  have K3:=hid k3
  have Z3:=hid z3
  have B3:=hid b3
  clear k3 z3 b3
  go_upto_region 6 with (at_make;refine wpList_make_full _ rfl _ _ 37 rfl W3.heap.size 3 i0 (.int .i64 0) 1 Tryz.underlying37 hi hz0 hz1 .i64 .i64 ((aB ps wi).many:Int) ((aB ps wi).many:Int) (aB ps wi).many rfl rfl rfl rfl (by rw [hz2];omega) (by unfold maxLen;omega) (Nat.le_refl _) ?_;intro w4 h1 h2;have K4:=hid (Cn.nR h2);have F4:=hid (Cn.gD (v:= .int .i64 0) rfl h1);clear h1 h2)
  have h24:=K28.out
  have h34:=Z3.out
  have h44:=K4.out.size
  have hgl:=G2.out.lt
  have hg4:=G3.out
  have hf4:=F4.out.facts.2.2
  have HPL:=hid (show aTy W2.heap.size w8.heap.size g W3.heap.size w4.heap.size from ⟨by omega,by omega,by omega,by omega⟩)
  refine bF (fun W'=>LB ps wi w8.heap.size (W2.heap.size+3) g w4.heap.size W3.heap.size W'/\aD W3.heap.size 3 ((Cn.vG (aB ps wi).many 0).map (Value.int .i64)).toArray W'/\aA w W'/\w4.heap.size<W'.heap.size) ?_ ?_
  ·have ka:=aA.alloc w4 (.cells #[.slice (some ⟨W3.heap.size,0,none⟩) (aB ps wi).many (aB ps wi).many] 37)
   have k34:aA W3 w4:=K4.out
   have k35:aA W3 _:=k34.trans ka
   have k85:aA w8 _:=K3.out.trans k35
   refine ⟨⟨B3.out.keep k35 B3.out.facts.2.2,?_,⟨_,G2.out.keep k85⟩,aE.new _ _ _⟩,?_,K8.out.trans k85,by rw [aC];omega⟩
   ·exact G1.out.keep (B:=w8.heap.size) (fun c hc=>by have:c=W2.heap.size+3:=hc;omega) k85
   ·have h5:aD W3.heap.size 3 (List.replicate (aB ps wi).many (Value.int .i64 0)).toArray w4:=F4.out
    unfold Cn.vG
    rw [List.map_replicate]
    exact h5.keep ka h5.facts.2.2
  rintro W5 ⟨l5,r5,k5,z5⟩
  have L5:=hid l5
  have F5:=hid r5
  have K5:=hid k5
  obtain ⟨hn1,hn2,hn3,hn4⟩:=HPL.out
  have hrw:w.heap.size<=W3.heap.size:=by have:=K8.out.size;omega
  have htw:W2.heap.size+3<W5.heap.size:=by omega
  generalize W2.heap.size+3=tb at L5 hn2 htw
  generalize w8.heap.size=cb at L5 hn1 ⊢
  generalize w4.heap.size=lb at L5 hn4 ⊢
  generalize W3.heap.size=rb at L5 F5 hn1 hn2 hn3 hn4 hrw ⊢
  clear h24 h34 h44 hgl hg4 hf4 HPL l5 r5 k5 z5 G1 G2 G3 K8 K28 K3 Z3 B3 K4 F4 hc0 hcl K2
  have HLB:=hid (show ∀ W,Cn.aF (fun c=>c=rb) (fun c=>c=rb) W5 W->LB ps wi cb tb g lb rb W/\aA w W/\tb<W.heap.size from fun W t=>⟨L5.out.turn ⟨hn1,hn2,hn3,hn4⟩ htw t,Below.trans K5.out (t.below (B:=w.heap.size) K5.out.size fun c hc e=>by have e:c=rb:=e;omega),Nat.lt_of_lt_of_le htw t.size⟩)
  have hx0:W5.cell? ⟨cb,0,none⟩=some (.int .i64 (aB ps wi).many):=L5.out.bx.facts.1 0
  have hxl:=L5.out.bx.facts.2.2
  go_wp2_with fail
  go_loopg [39] (aB ps wi).many (fun gk iv wr=> ∃ j:Nat,j+gk=(aB ps wi).many/\iv=.int .i64 j/\aD rb 3 ((Cn.vG (aB ps wi).many j).map (Value.int .i64)).toArray wr/\Cn.aF (fun c=>c=rb) (fun c=>c=rb) W5 wr)
  case atStart=>exact ⟨0,by omega,rfl,F5.out,Cn.aF.refl _ _⟩
  case round=>
  obtain ⟨j,hj,rfl,hf,ht⟩:=hrel
  have F1:=hid hf
  have T1:=hid ht
  clear hf ht hx0 hxl
  by_cases hlt:j<(aB ps wi).many
  ·have hjI:(j:Int)<((aB ps wi).many:Int):=by omega
   have hlen:=Cn.qR (aB ps wi).many j
   have HST:=hid (fL (Cn.vG (aB ps wi).many j) lb rb (-((j:Int)+1)) wr (by rw [hlen];exact (HLB.out wr T1.out).1.lv) F1.out (Ne.symm hn4) (by omega) (by omega) (by omega))
   clear hlen
   have hw1:IntKind.i64.wrap ((j:Int)+1)=(j:Int)+1:=cJ (by omega)
   have hw2:IntKind.i64.wrap (-((j:Int)+1)) = -((j:Int)+1):=cJ (by omega)
   go_wp2_with fail
   refine HST.out.mono ?_
   rintro e w9 ⟨rfl,f9,t9⟩
   have F9:=hid f9
   have T9:=hid (T1.out.trans t9)
   clear f9 t9
   go_wp2_with fail
   clear hw1 hw2
   go_roundg ((aB ps wi).many-(j+1))
   case rel=>exact ⟨j+1,by omega,by go_num,F9.out,T9.out⟩
   case measure=>omega
  have hje:j=(aB ps wi).many:=by omega
  have hnl : ¬ ((j:Int)<((aB ps wi).many:Int)):=by omega
  have F2:=hid (show aD rb 3 ((Cn.chL ((aB ps wi).l2 0)).map (Value.int .i64)).toArray wr from by
   have:=F1.out
   rw [hje,Cn.aKs] at this
   exact this)
  have hx1:wr.cell? ⟨cb,1,none⟩=some (.slice (some ⟨tb,0,none⟩) ps.length ps.length):=(HLB.out wr T1.out).1.bx.facts.1 1
  have hxl:=(HLB.out wr T1.out).1.bx.facts.2.2
  clear hje F1 hlt hj
  go_wp2_with fail
  obtain ⟨wo,rfl⟩ : ∃ wo:World,wo=wr:=⟨_,rfl⟩
  go_loopg [51] ps.length (fun gk iv wr=> ∃ j:Nat,j+gk=ps.length/\iv=.int .i64 j/\aD rb 3 ((Cn.chL ((aB ps wi).l2 j)).map (Value.int .i64)).toArray wr/\Cn.aF (fun c=>c=rb) (fun c=>c=rb) W5 wr)
  case atStart=>exact ⟨0,by omega,rfl,F2.out,T1.out⟩
  case round=>
  clear hnl hx1 hxl F2 T1
  obtain ⟨j2,hj,rfl,hf,ht⟩:=hrel
  have F1:=hid hf
  have T1:=hid ht
  clear hf ht
  by_cases hlt:j2<ps.length
  ·obtain ⟨L1,-,htbl⟩:=HLB.out wr T1.out
   have hnl2:=cB ps wi
   obtain ⟨tb',tof,htp,htb',htc⟩:=(show Cn.aH (fun b=>b=tb) wr (aB ps wi).tks (.slice (some ⟨tb,0,none⟩) (aB ps wi).tks.length ps.length) from by rw [Cn.CT.tks_len,hnl2];exact L1.tk).nth (k:=j2) (by rw [Cn.CT.tks_len];omega)
   cases htp
   have hct:=htc j2 _ (Cn.CT.tks_get (aB ps wi) (i:=j2) (by omega))
   rw [Nat.zero_add] at hct
   have htk:=Cn.CT.tk_lit hok (i:=j2) (by omega)
   have hml:=Cn.CT.l2_len (aB ps wi) j2
   have HSTE:=hid (Cn.CT.set_tkN hok hml (i:=j2) (by omega))
   have HN2:=hid (show (aB ps wi).l2 (j2+1)=(aB ps wi).stT ((aB ps wi).l2 j2) j2 from rfl)
   have hlen:(Cn.chL ((aB ps wi).l2 j2)).length=(aB ps wi).many:=by rw [Cn.iL,hml]
   obtain ⟨htk0,htkn⟩:=htk
   have HST:=hid (fL (Cn.chL ((aB ps wi).l2 j2)) lb rb (-(aB ps wi).tkL j2) wr (by rw [hlen];exact L1.lv) F1.out (Ne.symm hn4) (by omega) (by omega) (by omega))
   rw [HSTE.out] at HST
   have hjI:(j2:Int)<(ps.length:Int):=by omega
   clear hlen hml htc htb' L1 hnl2
   generalize (aB ps wi).tkL j2=tn at hct htk0 htkn HST HSTE
   have hwn:IntKind.i64.wrap (-tn) = -tn:=cJ (by omega)
   go_wp2_with fail
   refine HST.out.mono ?_
   rintro e w9 ⟨rfl,f9,t9⟩
   have F9:=hid f9
   have T9:=hid (T1.out.trans t9)
   clear f9 t9
   go_wp2_with fail
   go_roundg (ps.length-(j2+1))
   case rel=>exact ⟨j2+1,by omega,by go_num,by rw [HN2.out];exact F9.out,T9.out⟩
   case measure=>omega
  have hje:j2=ps.length:=by omega
  have hnl : ¬ ((j2:Int)<(ps.length:Int)):=by omega
  have F2:=hid (show aD rb 3 ((Cn.chL ((aB ps wi).l3 (eW ms) 0)).map (Value.int .i64)).toArray wr from by
   have:=F1.out
   rw [hje,← cB ps wi] at this
   exact this)
  clear hje F1 hlt hj
  go_wp2_with fail
  obtain ⟨wp,rfl⟩ : ∃ wp:World,wp=wr:=⟨_,rfl⟩
  go_loopg [62] ms.length (fun gk iv wr=> ∃ j:Nat,j+gk=ms.length/\iv=.int .i64 j/\aD rb 3 ((Cn.chL ((aB ps wi).l3 (eW ms) j)).map (Value.int .i64)).toArray wr/\Cn.aF (fun c=>c=rb) (fun c=>c=rb) W5 wr)
  case atStart=>exact ⟨0,by omega,rfl,F2.out,T1.out⟩
  case round=>
  clear hnl F2 T1
  obtain ⟨j3,hj,rfl,hf,ht⟩:=hrel
  have F1:=hid hf
  have T1:=hid ht
  clear hf ht
  by_cases hlt:j3<ms.length
  ·obtain ⟨L1,hkw,htbl⟩:=HLB.out wr T1.out
   obtain ⟨lb',lo,lc',hlv',hSl,-,hlrow⟩:=(HM.out.keep hS hkw).get hlt
   cases hlv'
   obtain ⟨op,oc,hc0,hc1,hol,hob⟩:=hlrow j3 _ (List.getElem?_eq_getElem hlt)
   have hlbl:lb'<wr.heap.size:=Nat.lt_of_lt_of_le (hS lb' hSl) hkw.size
   have hpl:=HMS.out.2.2.2.1 ms[j3].pl (List.mem_map.2 ⟨_,List.getElem_mem hlt,rfl⟩)
   have HN3:=hid (show (aB ps wi).l3 (eW ms) (j3+1)=(aB ps wi).stF ms[j3].pl.toNat ms[j3].on ((aB ps wi).stY ((aB ps wi).l3 (eW ms) j3) ms[j3].pl.toNat) ms[j3].on.length by
    rw [Cn.CT.l3]
    have:(eW ms).getD j3 (0,[])=(ms[j3].pl.toNat,ms[j3].on):=by simp [eW,List.getD_eq_getElem?_getD,List.getElem?_eq_getElem hlt]
    rw [this])
   have hfle:ms[j3].on.length=(aB ps wi).nf.getD ms[j3].pl.toNat 0:=HSET.out.fl (ms[j3].pl.toNat,ms[j3].on) (List.mem_map.2 ⟨ms[j3],List.getElem_mem hlt,rfl⟩)
   generalize ms[j3]=mm at hc0 hc1 hol hob hpl HN3 hfle
   obtain ⟨i,hi'⟩ : ∃ i:Nat,mm.pl=(i:Int):=⟨mm.pl.toNat,by omega⟩
   rw [hi'] at hc0 HN3 hpl hfle
   rw [Int.toNat_natCast] at HN3 hfle
   have HFLE:=hid hfle
   clear hfle
   have hiP:i<ps.length:=by omega
   have hiI:(i:Int)<(ps.length:Int):=by omega
   have hnl2:=cB ps wi
   obtain ⟨tb',tof,htp,htb',htc⟩:=(show Cn.aH (fun b=>b=tb) wr (aB ps wi).tks (.slice (some ⟨tb,0,none⟩) (aB ps wi).tks.length ps.length) from by rw [Cn.CT.tks_len,hnl2];exact L1.tk).nth (k:=i) (by rw [Cn.CT.tks_len];omega)
   cases htp
   have hct:=htc i _ (Cn.CT.tks_get (aB ps wi) (i:=i) (by omega))
   rw [Nat.zero_add] at hct
   obtain ⟨htk0,htkn⟩:=Cn.CT.tk_lit hok (i:=i) (by omega)
   have hml:=Cn.CT.l3_len (aB ps wi) (eW ms) j3
   have HSTE:=hid (Cn.CT.set_tkY hok hml (i:=i) (by omega))
   have hlen:(Cn.chL ((aB ps wi).l3 (eW ms) j3)).length=(aB ps wi).many:=by rw [Cn.iL,hml]
   have HST:=hid (show ∀ W,aA wr W->Calls Tryz.prog 82 #[.int .i64 ((aB ps wi).tkL i),.pointer (some ⟨lb,0,none⟩)] W _ from fun W kW=>fL (Cn.chL ((aB ps wi).l3 (eW ms) j3)) lb rb ((aB ps wi).tkL i) W (by rw [hlen];exact L1.lv.keep kW L1.lv.facts.2.2) (F1.out.keep kW F1.out.facts.2.2) (Ne.symm hn4) (by omega) (by omega) (by omega))
   rw [HSTE.out] at HST
   have hm0l:((aB ps wi).stY ((aB ps wi).l3 (eW ms) j3) i).length=(aB ps wi).many:=by rw [Cn.CT.stY,List.length_set,hml]
   generalize (aB ps wi).stY ((aB ps wi).l3 (eW ms) j3) i=m0 at HST HN3 hm0l
   have hx1:wr.cell? ⟨cb,1,none⟩=some (.slice (some ⟨tb,0,none⟩) ps.length ps.length):=L1.bx.facts.1 1
   have hxl:=L1.bx.facts.2.2
   have hjI:(j3:Int)<(ms.length:Int):=by omega
   have HOB:=hid hob
   have HWW:=hid (show ∀ W,Cn.aF (fun c=>c=rb) (fun c=>c=rb) W5 W->∀ p:Addr,S p.block->W.cell? p=wr.cell? p from fun W t p hp=>((HLB.out W t).2.1.cell (hS _ hp)).trans (hkw.cell (hS _ hp)).symm)
   have HKW:=hid hkw
   have HOK:=hid hok
   generalize (aB ps wi).tkL i=tn at hct htk0 htkn HST HSTE
   clear hlen hml htc htb' L1 hlrow hpl hi' hob hkw
   go_upto_region 20 with fail
   refine bF (fun W'=>aA wr W'/\aD wr.heap.size 64 #[.int .i64 i,.slice op mm.on.length oc] W') ⟨aA.alloc _ _,aD.new _ _ _⟩ ?_
   rintro W6 ⟨k6,b6⟩
   have B6:=hid b6
   have K6:=hid k6
   have hp0:W6.cell? ⟨wr.heap.size,0,none⟩=some (.int .i64 i):=b6.facts.1 0
   have hpl:=b6.facts.2.2
   have hct6:=(k6.cell (p:=⟨tb,i,none⟩) htbl).trans hct
   have hx16:=(k6.cell (p:=⟨cb,1,none⟩) hxl).trans hx1
   have hxl6:cb<W6.heap.size:=Nat.lt_of_lt_of_le hxl k6.size
   have htbl6:tb<W6.heap.size:=Nat.lt_of_lt_of_le htbl k6.size
   have hmr:wr.heap.size≠rb:=by have:=F1.out.facts.2.2;omega
   clear hct hx1 hxl htbl k6 b6 hc0 hc1 hlbl
   generalize wr.heap.size=mb at B6 hp0 hpl hmr ⊢
   go_wp2_with fail
   refine (HST.out W6 K6.out).mono ?_
   rintro e w7 ⟨rfl,f7,t7⟩
   have F7:=hid f7
   have T7:=hid ((T1.out.trans (Cn.aF.keep K6.out)).trans t7)
   have B7:=hid (Cn.aD.turn B6.out t7 hmr)
   have hp1:w7.cell? ⟨mb,1,none⟩=some (.slice op mm.on.length oc):=B7.out.facts.1 1
   have hpl7:=B7.out.facts.2.2
   clear f7 t7 hp0 hpl hct6 hx16 hxl6 htbl6 B6 K6 HST T1 F1
   go_wp2_with fail
   clear hp1 hpl7
   obtain ⟨wq,rfl⟩ : ∃ wq:World,wq=wr:=⟨_,rfl⟩
   go_loopg [77] mm.on.length (fun gk iv wr=> ∃ k:Nat,k+gk=mm.on.length/\iv=.int .i64 k/\aD rb 3 ((Cn.chL ((aB ps wi).stF i mm.on m0 k)).map (Value.int .i64)).toArray wr/\Cn.aF (fun c=>c=rb) (fun c=>c=rb) W5 wr/\aD mb 64 #[.int .i64 i,.slice op mm.on.length oc] wr)
   case atStart=>exact ⟨0,by omega,rfl,F7.out,T7.out,B7.out⟩
   case round=>
   clear F7 T7 B7
   obtain ⟨k,hk,rfl,hf,ht,hbx⟩:=hrel
   have F1:=hid hf
   have T1:=hid ht
   have B1:=hid hbx
   clear hf ht hbx
   by_cases hlt2:k<mm.on.length
   ·obtain ⟨L1,hkw,htbl⟩:=HLB.out wr T1.out
    have hfle:=HFLE.out
    obtain ⟨ob,oo,hop,hobS,hoc⟩:=((HOB.out.mono (S':=S) (fun _ _=>rfl) (fun _ h=>h)).cell (q:=k) hlt2)
    subst hop
    have hocw:=(HWW.out wr T1.out ⟨ob,oo+k,none⟩ hobS).trans hoc
    have hobl:ob<wr.heap.size:=Nat.lt_of_lt_of_le (hS ob hobS) hkw.size
    have hkI:(k:Int)<(mm.on.length:Int):=by omega
    have hp0:wr.cell? ⟨mb,0,none⟩=some (.int .i64 i):=B1.out.facts.1 0
    have hpl:=B1.out.facts.2.2
    have hx2:wr.cell? ⟨cb,2,none⟩=some (.map (some g)):=L1.bx.facts.1 2
    have hxl:=L1.bx.facts.2.2
    obtain ⟨nk,hfg⟩:=L1.fg
    have hfl2:(aB ps wi).nf.getD i 0<=100:=by rw [kN wi hiP];have:=hf2 (ps.getD i PK.zero) (by rw [List.getD_eq_getElem?_getD,List.getElem?_eq_getElem hiP];exact List.getElem_mem hiP);omega
    have hlk:=hfg.look qZ (x:=(i:Int)) (y:=(k:Int)) (by unfold Cn.SmP;omega) (by unfold Cn.SmP;omega)
    rw [Cn.CT.fgs_get (c:=aB ps wi) (on:=wi.on) (fun _ _=>rfl) (by rw [cB];exact hiP) (show k<(aB ps wi).nf.getD i 0 by omega)] at hlk
    obtain ⟨hfg0,hfgn⟩:=Cn.CT.fg_lit (aB ps wi) (i:=i) (k:=k) (by rw [cB];exact hiP) (by omega)
    have hfr0:((aB ps wi).fgL i k).natAbs<=900000:=by omega
    have hml:((aB ps wi).stF i mm.on m0 k).length=(aB ps wi).many:=by rw [Cn.CT.stF_len,hm0l]
    have hlen:(Cn.chL ((aB ps wi).stF i mm.on m0 k)).length=(aB ps wi).many:=by rw [Cn.iL,hml]
    have HSTE:=hid (Cn.CT.set_fg (aB ps wi) hm0l (i:=i) (k:=k) (by rw [cB];exact hiP) (by omega) mm.on)
    have hsab:=Cn.nF ((aB ps wi).fgL i k) (mm.on.getD k false)
    have HST:=hid (fL (Cn.chL ((aB ps wi).stF i mm.on m0 k)) lb rb (Cn.sg ((aB ps wi).fgL i k) (mm.on.getD k false)) wr (by rw [hlen];exact L1.lv) F1.out (Ne.symm hn4) (by omega) (by omega) (by omega))
    rw [HSTE.out] at HST
    generalize mm.on.getD k false=bk at hocw hoc HST HSTE hsab
    generalize (aB ps wi).fgL i k=fr at hlk hfg0 hfgn hfr0 HST HSTE hsab
    clear hlen hml hsab L1 hfg hoc hkw hfle
    go_wp2_with fail
    refine (pG fr bk _ hfr0).mono ?_
    rintro e w8 ⟨rfl,hw8⟩
    rw [hw8]
    clear hw8
    go_wp2_with fail
    refine HST.out.mono ?_
    rintro e w9 ⟨rfl,f9,t9⟩
    have F9:=hid f9
    have T9:=hid (T1.out.trans t9)
    have B9:=hid (Cn.aD.turn B1.out t9 hmr)
    clear f9 t9 hlk hocw hp0 hx2 HST T1 F1 B1
    go_wp2_with fail
    go_roundg (mm.on.length-(k+1))
    case rel=>exact ⟨k+1,by omega,by go_num,F9.out,T9.out,B9.out⟩
    case measure=>omega
   have hke:k=mm.on.length:=by omega
   have hnl : ¬ ((k:Int)<(mm.on.length:Int)):=by omega
   have F9:=hid (show aD rb 3 ((Cn.chL ((aB ps wi).l3 (eW ms) (j3+1))).map (Value.int .i64)).toArray wr from by
    have:=F1.out
    rw [hke,← HN3.out] at this
    exact this)
   have T9:=hid T1.out
   clear hke F1 T1 hk hlt2
   go_wp2_with fail
   go_roundg (ms.length-(j3+1))
   case rel=>exact ⟨j3+1,by omega,by go_num,F9.out,T9.out⟩
   case measure=>omega
  have hje:j3=ms.length:=by omega
  have hnl : ¬ ((j3:Int)<(ms.length:Int)):=by omega
  obtain ⟨L1,hkw,-⟩:=HLB.out wr T1.out
  have hlv:=L1.lv.facts.1
  have hll:=L1.lv.facts.2.2
  have HFIN:=hid (show aD rb 3 ((Cn.chL ((aB ps wi).mod (eW ms))).map (Value.int .i64)).toArray wr from by
   have:=F1.out
   rw [hje,show ms.length=(eW ms).length by simp [eW],Cn.CT.l3_done hok HSET.out] at this
   exact this)
  have HKF:=hid hkw
  clear hje hj L1 hkw F1
  go_wp2_with fail
  refine cE (v:= .tuple #[.slice (some ⟨rb,0,none⟩) (aB ps wi).many (aB ps wi).many,.int .i64 0]) (fun W'=>aA w W'/\aD rb 3 ((Cn.chL ((aB ps wi).mod (eW ms))).map (Value.int .i64)).toArray W') ⟨HKF.out,HFIN.out⟩ rfl ?_
  rintro W ⟨hkW,hbW⟩
  exact ⟨by simp [results,Tryz.results29,go_sem],hkW,.inr ⟨HZ.out,rb,rfl,hrw,hbW⟩⟩
 ·have hz1':(cW ps wi ms==0)=false:=by simpa using hz
  have hz2':(cW ps wi ms != 0)=true:=by simp [bne,hz1']
  have HZ:=hid hz
  generalize hve:cW ps wi ms=ve at hz1' hz2' ⊢
  have HVE:=hid hve
  clear hz hve
  go_wp2_with fail
  refine cE (v:= .tuple #[.slice none 0 0,.int .i64 ve]) (fun W'=>aA w W') K2.out rfl ?_
  rintro W hkW
  exact ⟨by simp [results,Tryz.results29,go_sem],hkW,.inl ⟨HZ.out,by rw [HVE.out]⟩⟩
theorem aMe {ps:List PK} {wi:WI} {c:List Bool} (h:bE ps wi=0) (hb:mG ps wi c):eC ps wi 40000=0/\qO ps wi 40000=bN ps wi c:=by
 rcases xT ps wi with ⟨h0,-⟩ | ⟨-,h1,d,hd,h2⟩ | ⟨-,-,hn,-⟩
 ·exact absurd h h0
 ·exact ⟨h1,by rw [h2,hd.one hb]⟩
 ·exact (hb.some hn).elim
end Go.Proofs.YthaaaecmeafofaaGreatDoor
