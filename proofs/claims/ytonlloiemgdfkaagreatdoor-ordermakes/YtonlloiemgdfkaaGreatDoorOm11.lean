/- Steps of the proof: TreeSet, ValidWish, EncMbRow. -/
import Derived.Test.YtonlloiemgdfkaaGreatDoorOm10
set_option maxHeartbeats 16000000
set_option maxRecDepth 100000
namespace Go.Proofs.YtonlloiemgdfkaaGreatDoor
open Go.RowKit
theorem nA {α:Type} {xs ys:List α} (hl:xs.length=ys.length) (h : ∀ i,i<xs.length->xs[i]? = ys[i]?):xs=ys:=by
 refine List.ext_getElem? fun i=> ?_
 by_cases hi:i<xs.length
 ·exact h i hi
 ·rw [List.getElem?_eq_none (by omega),List.getElem?_eq_none (by omega)]
theorem vU (S:Nat->Prop) (xs ys:List Bool) (v1 v2:Value) (w:World) (hS : ∀ b,S b->b<w.heap.size) (h1:aJ S w xs v1) (h2:aJ S w ys v2) :
  Calls Tryz.prog 98 #[v1,v2] w fun e w'=> ∃ β:Bool,e=.returned (.bool β)/\(β=true↔xs=ys)/\aA w w':=by
 have H1:=hid h1
 have H2:=hid h2
 obtain ⟨p1,c1,rfl,hl1,-⟩:=h1
 obtain ⟨p2,c2,rfl,hl2,-⟩:=h2
 by_cases hl:xs.length=ys.length
 ·have HL:=hid hl
  have HW:Hid (aA w w):=aA.refl _
  rw [← hl]
  clear hl
  go_enter Tryz.func98,Tryz.ntmps98
  go_wp2_with fail
  go_loopg [13] xs.length (fun gk i wr=> ∃ j:Nat,j+gk=xs.length/\i=.int .i64 j/\(∀ i,i<j->xs[i]? = ys[i]?)/\aA w wr)
  case atStart=>exact ⟨0,by simp,rfl,fun i hi=>absurd hi (Nat.not_lt_zero _),HW.out⟩
  case round=>
   obtain ⟨j,hj,rfl,hal,hkp⟩:=hrel
   have HKP:=hid hkp
   have HAL:=hid hal
   clear hkp hal
   by_cases hlt:j<xs.length
   ·obtain ⟨q1,d1,hv1,-,hr1⟩:=H1.out.keep hS HKP.out
    obtain ⟨q2,d2,hv2,-,hr2⟩:=H2.out.keep hS HKP.out
    rw [← HL.out] at hv2 hr2
    cases hv1
    cases hv2
    obtain ⟨b1,o1,rfl,hb1,hc1⟩:=hr1 (by omega)
    obtain ⟨b2,o2,rfl,hb2,hc2⟩:=hr2 (by omega)
    have hlt2:j<ys.length:=by rw [← HL.out];exact hlt
    have e1:xs[j]? = some xs[j]:=List.getElem?_eq_getElem hlt
    have e2:ys[j]? = some ys[j]:=List.getElem?_eq_getElem hlt2
    have g1:=hc1 j _ e1
    have g2:=hc2 j _ e2
    have E1:=hid e1
    have E2:=hid e2
    clear hc1 hc2 hr1 hr2 e1 e2
    generalize xs[j]=x at g1 E1
    generalize ys[j]=y at g2 E2
    by_cases hxy:x=y
    ·subst hxy
     have HN:Hid (∀ i,i<j+1->xs[i]? = ys[i]?):=fun i hi=>by
      by_cases e:i=j
      ·subst e;rw [E1.out,E2.out]
      ·exact HAL.out i (by omega)
     go_wp2_with fail
     go_quiet (fail)
     go_wp2_with fail
     go_roundg (xs.length-(j+1))
     case rel=>exact ⟨j+1,by omega,by go_num,HN.out,aA.drewN HKP.out _⟩
     case measure=>omega
    ·have hxy1:(x==y)=false:=by simp [hxy]
     have hxy2:(x != y)=true:=by simp [hxy]
     have HF:Hid (¬ xs=ys):=fun e=>hxy (by have h1:=E1.out;rw [e,E2.out] at h1;exact (Option.some.inj h1).symm)
     clear hxy
     go_wp2_with fail
     go_quiet (fail)
     go_wp2_with fail
     go_ret
     exact ⟨false,rfl,⟨fun h=>Bool.noConfusion h,fun h=>absurd h HF.out⟩,aA.drewN HKP.out _⟩
   ·have HF:Hid (xs=ys):=nA HL.out fun i hi=>HAL.out i (by omega)
    go_wp2_with fail
    go_ret
    exact ⟨true,rfl,⟨fun _=>HF.out,fun _=>rfl⟩,HKP.out⟩
 ·have hz1:((xs.length:Int)==(ys.length:Int))=false:=beq_eq_false_iff_ne.2 fun e=>hl (by omega)
  have hz2:((xs.length:Int) != (ys.length:Int))=true:=bne_iff_ne.2 fun e=>hl (by omega)
  have HF:Hid (¬ xs=ys):=fun e=>hl (by rw [e])
  clear hl
  go_enter Tryz.func98,Tryz.ntmps98
  go_wp2_with fail
  go_ret
  exact ⟨false,rfl,⟨fun h=>Bool.noConfusion h,fun h=>absurd h HF.out⟩,aA.refl _⟩
theorem hN (S:Nat->Prop) (x y:MB) (v1 v2:Value) (w:World) (hS : ∀ b,S b->b<w.heap.size) (h1:aJ S w x.on v1) (h2:aJ S w y.on v2) :
  Calls Tryz.prog 40 #[.agg #[.int .i64 x.pl,v1],.agg #[.int .i64 y.pl,v2]] w fun e w'=> ∃ β:Bool,e=.returned (.bool β)/\(β=true↔x=y)/\aA w w':=by
 have H1:=hid h1
 have H2:=hid h2
 obtain ⟨p1,c1,rfl,-,-⟩:=h1
 obtain ⟨p2,c2,rfl,-,-⟩:=h2
 rcases x with ⟨xp,xs⟩
 rcases y with ⟨yp,ys⟩
 simp only at H1 H2 ⊢
 by_cases hp:xp=yp
 ·subst hp
  go_enter Tryz.func40,Tryz.ntmps40
  go_wp2_with fail
  refine cQ (fun W'=>aA w W') ((aA.alloc _ _).alloc' _) ?_
  intro W2 k2
  refine (vU S xs ys _ _ W2 (fun b hb=>Nat.lt_of_lt_of_le (hS b hb) k2.size) (H1.out.keep hS k2) (H2.out.keep hS k2)).mono ?_
  rintro e w3 ⟨β,rfl,hβ,k3⟩
  have K3:=hid (k2.trans k3)
  have HB:=hid hβ
  clear k2 k3 hβ
  go_wp2_with fail
  go_ret
  exact ⟨β,rfl,⟨fun h=>by rw [HB.out.1 h],fun h=>HB.out.2 (by cases h;rfl)⟩,K3.out⟩
 ·have hz1:(xp==yp)=false:=by simp [hp]
  have HF:Hid (¬ (⟨xp,xs⟩:MB)=⟨yp,ys⟩):=fun e=>hp (by cases e;rfl)
  have HW:Hid (aA w ((w.alloc (.cells #[.int .i64 xp,.slice p1 xs.length c1] 68)).alloc (.cells #[.int .i64 yp,.slice p2 ys.length c2] 68))):=(aA.alloc _ _).alloc' _
  clear hp
  go_enter Tryz.func40,Tryz.ntmps40
  go_wp2_with fail
  go_ret
  exact ⟨false,rfl,⟨fun h=>Bool.noConfusion h,fun h=>absurd h HF.out⟩,HW.out⟩
end Go.Proofs.YtonlloiemgdfkaaGreatDoor
namespace Go.Proofs.YtonlloiemgdfkaaGreatDoor
open Go.RowKit Go.Sort
end Go.Proofs.YtonlloiemgdfkaaGreatDoor
namespace Go.Proofs.YtonlloiemgdfkaaGreatDoor
open Go.RowKit
theorem uS:(Tryz.prog.info? 4).map (fun i=>(i.zero,i.size,i.bytes))=some (some (.bool false),1,1):=by kernel_rfl
end Go.Proofs.YtonlloiemgdfkaaGreatDoor
