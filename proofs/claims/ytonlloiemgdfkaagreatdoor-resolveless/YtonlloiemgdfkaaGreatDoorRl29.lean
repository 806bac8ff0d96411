/- Steps of the proof: ResSmall, RefSame, TreeSame, TreeSet, EqualInts, ResClosed, ShelfQ, ResDelI. -/
import Derived.Test.YtonlloiemgdfkaaGreatDoorRl19
import Derived.Test.YtonlloiemgdfkaaGreatDoorRl28
import Derived.Test.YtonlloiemgdfkaaGreatDoorRl10
import Derived.Test.YtonlloiemgdfkaaGreatDoorRl09
import Derived.Shelf.Spec.SlicesGrow
import Derived.Laws.AppendOwnNone
import Derived.Sort.OwnSortedInts
import Derived.Shelf.LaysM
import Derived.Shelf.LaysC
import Derived.Shelf.Slices.Delete
import Derived.Shelf.Slices.Empties
import Derived.Test.YtonlloiemgdfkaaGreatDoorProg
set_option maxHeartbeats 16000000
set_option maxRecDepth 100000
namespace Go.Proofs.YtonlloiemgdfkaaGreatDoor
open Go.RowKit
def aEu:Nat->List (List Bool)
 | 0=> [[]]
 | n+1=>(aEu n).map (false :: ·)++(aEu n).map (true :: ·)
theorem tR : ∀ {d:List Bool},d∈aEu d.length
 | []=>by simp [aEu]
 | a :: d=>by
  have:=tR (d:=d)
  rw [List.length_cons,aEu,List.mem_append]
  cases a
  ·exact .inl (List.mem_map.2 ⟨d,this,rfl⟩)
  ·exact .inr (List.mem_map.2 ⟨d,this,rfl⟩)
def aOs:List Bool->List Bool->Bool
 | a :: m,b :: o=>if a=b then aOs m o else !a
 | _,_=>true
theorem aGb : ∀ {m o:List Bool},m.length=o.length->aOs m o=true->Cn.nK m o
 | [],[],_,_=> .inl rfl
 | a :: m,b :: o,hl,h=>by
  rw [aOs] at h
  by_cases e:a=b
  ·subst e
   rw [if_pos rfl] at h
   rcases aGb (by simpa using hl) h with rfl | ⟨j,hj,h1,h2,h3⟩
   ·exact .inl rfl
   ·refine .inr ⟨j+1,by simpa using hj,fun i hi=> ?_,by simpa using h2,by simpa using h3⟩
    cases i with
    | zero=>rfl
    | succ i=>simpa using h1 i (by omega)
  ·rw [if_neg e] at h
   have ha:a=false:=by simpa using h
   subst ha
   have hb:b=true:=by cases b;exact absurd rfl e;rfl
   subst hb
   exact .inr ⟨0,by simp,fun i hi=>by omega,rfl,rfl⟩
theorem aFf {ps:List PK} {wi:WI} {c:List Bool} {n:Nat} (hn:(aB ps wi).many=n) (hc:c.length=n) (hv:dJ ps wi (bX ps wi c)=true) (h:((aEu n).all fun d=> !dJ ps wi (bX ps wi d)||aOs c d)=true):lK ps wi c:=by
 refine ⟨hc.trans hn.symm,hv,fun d hd hdv=>aGb (by rw [hd,hn];exact hc) ?_⟩
 have:=List.all_eq_true.1 h d (by rw [← hn,← hd];exact tR)
 rw [hdv] at this
 simpa using this
theorem aOz {ps:List PK} {wi:WI} {n:Nat} (hn:(aB ps wi).many=n) (h:((aEu n).all fun d=> !dJ ps wi (bX ps wi d))=true):gT ps wi:=fun d hd=>by
 have:=List.all_eq_true.1 h d (by rw [← hn,← hd];exact tR)
 simpa using this
def aGy:At:=⟨⟨#[97]⟩,0,0,0,⟨#[120]⟩,true⟩
def wR:WI:=⟨[atA],[⟨3,[]⟩],[],[]⟩
def wX (ma:List Int):WI:=⟨[aGy],[⟨3,[]⟩],ma,[]⟩
def cR:List Bool:= [false,false,true,false,false]
def cX:List Bool:= [true,false,true,true,true]
theorem aPr:eK aY [⟨3,[]⟩]=0:=by
 unfold eK;rw [sP]
 show aOa aY [⟨3,[]⟩]=0
 decide
theorem aQr:aO [120]=true:=by decide
theorem aPz:bC aY wR=0:=by
 have h2:taE [atA]=0:=by
  have:gR atA=0:=by
   show chk [97] 0 0 0 [] false=0
   unfold chk
   rw [if_neg (by simp [yB]),if_neg (by decide),if_neg (by decide)]
  simp [taE,aU,this]
 unfold bC
 rw [show wR.ins = [⟨3,[]⟩] from rfl,show wR.ts = [atA] from rfl,show wR.ma = [] from rfl,show wR.on = [] from rfl,aPr,h2]
 rfl
theorem pX {ma:List Int} (h:ma = []∨ma = [0]∨ma = [0,2]):bC aY (wX ma)=0:=by
 have h2:taE [aGy]=0:=by
  have:gR aGy=0:=by
   show chk [97] 0 0 0 [120] true=0
   unfold chk
   rw [if_neg (by simp [yB,aQr]),if_neg (by decide),if_neg (by decide)]
  simp [taE,aU,this]
 unfold bC
 rw [show (wX ma).ins = [⟨3,[]⟩] from rfl,show (wX ma).ts = [aGy] from rfl,show (wX ma).ma=ma from rfl,show (wX ma).on = [] from rfl,aPr,h2]
 rcases h with rfl | rfl | rfl<;>rfl
theorem aPx:lK aY wR cR:=aFf (n:=5) (by decide) rfl (by decide +kernel) (by decide +kernel)
theorem aCn {ma:List Int} (h:ma = []∨ma = [0]):lK aY (wX ma) cX:=by
 rcases h with rfl | rfl<;>exact aFf (n:=5) (by decide) rfl (by decide +kernel) (by decide +kernel)
theorem aLz:gT aY (wX [0,2]):=aOz (n:=5) (by decide) (by decide +kernel)
theorem aSc:bX aY wR cR = [⟨1,[false]⟩,⟨3,[]⟩]:=rfl
theorem aSd (ma:List Int):bX aY (wX ma) cX = [⟨1,[true]⟩,⟨2,[]⟩]:=rfl
end Go.Proofs.YtonlloiemgdfkaaGreatDoor
namespace Go.Proofs.YtonlloiemgdfkaaGreatDoor
open Go.RowKit
end Go.Proofs.YtonlloiemgdfkaaGreatDoor
namespace Go.Proofs.YtonlloiemgdfkaaGreatDoor
open Go.RowKit
end Go.Proofs.YtonlloiemgdfkaaGreatDoor
namespace Go.Proofs.YtonlloiemgdfkaaGreatDoor
open Go.RowKit
theorem nZ {α:Type} {xs ys:List α} (hl:xs.length=ys.length) (h : ∀ i,i<xs.length->xs[i]? = ys[i]?):xs=ys:=by
 refine List.ext_getElem? fun i=> ?_
 by_cases hi:i<xs.length
 ·exact h i hi
 ·rw [List.getElem?_eq_none (by omega),List.getElem?_eq_none (by omega)]
theorem aFl (S:Nat->Prop) (xs ys:List Bool) (v1 v2:Value) (w:World) (hS : ∀ b,S b->b<w.heap.size) (h1:bA S w xs v1) (h2:bA S w ys v2) :
  Calls Tryz.prog 98 #[v1,v2] w fun e w'=> ∃ β:Bool,e=.returned (.bool β)/\(β=true↔xs=ys)/\aA w w':=by
 have H1:=hid h1
 have H2:=hid h2
 obtain ⟨p1,c1,rfl,hl1,-⟩:=h1
 obtain ⟨p2,c2,rfl,hl2,-⟩:=h2
 by_cases hl:xs.length=ys.length
 ·have HL:=hid hl
  have HW:Hid (aA w w):=aA.refl _
  rw [← hl]
  clear hl
  go_enter Tryz.func98,Tryz.ntmps98
  go_wp2_with fail
  go_loopg [13] xs.length (fun gk i wr=> ∃ j:Nat,j+gk=xs.length/\i=.int .i64 j/\(∀ i,i<j->xs[i]? = ys[i]?)/\aA w wr)
  case atStart=>exact ⟨0,by simp,rfl,fun i hi=>absurd hi (Nat.not_lt_zero _),HW.out⟩
  case round=>
   obtain ⟨j,hj,rfl,hal,hkp⟩:=hrel
   have HKP:=hid hkp
   have HAL:=hid hal
   clear hkp hal
   by_cases hlt:j<xs.length
   ·obtain ⟨q1,d1,hv1,-,hr1⟩:=H1.out.keep hS HKP.out
    obtain ⟨q2,d2,hv2,-,hr2⟩:=H2.out.keep hS HKP.out
    rw [← HL.out] at hv2 hr2
    cases hv1
    cases hv2
    obtain ⟨b1,o1,rfl,hb1,hc1⟩:=hr1 (by omega)
    obtain ⟨b2,o2,rfl,hb2,hc2⟩:=hr2 (by omega)
    have hlt2:j<ys.length:=by rw [← HL.out];exact hlt
    have e1:xs[j]? = some xs[j]:=List.getElem?_eq_getElem hlt
    have e2:ys[j]? = some ys[j]:=List.getElem?_eq_getElem hlt2
    have g1:=hc1 j _ e1
    have g2:=hc2 j _ e2
    have E1:=hid e1
    have E2:=hid e2
    clear hc1 hc2 hr1 hr2 e1 e2
    generalize xs[j]=x at g1 E1
    generalize ys[j]=y at g2 E2
    by_cases hxy:x=y
    ·subst hxy
     have HN:Hid (∀ i,i<j+1->xs[i]? = ys[i]?):=fun i hi=>by
      by_cases e:i=j
      ·subst e;rw [E1.out,E2.out]
      ·exact HAL.out i (by omega)
     go_wp2_with fail
     go_quiet (fail)
     go_wp2_with fail
     go_roundg (xs.length-(j+1))
     case rel=>exact ⟨j+1,by omega,by go_num,HN.out,aA.drewN HKP.out _⟩
     case measure=>omega
    ·have hxy1:(x==y)=false:=by simp [hxy]
     have hxy2:(x != y)=true:=by simp [hxy]
     have HF:Hid (¬ xs=ys):=fun e=>hxy (by have h1:=E1.out;rw [e,E2.out] at h1;exact (Option.some.inj h1).symm)
     clear hxy
     go_wp2_with fail
     go_quiet (fail)
     go_wp2_with fail
     go_ret
     exact ⟨false,rfl,⟨fun h=>Bool.noConfusion h,fun h=>absurd h HF.out⟩,aA.drewN HKP.out _⟩
   ·have HF:Hid (xs=ys):=nZ HL.out fun i hi=>HAL.out i (by omega)
    go_wp2_with fail
    go_ret
    exact ⟨true,rfl,⟨fun _=>HF.out,fun _=>rfl⟩,HKP.out⟩
 ·have hz1:((xs.length:Int)==(ys.length:Int))=false:=beq_eq_false_iff_ne.2 fun e=>hl (by omega)
  have hz2:((xs.length:Int) != (ys.length:Int))=true:=bne_iff_ne.2 fun e=>hl (by omega)
  have HF:Hid (¬ xs=ys):=fun e=>hl (by rw [e])
  clear hl
  go_enter Tryz.func98,Tryz.ntmps98
  go_wp2_with fail
  go_ret
  exact ⟨false,rfl,⟨fun h=>Bool.noConfusion h,fun h=>absurd h HF.out⟩,aA.refl _⟩
theorem aDb (args:Array Value) (w:World):(callFunc 71 args).run Tryz.prog w=.ok (.enter 71 args) w:=enters_of Tryz.func71 (by kernel_rfl) rfl args w
theorem aEe (S:Nat->Prop) (x y:MB) (v1 v2:Value) (w:World) (hS : ∀ b,S b->b<w.heap.size) (h1:bA S w x.on v1) (h2:bA S w y.on v2) :
  Calls Tryz.prog 71 #[.agg #[.int .i64 x.pl,v1],.agg #[.int .i64 y.pl,v2]] w fun e w'=> ∃ β:Bool,e=.returned (.bool β)/\(β=true↔x=y)/\aA w w':=by
 have H1:=hid h1
 have H2:=hid h2
 obtain ⟨p1,c1,rfl,-,-⟩:=h1
 obtain ⟨p2,c2,rfl,-,-⟩:=h2
 rcases x with ⟨xp,xs⟩
 rcases y with ⟨yp,ys⟩
 simp only at H1 H2 ⊢
 by_cases hp:xp=yp
 ·subst hp
  go_enter Tryz.func71,Tryz.ntmps71
  go_wp2_with fail
  refine bE (fun W'=>aA w W') ((aA.alloc _ _).alloc' _) ?_
  intro W2 k2
  refine (aFl S xs ys _ _ W2 (fun b hb=>Nat.lt_of_lt_of_le (hS b hb) k2.size) (H1.out.keep hS k2) (H2.out.keep hS k2)).mono ?_
  rintro e w3 ⟨β,rfl,hβ,k3⟩
  have K3:=hid (k2.trans k3)
  have HB:=hid hβ
  clear k2 k3 hβ
  go_wp2_with fail
  go_ret
  exact ⟨β,rfl,⟨fun h=>by rw [HB.out.1 h],fun h=>HB.out.2 (by cases h;rfl)⟩,K3.out⟩
 ·have hz1:(xp==yp)=false:=by simp [hp]
  have HF:Hid (¬ (⟨xp,xs⟩:MB)=⟨yp,ys⟩):=fun e=>hp (by cases e;rfl)
  have HW:Hid (aA w ((w.alloc (.cells #[.int .i64 xp,.slice p1 xs.length c1] 68)).alloc (.cells #[.int .i64 yp,.slice p2 ys.length c2] 68))):=(aA.alloc _ _).alloc' _
  clear hp
  go_enter Tryz.func71,Tryz.ntmps71
  go_wp2_with fail
  go_ret
  exact ⟨false,rfl,⟨fun h=>Bool.noConfusion h,fun h=>absurd h HF.out⟩,HW.out⟩
theorem aAe (S:Nat->Prop) (xs ys:List MB) (v1 v2:Value) (w:World) (hS : ∀ b,S b->b<w.heap.size) (h1:cB S w xs v1) (h2:cB S w ys v2) :
  Calls Tryz.prog 69 #[v1,v2,.func (.func 71) #[] #[]] w fun e w'=> ∃ β:Bool,e=.returned (.bool β)/\(β=true↔xs=ys)/\aA w w':=by
 have H1:=hid h1
 have H2:=hid h2
 obtain ⟨p1,c1,rfl,⟨-,hl1⟩,-⟩:=h1
 obtain ⟨p2,c2,rfl,⟨-,hl2⟩,-⟩:=h2
 have hent:=aDb
 by_cases hl:xs.length=ys.length
 ·have HL:=hid hl
  have HW:Hid (aA w w):=aA.refl _
  rw [← hl]
  clear hl
  go_enter Tryz.func69,Tryz.ntmps69
  go_wp2_with fail
  go_loopg [17] xs.length (fun gk i wr=> ∃ j:Nat,j+gk=xs.length/\i=.int .i64 j/\(∀ i,i<j->xs[i]? = ys[i]?)/\aA w wr)
  case atStart=>exact ⟨0,by simp,rfl,fun i hi=>absurd hi (Nat.not_lt_zero _),HW.out⟩
  case round=>
   obtain ⟨j,hj,rfl,hal,hkp⟩:=hrel
   have HKP:=hid hkp
   have HAL:=hid hal
   clear hkp hal
   by_cases hlt:j<xs.length
   ·obtain ⟨q1,d1,hv1,-,hr1⟩:=H1.out.keep hS HKP.out
    obtain ⟨q2,d2,hv2,-,hr2⟩:=H2.out.keep hS HKP.out
    rw [← HL.out] at hv2 hr2
    cases hv1
    cases hv2
    obtain ⟨b1,o1,rfl,hb1,hc1⟩:=hr1 (by omega)
    obtain ⟨b2,o2,rfl,hb2,hc2⟩:=hr2 (by omega)
    have hlt2:j<ys.length:=by rw [← HL.out];exact hlt
    have e1:xs[j]? = some xs[j]:=List.getElem?_eq_getElem hlt
    have e2:ys[j]? = some ys[j]:=List.getElem?_eq_getElem hlt2
    obtain ⟨ov1,g1,g1',hbo1⟩:=hc1 j _ e1
    obtain ⟨ov2,g2,g2',hbo2⟩:=hc2 j _ e2
    have E1:=hid e1
    have E2:=hid e2
    have hb1':b1<wr.heap.size:=Nat.lt_of_lt_of_le (hS _ hb1) HKP.out.size
    have hb2':b2<wr.heap.size:=Nat.lt_of_lt_of_le (hS _ hb2) HKP.out.size
    generalize xs[j]=x at g1 E1 hbo1
    generalize ys[j]=y at g2 E2 hbo2
    have HO1:=hid hbo1
    have HO2:=hid hbo2
    obtain ⟨r1,s1,rfl,-,-⟩:=hbo1
    obtain ⟨r2,s2,rfl,-,-⟩:=hbo2
    clear hc1 hc2 hr1 hr2 e1 e2
    go_wp2_with fail
    refine bE (fun W'=>aA wr W') ((aA.alloc _ _).alloc' _) ?_
    intro W2 k2
    have hS2 : ∀ b,S b->b<wr.heap.size:=fun b hb=>Nat.lt_of_lt_of_le (hS b hb) HKP.out.size
    refine (aEe S x y _ _ W2 (fun b hb=>Nat.lt_of_lt_of_le (hS2 b hb) k2.size) (HO1.out.keep hS2 k2) (HO2.out.keep hS2 k2)).mono ?_
    rintro e w3 ⟨β,rfl,hβ,k3⟩
    have K3:=hid (HKP.out.trans (k2.trans k3))
    clear k2 k3 hS2 g1 g1' g2 g2'
    cases β
    ·have HF:Hid (¬ xs=ys):=fun e=>Bool.noConfusion (hβ.2 (by have h1:=E1.out;rw [e,E2.out] at h1;exact (Option.some.inj h1).symm))
     clear hβ
     go_wp2_with fail
     go_ret
     exact ⟨false,rfl,⟨fun h=>Bool.noConfusion h,fun h=>absurd h HF.out⟩,K3.out⟩
    ·have HN:Hid (∀ i,i<j+1->xs[i]? = ys[i]?):=fun i hi=>by
      by_cases e:i=j
      ·subst e;rw [E1.out,E2.out,hβ.1 rfl]
      ·exact HAL.out i (by omega)
     clear hβ
     go_wp2_with fail
     go_roundg (xs.length-(j+1))
     case rel=>exact ⟨j+1,by omega,by go_num,HN.out,K3.out⟩
     case measure=>omega
   ·have HF:Hid (xs=ys):=nZ HL.out fun i hi=>HAL.out i (by omega)
    go_wp2_with fail
    go_ret
    exact ⟨true,rfl,⟨fun _=>HF.out,fun _=>rfl⟩,HKP.out⟩
 ·have hz1:((xs.length:Int)==(ys.length:Int))=false:=beq_eq_false_iff_ne.2 fun e=>hl (by omega)
  have hz2:((xs.length:Int) != (ys.length:Int))=true:=bne_iff_ne.2 fun e=>hl (by omega)
  have HF:Hid (¬ xs=ys):=fun e=>hl (by rw [e])
  clear hl
  go_enter Tryz.func69,Tryz.ntmps69
  go_wp2_with fail
  go_ret
  exact ⟨false,rfl,⟨fun h=>Bool.noConfusion h,fun h=>absurd h HF.out⟩,aA.refl _⟩
theorem pM (S:Nat->Prop) (xs ys:List MB) (v1 v2:Value) (w:World) (hS : ∀ b,S b->b<w.heap.size) (h1:cB S w xs v1) (h2:cB S w ys v2) :
  Calls Tryz.prog 25 #[v1,v2] w fun e w'=> ∃ β:Bool,e=.returned (.bool β)/\(β=true↔xs=ys)/\aA w w':=by
 have H1:=hid h1
 have H2:=hid h2
 clear h1 h2
 go_enter Tryz.func25,Tryz.ntmps25
 go_wp2_with fail
 refine (aAe S xs ys _ _ w hS H1.out H2.out).mono ?_
 rintro e w3 ⟨β,rfl,hβ,k3⟩
 have K3:=hid k3
 have HB:=hid hβ
 clear k3 hβ
 go_wp2_with fail
 go_ret
 exact ⟨β,rfl,HB.out,K3.out⟩
theorem aDa (args:Array Value) (w:World):(callFunc 40 args).run Tryz.prog w=.ok (.enter 40 args) w:=enters_of Tryz.func40 (by kernel_rfl) rfl args w
theorem aEd (S:Nat->Prop) (x y:MB) (v1 v2:Value) (w:World) (hS : ∀ b,S b->b<w.heap.size) (h1:bA S w x.on v1) (h2:bA S w y.on v2) :
  Calls Tryz.prog 40 #[.agg #[.int .i64 x.pl,v1],.agg #[.int .i64 y.pl,v2]] w fun e w'=> ∃ β:Bool,e=.returned (.bool β)/\(β=true↔x=y)/\aA w w':=by
 have H1:=hid h1
 have H2:=hid h2
 obtain ⟨p1,c1,rfl,-,-⟩:=h1
 obtain ⟨p2,c2,rfl,-,-⟩:=h2
 rcases x with ⟨xp,xs⟩
 rcases y with ⟨yp,ys⟩
 simp only at H1 H2 ⊢
 by_cases hp:xp=yp
 ·subst hp
  go_enter Tryz.func40,Tryz.ntmps40
  go_wp2_with fail
  refine bE (fun W'=>aA w W') ((aA.alloc _ _).alloc' _) ?_
  intro W2 k2
  refine (aFl S xs ys _ _ W2 (fun b hb=>Nat.lt_of_lt_of_le (hS b hb) k2.size) (H1.out.keep hS k2) (H2.out.keep hS k2)).mono ?_
  rintro e w3 ⟨β,rfl,hβ,k3⟩
  have K3:=hid (k2.trans k3)
  have HB:=hid hβ
  clear k2 k3 hβ
  go_wp2_with fail
  go_ret
  exact ⟨β,rfl,⟨fun h=>by rw [HB.out.1 h],fun h=>HB.out.2 (by cases h;rfl)⟩,K3.out⟩
 ·have hz1:(xp==yp)=false:=by simp [hp]
  have HF:Hid (¬ (⟨xp,xs⟩:MB)=⟨yp,ys⟩):=fun e=>hp (by cases e;rfl)
  have HW:Hid (aA w ((w.alloc (.cells #[.int .i64 xp,.slice p1 xs.length c1] 68)).alloc (.cells #[.int .i64 yp,.slice p2 ys.length c2] 68))):=(aA.alloc _ _).alloc' _
  clear hp
  go_enter Tryz.func40,Tryz.ntmps40
  go_wp2_with fail
  go_ret
  exact ⟨false,rfl,⟨fun h=>Bool.noConfusion h,fun h=>absurd h HF.out⟩,HW.out⟩
theorem aAd (S:Nat->Prop) (xs ys:List MB) (v1 v2:Value) (w:World) (hS : ∀ b,S b->b<w.heap.size) (h1:cB S w xs v1) (h2:cB S w ys v2) :
  Calls Tryz.prog 69 #[v1,v2,.func (.func 40) #[] #[]] w fun e w'=> ∃ β:Bool,e=.returned (.bool β)/\(β=true↔xs=ys)/\aA w w':=by
 have H1:=hid h1
 have H2:=hid h2
 obtain ⟨p1,c1,rfl,⟨-,hl1⟩,-⟩:=h1
 obtain ⟨p2,c2,rfl,⟨-,hl2⟩,-⟩:=h2
 have hent:=aDa
 by_cases hl:xs.length=ys.length
 ·have HL:=hid hl
  have HW:Hid (aA w w):=aA.refl _
  rw [← hl]
  clear hl
  go_enter Tryz.func69,Tryz.ntmps69
  go_wp2_with fail
  go_loopg [17] xs.length (fun gk i wr=> ∃ j:Nat,j+gk=xs.length/\i=.int .i64 j/\(∀ i,i<j->xs[i]? = ys[i]?)/\aA w wr)
  case atStart=>exact ⟨0,by simp,rfl,fun i hi=>absurd hi (Nat.not_lt_zero _),HW.out⟩
  case round=>
   obtain ⟨j,hj,rfl,hal,hkp⟩:=hrel
   have HKP:=hid hkp
   have HAL:=hid hal
   clear hkp hal
   by_cases hlt:j<xs.length
   ·obtain ⟨q1,d1,hv1,-,hr1⟩:=H1.out.keep hS HKP.out
    obtain ⟨q2,d2,hv2,-,hr2⟩:=H2.out.keep hS HKP.out
    rw [← HL.out] at hv2 hr2
    cases hv1
    cases hv2
    obtain ⟨b1,o1,rfl,hb1,hc1⟩:=hr1 (by omega)
    obtain ⟨b2,o2,rfl,hb2,hc2⟩:=hr2 (by omega)
    have hlt2:j<ys.length:=by rw [← HL.out];exact hlt
    have e1:xs[j]? = some xs[j]:=List.getElem?_eq_getElem hlt
    have e2:ys[j]? = some ys[j]:=List.getElem?_eq_getElem hlt2
    obtain ⟨ov1,g1,g1',hbo1⟩:=hc1 j _ e1
    obtain ⟨ov2,g2,g2',hbo2⟩:=hc2 j _ e2
    have E1:=hid e1
    have E2:=hid e2
    have hb1':b1<wr.heap.size:=Nat.lt_of_lt_of_le (hS _ hb1) HKP.out.size
    have hb2':b2<wr.heap.size:=Nat.lt_of_lt_of_le (hS _ hb2) HKP.out.size
    generalize xs[j]=x at g1 E1 hbo1
    generalize ys[j]=y at g2 E2 hbo2
    have HO1:=hid hbo1
    have HO2:=hid hbo2
    obtain ⟨r1,s1,rfl,-,-⟩:=hbo1
    obtain ⟨r2,s2,rfl,-,-⟩:=hbo2
    clear hc1 hc2 hr1 hr2 e1 e2
    go_wp2_with fail
    refine bE (fun W'=>aA wr W') ((aA.alloc _ _).alloc' _) ?_
    intro W2 k2
    have hS2 : ∀ b,S b->b<wr.heap.size:=fun b hb=>Nat.lt_of_lt_of_le (hS b hb) HKP.out.size
    refine (aEd S x y _ _ W2 (fun b hb=>Nat.lt_of_lt_of_le (hS2 b hb) k2.size) (HO1.out.keep hS2 k2) (HO2.out.keep hS2 k2)).mono ?_
    rintro e w3 ⟨β,rfl,hβ,k3⟩
    have K3:=hid (HKP.out.trans (k2.trans k3))
    clear k2 k3 hS2 g1 g1' g2 g2'
    cases β
    ·have HF:Hid (¬ xs=ys):=fun e=>Bool.noConfusion (hβ.2 (by have h1:=E1.out;rw [e,E2.out] at h1;exact (Option.some.inj h1).symm))
     clear hβ
     go_wp2_with fail
     go_ret
     exact ⟨false,rfl,⟨fun h=>Bool.noConfusion h,fun h=>absurd h HF.out⟩,K3.out⟩
    ·have HN:Hid (∀ i,i<j+1->xs[i]? = ys[i]?):=fun i hi=>by
      by_cases e:i=j
      ·subst e;rw [E1.out,E2.out,hβ.1 rfl]
      ·exact HAL.out i (by omega)
     clear hβ
     go_wp2_with fail
     go_roundg (xs.length-(j+1))
     case rel=>exact ⟨j+1,by omega,by go_num,HN.out,K3.out⟩
     case measure=>omega
   ·have HF:Hid (xs=ys):=nZ HL.out fun i hi=>HAL.out i (by omega)
    go_wp2_with fail
    go_ret
    exact ⟨true,rfl,⟨fun _=>HF.out,fun _=>rfl⟩,HKP.out⟩
 ·have hz1:((xs.length:Int)==(ys.length:Int))=false:=beq_eq_false_iff_ne.2 fun e=>hl (by omega)
  have hz2:((xs.length:Int) != (ys.length:Int))=true:=bne_iff_ne.2 fun e=>hl (by omega)
  have HF:Hid (¬ xs=ys):=fun e=>hl (by rw [e])
  clear hl
  go_enter Tryz.func69,Tryz.ntmps69
  go_wp2_with fail
  go_ret
  exact ⟨false,rfl,⟨fun h=>Bool.noConfusion h,fun h=>absurd h HF.out⟩,aA.refl _⟩
theorem pL (S:Nat->Prop) (xs ys:List MB) (v1 v2:Value) (w:World) (hS : ∀ b,S b->b<w.heap.size) (h1:cB S w xs v1) (h2:cB S w ys v2) :
  Calls Tryz.prog 20 #[v1,v2] w fun e w'=> ∃ β:Bool,e=.returned (.bool β)/\(β=true↔xs=ys)/\aA w w':=by
 have H1:=hid h1
 have H2:=hid h2
 clear h1 h2
 go_enter Tryz.func20,Tryz.ntmps20
 go_wp2_with fail
 refine (aAd S xs ys _ _ w hS H1.out H2.out).mono ?_
 rintro e w3 ⟨β,rfl,hβ,k3⟩
 have K3:=hid k3
 have HB:=hid hβ
 clear k3 hβ
 go_wp2_with fail
 go_ret
 exact ⟨β,rfl,HB.out,K3.out⟩
end Go.Proofs.YtonlloiemgdfkaaGreatDoor
namespace Go.Proofs.YtonlloiemgdfkaaGreatDoor
open Go.RowKit Go.Lib
theorem eT.get0 {v:Value} {zs:List Int} {w:World} (h:eT v zs w) (hn:0<zs.length) : ∃ g cap,v=.slice (some ⟨g,0,none⟩) zs.length cap/\g<w.heap.size/\(∀ j,j<zs.length->w.cell? ⟨g,0+j,none⟩=some (.int .i64 (zs.getD j 0))):=by
 rcases h with ⟨rfl,-⟩ | ⟨g,cap,h1,h2,h3⟩
 ·exact absurd hn (Nat.not_lt_zero _)
 ·refine ⟨g,cap,h1,h2,fun j hj=> ?_⟩
  rw [Nat.zero_add,List.getD_eq_getElem?_getD,List.getElem?_eq_getElem hj,Option.getD_some]
  exact h3 j _ (List.getElem?_eq_getElem hj)
theorem vG (v u:Value) (xs ys:List Int) (w:World) (h:eT v xs w) (h':eT u ys w) (hl:xs.length<=2000) (hl':ys.length<=2000) :
  Calls Tryz.prog 22 #[v,u] w fun e w'=>e=.returned (.bool (xs==ys))/\∃ q,w'=w.drewN q:=by
 obtain ⟨q,d,rfl⟩:=h'.len
 obtain ⟨p,c,rfl⟩:=h.len
 by_cases hne:xs.length=ys.length
 ·by_cases h0:xs = []
  ·subst h0
   have hy:ys = []:=List.length_eq_zero_iff.1 hne.symm
   subst hy
   refine (Tryz.slices_Equal_int_empty p q c 0 d w (by omega)).mono ?_
   rintro e w' ⟨rfl,rfl⟩
   exact ⟨rfl,0,rfl⟩
  ·have hp:=List.length_pos_iff.2 h0
   obtain ⟨g,cap,e1,-,hc⟩:=h.get0 hp
   obtain ⟨g',cap',e2,-,hc'⟩:=h'.get0 (by omega)
   cases e1
   cases e2
   refine (Tryz.slices_Equal_int g 0 xs.length c g' 0 ys.length d xs ys w (Nat.le_refl _) (Nat.le_refl _) (by omega) (by omega) hc hc').mono ?_
   rintro e w' ⟨rfl,q,rfl⟩
   exact ⟨aM (by rw [List.take_length,List.take_length]),q,rfl⟩
 ·refine (Tryz.slices_Equal_int_lens p q xs.length c ys.length d w hne).mono ?_
  rintro e w' ⟨rfl,rfl⟩
  refine ⟨aM ?_,0,rfl⟩
  symm
  exact beq_eq_false_iff_ne.2 fun e=>hne (by rw [e])
end Go.Proofs.YtonlloiemgdfkaaGreatDoor
namespace Go.Proofs.YtonlloiemgdfkaaGreatDoor
open Go.RowKit
theorem aKj {W:World} {n:Nat} (h:W.heap.size=n) (T:TypeId) (cs:Array Value):aD n T cs (W.alloc (.cells cs T)):=h ▸ aD.new W T cs
theorem jD {w:World} {b o:Nat} {x:Value} {p:Addr} (h:p.block≠b):(w.setCell ⟨b,o,none⟩ x).cell? p=w.cell? p:=World.cell?_of_block (fJ w b o x p.block h)
theorem xK {b:Nat} {a:At} {W:World} (hb:aT b #[.string a.n,.int .i64 a.op,.int .i64 a.v,.int .i64 a.sl,.string a.f,.bool a.on] W):eG (inW W) W [a] (.slice (some ⟨b,0,none⟩) 1 1):=by
 refine ⟨_,_,rfl,by simp,fun _=>⟨b,0,rfl,hb.1,fun j x hx=> ?_⟩⟩
 match j,hx with
 | 0,hx=>cases hx;exact ⟨hb.2 0,hb.2 1,hb.2 2,hb.2 3,hb.2 4,hb.2 5⟩
theorem tQ {c:Nat} {z:Int} {W:World} (hc:aT c #[.int .i64 z,.slice none 0 0] W):cB (inW W) W [⟨z,[]⟩] (.slice (some ⟨c,0,none⟩) 1 1):=by
 refine ⟨_,_,rfl,by simp,fun _=>⟨c,0,rfl,hc.1,fun j m hm=> ?_⟩⟩
 match j,hm with
 | 0,hm=>cases hm;exact ⟨_,hc.2 0,hc.2 1,none,0,rfl,by simp,fun h=>absurd h (by simp)⟩
theorem aGd {b c:Nat} {x:Bool} {z:Int} {W:World} (hb:aT b #[.int .i64 1,.slice (some ⟨c,0,none⟩) 1 1,.int .i64 z,.slice none 0 0] W) (hc:aT c #[.bool x] W):cB (inW W) W [⟨1,[x]⟩,⟨z,[]⟩] (.slice (some ⟨b,0,none⟩) 2 2):=by
 refine ⟨_,_,rfl,by simp,fun _=>⟨b,0,rfl,hb.1,fun j m hm=> ?_⟩⟩
 match j,hm with
 | 0,hm=>
  cases hm
  refine ⟨_,hb.2 0,hb.2 1,_,_,rfl,by simp,fun _=>⟨c,0,rfl,hc.1,fun j y hy=> ?_⟩⟩
  match j,hy with
  | 0,hy=>cases hy;exact hc.2 0
 | 1,hm=>cases hm;exact ⟨_,hb.2 2,hb.2 3,none,0,rfl,by simp,fun h=>absurd h (by simp)⟩
theorem aMa {b:Nat} {W:World} (hb:aT b #[.int .i64 0,.int .i64 2] W):aH (inW W) W [0,2] (.slice (some ⟨b,0,none⟩) 2 2):=by
 refine ⟨_,_,rfl,by simp,fun _=>⟨b,0,rfl,hb.1,fun j z hz=> ?_⟩⟩
 match j,hz with
 | 0,hz=>cases hz;exact hb.2 0
 | 1,hz=>cases hz;exact hb.2 1
theorem yH (S:Nat->Prop) (w:World):jB S w [] (.slice none 0 0):=⟨_,_,rfl,by simp,fun h=>absurd h (by simp)⟩
theorem gX.best {ps:List PK} {wi:WI} {c:List Bool} {w w':World} {e:Ending} (h:gX ps wi 40000 w e w') (h0:bC ps wi=0) (hb:lK ps wi c):aA w w'/\∃ v,e=.returned (.tuple #[v,.slice none 0 0,.int .i64 0])/\cB (fun b=>w.heap.size<=b/\b<w'.heap.size) w' (bX ps wi c) v:=by
 have he:=lB h0
 obtain ⟨k,h⟩:=h
 obtain ⟨g1,g2⟩:=uB h0 he hb
 rcases h with ⟨h1,-⟩ | ⟨-,h2,-⟩ | ⟨-,-,h3,-⟩ | ⟨-,-,-,v,rfl,h5⟩
 ·exact absurd h0 h1
 ·exact absurd he h2
 ·exact absurd g1 h3
 ·exact ⟨k,v,rfl,g2 ▸ h5⟩
theorem gX.none {ps:List PK} {wi:WI} {w w':World} {e:Ending} (h:gX ps wi 40000 w e w') (h0:bC ps wi=0) (hn:gT ps wi):aA w w'/\(cI ps wi 40000).P ≠ []/\∃ pv,e=.returned (.tuple #[.slice none 0 0,pv,.int .i64 7])/\Cn.dY (fun b=>w.heap.size<=b/\b<w'.heap.size) w' (cI ps wi 40000).P pv:=by
 have he:=lB h0
 obtain ⟨k,h⟩:=h
 have g1:=aBn h0 he hn
 rcases h with ⟨h1,-⟩ | ⟨-,h2,-⟩ | ⟨-,-,h3,pv,rfl,h5⟩ | ⟨-,-,h3,-⟩
 ·exact absurd h0 h1
 ·exact absurd he h2
 ·exact ⟨k,h3,pv,rfl,h5⟩
 ·exact absurd h3 g1
theorem aSf:cS aY (mkW (wX [0,2]) []) 40000=0/\mO aY (wX [0,2]) 40000 0=0/\mO aY (wX [0,2]) 40000 1=7/\(eE aY (wX [0,2]) 40000 2).2 = [2]:=by
 have h1:mO aY (wX [0,2]) 40000 0=0:=kI (wi:=wX [0]) (pX (.inr (.inl rfl))) (aCn (.inr rfl))
 have e1:=aCg h1
 have h2:mO aY (wX [0,2]) 40000 1=7:=by
  unfold mO
  rw [e1]
  exact qI (wi:=wX [0,2]) (pX (.inr (.inr rfl))) aLz
 have e2:=aGr (j:=1) (by rw [h2];decide)
 refine ⟨kI (wi:=wX []) (pX (.inl rfl)) (aCn (.inl rfl)),h1,h2,?_⟩
 rw [e2,e1]
 rfl
theorem pK (w:World) (hE:Env w) (hM:jY w) :
  Calls Tryz.prog 18 #[] w fun e w'=>e=.returned (.bool true)/\aA w w':=by
 go_enter Tryz.func18,Tryz.ntmps18
 go_wp2_with fail
 refine (aEh w hE hM).mono ?_
 rintro e w1 ⟨v1,rfl,hp1,k1,hcap⟩
 obtain ⟨p1,c1,rfl,-⟩:=hp1.len
 have HP1:=hid (bD.mono (S':=inW w1) (fun _ _=>rfl) (fun b hb=>hb.2) hp1)
 have K1:=hid k1
 have HCAP:=hid hcap
 clear hp1 k1 hE hM hcap
 go_wp2_with fail
 refine bE (fun W'=>aA w1 W'/\aE w1.heap.size 24 (.slice p1 aY.length c1) W'/\aT (w1.heap.size+1) #[.string ⟨#[97]⟩,.int .i64 0,.int .i64 0,.int .i64 0,.string ⟨#[]⟩,.bool false] W'/\aT (w1.heap.size+1+1) #[.int .i64 3,.slice none 0 0] W'/\aD (w1.heap.size+1+1+1) 30 #[.slice (some ⟨w1.heap.size+1,0,none⟩) 1 1,.slice (some ⟨w1.heap.size+1+1,0,none⟩) 1 1,.slice none 0 0,.slice none 0 0] W')
  ⟨(((aA.alloc _ _).alloc' _).alloc' _).alloc' _,(aE.new _ _ _).keep (((aA.alloc _ _).alloc' _).alloc' _) (by simp),(kC (by simp) _ _).keep ((aA.alloc _ _).alloc' _) (by simp),(kC (by simp) _ _).keep (aA.alloc _ _) (by simp),aKj (by simp) _ _⟩ ?_
 rintro W2 ⟨k2,v2,b2,m2,x2⟩
 refine (dF (inW W2) aY wR 40000 _ _ _ _ _ W2 (fun _ h=>h) (bD.mono (bP (fun _ h=>h) k2) (fun b hb=>Nat.lt_of_lt_of_le hb k2.size) HP1.out) ⟨xK (a:=atA) b2,tQ m2,iT _ _,yH _ _⟩ HCAP.out).mono ?_
 rintro e w3 h3
 obtain ⟨k3,a3,rfl,ha3⟩:=h3.best aPz aPx
 rw [aSc] at ha3
 have HB1:w1.heap.size+1+1+1<W2.heap.size:=x2.facts.2.2
 have K3:=hid (k2.trans k3)
 have V3:=hid (v2.keep k3 v2.facts.2.2)
 have M3:=hid (m2.keep k3 m2.1)
 have X3:=hid (x2.keep k3 x2.facts.2.2)
 have A3:=hid (ha3.mono (S':=fun c=>W2.heap.size<=c/\c<w3.heap.size) (fun _ _=>rfl) fun _ h=>h)
 have hs3:=k3.size
 clear k2 v2 b2 m2 x2 k3 ha3 h3
 generalize W2.heap.size=n2 at HB1 A3 hs3
 obtain ⟨ap3,ac3,rfl,-⟩:=A3.out.len
 obtain ⟨hcv,-,hlv⟩:=V3.out.facts
 obtain ⟨hcx,hfx,hlx⟩:=X3.out.facts
 have hx0:=hcx 0
 have hx1:=hcx 1
 have hx2:=hcx 2
 have hx3:=hcx 3
 have hf0:=hfx 0
 clear hcx hfx
 go_wp2_with fail
 refine bE (fun W'=>aA w1 W'/\aE w1.heap.size 24 (.slice p1 aY.length c1) W'/\aT w3.heap.size #[.string ⟨#[97]⟩,.int .i64 0,.int .i64 0,.int .i64 0,.string ⟨#[120]⟩,.bool true] W'/\aT (w1.heap.size+1+1) #[.int .i64 3,.slice none 0 0] W'/\aD (w1.heap.size+1+1+1) 30 #[.slice (some ⟨w3.heap.size,0,none⟩) 1 1,.slice (some ⟨w1.heap.size+1+1,0,none⟩) 1 1,.slice none 0 0,.slice none 0 0] W'/\cB (fun c=>n2<=c/\c<w3.heap.size) W' [⟨1,[false]⟩,⟨3,[]⟩] (.slice ap3 2 ac3))
  ⟨aA.alloc' (show aA w1 _ from Below.trans K3.out ((aL w3 (w1.heap.size+1+1+1) 0 _).mono (by omega))) _,(V3.out.keep (aL w3 (w1.heap.size+1+1+1) 0 _) (by omega)).keep (aA.alloc _ _) (by rw [cC];omega),kC (cC _ _ _ _) _ _,(M3.out.keep (aL w3 (w1.heap.size+1+1+1) 0 _) (by omega)).keep (aA.alloc _ _) (by rw [cC];omega),(X3.out.set 0 _).keep (aA.alloc _ _) (by rw [cC];omega),A3.out.mono (fun p hp=>((aA.alloc _ _).cell (p:=p) (by rw [cC];exact hp.2)).trans (jD (by omega))) fun _ h=>h⟩ ?_
 clear V3 M3 X3 A3 K3 hcv hlv hx0 hx1 hx2 hx3 hf0 hlx
 rintro W4 ⟨k4,v4,b4,m4,x4,a4⟩
 have hn4:w3.heap.size<=W4.heap.size:=Nat.le_of_lt b4.1
 refine (dF (inW W4) aY (wX []) 40000 _ _ _ _ _ W4 (fun _ h=>h) (bD.mono (bP (fun _ h=>h) k4) (fun b hb=>Nat.lt_of_lt_of_le hb k4.size) HP1.out) ⟨xK (a:=aGy) b4,tQ m4,iT _ _,yH _ _⟩ HCAP.out).mono ?_
 rintro e w5 h5
 obtain ⟨k5,a5,rfl,ha5⟩:=h5.best (pX (.inl rfl)) (aCn (.inl rfl))
 rw [aSd] at ha5
 have K5:=hid (k4.trans k5)
 have V5:=hid (v4.keep k5 v4.facts.2.2)
 have B5:=hid (b4.keep k5 b4.1)
 have M5:=hid (m4.keep k5 m4.1)
 have X5:=hid (x4.keep k5 x4.facts.2.2)
 have A5:=hid (a4.mono (S':=fun c=>n2<=c/\c<w3.heap.size) (fun p hp=>k5.cell (p:=p) (Nat.lt_of_lt_of_le hp.2 hn4)) fun _ h=>h)
 have C5:=hid (ha5.mono (S':=fun c=>W4.heap.size<=c/\c<w5.heap.size) (fun _ _=>rfl) fun _ h=>h)
 have hs5:=k5.size
 have hb4:=b4.1
 clear k4 v4 b4 m4 x4 a4 k5 ha5 h5
 obtain ⟨ap5,ac5,rfl,-⟩:=C5.out.len
 obtain ⟨hcv,-,hlv⟩:=V5.out.facts
 obtain ⟨hcx,hfx,hlx⟩:=X5.out.facts
 have hx0:=hcx 0
 have hx1:=hcx 1
 have hx2:=hcx 2
 have hx3:=hcx 3
 have hf0:=hfx 2
 clear hcx hfx
 go_wp2_with fail
 refine bE (fun W'=>aA w1 W'/\aE w1.heap.size 24 (.slice p1 aY.length c1) W'/\aT w3.heap.size #[.string ⟨#[97]⟩,.int .i64 0,.int .i64 0,.int .i64 0,.string ⟨#[120]⟩,.bool true] W'/\aT (w1.heap.size+1+1) #[.int .i64 3,.slice none 0 0] W'/\aD (w1.heap.size+1+1+1) 30 #[.slice (some ⟨w3.heap.size,0,none⟩) 1 1,.slice (some ⟨w1.heap.size+1+1,0,none⟩) 1 1,.slice (some ⟨w5.heap.size,0,none⟩) 2 2,.slice none 0 0] W'/\cB (fun c=>n2<=c/\c<w3.heap.size) W' [⟨1,[false]⟩,⟨3,[]⟩] (.slice ap3 2 ac3)/\cB (fun c=>W4.heap.size<=c/\c<w5.heap.size) W' [⟨1,[true]⟩,⟨2,[]⟩] (.slice ap5 2 ac5)/\aT w5.heap.size #[.int .i64 0,.int .i64 2] W')
  ⟨aA.alloc' (show aA w1 _ from Below.trans K5.out ((aL w5 (w1.heap.size+1+1+1) 2 _).mono (by omega))) _,(V5.out.keep (aL w5 (w1.heap.size+1+1+1) 2 _) (by omega)).keep (aA.alloc _ _) (by rw [cC];omega),⟨by rw [aC,cC];omega,fun o=>((aA.alloc _ _).cell (p:=⟨w3.heap.size,o,none⟩) (by show w3.heap.size<_;rw [cC];omega)).trans ((jD (by show w3.heap.size≠_;omega)).trans (B5.out.2 o))⟩,(M5.out.keep (aL w5 (w1.heap.size+1+1+1) 2 _) (by omega)).keep (aA.alloc _ _) (by rw [cC];omega),(X5.out.set 2 _).keep (aA.alloc _ _) (by rw [cC];omega),A5.out.mono (fun p hp=>((aA.alloc _ _).cell (p:=p) (by rw [cC];omega)).trans (jD (by omega))) fun _ h=>h,C5.out.mono (fun p hp=>((aA.alloc _ _).cell (p:=p) (by rw [cC];exact hp.2)).trans (jD (by omega))) fun _ h=>h,kC (cC _ _ _ _) _ _⟩ ?_
 clear V5 M5 X5 A5 B5 C5 K5 hcv hlv hx0 hx1 hx2 hx3 hf0 hlx
 rintro W6 ⟨k6,v6,b6,m6,x6,a6,c6,z6⟩
 have hn6:w5.heap.size<=W6.heap.size:=Nat.le_of_lt z6.1
 have HW6:=hid (show eJ (inW W6) W6 (wX [0,2]) _ _ _ _ from ⟨xK (a:=aGy) b6,tQ m6,aMa z6,yH _ _⟩)
 have HP6:=hid (bD.mono (S':=inW W6) (bP (fun _ h=>h) k6) (fun b hb=>Nat.lt_of_lt_of_le hb k6.size) HP1.out)
 refine (dF (inW W6) aY (wX [0,2]) 40000 _ _ _ _ _ W6 (fun _ h=>h) HP6.out HW6.out HCAP.out).mono ?_
 rintro e w7 h7
 obtain ⟨k7,hP7,p7,rfl,hp7⟩:=h7.none (pX (.inr (.inr rfl))) aLz
 obtain ⟨pp7,pc7,rfl,-⟩:=hp7.len
 obtain ⟨pl,hpl⟩ : ∃ pl:Nat,pl=(cI aY (wX [0,2]) 40000).P.length:=⟨_,rfl⟩
 have hpl1:(0:Int)<(pl:Int):=by have:=List.length_pos_iff.2 hP7;omega
 rw [← hpl]
 have K7:=hid (k6.trans k7)
 have V7:=hid (v6.keep k7 v6.facts.2.2)
 have X7:=hid (x6.keep k7 x6.facts.2.2)
 have A7:=hid (a6.mono (S':=inW w7) (fun p hp=>k7.cell (p:=p) (by omega)) fun c hc=>by have:=k7.size;show c<_;omega)
 have C7:=hid (c6.mono (S':=inW w7) (fun p hp=>k7.cell (p:=p) (by omega)) fun c hc=>by have:=k7.size;show c<_;omega)
 have HW7:=hid ((HW6.out.keep (fun _ h=>h) k7).mono (S':=inW w7) fun c hc=>Nat.lt_of_lt_of_le hc k7.size)
 have HP7:=hid ((HP6.out.keep (fun _ h=>h) k7).mono (S':=inW w7) (fun _ _=>rfl) fun c hc=>Nat.lt_of_lt_of_le hc k7.size)
 clear k6 v6 b6 m6 x6 a6 c6 z6 k7 h7 hp7 hP7 hpl HW6 HP6
 obtain ⟨hcv,-,hlv⟩:=V7.out.facts
 obtain ⟨hcx,-,hlx⟩:=X7.out.facts
 have hx0:=hcx 0
 have hx1:=hcx 1
 have hx2:=hcx 2
 have hx3:=hcx 3
 clear hcx
 go_wp2_with fail
 refine (aEr (inW w7) aY (wX [0,2]) 40000 _ _ _ _ _ w7 (fun _ h=>h) HP7.out HW7.out HCAP.out).mono ?_
 obtain ⟨hu0,hu1,hu2,hu3⟩:=aSf
 rintro e w8 ⟨k8,⟨h0,-⟩ | ⟨-,h0,-⟩ | ⟨-,-,j,hj,h1,h2,-⟩ | ⟨-,-,-,v8,rfl,h8,-⟩⟩
 ·exact absurd (pX (.inr (.inr rfl))) h0
 ·exact absurd hu0 h0
 ·match j,hj with
  | 0,_=>exact absurd hu1 h1
  | 1,_=>exact absurd hu2 h2
 rw [show (wX [0,2]).ma.length=2 from rfl,hu3] at h8
 have I8:=hid h8
 have K8:=hid (K1.out.trans (K7.out.trans k8))
 have A8:=hid ((A7.out.keep (fun _ h=>h) k8).mono (S':=inW w8) (fun _ _=>rfl) fun c hc=>Nat.lt_of_lt_of_le hc k8.size)
 have C8:=hid ((C7.out.keep (fun _ h=>h) k8).mono (S':=inW w8) (fun _ _=>rfl) fun c hc=>Nat.lt_of_lt_of_le hc k8.size)
 obtain ⟨up,uc,rfl⟩:=h8.len
 have hs8:=k8.size
 clear k8 h8 hcv hlv hx0 hx1 hx2 hx3 hlx V7 X7 A7 C7 HW7 HP7 hu0 hu1 hu2 hu3
 go_wp2_with fail
 refine bE (fun W'=>aA w8 W'/\cB (inW W') W' [⟨1,[false]⟩,⟨3,[]⟩] (.slice (some ⟨w8.heap.size+1,0,none⟩) 2 2)) ⟨(aA.alloc _ _).alloc' _,aGd (kC (by simp) _ _) ((aT.new _ _ _).keep (aA.alloc _ _) (by simp))⟩ ?_
 rintro W9 ⟨k9,m9⟩
 refine (pL (inW W9) [⟨1,[false]⟩,⟨3,[]⟩] [⟨1,[false]⟩,⟨3,[]⟩] _ _ W9 (fun _ h=>h) ((A8.out.keep (fun _ h=>h) k9).mono (fun _ _=>rfl) fun c hc=>Nat.lt_of_lt_of_le hc k9.size) m9).mono ?_
 rintro e w10 ⟨β,rfl,hβ,k10⟩
 obtain rfl:β=true:=hβ.2 rfl
 have K10:=hid (k9.trans k10)
 have C10:=hid ((C8.out.keep (fun _ h=>h) K10.out).mono (S':=inW w10) (fun _ _=>rfl) fun c hc=>Nat.lt_of_lt_of_le hc K10.out.size)
 clear k9 m9 k10 hβ A8 C8
 go_wp2_with fail
 refine bE (fun W'=>aA w10 W'/\cB (inW W') W' [⟨1,[true]⟩,⟨2,[]⟩] (.slice (some ⟨w10.heap.size+1,0,none⟩) 2 2)) ⟨(aA.alloc _ _).alloc' _,aGd (kC (by simp) _ _) ((aT.new _ _ _).keep (aA.alloc _ _) (by simp))⟩ ?_
 rintro W11 ⟨k11,m11⟩
 refine (pL (inW W11) [⟨1,[true]⟩,⟨2,[]⟩] [⟨1,[true]⟩,⟨2,[]⟩] _ _ W11 (fun _ h=>h) ((C10.out.keep (fun _ h=>h) k11).mono (fun _ _=>rfl) fun c hc=>Nat.lt_of_lt_of_le hc k11.size) m11).mono ?_
 rintro e w12 ⟨β,rfl,hβ,k12⟩
 obtain rfl:β=true:=hβ.2 rfl
 have K12:=hid (K10.out.trans (k11.trans k12))
 clear k11 m11 k12 hβ C10
 go_wp2_with fail
 refine bE (fun W'=>aA w12 W'/\eT (.slice (some ⟨w12.heap.size,0,none⟩) 1 1) [2] W') ⟨aA.alloc _ _,.inr ⟨_,1,rfl,by simp,fun j x hx=> ?_⟩⟩ ?_
 ·match j,hx with
  | 0,hx=>cases hx;exact (aT.new w12 #[.int .i64 2] _).2 0
 rintro W13 ⟨k13,i13⟩
 refine (vG _ _ [2] [2] W13 (I8.out.keep (K12.out.trans k13)) i13 (by decide) (by decide)).mono ?_
 rintro e w14 ⟨rfl,q,rfl⟩
 rw [show (([2]:List Int) == [2])=true by decide]
 have KF:=hid (((K8.out.trans K12.out).trans k13).trans ((aA.refl W13).drewN q))
 generalize W13.drewN q=w14 at KF ⊢
 clear k13 i13
 go_wp2_with fail
 go_ret
 exact ⟨rfl,KF.out⟩
end Go.Proofs.YtonlloiemgdfkaaGreatDoor
namespace Go.Proofs
open Go.Shelf
def Tryz.laysNm223_ren:Go.Shelf.Ren:=⟨fun | 23=>27 | n=>n,fun | 22=>27 | 3=>3 | 4=>4 | 0=>0 | n=>n,fun | n=>n⟩
theorem Tryz.laysNm223:Go.Proofs.Lays2.n23 Tryz.prog Tryz.laysNm223_ren:= {
 mixed:=by kernel_rfl
 f23:=Tryz.func27.trans (congrArg some (by kernel_rfl))
 t0:=Tryz.underlying0
 a0:=Tryz.isAgg0
 z0:=Tryz.sizeOf0
 v0:=Tryz.zeroValue0
 t3:=Tryz.underlying3
 a3:=Tryz.isAgg3
 z3:=Tryz.sizeOf3
 v3:=Tryz.zeroValue3
 t4:=Tryz.underlying4
 a4:=Tryz.isAgg4
 z4:=Tryz.sizeOf4
 v4:=Tryz.zeroValue4
 t22:=Tryz.underlying27
 a22:=Tryz.isAgg27
 z22:=Tryz.sizeOf27
 v22:=Tryz.zeroValue27
 i3:=by kernel_rfl }
open Go.RowKit Go.Lib Go.Sort in
theorem Tryz.slices_Delete_int (blk off cap i j:Nat) (zs:List Int) (w:World) (hH:Holds (Value.int .i64) w blk off zs.toArray) (hcap:zs.length<=cap) (hm:cap<=9223372036854775807) (hij:i<=j) (hj:j<=zs.length) :
  Calls Tryz.prog 27 #[.slice (some ⟨blk,off,none⟩) zs.length cap,.int .i64 i,.int .i64 j] w fun e w'=>e=.returned (.slice (some ⟨blk,off,none⟩) (zs.length-(j-i)) cap)/\∃ q,w'=putRow (Value.int .i64) (Sort.ahead w q) blk off (zs.take i++zs.drop j++List.replicate (j-i) 0).toArray:=Any.slices_Delete_int Tryz.laysNm223 blk off cap i j zs w hH hcap hm hij hj
end Go.Proofs
namespace Go.Proofs.YtonlloiemgdfkaaGreatDoor
open Go.RowKit Go.Lib Go.Sort
theorem aKp (B:Nat) (zs:List Int) (k:Nat) (v:Value) (w:World) (hown:aQ B v zs w) (hk:k<zs.length) (hl:zs.length<=100) :
  Calls Tryz.prog 27 #[v,.int .i64 k,.int .i64 ((k:Int)+1)] w fun e w'=> ∃ v',e=.returned v'/\aH (fun b=>B<=b/\b<w'.heap.size) w' (zs.eraseIdx k) v'/\Below B w w':=by
 obtain ⟨hl0,⟨rfl,hn⟩ | ⟨g,cap,cur,rfl,hg1,hg2,hnc,hcm,hcs,hct⟩⟩:=hown
 ·omega
 ·have hgl:g<w.heap.size:=(Array.getElem?_eq_some_iff.1 hg2).1
  have hH:Holds (Value.int .i64) w g 0 zs.toArray:=by
   intro j hj
   have hj':j<zs.length:=by simpa using hj
   have h1:cur[j]? = some (.int .i64 zs[j]):=by
    have h2:(cur.toList.take (zs.length*1))[j]? = some (.int .i64 zs[j]):=by rw [hct,List.getElem?_map,List.getElem?_eq_getElem hj'];rfl
    rw [List.getElem?_take,if_pos (by omega)] at h2
    simpa using h2
   refine ⟨?_,by simp [World.frozen?,hg2]⟩
   rw [Nat.zero_add]
   simp [World.cell?,hg2,h1,hj']
  have:=Tryz.slices_Delete_int g 0 cap k (k+1) zs w hH hnc (by unfold maxLen at hcm;omega) (by omega) (by omega)
  rw [show ((k+1:Nat):Int)=(k:Int)+1 by omega] at this
  refine this.mono ?_
  rintro e w' ⟨rfl,q,rfl⟩
  rw [show zs.length-(k+1-k)=zs.length-1 by omega,show k+1-k=1 by omega]
  obtain ⟨F,hF⟩ : ∃ F,F=zs.eraseIdx k:=⟨_,rfl⟩
  have hFl:F.length=zs.length-1:=by rw [hF,List.length_eraseIdx,if_pos hk]
  have hFe:zs.take k++zs.drop (k+1)++List.replicate 1 (0:Int)=F ++ [0]:=by rw [hF,List.eraseIdx_eq_take_drop_succ];rfl
  rw [hFe,← hF,← hFl]
  have hT:=Cn.rH w q g (F ++ [0]).toArray
  refine ⟨_,rfl,⟨_,cap,rfl,by omega,fun _=>⟨g,0,rfl,⟨hg1,Nat.lt_of_lt_of_le hgl hT.size⟩,fun j x hx=> ?_⟩⟩,hT.below (by omega) fun c hc e=>by have e:c=g:=e;omega⟩
  have hsz2:(F ++ [0]).toArray.size=zs.toArray.size:=by simp;omega
  have hH2:=holds_putRow (Value.int .i64) (Sort.ahead w q) g 0 zs.toArray (F ++ [0]).toArray hH hsz2
  have hj:j<F.length:=(List.getElem?_eq_some_iff.1 hx).1
  have:=(hH2 j (by rw [hsz2];simp;omega)).1
  have hx2:F[j]=x:=by
   have:=List.getElem?_eq_getElem hj
   rw [hx] at this
   exact (Option.some.inj this).symm
  have e2:((F ++ [0]).toArray)[j]! = x:=by
   rw [getElem!_pos _ j (by rw [hsz2];simp;omega)]
   simp [hj,hx2]
  rw [e2] at this
  exact this
end Go.Proofs.YtonlloiemgdfkaaGreatDoor
