/- Steps of the proof: RefSame, TreeSame, TreeSet, ValidWish, EncMbRow. -/
import Derived.Test.YthaaaecmeafofaaGreatDoorOs10
set_option maxHeartbeats 16000000
set_option maxRecDepth 100000
namespace Go.Proofs.YthaaaecmeafofaaGreatDoor
open Go.RowKit
mutual
def szN:NT->Nat->Int × Int
 | .node _ _ _ _ kids,g=>match g with
  | 0=>(0,99)
  | g+1=>szK kids g 1 0
def szK:List NT->Nat->Int->Int->Int × Int
 | [],_,n,d=>(n,d+1)
 | t :: ts,g,n,d=>if n+(szN t g).1 > 100∨(szN t g).2 > 50 then (101,99) else szK ts g (n+(szN t g).1) (max d (szN t g).2)
end
mutual
theorem lR : ∀ (t:NT) (g:Nat),0<=(szN t g).1/\(szN t g).1<=101/\0<=(szN t g).2/\(szN t g).2<=99
 | .node k a fl nt kids,0=>by rw [szN];decide
 | .node k a fl nt kids,g+1=>by rw [szN];exact qM kids g 1 0 (by decide) (by decide) (by decide) (by decide)
theorem qM : ∀ (ts:List NT) (g:Nat) (n d:Int),0<=n->n<=100->0<=d->d<=50->0<=(szK ts g n d).1/\(szK ts g n d).1<=101/\0<=(szK ts g n d).2/\(szK ts g n d).2<=99
 | [],g,n,d,h1,h2,h3,h4=>by rw [szK];simp only;omega
 | t :: ts,g,n,d,h1,h2,h3,h4=>by
  have hb:=lR t g
  rw [szK]
  split
  ·simp only;omega
  ·exact qM ts g _ _ (by omega) (by omega) (by omega) (by omega)
end
mutual
theorem vZ : ∀ (t:NT) (g:Nat),g<=50->(t.ht<=g/\t.size<=100->szN t g=((t.size:Int),(t.ht:Int)))/\(¬ (t.ht<=g/\t.size<=100)->(szN t g).2=99)
 | .node k a fl nt kids,0,_=>by
  rw [szN,NT.ht]
  exact ⟨fun h=>absurd h.1 (by omega),fun _=>rfl⟩
 | .node k a fl nt kids,g+1,hg=>by
  rw [szN,NT.ht,NT.size]
  obtain ⟨h1,h2⟩:=vY kids g 1 0 (by omega) (by omega) (by omega) (by omega) (by omega)
  refine ⟨fun h=> ?_,fun h=>h2 (by omega)⟩
  rw [h1 (by omega)]
  refine Prod.ext ?_ ?_
  ·simp
  ·simp;omega
theorem vY : ∀ (ts:List NT) (g:Nat) (n d:Int),g<=50->0<=d->d<=50->0<=n->n<=100->(htL ts<=g/\n+aS ts<=100->szK ts g n d=(n+aS ts,max d (htL ts)+1))/\(¬ (htL ts<=g/\n+aS ts<=100)->(szK ts g n d).2=99)
 | [],g,n,d,hg,hd,hd2,hn0,hn=>by
  rw [szK,htL,aS]
  refine ⟨fun _=>Prod.ext ?_ ?_,fun h=> ?_⟩
  ·simp
  ·simp;omega
  ·exact absurd ⟨Nat.zero_le _,by simp;omega⟩ h
 | t :: ts,g,n,d,hg,hd,hd2,hn0,hn=>by
  rw [szK,htL,aS]
  obtain ⟨h1,h2⟩:=vZ t g hg
  by_cases hok:t.ht<=g/\t.size<=100
  ·have e:=h1 hok
   rw [e]
   simp only
   by_cases hbig:n+(t.size:Int) > 100∨(t.ht:Int) > 50
   ·rw [if_pos hbig]
    exact ⟨fun h=>by omega,fun _=>rfl⟩
   ·rw [if_neg hbig]
    obtain ⟨h3,h4⟩:=vY ts g (n+t.size) (max d t.ht) hg (by omega) (by omega) (by omega) (by omega)
    refine ⟨fun h=> ?_,fun h=>h4 (by omega)⟩
    rw [h3 (by omega)]
    refine Prod.ext ?_ ?_
    ·simp;omega
    ·simp;omega
  ·have e:=h2 hok
   rw [if_pos (Or.inr (by rw [e];decide))]
   exact ⟨fun h=>absurd ⟨by omega,by omega⟩ hok,fun _=>rfl⟩
end
mutual
theorem qT : ∀ (t:NT) (s d:Int),1<=d->0<=s->s+t.size<=20->d+t.ht<=5->bM aK fN s t d=(s+t.size,true)
 | .node k a fl nt kids,s,d,hd,hs,h1,h2=>by
  rw [NT.size] at h1 ⊢
  rw [NT.ht] at h2
  have e:(fN s (.node k a fl nt kids) d).2=true:=by simp [fN];omega
  rw [bM,if_pos e,fM (by omega) (by omega)]
  show bD aK fN (s+1) kids (d+1)=_
  rw [pR kids (s+1) (d+1) (by omega) (by omega) (by omega) (by omega)]
  refine Prod.ext ?_ rfl
  show s+1+(aS kids:Int)=s+((1+aS kids:Nat):Int)
  omega
theorem pR : ∀ (ts:List NT) (s d:Int),1<=d->0<=s->s+aS ts<=20->d+htL ts<=5->bD aK fN s ts d=(s+aS ts,true)
 | [],s,d,_,_,_,_=>by rw [bD,aS];simp
 | t :: ts,s,d,hd,hs,h1,h2=>by
  rw [aS] at h1 ⊢
  rw [htL] at h2
  rw [bD,qT t s d hd hs (by omega) (by omega),if_pos rfl,pR ts _ d hd (by simp only;omega) (by simp only;omega) (by omega)]
  refine Prod.ext ?_ rfl
  show s+(t.size:Int)+(aS ts:Int)=s+((t.size+aS ts:Nat):Int)
  omega
end
theorem vS (t:NT):((szN t 4).1 > 20∨(szN t 4).2 > 4)↔cX t=true:=by
 obtain ⟨h1,h2⟩:=vZ t 4 (by omega)
 by_cases hs:t.size<=20/\t.ht<=4
 ·rw [h1 (by omega)]
  have:cX t=false:=by
   unfold cX
   rw [qT t 0 1 (by omega) (by omega) (by omega) (by omega)];rfl
  rw [this]
  simp only [Bool.false_eq_true,iff_false]
  omega
 ·have:cX t=true:=by
   cases h:cX t
   ·exact absurd (gU h) hs
   ·rfl
  rw [this]
  simp only [iff_true]
  by_cases hok:t.ht<=4/\t.size<=100
  ·rw [h1 hok];simp only;omega
  ·right;rw [h2 hok];decide
theorem aEc {g:Nat} {n d:Int} {ts:List NT} {i:Nat} (h:i<ts.length):szK (ts.drop i) g n d=if n+(szN ts[i] g).1 > 100∨(szN ts[i] g).2 > 50 then (101,99) else szK (ts.drop (i+1)) g (n+(szN ts[i] g).1) (max d (szN ts[i] g).2):=by
 rw [List.drop_eq_getElem_cons h,szK]
theorem aBa (S:Nat->Prop) : ∀ (m:Nat) (t:NT),t.size<=m->∀ (g:Nat) (cs:List Value) (w:World),g<=4->(∀ b,S b->b<w.heap.size)->aE S w t cs->
  Calls Tryz.prog 119 #[.agg cs.toArray,.int .i64 g] w fun e w'=>e=.returned (.tuple #[.int .i64 (szN t g).1,.int .i64 (szN t g).2])/\aA w w':=by
 intro m
 induction m with
 | zero=>
  rintro ⟨k,a,fl,nt,kids⟩ hm
  rw [NT.size] at hm;omega
 | succ m ih=>
  rintro ⟨k,a,fl,nt,kids⟩ hm g cs w hg hS hn
  rw [NT.size] at hm
  rw [aE] at hn
  obtain ⟨kp,kc,rfl,hcap,hmax,hkids⟩:=hn
  have K0:=hid (aA.alloc w (.cells #[.int .i64 k,.string a.n,.int .i64 a.op,.int .i64 a.v,.int .i64 a.sl,.string a.f,.bool a.on,.string fl,.bool nt,.slice kp kids.length kc] 74))
  have hb0:Hid (aH w.heap.size #[.int .i64 k,.string a.n,.int .i64 a.op,.int .i64 a.v,.int .i64 a.sl,.string a.f,.bool a.on,.string fl,.bool nt,.slice kp kids.length kc] (w.alloc (.cells #[.int .i64 k,.string a.n,.int .i64 a.op,.int .i64 a.v,.int .i64 a.sl,.string a.f,.bool a.on,.string fl,.bool nt,.slice kp kids.length kc] 74))):=aH.new w #[.int .i64 k,.string a.n,.int .i64 a.op,.int .i64 a.v,.int .i64 a.sl,.string a.f,.bool a.on,.string fl,.bool nt,.slice kp kids.length kc] 74
  have HK:=hid hkids
  have HIH:=hid ih
  clear ih hkids
  cases g with
  | zero=>
   go_enter Tryz.func119,Tryz.ntmps119
   go_wp2_with fail
   go_ret2
   exact ⟨rfl,K0.out⟩
  | succ g=>
   have HR:Hid (szN (.node k a fl nt kids) (g+1)=szK kids g 1 0):=by show _=_;rw [szN]
   go_enter Tryz.func119,Tryz.ntmps119
   go_upto_region 4 with fail
   generalize w.alloc (.cells #[.int .i64 k,.string a.n,.int .i64 a.op,.int .i64 a.v,.int .i64 a.sl,.string a.f,.bool a.on,.string fl,.bool nt,.slice kp kids.length kc] 74)=W0 at K0 hb0 ⊢
   have hc0:=hb0.out.2
   have hl0:=hb0.out.1
   go_wp2_with fail
   clear hc0
   go_loopg [4,5,15] kids.length (fun gk vn vd i wr=> ∃ j:Nat,j+gk=kids.length/\i=.int .i64 j/\∃ n d:Int,vn=.int .i64 n/\vd=.int .i64 d/\0<=n/\n<=100/\0<=d/\d<=50/\szK kids g 1 0=szK (kids.drop j) g n d/\aA w wr)
   case atStart=>exact ⟨0,by simp,rfl,1,0,rfl,rfl,by decide,by decide,by decide,by decide,by simp,K0.out⟩
   case round=>
    obtain ⟨j,hj,rfl,n,d,rfl,rfl,hn0,hn1,hd0,hd1,heq,hkw⟩:=hrel
    have HEQ:=hid heq
    have HKW:=hid hkw
    clear heq hkw
    by_cases hlt:j<kids.length
    ·obtain ⟨p,cs,hp,hSp,hcell,hneed⟩:=bY HK.out j hlt
     have hcr : ∀ q:Addr,S q.block->wr.cell? q=w.cell? q:=fun q hq=>HKW.out.cell (hS _ hq)
     have hneed':aE S wr kids[j] cs:=aE.mono hcr (fun _ h=>h) _ _ hneed
     have HN:=hid hneed'
     have hcell' : ∀ m v,cs[m]? = some v->wr.cell? ((p.add (j*10)).add m)=some v:=fun m v hv=>by
      rw [hcr _ (by rw [aX,aX];exact hSp)]
      have:=hcell m v hv
      rwa [Nat.zero_add] at this
     have hSr : ∀ b,S b->b<wr.heap.size:=fun b hb=>Nat.lt_of_lt_of_le (hS b hb) HKW.out.size
     have hb:=lR kids[j] g
     have hdr:=aEc (g:=g) (n:=n) (d:=d) hlt
     have HDR:=hid (HEQ.out.trans hdr)
     have hih:=HIH.out kids[j] (by have:=cK kids j hlt;omega) g
     clear hcell hneed hcr hdr
     subst hp
     cases hkid:kids[j] with
     | node k' a' fl' nt' kids'=>
     rw [hkid,aE] at hneed'
     obtain ⟨kp',kc',rfl,-,-,-⟩:=hneed'
     obtain ⟨c0,c1,c2,c3,c4,c5,c6,c7,c8,c9⟩:=eF hcell'
     clear hcell' hkid
     have K2:=hid (aA.alloc wr (.cells #[.int .i64 k',.string a'.n,.int .i64 a'.op,.int .i64 a'.v,.int .i64 a'.sl,.string a'.f,.bool a'.on,.string fl',.bool nt',.slice kp' kids'.length kc'] 74))
     have HN2:Hid (aE S (wr.alloc (.cells #[.int .i64 k',.string a'.n,.int .i64 a'.op,.int .i64 a'.v,.int .i64 a'.sl,.string a'.f,.bool a'.on,.string fl',.bool nt',.slice kp' kids'.length kc'] 74)) kids[j] [.int .i64 k',.string a'.n,.int .i64 a'.op,.int .i64 a'.v,.int .i64 a'.sl,.string a'.f,.bool a'.on,.string fl',.bool nt',.slice kp' kids'.length kc']):=HN.out.keep hSr K2.out
     have HIJ:=hid (hih [.int .i64 k',.string a'.n,.int .i64 a'.op,.int .i64 a'.v,.int .i64 a'.sl,.string a'.f,.bool a'.on,.string fl',.bool nt',.slice kp' kids'.length kc'] _ (by omega) (fun b hb=>Nat.lt_of_lt_of_le (hSr b hb) K2.out.size) HN2.out)
     clear hih
     generalize szN kids[j] g=r at hb HDR HIJ
     obtain ⟨r1,r2⟩:=r
     simp only at hb
     go_wp2_with fail
     clear c0 c1 c2 c3 c4 c5 c6 c7 c8 c9
     refine HIJ.out.mono ?_
     rintro e w3 ⟨rfl,k3⟩
     have K3:=hid (HKW.out.trans (K2.out.trans k3))
     clear k3
     by_cases hbig:n+r1 > 100
     ·have HX:Hid (szK kids g 1 0=(101,99)):=by show _=_;rw [HDR.out,if_pos (Or.inl hbig)]
      go_wp2_with fail
      go_ret2
      exact ⟨by rw [HR.out,HX.out];rfl,K3.out⟩
     ·by_cases hdeep:r2 > 50
      ·have HX:Hid (szK kids g 1 0=(101,99)):=by show _=_;rw [HDR.out,if_pos (Or.inr hdeep)]
       go_wp2_with fail
       go_ret2
       exact ⟨by rw [HR.out,HX.out];rfl,K3.out⟩
      ·have HX:Hid (szK kids g 1 0=szK (kids.drop (j+1)) g (n+r1) (max d r2)):=by show _=_;rw [HDR.out,if_neg (by omega)]
       go_wp2_with fail
       go_roundg (kids.length-(j+1))
       case rel=>exact ⟨j+1,by omega,by go_num,n+r1,max d r2,rfl,rfl,by omega,by omega,by omega,by omega,HX.out,K3.out⟩
       case measure=>omega
    ·have HX:Hid (szK kids g 1 0=(n,d+1)):=by show _=_;rw [HEQ.out,List.drop_eq_nil_of_le (by omega),szK]
     go_wp2_with fail
     go_ret2
     exact ⟨by rw [HR.out,HX.out];rfl,HKW.out⟩
end Go.Proofs.YthaaaecmeafofaaGreatDoor
namespace Go.Proofs.YthaaaecmeafofaaGreatDoor
open Go.RowKit
end Go.Proofs.YthaaaecmeafofaaGreatDoor
namespace Go.Proofs.YthaaaecmeafofaaGreatDoor
open Go.RowKit
theorem lN {α:Type} {xs ys:List α} (hl:xs.length=ys.length) (h : ∀ i,i<xs.length->xs[i]? = ys[i]?):xs=ys:=by
 refine List.ext_getElem? fun i=> ?_
 by_cases hi:i<xs.length
 ·exact h i hi
 ·rw [List.getElem?_eq_none (by omega),List.getElem?_eq_none (by omega)]
theorem yL (S:Nat->Prop) (xs ys:List Bool) (v1 v2:Value) (w:World) (hS : ∀ b,S b->b<w.heap.size) (h1:aN S w xs v1) (h2:aN S w ys v2) :
  Calls Tryz.prog 115 #[v1,v2] w fun e w'=> ∃ β:Bool,e=.returned (.bool β)/\(β=true↔xs=ys)/\aA w w':=by
 have H1:=hid h1
 have H2:=hid h2
 obtain ⟨p1,c1,rfl,hl1,-⟩:=h1
 obtain ⟨p2,c2,rfl,hl2,-⟩:=h2
 by_cases hl:xs.length=ys.length
 ·have HL:=hid hl
  have HW:Hid (aA w w):=aA.refl _
  rw [← hl]
  clear hl
  go_enter Tryz.func115,Tryz.ntmps115
  go_wp2_with fail
  go_loopg [13] xs.length (fun gk i wr=> ∃ j:Nat,j+gk=xs.length/\i=.int .i64 j/\(∀ i,i<j->xs[i]? = ys[i]?)/\aA w wr)
  case atStart=>exact ⟨0,by simp,rfl,fun i hi=>absurd hi (Nat.not_lt_zero _),HW.out⟩
  case round=>
   obtain ⟨j,hj,rfl,hal,hkp⟩:=hrel
   have HKP:=hid hkp
   have HAL:=hid hal
   clear hkp hal
   by_cases hlt:j<xs.length
   ·obtain ⟨q1,d1,hv1,-,hr1⟩:=H1.out.keep hS HKP.out
    obtain ⟨q2,d2,hv2,-,hr2⟩:=H2.out.keep hS HKP.out
    rw [← HL.out] at hv2 hr2
    cases hv1
    cases hv2
    obtain ⟨b1,o1,rfl,hb1,hc1⟩:=hr1 (by omega)
    obtain ⟨b2,o2,rfl,hb2,hc2⟩:=hr2 (by omega)
    have hlt2:j<ys.length:=by rw [← HL.out];exact hlt
    have e1:xs[j]? = some xs[j]:=List.getElem?_eq_getElem hlt
    have e2:ys[j]? = some ys[j]:=List.getElem?_eq_getElem hlt2
    have g1:=hc1 j _ e1
    have g2:=hc2 j _ e2
    have E1:=hid e1
    have E2:=hid e2
    clear hc1 hc2 hr1 hr2 e1 e2
    generalize xs[j]=x at g1 E1
    generalize ys[j]=y at g2 E2
    by_cases hxy:x=y
    ·subst hxy
     have HN:Hid (∀ i,i<j+1->xs[i]? = ys[i]?):=fun i hi=>by
      by_cases e:i=j
      ·subst e;rw [E1.out,E2.out]
      ·exact HAL.out i (by omega)
     go_wp2_with fail
     go_quiet (fail)
     go_wp2_with fail
     go_roundg (xs.length-(j+1))
     case rel=>exact ⟨j+1,by omega,by go_num,HN.out,aA.drewN HKP.out _⟩
     case measure=>omega
    ·have hxy1:(x==y)=false:=by simp [hxy]
     have hxy2:(x != y)=true:=by simp [hxy]
     have HF:Hid (¬ xs=ys):=fun e=>hxy (by have h1:=E1.out;rw [e,E2.out] at h1;exact (Option.some.inj h1).symm)
     clear hxy
     go_wp2_with fail
     go_quiet (fail)
     go_wp2_with fail
     go_ret
     exact ⟨false,rfl,⟨fun h=>Bool.noConfusion h,fun h=>absurd h HF.out⟩,aA.drewN HKP.out _⟩
   ·have HF:Hid (xs=ys):=lN HL.out fun i hi=>HAL.out i (by omega)
    go_wp2_with fail
    go_ret
    exact ⟨true,rfl,⟨fun _=>HF.out,fun _=>rfl⟩,HKP.out⟩
 ·have hz1:((xs.length:Int)==(ys.length:Int))=false:=beq_eq_false_iff_ne.2 fun e=>hl (by omega)
  have hz2:((xs.length:Int) != (ys.length:Int))=true:=bne_iff_ne.2 fun e=>hl (by omega)
  have HF:Hid (¬ xs=ys):=fun e=>hl (by rw [e])
  clear hl
  go_enter Tryz.func115,Tryz.ntmps115
  go_wp2_with fail
  go_ret
  exact ⟨false,rfl,⟨fun h=>Bool.noConfusion h,fun h=>absurd h HF.out⟩,aA.refl _⟩
theorem qK (S:Nat->Prop) (x y:MB) (v1 v2:Value) (w:World) (hS : ∀ b,S b->b<w.heap.size) (h1:aN S w x.on v1) (h2:aN S w y.on v2) :
  Calls Tryz.prog 65 #[.agg #[.int .i64 x.pl,v1],.agg #[.int .i64 y.pl,v2]] w fun e w'=> ∃ β:Bool,e=.returned (.bool β)/\(β=true↔x=y)/\aA w w':=by
 have H1:=hid h1
 have H2:=hid h2
 obtain ⟨p1,c1,rfl,-,-⟩:=h1
 obtain ⟨p2,c2,rfl,-,-⟩:=h2
 rcases x with ⟨xp,xs⟩
 rcases y with ⟨yp,ys⟩
 simp only at H1 H2 ⊢
 by_cases hp:xp=yp
 ·subst hp
  go_enter Tryz.func65,Tryz.ntmps65
  go_wp2_with fail
  refine cM (fun W'=>aA w W') ((aA.alloc _ _).alloc' _) ?_
  intro W2 k2
  refine (yL S xs ys _ _ W2 (fun b hb=>Nat.lt_of_lt_of_le (hS b hb) k2.size) (H1.out.keep hS k2) (H2.out.keep hS k2)).mono ?_
  rintro e w3 ⟨β,rfl,hβ,k3⟩
  have K3:=hid (k2.trans k3)
  have HB:=hid hβ
  clear k2 k3 hβ
  go_wp2_with fail
  go_ret
  exact ⟨β,rfl,⟨fun h=>by rw [HB.out.1 h],fun h=>HB.out.2 (by cases h;rfl)⟩,K3.out⟩
 ·have hz1:(xp==yp)=false:=by simp [hp]
  have HF:Hid (¬ (⟨xp,xs⟩:MB)=⟨yp,ys⟩):=fun e=>hp (by cases e;rfl)
  have HW:Hid (aA w ((w.alloc (.cells #[.int .i64 xp,.slice p1 xs.length c1] 64)).alloc (.cells #[.int .i64 yp,.slice p2 ys.length c2] 64))):=(aA.alloc _ _).alloc' _
  clear hp
  go_enter Tryz.func65,Tryz.ntmps65
  go_wp2_with fail
  go_ret
  exact ⟨false,rfl,⟨fun h=>Bool.noConfusion h,fun h=>absurd h HF.out⟩,HW.out⟩
end Go.Proofs.YthaaaecmeafofaaGreatDoor
namespace Go.Proofs.YthaaaecmeafofaaGreatDoor
open Go.RowKit Go.Sort
end Go.Proofs.YthaaaecmeafofaaGreatDoor
namespace Go.Proofs.YthaaaecmeafofaaGreatDoor
open Go.RowKit
theorem xG:(Tryz.prog.info? 4).map (fun i=>(i.zero,i.size,i.bytes))=some (some (.bool false),1,1):=by kernel_rfl
end Go.Proofs.YthaaaecmeafofaaGreatDoor
