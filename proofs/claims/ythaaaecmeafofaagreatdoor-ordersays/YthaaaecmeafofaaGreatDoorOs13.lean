/- Steps of the proof: OrdNew, OrdOut, OrdRefAct, OrdAsk, ShelfC. -/
import Derived.Test.YthaaaecmeafofaaGreatDoorOs10
import Derived.Test.YthaaaecmeafofaaGreatDoorOs11
import Derived.Test.YthaaaecmeafofaaGreatDoorOs12
import Derived.Maps.AppendAt
import Derived.OwnWalk
import Derived.Shelf.LaysM
import Derived.Shelf.LaysC
import Derived.Shelf.SlicesE.DeleteFunc
import Derived.Test.YthaaaecmeafofaaGreatDoorProg
set_option maxHeartbeats 16000000
set_option maxRecDepth 100000
namespace Go.Proofs.YthaaaecmeafofaaGreatDoor
open Go.RowKit Go.Sort Go.Lib
theorem wU (args:Array Value) (w:World):(callFunc 114 args).run Tryz.prog w=.ok (.enter 114 args) w:=enters_of Tryz.func114 (by kernel_rfl) rfl args w
theorem aDi (S:Nat->Prop) (x m:MB) (p1 p2:Option Addr) (c1 c2 cm:Nat) (w:World) (hS : ∀ b,S b->b<w.heap.size) (h1:aN S w x.on (.slice p1 x.on.length c1)) (h2:aN S w m.on (.slice p2 m.on.length c2)) (hb:aH cm #[.int .i64 m.pl,.slice p2 m.on.length c2] w) :
  Calls Tryz.prog 114 #[.agg #[.int .i64 x.pl,.slice p1 x.on.length c1],.pointer (some ⟨cm,0,none⟩)] w fun e w'=>e=.returned (.bool (eqM x m))/\aA w w':=by
 have H1:=hid h1
 have H2:=hid h2
 have hbc:=hb.2
 have hbl:=hb.1
 clear h1 h2 hb
 rcases x with ⟨xp,xs⟩
 rcases m with ⟨mp,mo⟩
 simp only at H1 H2 hbc ⊢
 by_cases hp:xp=mp
 ·subst hp
  have HX:Hid (eqM ⟨xp,xs⟩ ⟨xp,mo⟩=(xs==mo)):=by show _=_;unfold eqM;simp
  go_enter Tryz.func114,Tryz.ntmps114
  go_wp2_with fail
  refine cM (fun W'=>aA w W') (aA.alloc _ _) ?_
  intro W2 k2
  refine (yL S xs mo _ _ W2 (fun b hb=>Nat.lt_of_lt_of_le (hS b hb) k2.size) (H1.out.keep hS k2) (H2.out.keep hS k2)).mono ?_
  rintro e w3 ⟨β,rfl,hβ,k3⟩
  have K3:=hid (k2.trans k3)
  have HB:Hid (eqM ⟨xp,xs⟩ ⟨xp,mo⟩=β):=by
   show _=_
   rw [HX.out,Bool.eq_iff_iff,hβ];simp
  clear k2 k3 hβ hbc
  go_wp2_with fail
  go_ret
  exact ⟨aG HB.out.symm,K3.out⟩
 ·have hz1:(xp==mp)=false:=by simp [hp]
  have HX:Hid (eqM ⟨xp,xs⟩ ⟨mp,mo⟩=false):=by show _=_;unfold eqM;simp [hp]
  have HW:Hid (aA w (w.alloc (.cells #[.int .i64 xp,.slice p1 xs.length c1] 64))):=aA.alloc _ _
  clear hp
  go_enter Tryz.func114,Tryz.ntmps114
  go_wp2_with fail
  go_ret
  exact ⟨aG HX.out.symm,HW.out⟩
theorem wI {S:Nat->Prop} {w:World} {bs:List Bool} {ad:Addr} {n cap:Nat} (h:aN S w bs (.slice (some ad) n cap)) (hS : ∀ b,S b->b<w.heap.size) (o:Obj) : ∀ j u,(bs.map Value.bool)[j]? = some u->(w.alloc o).cell? (ad.add j)=some u:=by
 intro j u hu
 rw [List.getElem?_map] at hu
 cases hx:bs[j]? with
 | none=>rw [hx] at hu;cases hu
 | some x=>
  rw [hx] at hu;cases hu
  obtain ⟨p,c,e,-,hc⟩:=h
  cases e
  have:=(List.getElem?_eq_some_iff.1 hx).1
  obtain ⟨b,off,e',hb,hc2⟩:=hc (by omega)
  cases e'
  rw [Addr.add_mid]
  exact ((aA.alloc w o).cell (p:=⟨b,off+j,none⟩) (hS b hb)).trans (hc2 j x hx)
def iO (B:Nat) (v:Value) (bs:List Bool) (w:World):Prop:=w.ownsRow B 4 1 v bs.length (bs.map Value.bool)
theorem iO.is {B:Nat} {v:Value} {bs:List Bool} {w:World} (h:iO B v bs w):aN (fun b=>B<=b/\b<w.heap.size) w bs v:=by
 obtain ⟨-,⟨rfl,h0⟩ | ⟨g,cap,cur,rfl,hg,ho,hn,hm,hs,ht⟩⟩:=h
 ·obtain rfl:bs = []:=List.length_eq_zero_iff.1 h0
  exact ⟨_,_,rfl,by simp,fun h=>absurd h (by simp)⟩
 ·have hlt:g<w.heap.size:=(Array.getElem?_eq_some_iff.1 ho).1
  refine ⟨_,_,rfl,by unfold maxLen at hm;omega,fun _=>⟨g,0,rfl,⟨hg,hlt⟩,fun j x hx=> ?_⟩⟩
  have hj:j<bs.length:=(List.getElem?_eq_some_iff.1 hx).1
  have h1:=congrArg (·[j]?) ht
  simp only [Nat.mul_one,List.getElem?_take,List.getElem?_map,hx,Option.map_some] at h1
  rw [if_pos hj,Array.getElem?_toList] at h1
  rw [Nat.zero_add]
  simp only [World.cell?,ho]
  simpa using h1
theorem pB (S:Nat->Prop) (bs:List Bool) (v0:Value) (w:World) (hS : ∀ b,S b->b<w.heap.size) (hz:aN S w bs v0) (hb:bs.length<=1000) :
  Calls Tryz.prog 111 #[v0] w fun e w'=> ∃ v,e=.returned v/\iO w.heap.size v bs w'/\aA w w':=by
 obtain ⟨i0,hi,hz0,hz1,hz2⟩:=info_parts xG
 have q22 : ∀ (w:World) (a:Option Addr) (n c n' c':Nat),(binOp .eql 62 (.slice a n c) (.slice none n' c')).run Tryz.prog w=.ok (.bool a.isNone) w:=fun w a n c n' c'=>Lib.run_eql_slice_nil w _ _ a n c n' c' Tryz.underlying62
 obtain ⟨p,cap,rfl,-,-⟩:=id hz
 cases p with
 | none=>
  have h0:bs = []:=by
   obtain ⟨p,cap',e,-,hc⟩:=hz
   cases e
   refine List.length_eq_zero_iff.1 ?_
   by_cases h:0<bs.length
   ·obtain ⟨_,_,e,-⟩:=hc h
    cases e
   ·omega
  subst h0
  clear hz
  go_enter Tryz.func111,Tryz.ntmps111
  go_wp2_with fail
  go_ret
  exact ⟨_,rfl,⟨rfl,.inl ⟨rfl,rfl⟩⟩,aA.refl _⟩
 | some ad=>
  have HNW:=hid (wI hz hS (.cells #[] 4))
  have HONE:=hid (show ∀ u∈bs.map Value.bool,u.oneCell'=true from fun u hu=>by obtain ⟨z,-,rfl⟩:=List.mem_map.1 hu;rfl)
  have HL:=hid (show (bs.map Value.bool).length=bs.length*1 by simp)
  clear hz
  obtain ⟨vs,hvs⟩ : ∃ vs,vs=bs.map Value.bool:=⟨_,rfl⟩
  rw [← hvs] at HNW HONE HL
  have HVS:=hid hvs
  clear hvs
  go_enter Tryz.func111,Tryz.ntmps111
  go_wp2_with (at_builtin;refine wpList_append_own_at _ rfl _ _ 62 rfl w.heap.size 4 i0 (.bool false) 1 1 Tryz.underlying62 hi hz0 hz1 hz2 rfl (by decide) (.slice (some ⟨w.heap.size,0,none⟩) 0 0) 0 [] rfl (World.ownsRow_made w #[] 0 (Nat.le_refl _) (Nat.zero_le _) rfl) ad bs.length cap vs rfl HL.out HNW.out HONE.out (by unfold maxLen;omega) (by omega) (by rw [aD];omega) ?_;intro v5 w5 h1 h2 _ _)
  have k5:aA w w5:=Below.grown ((Below.refl w.heap.size w).alloc (Nat.le_refl _) _) h2 (by rw [aD];omega) (fun g hg=>by cases hg;exact Nat.le_refl _)
  go_ret
  refine ⟨_,rfl,?_,k5⟩
  rw [Nat.zero_add,List.nil_append,HVS.out] at h1
  exact h1
def iP (g k n:Nat) (f:Nat->Bool) (w:World):Prop:=aW g 4 (((List.range n).map fun j=>if j<k then f j else false).map Value.bool).toArray w
theorem iP.next {g k n:Nat} {f:Nat->Bool} {w:World} (h:iP g k n f w) (hk:k<n):iP g (k+1) n f (w.setCell ⟨g,k,none⟩ (.bool (f k))):=by
 unfold iP at *
 have:=h.set k (.bool (f k))
 rw [List.setIfInBounds_toArray] at this
 have e:((((List.range n).map fun j=>if j<k then f j else false).map Value.bool).set k (.bool (f k)))=(((List.range n).map fun j=>if j<k+1 then f j else false).map Value.bool):=by
  refine List.ext_getElem? fun i=> ?_
  by_cases hi:i=k
  ·subst hi
   rw [List.getElem?_set_self (by simpa using hk)]
   simp [hk]
  ·rw [List.getElem?_set_ne (fun e=>hi e.symm)]
   by_cases hn:i<n
   ·simp only [List.getElem?_map,List.getElem?_range hn,Option.map_some]
    have e2:(i<k+1)↔(i<k):=by omega
    simp only [e2]
   ·rw [List.getElem?_eq_none (by simpa using hn),List.getElem?_eq_none (by simpa using hn)]
 exact e ▸ this
theorem uZ (S:Nat->Prop) (th ms:List MB) (hv lv:Value) (w:World) (hS : ∀ b,S b->b<w.heap.size) (ht:cI S w th hv) (hm:cI S w ms lv) (hn:ms.length<=1000) :
  Calls Tryz.prog 50 #[hv,lv] w fun e w'=> ∃ v,e=.returned v/\aN (fun b=>w.heap.size<=b/\b<w'.heap.size) w' (eC th ms) v/\aA w w':=by
 have HT:=hid ht
 have HM:=hid hm
 obtain ⟨tp,tc,rfl,htl⟩:=ht.len
 obtain ⟨lp,lc,rfl,hll⟩:=hm.len
 obtain ⟨i0,hi,hz0,hz1,hz2⟩:=info_parts xG
 have hmf : ∀ (fn:Fn) (first cap:Array Value) (w:World),(Instr.makeFunc fn first cap).run Tryz.prog w=.ok (.func fn first cap) w:=fun _ _ _ _=>rfl
 clear ht hm
 go_enter Tryz.func50,Tryz.ntmps50
 go_wp2_with (at_make;refine wpList_make_full _ rfl _ _ 62 rfl w.heap.size 4 i0 (.bool false) 1 Tryz.underlying62 hi hz0 hz1 .i64 .i64 (ms.length:Int) (ms.length:Int) ms.length rfl rfl rfl rfl (by rw [hz2];omega) (by unfold maxLen;omega) (Nat.le_refl _) ?_;intro w2 h1 h2;have K2:=hid (show aA w w2 from Cn.iI h2);have F2:=hid (show aW w.heap.size 4 (List.replicate ms.length (.bool false)).toArray w2 from Cn.jT (v:= .bool false) rfl h1);clear h1 h2)
 have N2:=hid (show iP w.heap.size 0 ms.length (kX th ms) w2 from by
  unfold iP
  have e:(((List.range ms.length).map fun j=>if j<0 then kX th ms j else false).map Value.bool)=List.replicate ms.length (.bool false):=by
   refine List.ext_getElem? fun i=> ?_
   by_cases hn:i<ms.length
   ·simp [hn]
   ·rw [List.getElem?_eq_none (by simpa using hn),List.getElem?_eq_none (by simpa using hn)]
  rw [e];exact F2.out)
 clear F2
 go_loopg [14] ms.length (fun gk iv wr=> ∃ j:Nat,j+gk=ms.length/\iv=.int .i64 j/\aA w wr/\iP w.heap.size j ms.length (kX th ms) wr)
 case atStart=>exact ⟨0,by omega,rfl,K2.out,N2.out⟩
 case round=>
  obtain ⟨j,hj,rfl,hk,hr⟩:=hrel
  have HK:=hid hk
  have HR:=hid hr
  clear hk hr
  by_cases hlt:j<ms.length
  ·obtain ⟨mb,moff,mcap,hmv,hmS,-,hrow⟩:=(HM.out.keep hS HK.out).get hlt
   cases hmv
   obtain ⟨op,oc,hc0,hc1,hon,hbl⟩:=hrow j _ (List.getElem?_eq_getElem hlt)
   have HBL:=hid hbl
   have HNB:Hid (kX th ms j = !(th.any fun o=>eqM o ms[j])):=by show _=_;unfold kX;rw [dJ ms j hlt]
   generalize ms[j]=m at hc0 hc1 hon HBL HNB
   clear hrow hbl
   go_upto_region 5 with fail
   refine aZ (fun W'=>aA wr W'/\aH wr.heap.size #[.int .i64 m.pl,.slice op m.on.length oc] W') ⟨aA.alloc _ _,aH.new _ _ _⟩ ?_
   rintro W3 ⟨k3,b3⟩
   have K3:=hid (HK.out.trans k3)
   have KR3:=hid k3
   have B3:=hid b3
   have R3:=hid (aW.keep HR.out k3 (aW.facts HR.out).2.2)
   clear k3 b3 hc0 hc1
   generalize wr.heap.size=cm at B3 ⊢
   have hcont:=eV S th (fun o=>eqM o m) tp th.length tc W3 (fun b hb=>Nat.lt_of_lt_of_le (hS b hb) K3.out.size) wU (HT.out.keep hS K3.out) (cap:=#[.pointer (some ⟨cm,0,none⟩)]) (fun i hi op' oc' W kW hbW=>aDi S th[i] m op' op oc' oc cm W (fun b hb=>Nat.lt_of_lt_of_le (Nat.lt_of_lt_of_le (hS b hb) K3.out.size) kW.size) hbW ((HBL.out.keep (fun b hb=>Nat.lt_of_lt_of_le (hS b hb) HK.out.size) KR3.out).keep (fun b hb=>Nat.lt_of_lt_of_le (hS b hb) K3.out.size) kW) (B3.out.keep kW B3.out.1))
   have HCO:=hid hcont
   clear hcont
   go_wp2_with (go_at_call 66;refine HCO.out.mono ?_;rintro e W4 ⟨rfl,k4⟩;have K4:=hid (K3.out.trans k4);have R4:=hid (aW.keep R3.out k4 (aW.facts R3.out).2.2);obtain ⟨r1,r2,r3⟩:=aW.facts R4.out;have hr1:=(show W4.cell? ⟨w.heap.size,j,none⟩=some (.bool (if j<j then kX th ms j else false)) from by (rw [r1];simp [hlt]));have hr2:=r2 j;clear r1 r2 k4;generalize (th.any fun o=>eqM o m)=β at HNB ⊢)
   go_roundg (ms.length-(j+1))
   case rel=>
    refine ⟨j+1,by omega,by go_num,Below.setCell K4.out (p:=⟨w.heap.size,j,none⟩) (Nat.le_refl _) _,?_⟩
    have:=iP.next (f:=kX th ms) R4.out hlt
    rw [HNB.out] at this
    exact this
   case measure=>omega
  ·obtain rfl:j=ms.length:=by omega
   go_wp2_with fail
   go_ret
   refine ⟨.slice (some ⟨w.heap.size,0,none⟩) ms.length ms.length,rfl,?_,HK.out⟩
   have hb:=HR.out
   unfold iP at hb
   have e:((List.range ms.length).map fun j=>if j<ms.length then kX th ms j else false)=eC th ms:=by
    unfold eC
    refine List.map_congr_left fun i hi=> ?_
    rw [if_pos (List.mem_range.1 hi)]
   rw [e] at hb
   obtain ⟨r1,-,r3⟩:=aW.facts hb
   refine ⟨some ⟨w.heap.size,0,none⟩,ms.length,by rw [iK],by rw [iK];omega,fun _=>⟨_,0,rfl,⟨Nat.le_refl _,r3⟩,fun i x hx=> ?_⟩⟩
   rw [Nat.zero_add,r1]
   simp [List.getElem?_map,hx]
def dR (S:Nat->Prop) (w:World) (xs:List AC) (v:Value):Prop:=
 ∃ (p:Option Addr) (cap:Nat),v=.slice p xs.length cap/\(xs.length<=cap/\xs.length<=9223372036854775807)/\(0<xs.length->∃ b off,p=some ⟨b,off,none⟩/\S b/\
  ∀ (j:Nat) (x:AC),xs[j]? = some x->∃ ov:Value,w.cell? ⟨b,off+j*4,none⟩=some (.bool x.out)/\w.cell? ⟨b,off+j*4+1,none⟩=some (.int .i64 x.m.pl)/\w.cell? ⟨b,off+j*4+2,none⟩=some ov/\w.cell? ⟨b,off+j*4+3,none⟩=some (.int .i64 x.cy)/\aN S w x.m.on ov)
theorem dR.mono {S S':Nat->Prop} {w w':World} (hw : ∀ p:Addr,S p.block->w'.cell? p=w.cell? p) (hS : ∀ b,S b->S' b) {xs:List AC} {v:Value} (h:dR S w xs v):dR S' w' xs v:=by
 obtain ⟨p,cap,h1,h2,h3⟩:=h
 refine ⟨p,cap,h1,h2,fun h=> ?_⟩
 obtain ⟨b,off,h4,h5,h6⟩:=h3 h
 refine ⟨b,off,h4,hS _ h5,fun j m hm=> ?_⟩
 obtain ⟨ov,g1,g2,g3,g4,g5⟩:=h6 j m hm
 exact ⟨ov,(hw ⟨b,_,none⟩ h5).trans g1,(hw ⟨b,_,none⟩ h5).trans g2,(hw ⟨b,_,none⟩ h5).trans g3,(hw ⟨b,_,none⟩ h5).trans g4,g5.mono hw hS⟩
theorem dR.keep {S:Nat->Prop} {w w':World} {B:Nat} (hS : ∀ b,S b->b<B) (k:Below B w w') {xs:List AC} {v:Value} (h:dR S w xs v):dR S w' xs v:=h.mono (bO hS k) fun _ h=>h
theorem dR.len {S:Nat->Prop} {w:World} {xs:List AC} {v:Value} (h:dR S w xs v) : ∃ p cap,v=.slice p xs.length cap/\xs.length<=9223372036854775807:=by
 obtain ⟨p,cap,h1,h2,-⟩:=h;exact ⟨p,cap,h1,h2.2⟩
def fU (S:Nat->Prop) (w:World) (x:AC) (cs:List Value):Prop:= ∃ ov,cs = [.bool x.out,.int .i64 x.m.pl,ov,.int .i64 x.cy]/\aN S w x.m.on ov
theorem fU.mono {S S':Nat->Prop} {w w':World} (hw : ∀ p:Addr,S p.block->w'.cell? p=w.cell? p) (hS : ∀ b,S b->S' b) {m:AC} {cs:List Value} (h:fU S w m cs):fU S' w' m cs:=by
 obtain ⟨ov,h1,h2⟩:=h
 exact ⟨ov,h1,h2.mono hw hS⟩
def cL (B:Nat) (v:Value) (acc:List AC) (w:World):Prop:=
 ∃ csl:List (List Value),csl.length=acc.length/\(∀ cs∈csl,cs.length=4)/\w.ownsRow B 104 4 v acc.length csl.flatten/\∀ (i:Nat) t cs,acc[i]? = some t->csl[i]? = some cs->fU (fun b=>B<=b/\b<w.heap.size/\v.ownBlock≠some b) w t cs
theorem cL.nil (B:Nat) (w:World):cL B (.slice none 0 0) [] w:=⟨[],rfl,by simp,World.ownsRow_nil _ _ _ _,by simp⟩
theorem cL.other {B:Nat} {v:Value} {acc:List AC} {w w':World} (h:cL B v acc w) (hs:w.heap.size<=w'.heap.size) (hb : ∀ b,B<=b->b<w.heap.size->w'.heap[b]? = w.heap[b]?):cL B v acc w':=by
 obtain ⟨csl,h1,h2,⟨h3,h3'⟩,h4⟩:=h
 refine ⟨csl,h1,h2,⟨h3,h3'.imp id ?_⟩,fun i t cs hi hc=>fU.mono (fun p hp=>World.cell?_of_block (w:=w) (hb _ hp.1 hp.2.1)) (fun b hb=>⟨hb.1,Nat.lt_of_lt_of_le hb.2.1 hs,hb.2.2⟩) (h4 i t cs hi hc)⟩
 rintro ⟨g,cap,cur,e1,e2,e3,e4⟩
 exact ⟨g,cap,cur,e1,e2,by rw [hb g e2 (Array.getElem?_eq_some_iff.1 e3).1];exact e3,e4⟩
theorem cL.keep {B:Nat} {v:Value} {acc:List AC} {w w':World} (h:cL B v acc w) (k:aA w w'):cL B v acc w':=h.other k.size fun b _ hb=>k.block b hb
theorem cL.push {B B':Nat} {v v':Value} {acc:List AC} {csl:List (List Value)} {t:AC} {cs:List Value} {w w':World} {o:Obj} (h1:csl.length=acc.length) (h2 : ∀ cs∈csl,cs.length=4)
  (h4 : ∀ (i:Nat) t cs,acc[i]? = some t->csl[i]? = some cs->fU (fun b=>B<=b/\b<w.heap.size/\v.ownBlock≠some b) w t cs)
  (hB:B<=B') (hv : ∀ g,v.ownBlock=some g->g<B') (hn:fU (fun b=>B'<=b/\b<w.heap.size) w t cs) (hc:cs.length=4)
  (h5:w'.ownsRow B 104 4 v' (acc.length+1) (csl.flatten++cs)) (h6:(w.alloc o).grownBy w' v.ownBlock) (h7:v'.ownBlock=v.ownBlock∨v'.ownBlock=some (w.alloc o).heap.size):cL B v' (acc ++ [t]) w':=by
 have e:=aD w o
 have hsz:w.heap.size<=w'.heap.size:=by have:=h6.size;omega
 have hcell : ∀ p:Addr,p.block<w.heap.size->v.ownBlock≠some p.block->w'.cell? p=w.cell? p:=fun p hp hne=>by
  rw [World.cell?_of_block (w:=w.alloc o) (a:=p) (h6.block p.block (by omega) (fun e=>hne e.symm))]
  exact (aA.alloc w o).cell hp
 have hne : ∀ b,b<w.heap.size->v.ownBlock≠some b->v'.ownBlock≠some b:=fun b hb hn=>by
  rcases h7 with h7 | h7
  ·rw [h7];exact hn
  ·rw [h7];intro e;have:=Option.some.inj e;omega
 refine ⟨csl ++ [cs],by simp [h1],fun x hx=> ?_,by simpa using h5,fun i u x hu hx=> ?_⟩
 ·rcases List.mem_append.1 hx with hx | hx
  ·exact h2 x hx
  ·rw [List.mem_singleton.1 hx];exact hc
 ·by_cases hi:i<acc.length
  ·rw [List.getElem?_append_left hi] at hu
   rw [List.getElem?_append_left (by omega)] at hx
   exact fU.mono (fun p hp=>hcell p hp.2.1 hp.2.2) (fun b hb=>⟨hb.1,by omega,hne b hb.2.1 hb.2.2⟩) (h4 i u x hu hx)
  ·have hi2:i=acc.length:=by
    have:=(List.getElem?_eq_some_iff.1 hu).1
    simp at this;omega
   subst hi2
   rw [List.getElem?_append_right (Nat.le_refl _),Nat.sub_self] at hu
   rw [← h1,List.getElem?_append_right (Nat.le_refl _),Nat.sub_self] at hx
   cases hu;cases hx
   have hvn : ∀ b,B'<=b->v.ownBlock≠some b:=fun b hb e=>by have:=hv b e;omega
   exact fU.mono (fun p hp=>hcell p hp.2 (hvn _ hp.1)) (fun b hb=>⟨by omega,by omega,hne b hb.2 (hvn b hb.1)⟩) hn
theorem mH {csl:List (List Value)} (h2 : ∀ cs∈csl,cs.length=4) : ∀ (i:Nat) (cs:List Value),csl[i]? = some cs->∀ (m:Nat) (v:Value),cs[m]? = some v->csl.flatten[i*4+m]? = some v:=by
 induction csl with
 | nil=>intro i cs h;simp at h
 | cons c r ih=>
  intro i cs h m v hv
  have hc:c.length=4:=h2 c (by simp)
  cases i with
  | zero=>
   simp at h;subst h
   have hm:m<c.length:=(List.getElem?_eq_some_iff.1 hv).1
   rw [List.flatten_cons,Nat.zero_mul,Nat.zero_add,List.getElem?_append_left hm];exact hv
  | succ i=>
   rw [List.flatten_cons,List.getElem?_append_right (by omega),show (i+1)*4+m-c.length=i*4+m by omega]
   exact ih (fun x hx=>h2 x (by simp [hx])) i cs (by simpa using h) m v hv
theorem cL.final {B:Nat} {v:Value} {acc:List AC} {w:World} (h:cL B v acc w):dR (fun b=>B<=b/\b<w.heap.size) w acc v:=by
 obtain ⟨csl,h1,h2,⟨h3,⟨rfl,h0⟩ | ⟨g,cap,cur,rfl,e2,e3,e4,e5,e6,e7⟩⟩,h4⟩:=h
 ·obtain rfl:=List.length_eq_zero_iff.1 h0
  exact ⟨_,_,rfl,by decide,fun h=>absurd h (by decide)⟩
 ·have hg:=(Array.getElem?_eq_some_iff.1 e3).1
  refine ⟨_,_,rfl,⟨by omega,by unfold maxLen at e5;omega⟩,fun _=>⟨g,0,rfl,⟨e2,hg⟩,fun i m hm=> ?_⟩⟩
  have hi:i<acc.length:=(List.getElem?_eq_some_iff.1 hm).1
  have hcs:csl[i]? = some csl[i]:=List.getElem?_eq_getElem (by omega)
  obtain ⟨ov,hc,hb⟩:=h4 i m _ hm hcs
  have hcell : ∀ (k:Nat) (u:Value),k<4->csl[i][k]? = some u->w.cell? ⟨g,i*4+k,none⟩=some u:=fun k u hk hu=>by
   have hf:=mH h2 i csl[i] hcs k u hu
   rw [← e7,List.getElem?_take,if_pos (by omega)] at hf
   simp only [World.cell?,e3]
   simpa using hf
  refine ⟨ov,?_,?_,?_,?_,hb.mono (fun _ _=>rfl) (fun b hb=>⟨hb.1,hb.2.1⟩)⟩
  ·have:=hcell 0 (.bool m.out) (by omega) (by rw [hc];rfl)
   simpa using this
  ·have:=hcell 1 (.int .i64 m.m.pl) (by omega) (by rw [hc];rfl)
   simpa using this
  ·have:=hcell 2 ov (by omega) (by rw [hc];rfl)
   simpa using this
  ·have:=hcell 3 (.int .i64 m.cy) (by omega) (by rw [hc];rfl)
   simpa using this
theorem cL.own {B:Nat} {v:Value} {acc:List AC} {w:World} (h:cL B v acc w) : ∀ g,v.ownBlock=some g->B<=g/\g<w.heap.size:=fun g hg=>by
 obtain ⟨csl,-,-,o1,-⟩:=h
 exact cW o1 hg
theorem cL.shape {B:Nat} {v:Value} {acc:List AC} {w:World} (h:cL B v acc w) : ∃ p cap,v=.slice p acc.length cap:=by
 obtain ⟨p,cap,h,-⟩:=h.final.len
 exact ⟨p,cap,h⟩
theorem tC:(Tryz.prog.info? 104).map (fun i=>(i.zero,i.size,i.bytes))=some (some (.agg #[.bool false,.int .i64 0,.slice none 0 0,.int .i64 0]),4,48):=by kernel_rfl
theorem aDm (S:Nat->Prop) (ps:List PK) (m:MB) (op:Option Addr) (oc ct cp:Nat) (tp:Option Addr) (tc:Nat) (p:PK) (pcs:Array Value) (w:World) (hS : ∀ b,S b->b<w.heap.size) (hp:bA S w ps (.slice tp ps.length tc)) (ht:aB ct 24 (.slice tp ps.length tc) w)
  (hb:aH cp pcs w) (hp0:pcs[0]? = some (.string p.n)) (hp2:pcs[2]? = some (.int .i64 p.sl)) (h0:0<=m.pl) (h1:m.pl<ps.length) (hon:m.on.length<=9223372036854775807) :
  Calls Tryz.prog 116 #[.agg #[.int .i64 m.pl,.slice op m.on.length oc],.pointer (some ⟨ct,0,none⟩),.pointer (some ⟨cp,0,none⟩)] w fun e w'=>e=.returned (.bool (shB ps p m))/\aA w w':=by
 obtain ⟨q,hq⟩ : ∃ q:Nat,m.pl=q:=⟨m.pl.toNat,by omega⟩
 have hqp:q<ps.length:=by omega
 have HX:Hid (shB ps p m=((ps[q].n.toList==p.n.toList)&&(ps[q].sl==p.sl))):=by show _=_;unfold shB bU;rw [hq,Int.toNat_natCast,dZ ps q hqp]
 obtain ⟨tb,toff,tcap,htv,htb,hlen,htrow⟩:=hp.get hqp
 cases htv
 obtain ⟨cs,hcs,hpj⟩:=htrow q hqp
 generalize ps[q]=p' at hpj HX
 obtain ⟨kk',a',fl',nt',kids',kp',fp',kc',fc',hnd,hfl,rfl,-,-⟩:=hpj.spelt
 obtain ⟨c0,c1,c2,c3,c4,c5,c6,c7,c8,c9,c10,c11,c12,c13⟩:=dI hcs
 have htl:=hS tb htb
 obtain ⟨ht0,-,htlt⟩:=ht.facts
 have hpn:w.cell? ⟨cp,0,none⟩=some (.string p.n):=(hb.2 0).trans hp0
 have hps:w.cell? ⟨cp,2,none⟩=some (.int .i64 p.sl):=(hb.2 2).trans hp2
 have hlp:=hb.1
 generalize p.n=pn at HX hpn
 generalize p.sl=psl at HX hps
 rcases p' with ⟨n',v',sl',fs',nd'⟩
 rcases m with ⟨pl,on⟩
 simp only at hq hon HX c0 c1 c2 c3 hfl ⊢
 subst hq
 have KW:=hid ((aA.alloc w (.cells #[.int .i64 (q:Int),.slice op on.length oc] 64)).alloc' (.cells #[.string n',.int .i64 v',.int .i64 sl',.slice fp' fs'.length fc',.int .i64 kk',.string a'.n,.int .i64 a'.op,.int .i64 a'.v,.int .i64 a'.sl,.string a'.f,.bool a'.on,.string fl',.bool nt',.slice kp' kids'.length kc'] 76))
 clear hcs hpj htrow hnd hp ht hb hp0 hp2 h0 h1
 cases hne:(n'.toList==pn.toList)
 ·rw [hne] at HX
  go_enter Tryz.func116,Tryz.ntmps116
  go_wp2_with fail
  go_ret
  exact ⟨aG (by rw [HX.out];rfl),KW.out⟩
 ·rw [hne] at HX
  go_enter Tryz.func116,Tryz.ntmps116
  go_wp2_with fail
  go_ret
  exact ⟨aG (by rw [HX.out];simp),KW.out⟩
theorem wV (args:Array Value) (w:World):(callFunc 116 args).run Tryz.prog w=.ok (.enter 116 args) w:=enters_of Tryz.func116 (by kernel_rfl) rfl args w
theorem sM (S:Nat->Prop) (m:MB) (op:Option Addr) (oc:Nat) (w:World) (hS : ∀ b,S b->b<w.heap.size) (hb:aN S w m.on (.slice op m.on.length oc)) (hon:m.on.length<=1000) :
  Calls Tryz.prog 53 #[.agg #[.int .i64 m.pl,.slice op m.on.length oc]] w fun e w'=> ∃ v,e=.returned (.agg #[.int .i64 m.pl,v])/\aN (fun b=>w.heap.size<=b/\b<w'.heap.size) w' m.on v/\aA w w':=by
 have HB:=hid hb
 clear hb
 rcases m with ⟨pl,on⟩
 simp only at HB hon ⊢
 go_enter Tryz.func53,Tryz.ntmps53
 go_upto_region 1 with fail
 refine aZ (fun W'=>aA w W'/\aW w.heap.size 64 #[.int .i64 pl,.slice op on.length oc] W'/\aW (w.heap.size+1) 64 #[.int .i64 0,.slice none 0 0] W') ⟨(aA.alloc _ _).alloc' _,(aW.new _ _ _).keep (aA.alloc _ _) (by simp),?_⟩ ?_
 ·have:=aW.new (w.alloc (.cells #[.int .i64 pl,.slice op on.length oc] 64)) 64 #[.int .i64 0,.slice none 0 0]
  rw [aD] at this;exact this
 rintro W1 ⟨k1,b1,b2⟩
 have K1:=hid k1
 have B1:=hid b1
 have B2:=hid b2
 have hc:=b1.facts.1
 have hl:=b1.facts.2.2
 have hl2:=b2.facts.2.2
 have HSZ:Hid (w.heap.size+1<W1.heap.size):=hl2
 clear k1 b1 b2
 generalize hbb:w.heap.size=b at B1 B2 hc hl hl2 HSZ ⊢
 have HBB:=hid hbb
 clear hbb
 go_upto_region 2 with (go_at_call 111;refine (pB S on _ W1 (fun c hc=>Nat.lt_of_lt_of_le (hS c hc) K1.out.size) (HB.out.keep hS K1.out) hon).mono ?_;rintro e W2 ⟨v2,rfl,o2,k2⟩;have O2:=hid o2;have K2:=hid k2;have B12:=hid (B1.out.keep k2 B1.out.facts.2.2);have B22:=hid (B2.out.keep k2 B2.out.facts.2.2);have hc1:=(show W2.cell? ⟨b,1,none⟩=some (.slice op on.length oc) from B12.out.facts.1 1);have hf1:=B12.out.facts.2.1 1;have hl1:=B12.out.facts.2.2;obtain ⟨vp,vc,rfl,-⟩:=O2.out.is;clear o2 k2)
 have HQ:=hid (show aA w (W2.setCell ⟨b,1,none⟩ (.slice vp on.length vc))/\aW b 64 #[.int .i64 pl,.slice vp on.length vc] (W2.setCell ⟨b,1,none⟩ (.slice vp on.length vc))/\aW (b+1) 64 #[.int .i64 0,.slice none 0 0] (W2.setCell ⟨b,1,none⟩ (.slice vp on.length vc))/\aN (fun c=>b+1<c/\c<(W2.setCell ⟨b,1,none⟩ (.slice vp on.length vc)).heap.size) (W2.setCell ⟨b,1,none⟩ (.slice vp on.length vc)) on (.slice vp on.length vc) from by
  have hap:=kA b 1 W2 (.slice vp on.length vc)
  have hb:=HBB.out
  refine ⟨Below.trans (K1.out.trans K2.out) ((aM W2 b 1 _).mono (by omega)),?_,B22.out.apart hap (by omega),O2.out.is.mono (fun p hp=>World.cell?_of_block (bG W2 b 1 _ p.block (by have h1:W1.heap.size<=p.block:=hp.1;have:=HSZ.out;omega))) fun c hc=>⟨by have:=HSZ.out;have h1:W1.heap.size<=c:=hc.1;omega,by rw [cO];exact hc.2⟩⟩
  have:=B12.out.set 1 (.slice vp on.length vc)
  simpa using this)
 refine aZ (fun W'=>aA w W'/\aW b 64 #[.int .i64 pl,.slice vp on.length vc] W'/\aW (b+1) 64 #[.int .i64 0,.slice none 0 0] W'/\aN (fun c=>b+1<c/\c<W'.heap.size) W' on (.slice vp on.length vc)) ?_ ?_
 ·exact HQ.out
 rintro W3 ⟨k3,b3,r3,o3⟩
 have K3:=hid k3
 have B3:=hid b3
 have R3:=hid r3
 have O3:=hid o3
 have hm0:W3.cell? ⟨b,0,none⟩=some (.int .i64 pl):=b3.facts.1 0
 have hm1:W3.cell? ⟨b,1,none⟩=some (.slice vp on.length vc):=b3.facts.1 1
 have hml:=b3.facts.2.2
 have hr0:W3.cell? ⟨b+1,0,none⟩=some (.int .i64 0):=r3.facts.1 0
 have hr1:W3.cell? ⟨b+1,1,none⟩=some (.slice none 0 0):=r3.facts.1 1
 have hrf:=r3.facts.2.1
 have hrl:=r3.facts.2.2
 clear k3 b3 r3 o3 HQ B12 B22 hc1 hf1 hl1 hc hl hl2
 go_wp2_with fail
 refine fS (v:= .agg #[.int .i64 pl,.slice vp on.length vc]) (fun W'=>aW (b+1) 64 #[.int .i64 pl,.slice vp on.length vc] W'/\aA w W'/\aN (fun c=>b+1<c/\c<W'.heap.size) W' on (.slice vp on.length vc)) ⟨(R3.out.set 0 (.int .i64 pl)).set 1 (.slice vp on.length vc),aA.set (aA.set K3.out (p:=⟨b+1,0,none⟩) (by have:=HBB.out;show _<=b+1;omega) _) (p:=⟨b+1,1,none⟩) (by have:=HBB.out;show _<=b+1;omega) _,?_⟩ rfl ?_
 ·refine O3.out.mono (fun p hp=> ?_) fun c hc=>⟨hc.1,by rw [cO,cO];exact hc.2⟩
  have hne:p.block≠b+1:=by have:=hp.1;omega
  exact (World.cell?_of_block (bG _ (b+1) 1 _ p.block hne)).trans (World.cell?_of_block (bG _ (b+1) 0 _ p.block hne))
 rintro W ⟨hbW,hkW,hoW⟩
 have hW0:W.cell? ⟨b+1,0,none⟩=some (.int .i64 pl):=hbW.facts.1 0
 have hW1:W.cell? ⟨b+1,1,none⟩=some (.slice vp on.length vc):=hbW.facts.1 1
 exact ⟨by simp [results,Tryz.results53,go_sem,hW0,hW1],_,rfl,hoW.mono (fun _ _=>rfl) fun c hc=>⟨by have:=HBB.out;omega,hc.2⟩,hkW⟩
def fP (ps:List PK) (th ms:List MB) (i:Nat):List AC:=((th.take i).filter (oM ps ms)).map fun m=>⟨true,m,0⟩
theorem sD {ps:List PK} {th ms:List MB} {i:Nat} (h:i<th.length):fP ps th ms (i+1)=if oM ps ms th[i]=true then fP ps th ms i ++ [⟨true,th[i],0⟩] else fP ps th ms i:=by
 unfold fP
 rw [List.take_succ_eq_append_getElem h,List.filter_append,List.map_append]
 by_cases e:oM ps ms th[i]=true
 ·simp [e]
 ·simp [e]
theorem qF (ps:List PK) (th ms:List MB) (i:Nat):(fP ps th ms i).length<=i:=by
 unfold fP
 rw [List.length_map]
 exact Nat.le_trans (List.length_filter_le _ _) (List.length_take_le _ _)
theorem wA (S:Nat->Prop) (ps:List PK) (th ms:List MB) (tv hv lv:Value) (w:World) (hS : ∀ b,S b->b<w.heap.size) (hp:bA S w ps tv) (ht:cI S w th hv) (hm:cI S w ms lv) (hot:yK ps th) (hom:yK ps ms) (hn:th.length<=100) (hon : ∀ m∈th,m.on.length<=1000) :
  Calls Tryz.prog 52 #[.agg #[tv],hv,lv] w fun e w'=> ∃ v,e=.returned v/\cL (w.heap.size+1) v (fP ps th ms th.length) w'/\aA w w'/\w.heap.size+1<=w'.heap.size:=by
 have HP:=hid hp
 have HT:=hid ht
 have HM:=hid hm
 have HOT:=hid hot
 have HOM:=hid hom
 have HON:=hid hon
 obtain ⟨tp,tc,rfl,hlen⟩:=hp.len
 obtain ⟨hp',hc',rfl,hhl⟩:=ht.len
 obtain ⟨lp,lc,rfl,hll⟩:=hm.len
 obtain ⟨i0,hi,hz0,hz1,hz2⟩:=info_parts tC
 have hmf : ∀ (fn:Fn) (first cap:Array Value) (w:World),(Instr.makeFunc fn first cap).run Tryz.prog w=.ok (.func fn first cap) w:=fun _ _ _ _=>rfl
 clear hp ht hm hot hom hon
 go_enter Tryz.func52,Tryz.ntmps52
 go_upto_region 1 with fail
 refine aZ (fun W'=>aA w W'/\aB w.heap.size 24 (.slice tp ps.length tc) W') ⟨aA.alloc _ _,aB.new _ _ _⟩ ?_
 rintro W0 ⟨k0,v0⟩
 have K0:=hid k0
 have V0:=hid v0
 clear k0 v0
 generalize hct:w.heap.size=ct at V0 ⊢
 have HCT:=hid hct
 clear hct
 go_wp2_with fail
 go_loopg [14,7] th.length (fun gk iv av wr=> ∃ j:Nat,j+gk=th.length/\iv=.int .i64 j/\aA w wr/\aB ct 24 (.slice tp ps.length tc) wr/\cL (w.heap.size+1) av (fP ps th ms j) wr)
 case atStart=>exact ⟨0,by omega,rfl,K0.out,V0.out,cL.nil _ _⟩
 case round=>
  obtain ⟨j,hj,rfl,hk,hv,hr⟩:=hrel
  have HK:=hid hk
  have HV:=hid hv
  have HR:=hid hr
  clear hk hv hr
  by_cases hlt:j<th.length
  ·have hSr : ∀ b,S b->b<wr.heap.size:=fun b hb=>Nat.lt_of_lt_of_le (hS b hb) HK.out.size
   obtain ⟨mb,moff,mcap,hmv,hmS,-,hrow⟩:=(HT.out.keep hS HK.out).get hlt
   cases hmv
   obtain ⟨op,oc,hc0,hc1,hol,hbl⟩:=hrow j _ (List.getElem?_eq_getElem hlt)
   obtain ⟨h0,h1,h2⟩:=HOT.out j _ (List.getElem?_eq_getElem hlt)
   have ho1:=HON.out _ (List.getElem_mem hlt)
   have HSU:=hid (sD (ps:=ps) (ms:=ms) hlt)
   have HUL:=hid (qF ps th ms j)
   have HBL:=hid hbl
   generalize hthj:th[j]=m at hc0 hc1 hol HBL h0 h1 h2 ho1 HSU
   obtain ⟨q,hq⟩ : ∃ q:Nat,m.pl=q:=⟨m.pl.toNat,by omega⟩
   have hqp:q<ps.length:=by omega
   have hpk:bU ps m=ps[q]:=by unfold bU;rw [hq,Int.toNat_natCast,dZ ps q hqp]
   have HOB:Hid (oM ps ms m = !(ms.any (shB ps ps[q]))):=by show _=_;unfold oM;rw [hpk]
   obtain ⟨tb,toff,tcap,htv,htb,-,htrow⟩:=(HP.out.keep hS HK.out).get hqp
   cases htv
   obtain ⟨cs,hcs,hpj⟩:=htrow q hqp
   generalize ps[q]=p at hpj HOB
   obtain ⟨kk,a,fl,nt,kids,kp,fp,kc,fc,hnd,hfl,rfl,-,-⟩:=hpj.spelt
   obtain ⟨c0,c1,c2,c3,c4,c5,c6,c7,c8,c9,c10,c11,c12,c13⟩:=dI hcs
   clear hcs hpj htrow hrow hnd hbl hthj h0 h1 h2 hpk
   rcases p with ⟨n,v,sl,fs,nd⟩
   rcases m with ⟨pl,on⟩
   simp only at hq hc0 hc1 hol HBL ho1 HSU HOB c0 c1 c2 c3 hfl
   subst hq
   go_upto_region 5 with fail
   refine aZ (fun W'=>aA wr W'/\aH wr.heap.size #[.int .i64 q,.slice op on.length oc] W') ⟨aA.alloc _ _,aH.new _ _ _⟩ ?_
   rintro W2 ⟨k2,b2⟩
   have K2:=hid k2
   have V2:=hid (HV.out.keep k2 HV.out.facts.2.2)
   have R2:=hid (HR.out.keep k2)
   have B2:=hid b2
   have hS2 : ∀ b,S b->b<W2.heap.size:=fun b hb=>Nat.lt_of_lt_of_le (hSr b hb) k2.size
   obtain ⟨g0,-,l0⟩:=V2.out.facts
   have gm:=b2.2
   have gl:=b2.1
   have gt : ∀ (o:Nat) (x:Value),wr.cell? ⟨tb,o,none⟩=some x->W2.cell? ⟨tb,o,none⟩=some x:=fun o x h=>(k2.cell (p:=⟨tb,o,none⟩) (hSr tb htb)).trans h
   have d0:=gt _ _ c0
   have d1:=gt _ _ c1
   have d2:=gt _ _ c2
   have d3:=gt _ _ c3
   have d4:=gt _ _ c4
   have d5:=gt _ _ c5
   have d6:=gt _ _ c6
   have d7:=gt _ _ c7
   have d8:=gt _ _ c8
   have d9:=gt _ _ c9
   have d10:=gt _ _ c10
   have d11:=gt _ _ c11
   have d12:=gt _ _ c12
   have d13:=gt _ _ c13
   have htl:=hS2 tb htb
   clear c0 c1 c2 c3 c4 c5 c6 c7 c8 c9 c10 c11 c12 c13 gt k2 b2 hc0 hc1
   generalize wr.heap.size=cm at B2 gm gl ⊢
   go_upto_region 6 with fail
   refine aZ (fun W'=>aA W2 W'/\aH W2.heap.size #[.string n,.int .i64 v,.int .i64 sl,.slice fp fs.length fc,.int .i64 kk,.string a.n,.int .i64 a.op,.int .i64 a.v,.int .i64 a.sl,.string a.f,.bool a.on,.string fl,.bool nt,.slice kp kids.length kc] W') ⟨aA.alloc _ _,aH.new _ _ _⟩ ?_
   rintro W3 ⟨k3,b3⟩
   have K3:=hid (K2.out.trans k3)
   have V3:=hid (V2.out.keep k3 V2.out.facts.2.2)
   have R3:=hid (R2.out.keep k3)
   have BM3:=hid (B2.out.keep k3 B2.out.1)
   have B3:=hid b3
   clear k3 b3 g0 gm gl d0 d1 d2 d3 d4 d5 d6 d7 d8 d9 d10 d11 d12 d13
   generalize W2.heap.size=cp at B3 ⊢
   have KW3:=hid (HK.out.trans K3.out)
   have hcont:=eV S ms (shB ps ⟨n,v,sl,fs,nd⟩) lp ms.length lc W3 (fun b hb=>Nat.lt_of_lt_of_le (hS b hb) KW3.out.size) wV (HM.out.keep hS KW3.out) (cap:=#[.pointer (some ⟨ct,0,none⟩),.pointer (some ⟨cp,0,none⟩)]) (fun i hi op' oc' W kW hbW=>by
    obtain ⟨x1,x2,-⟩:=HOM.out i _ (List.getElem?_eq_getElem hi)
    obtain ⟨_,_,_,-,-,-,hrw⟩:=(HM.out.keep hS KW3.out).get hi
    obtain ⟨_,_,-,-,x3,-⟩:=hrw i _ (List.getElem?_eq_getElem hi)
    exact aDm S ps ms[i] op' oc' ct cp _ tc ⟨n,v,sl,fs,nd⟩ _ W (fun b hb=>Nat.lt_of_lt_of_le (Nat.lt_of_lt_of_le (hS b hb) KW3.out.size) kW.size) (HP.out.keep hS (KW3.out.trans kW)) (V3.out.keep kW V3.out.facts.2.2) (B3.out.keep kW B3.out.1) rfl rfl x1 x2 x3)
   have HCO:=hid hcont
   clear hcont
   generalize (ms.any (shB ps ⟨n,v,sl,fs,nd⟩))=β at HCO HOB
   go_wp2_with fail
   refine HCO.out.mono ?_
   rintro e W4 ⟨rfl,k4⟩
   have K4:=hid (K3.out.trans k4)
   have KW4:=hid (KW3.out.trans k4)
   have V4:=hid (V3.out.keep k4 V3.out.facts.2.2)
   have R4:=hid (R3.out.keep k4)
   have BM4:=hid (BM3.out.keep k4 BM3.out.1)
   clear k4 HCO
   rw [HOB.out] at HSU
   cases β
   ·have HSU2:Hid (fP ps th ms (j+1)=fP ps th ms j ++ [⟨true,⟨q,on⟩,0⟩]):=HSU.out
    clear HSU HOB
    have gm:=BM4.out.2
    have gl:=BM4.out.1
    go_wp2_with fail
    refine (sM S ⟨q,on⟩ op oc W4 (fun b hb=>Nat.lt_of_lt_of_le (hS b hb) KW4.out.size) (HBL.out.keep hSr K4.out) ho1).mono ?_
    rintro e W5 ⟨v5,rfl,o5,k5⟩
    obtain ⟨vp,vc,rfl,-⟩:=id o5
    have KW5:=hid (KW4.out.trans k5)
    have V5:=hid (V4.out.keep k5 V4.out.facts.2.2)
    have R5:=hid (R4.out.keep k5)
    have O5:=hid (show fU (fun b=>W4.heap.size<=b/\b<W5.heap.size) W5 ⟨true,⟨q,on⟩,0⟩ [.bool true,.int .i64 q,.slice vp on.length vc,.int .i64 0] from ⟨_,rfl,o5⟩)
    have HOW:=hid (show ∀ g,u7.ownBlock=some g->w.heap.size+1<=g/\g<W4.heap.size from fun g hg=>by
     have h1:=HR.out.own g hg
     have h2:=K4.out.size
     omega)
    have hk5:=k5.size
    have hwk4:w.heap.size+1<=W4.heap.size:=by have:=V4.out.facts.2.2;have:=HCT.out;omega
    clear k5 o5 gm gl
    obtain ⟨xp,xc,rfl⟩:=R5.out.shape
    obtain ⟨csl,e1,e2,e3,e4⟩:=R5.out
    have HC3:=hid e3
    have HC4:=hid e4
    have hul:=HUL.out
    clear e3 e4
    generalize fP ps th ms j=acc at HC3 HC4 e1 hul HSU2 HOW ⊢
    go_wp2_with (at_builtin;go_loud (refine wpList_append_own_at _ rfl _ _ 30 rfl (w.heap.size+1) 104 i0 (.agg #[.bool false,.int .i64 0,.slice none 0 0,.int .i64 0]) 4 48 Tryz.underlying30 hi hz0 hz1 hz2 rfl (by decide) (.slice xp acc.length xc) acc.length csl.flatten rfl (HC3.out.alloc _) ⟨W5.heap.size,0,none⟩ 1 1 [.bool true,.int .i64 q,.slice vp on.length vc,.int .i64 0] rfl rfl eA (by intro u hu;simp at hu;rcases hu with rfl | rfl | rfl | rfl<;>rfl) (by unfold maxLen;omega) (by omega) (by rw [aD];omega) ?_;intro v6 w6 h1 h2 _ h4;obtain ⟨g6,cap6,rfl⟩:=Cn.cN h1 (Nat.succ_pos _);have R6:=hid (cL.push (B':=W4.heap.size) e1 e2 HC4.out hwk4 (fun g hg=>(HOW.out g hg).2) O5.out rfl (by simpa using h1) h2 h4);have L6:=hid (show Below w.heap.size W5 w6 from ((Below.refl _ W5).alloc KW5.out.size _).grown h2 (by rw [aD];have:=KW5.out.size;omega) (fun g hg=>Nat.le_of_succ_le (HOW.out g hg).1));have V6:=hid (show aB ct 24 (.slice (some ⟨tb,toff,none⟩) ps.length tc) w6 from by (have h5:=V5.out;have h6:=h5.facts.2.2;unfold aB at *;rw [(Cn.jM h2).block _ h6 (fun e=>by (have:=(HOW.out _ e.symm).1;have:=HCT.out;omega))];exact h5));clear h1 h2 h4))
    go_roundg (th.length-(j+1))
    case rel=>exact ⟨j+1,by omega,by go_num,Below.trans KW5.out L6.out,V6.out,by rw [HSU2.out];exact R6.out⟩
    case measure=>omega
   ·have HSU2:Hid (fP ps th ms (j+1)=fP ps th ms j):=HSU.out
    clear HSU HOB
    go_wp2_with fail
    go_roundg (th.length-(j+1))
    case rel=>exact ⟨j+1,by omega,by go_num,KW4.out,V4.out,by rw [HSU2.out];exact R4.out⟩
    case measure=>omega
  ·obtain rfl:j=th.length:=by omega
   go_wp2_with fail
   go_ret
   exact ⟨_,rfl,HR.out,HK.out,by have:=HV.out.facts.2.2;have:=HCT.out;omega⟩
end Go.Proofs.YthaaaecmeafofaaGreatDoor
namespace Go.Proofs.YthaaaecmeafofaaGreatDoor
open Go.RowKit Go.Sort Go.Lib
def bW (S:Nat->Prop) (w0:World) (B:Nat) (v:Value) (acc:List AC) (w:World):Prop:=
 ∃ csl:List (List Value),csl.length=acc.length/\(∀ cs∈csl,cs.length=4)/\w.ownsRow B 104 4 v acc.length csl.flatten/\∀ (i:Nat) t cs,acc[i]? = some t->csl[i]? = some cs->fU S w0 t cs
section
variable {S:Nat->Prop} {w0:World} {B:Nat} {v:Value} {acc:List AC} {w w':World}
theorem bW.nil (S:Nat->Prop) (w0:World) (B:Nat) (w:World):bW S w0 B (.slice none 0 0) [] w:=⟨[],rfl,by simp,World.ownsRow_nil _ _ _ _,by simp⟩
theorem bW.kept {row:Option Nat} (h:bW S w0 B v acc w) (hg:w.grownBy w' row) (hne:v.ownBlock=none∨v.ownBlock≠row):bW S w0 B v acc w':=by
 obtain ⟨csl,h1,h2,h3,h4⟩:=h
 exact ⟨csl,h1,h2,h3.kept hg hne,h4⟩
theorem bW.keep (h:bW S w0 B v acc w) (k:aA w w'):bW S w0 B v acc w':=by
 obtain ⟨csl,h1,h2,h3,h4⟩:=h
 exact ⟨csl,h1,h2,cS h3 k,h4⟩
theorem bW.own (h:bW S w0 B v acc w) : ∀ g,v.ownBlock=some g->B<=g/\g<w.heap.size:=fun g hg=>by
 obtain ⟨csl,-,-,o1,-⟩:=h
 exact cW o1 hg
theorem bW.push {v':Value} {csl:List (List Value)} {t:AC} {cs:List Value} (h1:csl.length=acc.length) (h2 : ∀ cs∈csl,cs.length=4)
  (h4 : ∀ (i:Nat) t cs,acc[i]? = some t->csl[i]? = some cs->fU S w0 t cs) (hn:fU S w0 t cs) (hc:cs.length=4)
  (h5:w'.ownsRow B 104 4 v' (acc.length+1) (csl.flatten++cs)):bW S w0 B v' (acc ++ [t]) w':=by
 refine ⟨csl ++ [cs],by simp [h1],fun x hx=> ?_,by simpa using h5,fun i u x hu hx=> ?_⟩
 ·rcases List.mem_append.1 hx with hx | hx
  ·exact h2 x hx
  ·rw [List.mem_singleton.1 hx];exact hc
 ·by_cases hi:i<acc.length
  ·rw [List.getElem?_append_left hi] at hu
   rw [List.getElem?_append_left (by omega)] at hx
   exact h4 i u x hu hx
  ·have hi2:i=acc.length:=by
    have:=(List.getElem?_eq_some_iff.1 hu).1
    simp at this;omega
   subst hi2
   rw [List.getElem?_append_right (Nat.le_refl _),Nat.sub_self] at hu
   rw [← h1,List.getElem?_append_right (Nat.le_refl _),Nat.sub_self] at hx
   cases hu;cases hx
   exact hn
theorem bW.final (h:bW S w0 B v acc w) (hS : ∀ p:Addr,S p.block->w.cell? p=w0.cell? p):dR (fun b=>S b∨(B<=b/\b<w.heap.size)) w acc v:=by
 obtain ⟨csl,h1,h2,⟨h3,⟨rfl,h0⟩ | ⟨g,cap,cur,rfl,e2,e3,e4,e5,e6,e7⟩⟩,h4⟩:=h
 ·obtain rfl:=List.length_eq_zero_iff.1 h0
  exact ⟨_,_,rfl,by decide,fun h=>absurd h (by decide)⟩
 ·have hg:=(Array.getElem?_eq_some_iff.1 e3).1
  refine ⟨_,_,rfl,⟨by omega,by unfold maxLen at e5;omega⟩,fun _=>⟨g,0,rfl,.inr ⟨e2,hg⟩,fun i m hm=> ?_⟩⟩
  have hi:i<acc.length:=(List.getElem?_eq_some_iff.1 hm).1
  have hcs:csl[i]? = some csl[i]:=List.getElem?_eq_getElem (by omega)
  obtain ⟨ov,hc,hb⟩:=h4 i m _ hm hcs
  have hcell : ∀ (k:Nat) (u:Value),k<4->csl[i][k]? = some u->w.cell? ⟨g,i*4+k,none⟩=some u:=fun k u hk hu=>by
   have hf:=mH h2 i csl[i] hcs k u hu
   rw [← e7,List.getElem?_take,if_pos (by omega)] at hf
   simp only [World.cell?,e3]
   simpa using hf
  refine ⟨ov,?_,?_,?_,?_,hb.mono hS (fun b hb=> .inl hb)⟩
  ·have:=hcell 0 (.bool m.out) (by omega) (by rw [hc];rfl)
   simpa using this
  ·have:=hcell 1 (.int .i64 m.m.pl) (by omega) (by rw [hc];rfl)
   simpa using this
  ·have:=hcell 2 ov (by omega) (by rw [hc];rfl)
   simpa using this
  ·have:=hcell 3 (.int .i64 m.cy) (by omega) (by rw [hc];rfl)
   simpa using this
theorem bW.shape (h:bW S w0 B v acc w) : ∃ p cap,v=.slice p acc.length cap:=by
 obtain ⟨csl,h1,h2,⟨h3,⟨rfl,h0⟩ | ⟨g,cap,cur,rfl,e2⟩⟩,h4⟩:=h
 ·exact ⟨_,_,by rw [h0]⟩
 ·exact ⟨_,_,rfl⟩
end
theorem oO {P:Program} {ops:Array Oper} {o:Oper} {a:Act} {w:World} {K:Act->World->Prop} {Q:Exit->Act->World->Prop} {E:Prop}
  (hg:o.guard=none) (s x:Operand) (t:TypeId) (hop:o.op=Op.call { callee:=Callee.builtin Builtin.append,args:=#[s,x],argTypes:=#[t,t] })
  (v u v':Value) (w':World) (hs:a.eval s=v) (hx:a.eval x=u) (hr : ∀ ty,(Builtin.append_ #[t,t] ty #[v,u]).run P w=.ok v' w') (hK:K (a.put o.dst v') w') :
  if Region.wanted o (yielded ops a.tmps)=true then Oper.wp P o a w K Q else E:=by
 have hw:Region.wanted o (yielded ops a.tmps)=true:=by simp [Region.wanted,hg]
 rw [if_pos hw]
 have hr:=hr o.type
 unfold Oper.wp
 simp [execOp,hop,resolve,invoke,builtin,hs,hx,hr,Result.andThen]
 exact hK
theorem qD {w:World} {b off:Nat} {zs:List Int} (h : ∀ (j:Nat) (x:Int),zs[j]? = some x->w.cell? ⟨b,off+j,none⟩=some (.int .i64 x)) : ∀ (j:Nat) (u:Value),(zs.map (Value.int .i64))[j]? = some u->w.cell? ((⟨b,off,none⟩:Addr).add j)=some u:=by
 intro j u hu
 rw [List.getElem?_map] at hu
 cases hx:zs[j]? with
 | none=>rw [hx] at hu;cases hu
 | some x=>
  rw [hx] at hu;cases hu
  have:=h j x hx
  rw [show (⟨b,off,none⟩:Addr).add j=⟨b,off+j,none⟩ by unfold Addr.add;split<;>simp_all]
  exact this
theorem aEr {w:World} {zs:List Int} {b off a c:Nat} (ha:a<zs.length) (hsm:zs.length<=1000) (h : ∀ (j:Nat) (x:Int),zs[j]? = some x->w.cell? ⟨b,off+j,none⟩=some (.int .i64 x)) :
  ∃ v' w',(∀ ty,(Builtin.append_ #[37,37] ty #[.slice (some ⟨b,off,none⟩) a a,.slice (some ⟨b,off+(a+1),none⟩) (zs.length-(a+1)) c]).run Tryz.prog w=.ok v' w')/\aA w w'/\bN (fun x=>x=b∨(w.heap.size<=x/\x<w'.heap.size)) w' (zs.take a++zs.drop (a+1)) v'/\∃ p c',v'=.slice p (zs.length-1) c'/\zs.length-1<=c'/\(p=none->c'=0):=by
 obtain ⟨i0,hi,hz0,hz1,hz2⟩:=info_parts hN
 have hll:(zs.take a++zs.drop (a+1)).length=zs.length-1:=by simp;omega
 by_cases h0:zs.length-(a+1)=0
 ·refine ⟨.slice (some ⟨b,off,none⟩) a a,w,fun ty=> ?_,aA.refl _,?_,some ⟨b,off,none⟩,a,by rw [show zs.length-1=a by omega],by omega,fun h=>by cases h⟩
  ·rw [h0]
   simp [Builtin.append_,run_underlying Tryz.underlying37,sizeOf,typeInfo,hi,Builtin.lenOf,Builtin.firstCells,loadCells,loadCellsFrom,storeCells]
  ·rw [List.drop_eq_nil_of_le (by omega),List.append_nil]
   refine ⟨_,_,by rw [List.length_take_of_le (by omega)],by rw [List.length_take_of_le (by omega)];omega,fun _=>⟨b,off,rfl,.inl rfl,fun j x hx=> ?_⟩⟩
   rw [List.getElem?_take] at hx
   split at hx
   ·exact h j x hx
   ·cases hx
 ·have hn1 : ∀ (j:Nat) (u:Value),((zs.take a).map (Value.int .i64))[j]? = some u->w.cell? ((⟨b,off,none⟩:Addr).add j)=some u:=qD fun j x hx=>by
   rw [List.getElem?_take] at hx
   split at hx
   ·exact h j x hx
   ·cases hx
  have hn2 : ∀ (j:Nat) (u:Value),((zs.drop (a+1)).map (Value.int .i64))[j]? = some u->w.cell? ((⟨b,off+(a+1),none⟩:Addr).add j)=some u:=qD fun j x hx=>by
   rw [List.getElem?_drop] at hx
   rw [Nat.add_assoc]
   exact h _ x hx
  have hl1:((zs.take a).map (Value.int .i64)).length=a*i0.size:=by rw [List.length_map,List.length_take_of_le (by omega),hz1];omega
  have hl2:((zs.drop (a+1)).map (Value.int .i64)).length=(zs.length-(a+1))*i0.size:=by rw [List.length_map,List.length_drop,hz1];omega
  have hr:=fun ty=>run_append_grow (P:=Tryz.prog) w 37 ty 3 i0 (.int .i64 0) Tryz.underlying37 hi hz0 ⟨b,off,none⟩ a a _ hl1 hn1 ⟨b,off+(a+1),none⟩ (zs.length-(a+1)) c _ hl2 hn2 (by omega) (by omega) (growslice_fits (by omega) (by rw [hz2];omega))
  have hcap:=grownCap_ge w (a+(zs.length-(a+1))) a 3
  refine ⟨_,_,hr,?_,?_,some ⟨w.heap.size,0,none⟩,grownCap w (a+(zs.length-(a+1))) a 3,by rw [show zs.length-1=a+(zs.length-(a+1)) by omega],by omega,fun h=>by cases h⟩
  ·exact dW (aA.alloc _ _)
  ·refine ⟨_,_,by rw [hll,show zs.length-1=a+(zs.length-(a+1)) by omega],by rw [hll];omega,fun _=>⟨w.heap.size,0,rfl,.inr ⟨Nat.le_refl _,by rw [aD];exact Nat.lt_succ_self _⟩,fun j x hx=> ?_⟩⟩
   have hnew:(w.drew.alloc (.cells (((zs.take a).map (Value.int .i64)).toArray++((zs.drop (a+1)).map (Value.int .i64)).toArray++Builtin.zeroCells (Value.int .i64 0).cells (grownCap w (a+(zs.length-(a+1))) a 3-(a+(zs.length-(a+1))))) 3)).heap[w.heap.size]? = some (.cells (((zs.take a).map (Value.int .i64)).toArray++((zs.drop (a+1)).map (Value.int .i64)).toArray++Builtin.zeroCells (Value.int .i64 0).cells (grownCap w (a+(zs.length-(a+1))) a 3-(a+(zs.length-(a+1))))) 3):=heap_alloc_new w.drew _
   simp only [World.cell?,hnew]
   have hj:j<(zs.take a++zs.drop (a+1)).length:=(List.getElem?_eq_some_iff.1 hx).1
   have e1:((zs.take a).map (Value.int .i64)).toArray++((zs.drop (a+1)).map (Value.int .i64)).toArray=((zs.take a++zs.drop (a+1)).map (Value.int .i64)).toArray:=by simp
   rw [Nat.zero_add,if_neg (by simp),e1,Array.getElem?_append_left (by simpa using hj)]
   rw [List.getElem?_toArray,List.getElem?_map,hx];rfl
end Go.Proofs.YthaaaecmeafofaaGreatDoor
namespace Go.Proofs.YthaaaecmeafofaaGreatDoor
open Go.RowKit Go.Sort
theorem sX (args:Array Value) (w:World):(callFunc 45 args).run Tryz.prog w=.ok (.enter 45 args) w:=enters_of Tryz.func45 (by kernel_rfl) rfl args w
theorem xK (S:Nat->Prop) (ps:List PK) (m:MB) (an af:ByteArray) (aop av asl:Int) (aon:Bool) (op tp:Option Addr) (oc tc ct cm:Nat) (w:World) (hS : ∀ b,S b->b<w.heap.size) (hp:bA S w ps (.slice tp ps.length tc)) (ht:aB ct 24 (.slice tp ps.length tc) w)
  (hb:aH cm #[.int .i64 m.pl,.slice op m.on.length oc] w) (hbl:aN S w m.on (.slice op m.on.length oc)) (h0:0<=m.pl) (h1:m.pl<ps.length) (h2:m.on.length=(bU ps m).fl.length) (hon:m.on.length<=9223372036854775807) :
  Calls Tryz.prog 45 #[.agg #[.string an,.int .i64 aop,.int .i64 av,.int .i64 asl,.string af,.bool aon],.pointer (some ⟨ct,0,none⟩),.pointer (some ⟨cm,0,none⟩)] w fun e w'=>e=.returned (.bool (isB (bU ps m) m ⟨an,aop,av,asl,af,aon⟩))/\aA w w':=by
 have HBL:=hid hbl
 have HP:=hid hp
 have HT:=hid ht
 have HB:=hid hb
 obtain ⟨q,hq⟩ : ∃ q:Nat,m.pl=q:=⟨m.pl.toNat,by omega⟩
 have hqp:q<ps.length:=by omega
 have hpk:bU ps m=ps[q]:=by unfold bU;rw [hq,Int.toNat_natCast,dZ ps q hqp]
 rw [hpk] at h2 ⊢
 have HON:=hid h2
 obtain ⟨tb,toff,tcap,htv,htb,hlen,htrow⟩:=hp.get hqp
 cases htv
 obtain ⟨cs,hcs,hpj⟩:=htrow q hqp
 generalize ps[q]=p at hpj HON ⊢
 obtain ⟨kk,a',fl,nt,kids,kp,fp,kc,fc,hnd,hfl,rfl,-,-⟩:=hpj.spelt
 have HPJ:=hid hpj
 obtain ⟨c0,c1,c2,c3,c4,c5,c6,c7,c8,c9,c10,c11,c12,c13⟩:=dI hcs
 clear hcs hpj htrow hnd hp ht hb hbl h0 h1 h2 hpk
 rcases p with ⟨n,v,sl,fs,nd⟩
 rcases m with ⟨pl,on⟩
 simp only at hq hon HON c0 c1 c2 c3 hfl HPJ HBL HB ⊢
 subst hq
 go_enter Tryz.func45,Tryz.ntmps45
 go_upto_region 1 with fail
 refine aZ (fun W'=>aA w W'/\aH w.heap.size #[.string an,.int .i64 aop,.int .i64 av,.int .i64 asl,.string af,.bool aon] W') ⟨aA.alloc _ _,aH.new _ _ _⟩ ?_
 rintro W2 ⟨k2,b2⟩
 have K2:=hid k2
 have V2:=hid (HT.out.keep k2 HT.out.facts.2.2)
 have BX2:=hid (HB.out.keep k2 HB.out.1)
 have B2:=hid b2
 clear k2 b2
 have htl:tb<W2.heap.size:=Nat.lt_of_lt_of_le (hS tb htb) K2.out.size
 have cb : ∀ (d:Nat) (os:Array Obj) (o:Nat) (x:Value),w.cell? ⟨tb,o,none⟩=some x->(grow (redrawn W2 d) os).cell? ⟨tb,o,none⟩=some x:=fun d os o x hx=>((below_regrown W2 d os).cell (p:=⟨tb,o,none⟩) htl).trans ((K2.out.cell (p:=⟨tb,o,none⟩) (hS tb htb)).trans hx)
 have d0:=fun d os=>cb d os _ _ c0
 have d1:=fun d os=>cb d os _ _ c1
 have d2:=fun d os=>cb d os _ _ c2
 have d3:=fun d os=>cb d os _ _ c3
 have d4:=fun d os=>cb d os _ _ c4
 have d5:=fun d os=>cb d os _ _ c5
 have d6:=fun d os=>cb d os _ _ c6
 have d7:=fun d os=>cb d os _ _ c7
 have d8:=fun d os=>cb d os _ _ c8
 have d9:=fun d os=>cb d os _ _ c9
 have d10:=fun d os=>cb d os _ _ c10
 have d11:=fun d os=>cb d os _ _ c11
 have d12:=fun d os=>cb d os _ _ c12
 have d13:=fun d os=>cb d os _ _ c13
 have dt : ∀ d os,(grow (redrawn W2 d) os).cell? ⟨ct,0,none⟩=some (.slice (some ⟨tb,toff,none⟩) ps.length tc):=fun d os=>((below_regrown W2 d os).cell (p:=⟨ct,0,none⟩) V2.out.facts.2.2).trans V2.out.facts.1
 have db : ∀ o d os,(grow (redrawn W2 d) os).cell? ⟨cm,o,none⟩=(#[.int .i64 q,.slice op on.length oc]:Array Value)[o]? :=fun o d os=>(BX2.out.keep (below_regrown W2 d os) BX2.out.1).2 o
 have da : ∀ o d os,(grow (redrawn W2 d) os).cell? ⟨w.heap.size,o,none⟩=(#[.string an,.int .i64 aop,.int .i64 av,.int .i64 asl,.string af,.bool aon]:Array Value)[o]? :=fun o d os=>(B2.out.keep (below_regrown W2 d os) B2.out.1).2 o
 have hS2 : ∀ b,S b->b<W2.heap.size:=fun b hb=>Nat.lt_of_lt_of_le (hS b hb) K2.out.size
 obtain ⟨β,hbe⟩ : ∃ β,isB ⟨n,v,sl,fs,nd⟩ ⟨q,on⟩ ⟨an,aop,av,asl,af,aon⟩=β:=⟨_,rfl⟩
 have HBE:=hid hbe
 have cAsk:=hid (show ∀ d os,Calls Tryz.prog 46 #[.agg #[.string n,.int .i64 v,.int .i64 sl,.slice fp fs.length fc,.int .i64 kk,.string a'.n,.int .i64 a'.op,.int .i64 a'.v,.int .i64 a'.sl,.string a'.f,.bool a'.on,.string fl,.bool nt,.slice kp kids.length kc],.agg #[.int .i64 q,.slice op on.length oc],.agg #[.string an,.int .i64 aop,.int .i64 av,.int .i64 asl,.string af,.bool aon]] (grow (redrawn W2 d) os) fun e w''=>e=.returned (.bool β)/\∃ p:Regrown,w''=grow (redrawn W2 p.d) p.os from fun d os=>by
  rw [← hbe]
  exact Calls.regrown_of (uQ S ⟨n,v,sl,fs,nd⟩ _ ⟨q,on⟩ op oc an af aop av asl aon _ (fun b hb=>Nat.lt_of_lt_of_le (hS2 b hb) (below_regrown W2 d os).size) (HPJ.out.keep hS (K2.out.trans (below_regrown W2 d os))) (HBL.out.keep hS (K2.out.trans (below_regrown W2 d os))) HON.out hon))
 clear c0 c1 c2 c3 c4 c5 c6 c7 c8 c9 c10 c11 c12 c13 cb hbe
 refine wp_region_quiet_below (by kernel_rfl) (by kernel_rfl) ?_
 repeat (first | go_big_quiet_step (exact cAsk.out _ _) | quiet_step (exact cAsk.out _ _))
 refine wpQuiet_nil ?_
 intro _ hw'
 obtain ⟨⟨dq,osq⟩,hw''⟩:=hw'
 subst hw''
 have k4:=below_regrown W2 dq osq
 generalize grow (redrawn W2 dq) osq=W4 at k4 ⊢
 have K4:=hid (K2.out.trans k4)
 clear d0 d1 d2 d3 d4 d5 d6 d7 d8 d9 d10 d11 d12 d13 dt db da cAsk k4
 go_wp2_with fail
 go_ret
 exact ⟨aG HBE.out.symm,K4.out⟩
theorem fV.len2 {S:Nat->Prop} {w:World} {ts:List At} {v:Value} (h:fV S w ts v) : ∃ p cap,v=.slice p ts.length cap/\ts.length<=9223372036854775807:=by
 obtain ⟨p,cap,h1,h2,-⟩:=h;exact ⟨p,cap,h1,h2⟩
theorem pK {F:Nat} {cap:Array Value} (S:Nat->Prop) (ts:List At) (g:At->Bool) (lp:Option Addr) (lc:Nat) (w:World) (hS : ∀ b,S b->b<w.heap.size)
  (hF : ∀ args w,(callFunc F args).run Tryz.prog w=.ok (.enter F args) w) (hm:fV S w ts (.slice lp ts.length lc))
  (hc : ∀ (a:At) (W:World),aA w W->Calls Tryz.prog F (#[.agg #[.string a.n,.int .i64 a.op,.int .i64 a.v,.int .i64 a.sl,.string a.f,.bool a.on]]++cap) W fun e w'=>e=.returned (.bool (g a))/\aA W w') :
  Calls Tryz.prog 109 #[.slice lp ts.length lc,.func (.func F) #[] cap] w fun e w'=> ∃ n:Int,e=.returned (.int .i64 n)/\decide (0<=n)=ts.any g/\aA w w':=by
 have HM:=hid hm
 have HC:=hid hc
 have hlen:ts.length<=9223372036854775807:=by obtain ⟨_,_,_,h⟩:=hm.len2;exact h
 clear hm hc
 go_enter Tryz.func109,Tryz.ntmps109
 go_wp2_with fail
 go_loopg [8] ts.length (fun gk i wr=> ∃ j:Nat,j+gk=ts.length/\i=.int .i64 j/\(ts.take j).any g=false/\aA w wr)
 case atStart=>exact ⟨0,by simp,rfl,by simp,aA.refl _⟩
 case round=>
  obtain ⟨j,hj,rfl,hno,hkp⟩:=hrel
  have HNO:=hid hno
  have HKP:=hid hkp
  clear hno hkp
  by_cases hlt:j<ts.length
  ·have hrr:=HM.out.keep hS HKP.out
   obtain ⟨p',cap',e',-,hrr⟩:=hrr
   cases e'
   obtain ⟨ab,aoff,rfl,hab,hrow⟩:=hrr (by omega)
   obtain ⟨c0,c1,c2,c3,c4,c5⟩:=hrow j _ (List.getElem?_eq_getElem hlt)
   have HCALL:=hid (HC.out ts[j] wr HKP.out)
   have HST:Hid ((ts.take (j+1)).any g=g ts[j]):=by
    show _=_
    rw [List.take_succ_eq_append_getElem hlt,List.any_append,HNO.out];simp
   have HUP:Hid (g ts[j]=true->ts.any g=true):=fun h=>List.any_eq_true.2 ⟨ts[j],List.getElem_mem hlt,h⟩
   generalize g ts[j]=β at HCALL HST HUP
   generalize ts[j]=a at c0 c1 c2 c3 c4 c5 HCALL
   clear hrow hrr HNO
   go_wp2_with fail
   refine HCALL.out.mono ?_
   rintro e w1 ⟨rfl,k1⟩
   have K1:=hid (HKP.out.trans k1)
   clear k1 c0 c1 c2 c3 c4 c5 HCALL
   cases β
   ·go_wp2_with fail
    go_roundg (ts.length-(j+1))
    case rel=>exact ⟨j+1,by omega,by go_num,HST.out,K1.out⟩
    case measure=>omega
   ·go_wp2_with fail
    go_ret
    exact ⟨(j:Int),rfl,by rw [show ts.any g=true from HUP.out trivial];exact decide_eq_true (by omega),K1.out⟩
  ·obtain rfl:j=ts.length:=by omega
   go_wp2_with fail
   go_ret
   refine ⟨-1,rfl,?_,HKP.out⟩
   have:=HNO.out
   rw [List.take_length] at this
   rw [this];rfl
theorem mB {F:Nat} {cap:Array Value} (S:Nat->Prop) (ts:List At) (g:At->Bool) (v:Value) (w:World) (hS : ∀ b,S b->b<w.heap.size)
  (hF : ∀ args w,(callFunc F args).run Tryz.prog w=.ok (.enter F args) w) (hm:fV S w ts v)
  (hc : ∀ (a:At) (W:World),aA w W->Calls Tryz.prog F (#[.agg #[.string a.n,.int .i64 a.op,.int .i64 a.v,.int .i64 a.sl,.string a.f,.bool a.on]]++cap) W fun e w'=>e=.returned (.bool (g a))/\aA W w') :
  Calls Tryz.prog 47 #[v,.func (.func F) #[] cap] w fun e w'=>e=.returned (.bool (ts.any g))/\aA w w':=by
 obtain ⟨lp,lc,rfl,hlen⟩:=hm.len2
 have HI:=hid (pK S ts g lp lc w hS hF hm hc)
 clear hm hc
 go_enter Tryz.func47,Tryz.ntmps47
 go_wp2_with fail
 refine HI.out.mono ?_
 rintro e w1 ⟨n,rfl,hn,k1⟩
 have HN:=hid hn
 have K1:=hid k1
 clear hn k1 HI
 go_wp2_with fail
 go_ret
 exact ⟨aG HN.out,K1.out⟩
end Go.Proofs.YthaaaecmeafofaaGreatDoor
namespace Go.Proofs
open Go.Shelf
end Go.Proofs
