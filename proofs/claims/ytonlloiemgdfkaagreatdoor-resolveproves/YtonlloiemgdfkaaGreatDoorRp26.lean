/- Steps of the proof: SatMem, SatParts, SatBoth. -/
import Derived.Test.YtonlloiemgdfkaaGreatDoorRp20
import Derived.OwnWalk
set_option maxHeartbeats 16000000
set_option maxRecDepth 100000
namespace Go.Proofs.YtonlloiemgdfkaaGreatDoor.Cn
open Go.RowKit Go.Lib
theorem XF.other {x:XD} {B:Nat} {K:List Int} {F:List (List Int)} {w w':World} (h:XF x B K F w) (hs:w.heap.size<=w'.heap.size) (hb : ∀ b,x.all b->w'.heap[b]? = w.heap[b]?):XF x B K F w':=by
 refine ⟨h.xm.other hs fun b hb'=>hb b (.inl hb'),?_,h.xi,h.cl⟩
 have:=h.kb
 unfold aE at *
 rw [hb _ (.inr rfl)];exact this
structure SD where
 x:XD
 sb:Nat
 s:Nat
 mv:Value
 pv:Value
 P:List (List Int)
def SD.own (d:SD) (b:Nat):Prop:=d.x.all b∨b=d.sb∨d.pv.ownBlock=some b
def SD.box (d:SD):Array Value:=#[.int .i64 d.x.n,.pointer (some ⟨d.x.bx,0,none⟩),.int .i64 d.s,d.mv,d.pv]
def SD.far (d:SD) (N:Nat) (w:World) (b:Nat):Prop:=N<=b/\b<w.heap.size/\¬ d.own b
structure SrM (d:SD) (B N:Nat) (K:List Int) (F:List (List Int)) (w:World):Prop where
 box:aE d.sb 184 d.box w
 xf:XF d.x B K F w
 sx : ¬ d.x.all d.sb
 pr:oM N (d.far N w) d.pv d.P w
 px : ∀ g,d.pv.ownBlock=some g->¬ d.x.all g/\g≠d.sb
 nw:N<=w.heap.size
theorem SrM.lt {d:SD} {B N:Nat} {K:List Int} {F:List (List Int)} {w:World} (h:SrM d B N K F w) {b:Nat} (hb:d.own b):b<w.heap.size:=by
 rcases hb with hb | rfl | hb
 ·exact h.xf.lt hb
 ·exact h.box.facts.2.2
 ·exact (h.pr.in hb).2
theorem SrM.keep {d:SD} {B N:Nat} {K:List Int} {F:List (List Int)} {w w':World} (h:SrM d B N K F w) (k:aA w w'):SrM d B N K F w':=
 ⟨h.box.keep k h.box.facts.2.2,h.xf.keep k,h.sx,h.pr.mono (fun g hg=>k.block g (h.pr.in hg).2) (fun b hb=>⟨k.block b hb.2.1,hb.1,Nat.lt_of_lt_of_le hb.2.1 k.size,hb.2.2⟩),h.px,Nat.le_trans h.nw k.size⟩
theorem SrM.from {d:SD} {B N:Nat} {K K':List Int} {F F':List (List Int)} {w w':World} {x':XD} (h:SrM d B N K F w) (hx:XF x' B K' F' w') (ht:aF d.x.all x'.all w w') (hn:x'.n=d.x.n) (hb:x'.bx=d.x.bx):SrM { d with x:=x' } B N K' F' w'/\aF d.own ({ d with x:=x' }:SD).own w w':=by
 have hsl:=h.box.facts.2.2
 have hne : ∀ b,b<w.heap.size->¬ d.x.all b->¬ x'.all b:=fun b hb hn e=>(ht.new b e).elim hn fun e=>by omega
 refine ⟨⟨?_,hx,hne _ hsl h.sx,?_,fun g hg=>⟨hne g (h.pr.in hg).2 (h.px g hg).1,(h.px g hg).2⟩,Nat.le_trans h.nw ht.size⟩,?_⟩
 ·have:=h.box.turn ht h.sx
  show aE d.sb _ #[.int .i64 x'.n,.pointer (some ⟨x'.bx,0,none⟩),.int .i64 d.s,d.mv,d.pv] w'
  rw [hn,hb];exact this
 ·exact h.pr.mono (fun g hg=>ht.block g (h.pr.in hg).2 (h.px g hg).1) fun b hb=>⟨ht.block b hb.2.1 fun e=>hb.2.2 (.inl e),hb.1,Nat.lt_of_lt_of_le hb.2.1 ht.size,fun e=>by
   rcases e with e | e | e
   ·exact hne b hb.2.1 (fun e=>hb.2.2 (.inl e)) e
   ·exact hb.2.2 (.inr (.inl e))
   ·exact hb.2.2 (.inr (.inr e))⟩
 ·refine ⟨ht.os,ht.tape,ht.output,ht.size,fun b hb hn=>ht.block b hb fun e=>hn (.inl e),fun b hb=> ?_⟩
  rcases hb with hb | hb | hb
  ·exact (ht.new b hb).imp .inl id
  ·exact .inl (.inr (.inl hb))
  ·exact .inl (.inr (.inr hb))
theorem SrM.put {d d':SD} {B N:Nat} {K:List Int} {F:List (List Int)} {w:World} (h:SrM d B N K F w) (o:Nat) (v:Value) (e:d.box.setIfInBounds o v=d'.box) (hx:d'.x=d.x) (hs:d'.sb=d.sb) (hp:d'.pv=d.pv) (hP:d'.P=d.P):SrM d' B N K F (w.setCell ⟨d.sb,o,none⟩ v)/\aF d.own d'.own w (w.setCell ⟨d.sb,o,none⟩ v):=by
 have hso : ∀ b,b≠d.sb->(w.setCell ⟨d.sb,o,none⟩ v).heap[b]? = w.heap[b]? :=fun b hb=>Below.heap_setCell _ _ _ _ (fun e=>hb e)
 have hsz:(w.setCell ⟨d.sb,o,none⟩ v).heap.size=w.heap.size:=by simp
 have hown:d'.own=d.own:=by unfold SD.own;rw [hx,hs,hp]
 refine ⟨⟨by rw [hs,← e];exact h.box.set o v,by rw [hx];exact h.xf.other (by rw [hsz];exact Nat.le_refl _) fun b hb=>hso b fun e=>h.sx (e ▸ hb),by rw [hx,hs];exact h.sx,?_,by rw [hx,hs,hp];exact h.px,by rw [hsz];exact h.nw⟩,by rw [hown];exact aF.set _ _ _ _ _ (.inr (.inl rfl))⟩
 rw [hp,hP]
 exact h.pr.mono (fun g hg=>hso g (h.px g hg).2) fun b hb=>⟨hso b fun e=>hb.2.2 (.inr (.inl e)),hb.1,by rw [hsz];exact hb.2.1,by rw [hown];exact hb.2.2⟩
theorem SrM.push {d:SD} {B N:Nat} {K:List Int} {F:List (List Int)} {w w5:World} (h:SrM d B N K F w) {vs:List Value} {u v':Value} {c:List Int} (hvl:vs.length=d.P.length) (hvn : ∀ (i:Nat) c x,d.P[i]? = some c->vs[i]? = some x->aH (d.far N w) w c x)
  (hu:aH (d.far N w) w c u) (hg:w.grownBy w5 d.pv.ownBlock) (ho:v'.ownBlock=d.pv.ownBlock∨∃ g,v'.ownBlock=some g/\w.heap.size<=g) (h5:w5.ownsRow N 168 1 v' (d.P.length+1) (vs ++ [u])) :
  SrM { d with pv:=v',P:=d.P ++ [c] } B N K F (w5.setCell ⟨d.sb,4,none⟩ v')/\aF d.own ({ d with pv:=v',P:=d.P ++ [c] }:SD).own w (w5.setCell ⟨d.sb,4,none⟩ v'):=by
 have hsl:=h.box.facts.2.2
 have hb : ∀ b,b<w.heap.size->d.pv.ownBlock≠some b->w5.heap[b]? = w.heap[b]? :=fun b hb hn=>hg.block b hb fun e=>hn e.symm
 have hso : ∀ b,b≠d.sb->(w5.setCell ⟨d.sb,4,none⟩ v').heap[b]? = w5.heap[b]? :=fun b hb=>Below.heap_setCell _ _ _ _ (fun e=>hb e)
 have hsz:(w5.setCell ⟨d.sb,4,none⟩ v').heap.size=w5.heap.size:=by simp
 have hown : ∀ b,({ d with pv:=v',P:=d.P ++ [c] }:SD).own b->d.own b∨w.heap.size<=b:=fun b e=>by
  rcases e with e | e | e
  ·exact .inl (.inl e)
  ·exact .inl (.inr (.inl e))
  ·rcases ho with ho | ⟨g,ho,hge⟩
   ·exact .inl (.inr (.inr (ho ▸ e)))
   ·have e2:v'.ownBlock=some b:=e
    rw [ho] at e2;have:=Option.some.inj e2;exact .inr (by omega)
 have hfar : ∀ b,d.far N w b->(w5.setCell ⟨d.sb,4,none⟩ v').heap[b]? = w.heap[b]? /\({ d with pv:=v',P:=d.P ++ [c] }:SD).far N (w5.setCell ⟨d.sb,4,none⟩ v') b:=fun b hf=>by
  refine ⟨?_,hf.1,?_,fun e=> ?_⟩
  ·rw [hso b fun e=>hf.2.2 (.inr (.inl e)),hb b hf.2.1 fun e=>hf.2.2 (.inr (.inr e))]
  ·rw [hsz];exact Nat.lt_of_lt_of_le hf.2.1 hg.size
  ·rcases hown b e with e | e
   ·exact hf.2.2 e
   ·have:=hf.2.1;omega
 have hpx : ∀ g,v'.ownBlock=some g->¬ d.x.all g/\g≠d.sb:=fun g hgv=>by
  rcases ho with ho | ⟨g',ho,hge⟩
  ·exact h.px g (ho ▸ hgv)
  ·rw [ho] at hgv
   have e:=Option.some.inj hgv
   exact ⟨fun e2=>by have:=h.xf.lt e2;omega,by omega⟩
 have hmn : ∀ c x,aH (d.far N w) w c x->aH (({ d with pv:=v',P:=d.P ++ [c] }:SD).far N (w5.setCell ⟨d.sb,4,none⟩ v')) (w5.setCell ⟨d.sb,4,none⟩ v') c x:=fun c x hx=>hx.mono (fun p hp=>World.cell?_of_block (w:=w) (hfar _ hp).1) fun b hb=>(hfar b hb).2
 refine ⟨⟨?_,?_,h.sx,?_,hpx,by rw [hsz];exact Nat.le_trans h.nw hg.size⟩,?_⟩
 ·have h6:aE d.sb 184 d.box w5:=by
   have:=h.box
   unfold aE at *
   rw [hb _ hsl fun e=>(h.px _ e).2 rfl];exact this
  exact h6.set 4 v'
 ·refine h.xf.other (by rw [hsz];exact hg.size) fun b hb'=> ?_
  rw [hso b fun e=>h.sx (e ▸ hb'),hb b (h.xf.lt hb') fun e=>(h.px b e).1 hb']
 ·refine ⟨vs ++ [u],by simp [hvl],?_,fun i c' x hc' hx=> ?_⟩
  ·have h6:=cL (w':=w5.setCell ⟨d.sb,4,none⟩ v') h5 fun g hgv=>hso g (hpx g hgv).2
   simpa using h6
  ·have hc'':(d.P ++ [c])[i]? = some c':=hc'
   by_cases hi:i<d.P.length
   ·rw [List.getElem?_append_left hi] at hc''
    rw [List.getElem?_append_left (by omega)] at hx
    exact hmn _ _ (hvn i c' x hc'' hx)
   ·have hi2:i=d.P.length:=by
     have:=(List.getElem?_eq_some_iff.1 hc'').1
     simp at this;omega
    subst hi2
    rw [List.getElem?_append_right (Nat.le_refl _),Nat.sub_self] at hc''
    rw [← hvl,List.getElem?_append_right (Nat.le_refl _),Nat.sub_self] at hx
    cases hc'';cases hx
    exact hmn _ _ hu
 ·refine ⟨hg.os,hg.tape,hg.output,by rw [hsz];exact hg.size,fun b hbl hn=> ?_,hown⟩
  rw [hso b fun e=>hn (.inr (.inl e)),hb b hbl fun e=>hn (.inr (.inr e))]
theorem mY (S:Nat->Prop) (A:List Int) (av:Value) (w:World) (hS : ∀ b,S b->b<w.heap.size) (ha:aH S w A av) (hA:aL 1000 A) (hl:A.length<=60) :
  Calls Tryz.prog 183 #[av] w fun e w'=> ∃ v,e=.returned v/\aH (fun b=>w.heap.size<=b/\b<w'.heap.size) w' (bE A) v/\aA w w':=by
 obtain ⟨i0,hi,hz0,hz1,hz2⟩:=info_parts dC
 have HA:=hid ha
 have HL:=hid hA
 obtain ⟨ap,ac,rfl,hlen⟩:=ha.shape
 clear ha hA
 go_enter Tryz.func183,Tryz.ntmps183
 go_wp2_with (at_make;refine wpList_make_full _ rfl _ _ 168 rfl w.heap.size 3 i0 (.int .i64 0) 1 Tryz.underlying168 hi hz0 hz1 .i64 .i64 (A.length:Int) (A.length:Int) A.length rfl rfl rfl rfl (by rw [hz2];omega) (by unfold maxLen;omega) (Nat.le_refl _) ?_;intro w1 h1 h2;have K1:=hid (qZ h2);have F1:=hid (dY.start (f:=fun x=> .int .i64 (-x)) (A:=A) (gX (v:= .int .i64 0) rfl h1));clear h1 h2)
 go_loopg [11] A.length (fun gk iv wr=> ∃ j:Nat,j+gk=A.length/\iv=.int .i64 j/\aA w wr/\dY (fun x=> .int .i64 (-x)) A j w.heap.size 3 wr)
 case atStart=>exact ⟨0,by omega,rfl,K1.out,F1.out⟩
 case round=>
  obtain ⟨j,hj,rfl,hk,hf⟩:=hrel
  have K2:=hid hk
  have F2:=hid hf
  clear hk hf
  by_cases hlt:j<A.length
  ·obtain ⟨cb,co,rfl,hcb,hcc⟩:=(HA.out.keep hS K2.out).nth hlt
   have hc1:=hcc j _ (List.getElem?_eq_getElem hlt)
   have hx:=HL.out A[j] (List.getElem_mem hlt)
   have HX:=hid (List.getElem?_eq_getElem hlt)
   have hbl:=Nat.lt_of_lt_of_le (hS cb hcb) K2.out.size
   obtain ⟨⟨v0,hv0⟩,hfr,hbl2⟩:=F2.out.cell hlt
   generalize A[j]=z at hc1 hx HX
   have hz1' : -1000<=z:=by have:=hx.2;omega
   have hz2':z<=1000:=by have:=hx.2;omega
   have hjI:(j:Int)<(A.length:Int):=by omega
   clear hcc hx
   have F3:=hid (F2.out.next HX.out)
   have K3:=hid (show aA w (wr.setCell ⟨w.heap.size,j,none⟩ (.int .i64 (-z))) from Below.trans K2.out (aM wr w.heap.size j _))
   go_wp2_with fail
   go_roundg (A.length-(j+1))
   case rel=>exact ⟨j+1,by omega,by go_num,K3.out,F3.out⟩
   case measure=>omega
  ·obtain rfl:j=A.length:=by omega
   go_wp2_with fail
   go_ret
   refine ⟨.slice (some ⟨w.heap.size,0,none⟩) A.length A.length,rfl,⟨_,A.length,by unfold bE;rw [List.length_map],by simp [bE];omega,fun _=>⟨w.heap.size,0,rfl,⟨Nat.le_refl _,F2.out.lt⟩,fun i x hx=> ?_⟩⟩,K2.out⟩
   rw [Nat.zero_add]
   unfold bE at hx
   rw [List.getElem?_map] at hx
   cases e:A[i]? with
   | none=>rw [e] at hx;cases hx
   | some y=>
    rw [e] at hx
    cases hx
    exact F2.out.all i y e
theorem aJg (S:Nat->Prop) (A:List Int) (av:Value) (w:World) (hS : ∀ b,S b->b<w.heap.size) (ha:aH S w A av) (hA:aL 1000 A) (hl:A.length<=1000) :
  Calls Tryz.prog 180 #[av] w fun e w'=> ∃ v,e=.returned v/\aZ (fun b=>w.heap.size<=b/\b<w'.heap.size) w' (A.map fun x=>decide (0<x)) v/\aA w w':=by
 obtain ⟨i0,hi,hz0,hz1,hz2⟩:=info_parts aLx
 have HA:=hid ha
 have HL:=hid hA
 obtain ⟨ap,ac,rfl,hlen⟩:=ha.shape
 clear ha hA
 go_enter Tryz.func180,Tryz.ntmps180
 go_wp2_with (at_make;refine wpList_make_full _ rfl _ _ 66 rfl w.heap.size 4 i0 (.bool false) 1 Tryz.underlying66 hi hz0 hz1 .i64 .i64 (A.length:Int) (A.length:Int) A.length rfl rfl rfl rfl (by rw [hz2];omega) (by unfold maxLen;omega) (Nat.le_refl _) ?_;intro w1 h1 h2;have K1:=hid (qZ h2);have F1:=hid (dY.start (f:=fun x=> .bool (decide (0<x))) (A:=A) (gX (v:= .bool false) rfl h1));clear h1 h2)
 go_loopg [11] A.length (fun gk iv wr=> ∃ j:Nat,j+gk=A.length/\iv=.int .i64 j/\aA w wr/\dY (fun x=> .bool (decide (0<x))) A j w.heap.size 4 wr)
 case atStart=>exact ⟨0,by omega,rfl,K1.out,F1.out⟩
 case round=>
  obtain ⟨j,hj,rfl,hk,hf⟩:=hrel
  have K2:=hid hk
  have F2:=hid hf
  clear hk hf
  by_cases hlt:j<A.length
  ·obtain ⟨cb,co,rfl,hcb,hcc⟩:=(HA.out.keep hS K2.out).nth hlt
   have hc1:=hcc j _ (List.getElem?_eq_getElem hlt)
   have hx:=HL.out A[j] (List.getElem_mem hlt)
   have HX:=hid (List.getElem?_eq_getElem hlt)
   have hbl:=Nat.lt_of_lt_of_le (hS cb hcb) K2.out.size
   obtain ⟨⟨v0,hv0⟩,hfr,hbl2⟩:=F2.out.cell hlt
   generalize A[j]=z at hc1 hx HX
   have hjI:(j:Int)<(A.length:Int):=by omega
   clear hcc hx
   have F3:=hid (F2.out.next HX.out)
   have K3:=hid (show aA w (wr.setCell ⟨w.heap.size,j,none⟩ (.bool (decide (0<z)))) from Below.trans K2.out (aM wr w.heap.size j _))
   generalize hbz:decide (0<z)=bz at F3 K3
   have hbz':decide (z > 0)=bz:=hbz
   go_wp2_with fail
   go_roundg (A.length-(j+1))
   case rel=>exact ⟨j+1,by omega,by go_num,K3.out,F3.out⟩
   case measure=>omega
  ·obtain rfl:j=A.length:=by omega
   go_wp2_with fail
   go_ret
   refine ⟨.slice (some ⟨w.heap.size,0,none⟩) A.length A.length,rfl,⟨_,A.length,by rw [List.length_map],by simp;omega,fun _=>⟨w.heap.size,0,rfl,⟨Nat.le_refl _,F2.out.lt⟩,fun i x hx=> ?_⟩⟩,K2.out⟩
   rw [Nat.zero_add]
   rw [List.getElem?_map] at hx
   cases e:A[i]? with
   | none=>rw [e] at hx;cases hx
   | some y=>
    rw [e] at hx
    cases hx
    exact F2.out.all i y e
theorem qA (S:Nat->Prop) (l:List Int) (lv:Value) (k:Nat) (w:World) (hS : ∀ b,S b->b<w.heap.size) (hv:aH S w l lv) (hL:aL 1000 l) (hl:l.length<=1000) (hk:1<=k/\k<=1000) (h1 : ∀ (i:Nat) x,i<k-1->l[i]? = some x->x.natAbs=i+1) (h2:k-1<=l.length) (h3 : ∀ x,l[k-1]? = some x->x.natAbs≠k) :
  Calls Tryz.prog 182 #[lv] w fun e w'=>e=.returned (.int .i64 k)/\w'=w:=by
 have HA:=hid hv
 have HL:=hid hL
 have H1:=hid h1
 have H3:=hid h3
 obtain ⟨ap,ac,rfl,hlen⟩:=hv.shape
 clear hv hL h1 h3
 go_enter Tryz.func182,Tryz.ntmps182
 go_wp2_with fail
 go_loopg [2,7] l.length (fun gk rv iv wr=> ∃ j:Nat,j+gk=l.length/\j<=k-1/\rv=.int .i64 0/\iv=.int .i64 j/\wr=w)
 case atStart=>exact ⟨0,by omega,by omega,rfl,rfl,rfl⟩
 case round=>
  obtain ⟨j,hj,hjk,rfl,rfl,hw⟩:=hrel
  subst hw
  by_cases hlt:j<l.length
  ·obtain ⟨cb,co,rfl,hcb,hcc⟩:=HA.out.nth hlt
   have hc1:=hcc j _ (List.getElem?_eq_getElem hlt)
   have hx:=HL.out l[j] (List.getElem_mem hlt)
   have HX:=hid (List.getElem?_eq_getElem hlt)
   have hbl:=hS cb hcb
   generalize l[j]=z at hc1 hx HX
   have hz0:=hx.1
   have hz2:=hx.2
   have hjI:(j:Int)<(l.length:Int):=by omega
   have HG:=hid (show (j<k-1->z.natAbs=j+1)/\(j=k-1->z.natAbs≠k) from ⟨fun h=>H1.out j z h HX.out,fun h=>H3.out z (h ▸ HX.out)⟩)
   clear hcc hx
   by_cases hlk:j<k-1
   ·have hab:=HG.out.1 hlk
    have hm:max z (-z)=(j:Int)+1:=by omega
    go_wp2_with fail
    go_roundg (l.length-(j+1))
    case rel=>exact ⟨j+1,by omega,by omega,rfl,by go_num,rfl⟩
    case measure=>omega
   ·obtain rfl:j=k-1:=by omega
    have hab:=HG.out.2 rfl
    have hm:max z (-z)≠((k-1:Nat):Int)+1:=by omega
    go_wp2_with fail
    go_ret
    exact ⟨aI (by omega),rfl⟩
  ·obtain rfl:j=l.length:=by omega
   have hk':(l.length:Int)+1=k:=by omega
   go_wp2_with fail
   go_ret
   exact ⟨aI (by omega),rfl⟩
theorem kZ {v v':Value} {w:World} (h:v'.ownBlock=v.ownBlock∨v'.ownBlock=some w.heap.size):v'.ownBlock=v.ownBlock∨∃ g,v'.ownBlock=some g/\w.heap.size<=g:=h.imp id fun h=>⟨_,h,Nat.le_refl _⟩
theorem nR {b:Nat} {T:TypeId} {v:Value} {w:World} (h:aD b T v w) : ∀ j u,[v][j]? = some u->w.cell? ((⟨b,0,none⟩:Addr).add j)=some u:=by
 intro j u hu
 cases j with
 | zero=>
  have:v=u:=by simpa using hu
  subst this
  have hadd:(⟨b,0,none⟩:Addr).add 0=⟨b,0,none⟩:=by unfold Addr.add;split<;>simp_all
  rw [hadd]
  exact h.facts.1
 | succ j=>simp at hu
theorem lG {P:Program} {md:Region.Mode} {ops:Array Oper} {Q:Exit->Act->World->Prop} {S:World->Prop} {fuel:Nat} {listed:Array Bool} {a:Act} {W:World} (R:World->Prop) (hR:R W) (h : ∀ W',R W'->wpAnyH P md ops Q S fuel listed a W'):wpAnyH P md ops Q S fuel listed a W:=h W hR
noncomputable def both (n:Nat) (F:List (List Int)) (g:Nat) (A:List Int) (k s:Nat) (P:List (List Int)):aKu:=
 match bX n F g (A ++ [-(k:Int)]) s P with
 | ⟨.closed,s1,P1⟩=>bX n F g (A ++ [(k:Int)]) s1 P1
 | r=>r
theorem lH {n:Nat} {F:List (List Int)} {g:Nat} {A:List Int} {k s:Nat} {P:List (List Int)} (h:(bX n F g (A ++ [-(k:Int)]) s P).o ≠ .closed):both n F g A k s P=bX n F g (A ++ [-(k:Int)]) s P:=by
 unfold both
 generalize bX n F g (A ++ [-(k:Int)]) s P=r at h ⊢
 obtain ⟨o,s1,P1⟩:=r
 cases o<;>first | rfl | exact absurd rfl h
theorem jR {n:Nat} {F:List (List Int)} {g:Nat} {A:List Int} {k s s1:Nat} {P P1:List (List Int)} (h:bX n F g (A ++ [-(k:Int)]) s P=⟨.closed,s1,P1⟩):both n F g A k s P=bX n F g (A ++ [(k:Int)]) s1 P1:=by
 unfold both;rw [h]
theorem zL {n:Nat} {F:List (List Int)} {g:Nat} {A:List Int} {s:Nat} {P:List (List Int)} {k:Nat} (hs:s≠0) (h : ¬ bJ F A) (hl:iH n F A=some k) :
  ((both n F g A k (s-1) P).o ≠ .closed->bX n F (g+1) A s P=both n F g A k (s-1) P)/\((both n F g A k (s-1) P).o=.closed->bX n F (g+1) A s P=⟨.closed,(both n F g A k (s-1) P).s,(both n F g A k (s-1) P).P ++ [bE A]⟩):=by
 cases e1:bX n F g (A ++ [-(k:Int)]) (s-1) P with
 | mk o1 s1 P1=>
  cases o1 with
  | out=>rw [lH (by rw [e1];simp)];exact ⟨fun hc=>eB hs h hl hc,fun hc=>by rw [e1] at hc;cases hc⟩
  | model m=>rw [lH (by rw [e1];simp)];exact ⟨fun hc=>eB hs h hl hc,fun hc=>by rw [e1] at hc;cases hc⟩
  | closed=>
   rw [jR e1]
   refine ⟨fun hc=>dX hs h hl e1 hc,fun hc=> ?_⟩
   cases e2:bX n F g (A ++ [(k:Int)]) s1 P1 with
   | mk o2 s2 P2=>
    rw [e2] at hc
    cases hc
    exact nW hs h hl e1 e2
def aAb (d:SD) (B N:Nat) (K:List Int) (F:List (List Int)) (r:aKu) (w:World) (e:Ending) (w':World):Prop:=
 ∃ d':SD,d'.sb=d.sb/\d'.x.n=d.x.n/\d'.x.bx=d.x.bx/\aF d.own d'.own w w'/\
  ((r.o=.out/\e=.returned (.tuple #[.bool false,.int .i64 8]))∨(∃ m,r.o=.model m/\e=.returned (.tuple #[.bool false,.int .i64 0])/\SrM d' B N K F w'/\aZ (fun b=>N<=b/\b<w'.heap.size) w' m d'.mv)∨(r.o=.closed/\e=.returned (.tuple #[.bool true,.int .i64 0])/\SrM d' B N K F w'/\d'.s=r.s/\d'.P=r.P))
def tC (F:List (List Int)) (n g:Nat):Prop:= ∀ (d:SD) (B N:Nat) (K:List Int) (S:Nat->Prop) (A:List Int) (av:Value) (w:World),SrM d B N K F w->d.x.n=n->A.length+g=61->aH S w A av->(∀ b,S b->b<w.heap.size/\¬ d.own b)->aL n A->d.P.length+d.s<=40000->
 Calls Tryz.prog 128 #[.pointer (some ⟨d.sb,0,none⟩),av] w fun e w'=>aAb d B N K F (bX n F g A d.s d.P) w e w'
theorem aJy (F:List (List Int)) (n g:Nat) (hst:tC F n g) (d:SD) (B N:Nat) (K:List Int) (S:Nat->Prop) (A:List Int) (av:Value) (k:Nat) (w:World) (h:SrM d B N K F w) (hxn:d.x.n=n) (hg:A.length+1+g=61) (ha:aH S w A av) (hS : ∀ b,S b->b<w.heap.size/\¬ d.own b) (hA:aL n A) (hk:1<=k/\k<=n) (hn:n<=400) (hP:d.P.length+d.s<=40000) :
  Calls Tryz.prog 181 #[.pointer (some ⟨d.sb,0,none⟩),av,.int .i64 (k:Int)] w fun e w'=>aAb d B N K F (both n F g A k d.s d.P) w e w':=by
 obtain ⟨i0,hi,hz0,hz1,hz2⟩:=info_parts dC
 have ix0 : ∀ w:World,(Instr.index 105 (.agg #[.int .i64 (-1),.int .i64 1]) (.int .i64 0)).run Tryz.prog w=.ok (.int .i64 (-1)) w:=fun _=>by kernel_rfl
 have ix1 : ∀ w:World,(Instr.index 105 (.agg #[.int .i64 (-1),.int .i64 1]) (.int .i64 1)).run Tryz.prog w=.ok (.int .i64 1) w:=fun _=>by kernel_rfl
 have HST:=hid hst
 have HX:=hid h
 have HA:=hid ha
 have HLA:=hid hA
 have HS0:=hid hS
 have HPS:=hid hP
 have HXN:=hid hxn
 have hk1:=hk.1
 have hk2:=hk.2
 have hlit:Lit n (k:Int):=⟨by omega,by omega⟩
 have HLIT:=hid hlit
 obtain ⟨ap,ac,rfl,halen⟩:=ha.shape
 clear hst h ha hA hS hP hxn hk hlit
 go_enter Tryz.func181,Tryz.ntmps181
 go_wp2_with fail
 go_loopg [11] 2 (fun gk iv wr=> ∃ (i:Nat) (d1:SD),i+gk=2/\iv=.int .i64 (i:Int)/\SrM d1 B N K F wr/\aF d.own d1.own w wr/\(d1.sb=d.sb/\d1.x.n=d.x.n/\d1.x.bx=d.x.bx)/\((i=0/\d1=d)∨(i=1/\bX n F g (A ++ [-(k:Int)]) d.s d.P=⟨.closed,d1.s,d1.P⟩)∨(i=2/\both n F g A k d.s d.P=⟨.closed,d1.s,d1.P⟩)))
 case atStart=>exact ⟨0,d,rfl,rfl,HX.out,aF.refl _ _,⟨rfl,rfl,rfl⟩,.inl ⟨rfl,rfl⟩⟩
 case round=>
  obtain ⟨i,d1,hi',rfl,hx1,ht1,hid1,hcase⟩:=hrel
  have X1:=hid hx1
  have T1:=hid ht1
  have ID1:=hid hid1
  have hsb:d1.sb=d.sb:=hid1.1
  have HSB:=hid hsb
  clear hx1 ht1 hid1 hsb
  have N1:=hid (HA.out.turn T1.out HS0.out)
  have HS1:=hid (show ∀ b,S b->b<wr.heap.size/\¬ d1.own b from fun b hb=>⟨Nat.lt_of_lt_of_le (HS0.out b hb).1 T1.out.size,fun e=>(T1.out.new b e).elim (HS0.out b hb).2 fun e=>by have:=(HS0.out b hb).1;omega⟩)
  have HCL:=hid (lJ S A ap ac wr (fun b hb=>(HS1.out b hb).1) N1.out (by omega))
  rcases hcase with ⟨rfl,hd⟩ | ⟨rfl,hs1⟩ | ⟨rfl,hb⟩
  ·have HD1:=hid hd
   clear hd
   have hgk:gk=2:=by omega
   clear hi'
   go_wp2_with fail
   refine HCL.out.mono ?_
   rintro e w2 ⟨v2,rfl,how2,k2⟩
   obtain ⟨p2,c2,hv2⟩:=how2.ints.len
   subst hv2
   have HOW2:=hid how2
   have K2:=hid k2
   clear how2 k2 HCL
   have hsz:=K2.out.size
   go_wp2_with (at_builtin;refine wpList_append_own_at _ rfl _ _ 27 rfl wr.heap.size 3 i0 (.int .i64 0) 1 8 Tryz.underlying27 hi hz0 hz1 hz2 rfl (by decide) (.slice p2 A.length c2) A.length (A.map (Value.int .i64)) rfl (HOW2.out.alloc _) ⟨w2.heap.size,0,none⟩ 1 1 [.int .i64 (-(k:Int))] rfl rfl cJ cI (by unfold maxLen;omega) (by omega) (by have:=aC w2 (.cells #[.int .i64 (-(k:Int))] 3);omega) ?_;intro v5 w5 h1 h2 _ h4;have P5:=hid (fM K2.out.size HOW2.out h1 h2);obtain ⟨g5,cap5,rfl⟩:=aX h1 (Nat.succ_pos _);clear h1 h2 h4)
   have K5:=hid (Below.trans K2.out P5.out.2)
   have HL5:=hid (show aL n (A ++ [-(k:Int)]) from fun x hx=>by
    rcases List.mem_append.1 hx with hx | hx
    ·exact HLA.out x hx
    ·rw [List.mem_singleton.1 hx];exact HLIT.out.neg)
   have HN5:=hid (show aH (fun b=>(Value.slice (some ⟨g5,0,none⟩) (A.length+1) cap5).ownBlock=some b) w5 (A ++ [-(k:Int)]) (.slice (some ⟨g5,0,none⟩) (A.length+1) cap5) from P5.out.1.numsO)
   have HST5:=hid (HST.out d1 B N K (fun b=>(Value.slice (some ⟨g5,0,none⟩) (A.length+1) cap5).ownBlock=some b) (A ++ [-(k:Int)]) (.slice (some ⟨g5,0,none⟩) (A.length+1) cap5) w5 (X1.out.keep K5.out) (ID1.out.2.1.trans HXN.out) (by simp;omega) HN5.out (fun b hb=>by
    have h1:=bK P5.out.1 hb
    exact ⟨h1.2,fun e=>by have:=X1.out.lt e;omega⟩) HL5.out (by rw [HD1.out];exact HPS.out))
   rw [HSB.out] at HST5
   go_wp2_with fail
   with_reducible refine HST5.out.mono ?_
   rintro e w6 ⟨d6,h61,h62,h63,ht6,hr6⟩
   have ID6:=hid (show d6.sb=d.sb/\d6.x.n=d.x.n/\d6.x.bx=d.x.bx from ⟨h61.trans HSB.out,h62.trans ID1.out.2.1,h63.trans ID1.out.2.2⟩)
   have T6:=hid (T1.out.trans ((aF.keep K5.out).trans ht6))
   clear h61 h62 h63 ht6 HST5
   rcases hr6 with ⟨h1,rfl⟩ | ⟨m,h1,rfl,h2,h3⟩ | ⟨h1,rfl,h2,h3,h4⟩
   ·have HB:=hid (lH (n:=n) (F:=F) (g:=g) (A:=A) (k:=k) (s:=d.s) (P:=d.P) (by rw [← HD1.out,h1];simp))
    have H1:=hid h1
    clear h1
    go_wp2_with fail
    refine bodyPost_ret (v:= .tuple #[.bool false,.int .i64 8]) ?_ rfl ?_
    ·simp [results,Tryz.results181,go_sem]
    ·exact ⟨d6,ID6.out.1,ID6.out.2.1,ID6.out.2.2,T6.out,.inl ⟨by rw [HB.out,← HD1.out];exact H1.out,rfl⟩⟩
   ·have HB:=hid (lH (n:=n) (F:=F) (g:=g) (A:=A) (k:=k) (s:=d.s) (P:=d.P) (by rw [← HD1.out,h1];simp))
    have H1:=hid (And.intro h1 (And.intro h2 h3))
    clear h1 h2 h3
    go_wp2_with fail
    refine bodyPost_ret (v:= .tuple #[.bool false,.int .i64 0]) ?_ rfl ?_
    ·simp [results,Tryz.results181,go_sem]
    ·exact ⟨d6,ID6.out.1,ID6.out.2.1,ID6.out.2.2,T6.out,.inr (.inl ⟨m,by rw [HB.out,← HD1.out];exact H1.out.1,rfl,H1.out.2.1,H1.out.2.2⟩)⟩
   ·have HCLO:=hid (show bX n F g (A ++ [-(k:Int)]) d.s d.P=⟨.closed,d6.s,d6.P⟩ by rw [h3,h4,← h1,HD1.out])
    have X6:=hid h2
    clear h1 h2 h3 h4
    go_wp2_with fail
    go_roundg 1
    case rel=>exact ⟨1,d6,by omega,by go_num,X6.out,T6.out,ID6.out,.inr (.inl ⟨rfl,HCLO.out⟩)⟩
    case measure=>omega
  ·have HS1E:=hid hs1
   have HP1:=hid (show d1.P.length+d1.s<=40000 from by
    have h1:=(gZ (n:=n) (F:=F) g _ _ _ _ _ (by simp;omega) (fun x hx=>by
     rcases List.mem_append.1 hx with hx | hx
     ·exact HLA.out x hx
     ·rw [List.mem_singleton.1 hx];exact HLIT.out.neg) hs1).few
    have:=HPS.out
    omega)
   clear hs1
   have hgk:gk=1:=by omega
   clear hi'
   go_wp2_with fail
   refine HCL.out.mono ?_
   rintro e w2 ⟨v2,rfl,how2,k2⟩
   obtain ⟨p2,c2,hv2⟩:=how2.ints.len
   subst hv2
   have HOW2:=hid how2
   have K2:=hid k2
   clear how2 k2 HCL
   have hsz:=K2.out.size
   go_wp2_with (at_builtin;refine wpList_append_own_at _ rfl _ _ 27 rfl wr.heap.size 3 i0 (.int .i64 0) 1 8 Tryz.underlying27 hi hz0 hz1 hz2 rfl (by decide) (.slice p2 A.length c2) A.length (A.map (Value.int .i64)) rfl (HOW2.out.alloc _) ⟨w2.heap.size,0,none⟩ 1 1 [.int .i64 ((k:Int))] rfl rfl cJ cI (by unfold maxLen;omega) (by omega) (by have:=aC w2 (.cells #[.int .i64 ((k:Int))] 3);omega) ?_;intro v5 w5 h1 h2 _ h4;have P5:=hid (fM K2.out.size HOW2.out h1 h2);obtain ⟨g5,cap5,rfl⟩:=aX h1 (Nat.succ_pos _);clear h1 h2 h4)
   have K5:=hid (Below.trans K2.out P5.out.2)
   have HL5:=hid (show aL n (A ++ [(k:Int)]) from fun x hx=>by
    rcases List.mem_append.1 hx with hx | hx
    ·exact HLA.out x hx
    ·rw [List.mem_singleton.1 hx];exact HLIT.out)
   have HN5:=hid (show aH (fun b=>(Value.slice (some ⟨g5,0,none⟩) (A.length+1) cap5).ownBlock=some b) w5 (A ++ [(k:Int)]) (.slice (some ⟨g5,0,none⟩) (A.length+1) cap5) from P5.out.1.numsO)
   have HST5:=hid (HST.out d1 B N K (fun b=>(Value.slice (some ⟨g5,0,none⟩) (A.length+1) cap5).ownBlock=some b) (A ++ [(k:Int)]) (.slice (some ⟨g5,0,none⟩) (A.length+1) cap5) w5 (X1.out.keep K5.out) (ID1.out.2.1.trans HXN.out) (by simp;omega) HN5.out (fun b hb=>by
    have h1:=bK P5.out.1 hb
    exact ⟨h1.2,fun e=>by have:=X1.out.lt e;omega⟩) HL5.out HP1.out)
   rw [HSB.out] at HST5
   go_wp2_with fail
   with_reducible refine HST5.out.mono ?_
   rintro e w6 ⟨d6,h61,h62,h63,ht6,hr6⟩
   have ID6:=hid (show d6.sb=d.sb/\d6.x.n=d.x.n/\d6.x.bx=d.x.bx from ⟨h61.trans HSB.out,h62.trans ID1.out.2.1,h63.trans ID1.out.2.2⟩)
   have T6:=hid (T1.out.trans ((aF.keep K5.out).trans ht6))
   clear h61 h62 h63 ht6 HST5
   rcases hr6 with ⟨h1,rfl⟩ | ⟨m,h1,rfl,h2,h3⟩ | ⟨h1,rfl,h2,h3,h4⟩
   ·have HB:=hid (jR HS1E.out)
    have H1:=hid h1
    clear h1
    go_wp2_with fail
    refine bodyPost_ret (v:= .tuple #[.bool false,.int .i64 8]) ?_ rfl ?_
    ·simp [results,Tryz.results181,go_sem]
    ·exact ⟨d6,ID6.out.1,ID6.out.2.1,ID6.out.2.2,T6.out,.inl ⟨by rw [HB.out];exact H1.out,rfl⟩⟩
   ·have HB:=hid (jR HS1E.out)
    have H1:=hid (And.intro h1 (And.intro h2 h3))
    clear h1 h2 h3
    go_wp2_with fail
    refine bodyPost_ret (v:= .tuple #[.bool false,.int .i64 0]) ?_ rfl ?_
    ·simp [results,Tryz.results181,go_sem]
    ·exact ⟨d6,ID6.out.1,ID6.out.2.1,ID6.out.2.2,T6.out,.inr (.inl ⟨m,by rw [HB.out];exact H1.out.1,rfl,H1.out.2.1,H1.out.2.2⟩)⟩
   ·have HCLO:=hid (show bX n F g (A ++ [(k:Int)]) d1.s d1.P=⟨.closed,d6.s,d6.P⟩ by rw [h3,h4,← h1])
    have X6:=hid h2
    clear h1 h2 h3 h4
    go_wp2_with fail
    go_roundg 0
    case rel=>exact ⟨2,d6,by omega,by go_num,X6.out,T6.out,ID6.out,.inr (.inr ⟨rfl,(jR HS1E.out).trans HCLO.out⟩)⟩
    case measure=>omega
  ·have HB:=hid hb
   have hgk:gk=0:=by omega
   clear hb hi' HCL
   go_wp2_with fail
   refine bodyPost_ret (v:= .tuple #[.bool true,.int .i64 0]) ?_ rfl ?_
   ·simp [results,Tryz.results181,go_sem]
   ·exact ⟨d1,ID1.out.1,ID1.out.2.1,ID1.out.2.2,T1.out,.inr (.inr ⟨by rw [HB.out],rfl,X1.out,by rw [HB.out],by rw [HB.out]⟩)⟩
end Go.Proofs.YtonlloiemgdfkaaGreatDoor.Cn
