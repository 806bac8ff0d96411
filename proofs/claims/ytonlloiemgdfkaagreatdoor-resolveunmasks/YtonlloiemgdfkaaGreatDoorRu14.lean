/- Steps of the proof: EncRefCh, EncMbRow, EncPair, EncRefSet, EncRefJoin, EncRefOk, ShelfC, ValidHolds, ValidHold. -/
import Derived.Test.YtonlloiemgdfkaaGreatDoorRu10
import Derived.Test.YtonlloiemgdfkaaGreatDoorRu11
import Derived.Test.YtonlloiemgdfkaaGreatDoorRu13
import Derived.Laws.StructEq
import Derived.Shelf.LaysM
import Derived.Shelf.LaysC
import Derived.Shelf.SlicesE.DeleteFunc
import Derived.Test.YtonlloiemgdfkaaGreatDoorProg
import Derived.BigRegion
import Derived.Laws.EntriesVeiled
set_option maxHeartbeats 16000000
set_option maxRecDepth 100000
namespace Go.Proofs.YtonlloiemgdfkaaGreatDoor
open Go.RowKit Go.Lib
def aB (ps:List PK) (wi:WI):Cn.CT:=⟨ps.map fun p=>p.fl.length,wi.ins.map fun m=>m.pl.toNat,fun i k=>wi.on.contains ((i:Int),(k:Int))⟩
def plI (ms:List MB):List Int:=ms.map fun m=>m.pl
end Go.Proofs.YtonlloiemgdfkaaGreatDoor
namespace Go.Proofs.YtonlloiemgdfkaaGreatDoor
open Go.RowKit
def uQ (S:Nat->Prop) (w:World) (m:MB) (cs:List Value):Prop:= ∃ ov,cs = [.int .i64 m.pl,ov]/\bA S w m.on ov
theorem uQ.mono {S S':Nat->Prop} {w w':World} (hw : ∀ p:Addr,S p.block->w'.cell? p=w.cell? p) (hS : ∀ b,S b->S' b) {m:MB} {cs:List Value} (h:uQ S w m cs):uQ S' w' m cs:=by
 obtain ⟨ov,h1,h2⟩:=h
 exact ⟨ov,h1,h2.mono hw hS⟩
def fL (B:Nat) (v:Value) (acc:List MB) (w:World):Prop:=
 ∃ csl:List (List Value),csl.length=acc.length/\(∀ cs∈csl,cs.length=2)/\w.ownsRow B 68 2 v acc.length csl.flatten/\∀ (i:Nat) t cs,acc[i]? = some t->csl[i]? = some cs->uQ (fun b=>B<=b/\b<w.heap.size/\v.ownBlock≠some b) w t cs
theorem fL.nil (B:Nat) (w:World):fL B (.slice none 0 0) [] w:=⟨[],rfl,by simp,World.ownsRow_nil _ _ _ _,by simp⟩
theorem fL.other {B:Nat} {v:Value} {acc:List MB} {w w':World} (h:fL B v acc w) (hs:w.heap.size<=w'.heap.size) (hb : ∀ b,B<=b->b<w.heap.size->w'.heap[b]? = w.heap[b]?):fL B v acc w':=by
 obtain ⟨csl,h1,h2,⟨h3,h3'⟩,h4⟩:=h
 refine ⟨csl,h1,h2,⟨h3,h3'.imp id ?_⟩,fun i t cs hi hc=>uQ.mono (fun p hp=>World.cell?_of_block (w:=w) (hb _ hp.1 hp.2.1)) (fun b hb=>⟨hb.1,Nat.lt_of_lt_of_le hb.2.1 hs,hb.2.2⟩) (h4 i t cs hi hc)⟩
 rintro ⟨g,cap,cur,e1,e2,e3,e4⟩
 exact ⟨g,cap,cur,e1,e2,by rw [hb g e2 (Array.getElem?_eq_some_iff.1 e3).1];exact e3,e4⟩
theorem fL.keep {B:Nat} {v:Value} {acc:List MB} {w w':World} (h:fL B v acc w) (k:aA w w'):fL B v acc w':=h.other k.size fun b _ hb=>k.block b hb
theorem fL.push {B B':Nat} {v v':Value} {acc:List MB} {csl:List (List Value)} {t:MB} {cs:List Value} {w w':World} {o:Obj} (h1:csl.length=acc.length) (h2 : ∀ cs∈csl,cs.length=2)
  (h4 : ∀ (i:Nat) t cs,acc[i]? = some t->csl[i]? = some cs->uQ (fun b=>B<=b/\b<w.heap.size/\v.ownBlock≠some b) w t cs)
  (hB:B<=B') (hv : ∀ g,v.ownBlock=some g->g<B') (hn:uQ (fun b=>B'<=b/\b<w.heap.size) w t cs) (hc:cs.length=2)
  (h5:w'.ownsRow B 68 2 v' (acc.length+1) (csl.flatten++cs)) (h6:(w.alloc o).grownBy w' v.ownBlock) (h7:v'.ownBlock=v.ownBlock∨v'.ownBlock=some (w.alloc o).heap.size):fL B v' (acc ++ [t]) w':=by
 have e:=aC w o
 have hsz:w.heap.size<=w'.heap.size:=by have:=h6.size;omega
 have hcell : ∀ p:Addr,p.block<w.heap.size->v.ownBlock≠some p.block->w'.cell? p=w.cell? p:=fun p hp hne=>by
  rw [World.cell?_of_block (w:=w.alloc o) (a:=p) (h6.block p.block (by omega) (fun e=>hne e.symm))]
  exact (aA.alloc w o).cell hp
 have hne : ∀ b,b<w.heap.size->v.ownBlock≠some b->v'.ownBlock≠some b:=fun b hb hn=>by
  rcases h7 with h7 | h7
  ·rw [h7];exact hn
  ·rw [h7];intro e;have:=Option.some.inj e;omega
 refine ⟨csl ++ [cs],by simp [h1],fun x hx=> ?_,by simpa using h5,fun i u x hu hx=> ?_⟩
 ·rcases List.mem_append.1 hx with hx | hx
  ·exact h2 x hx
  ·rw [List.mem_singleton.1 hx];exact hc
 ·by_cases hi:i<acc.length
  ·rw [List.getElem?_append_left hi] at hu
   rw [List.getElem?_append_left (by omega)] at hx
   exact uQ.mono (fun p hp=>hcell p hp.2.1 hp.2.2) (fun b hb=>⟨hb.1,by omega,hne b hb.2.1 hb.2.2⟩) (h4 i u x hu hx)
  ·have hi2:i=acc.length:=by
    have:=(List.getElem?_eq_some_iff.1 hu).1
    simp at this;omega
   subst hi2
   rw [List.getElem?_append_right (Nat.le_refl _),Nat.sub_self] at hu
   rw [← h1,List.getElem?_append_right (Nat.le_refl _),Nat.sub_self] at hx
   cases hu;cases hx
   have hvn : ∀ b,B'<=b->v.ownBlock≠some b:=fun b hb e=>by have:=hv b e;omega
   exact uQ.mono (fun p hp=>hcell p hp.2 (hvn _ hp.1)) (fun b hb=>⟨by omega,by omega,hne b hb.2 (hvn b hb.1)⟩) hn
theorem xG {csl:List (List Value)} (h2 : ∀ cs∈csl,cs.length=2) : ∀ (i:Nat) (cs:List Value),csl[i]? = some cs->∀ (m:Nat) (v:Value),cs[m]? = some v->csl.flatten[i*2+m]? = some v:=by
 induction csl with
 | nil=>intro i cs h;simp at h
 | cons c r ih=>
  intro i cs h m v hv
  have hc:c.length=2:=h2 c (by simp)
  cases i with
  | zero=>
   simp at h;subst h
   have hm:m<c.length:=(List.getElem?_eq_some_iff.1 hv).1
   rw [List.flatten_cons,Nat.zero_mul,Nat.zero_add,List.getElem?_append_left hm];exact hv
  | succ i=>
   rw [List.flatten_cons,List.getElem?_append_right (by omega),show (i+1)*2+m-c.length=i*2+m by omega]
   exact ih (fun x hx=>h2 x (by simp [hx])) i cs (by simpa using h) m v hv
theorem fL.final {B:Nat} {v:Value} {acc:List MB} {w:World} (h:fL B v acc w):cG (fun b=>B<=b/\b<w.heap.size) w acc v:=by
 obtain ⟨csl,h1,h2,⟨h3,⟨rfl,h0⟩ | ⟨g,cap,cur,rfl,e2,e3,e4,e5,e6,e7⟩⟩,h4⟩:=h
 ·obtain rfl:=List.length_eq_zero_iff.1 h0
  exact ⟨_,_,rfl,by decide,fun h=>absurd h (by decide)⟩
 ·have hg:=(Array.getElem?_eq_some_iff.1 e3).1
  refine ⟨_,_,rfl,⟨by omega,by unfold maxLen at e5;omega⟩,fun _=>⟨g,0,rfl,⟨e2,hg⟩,fun i m hm=> ?_⟩⟩
  have hi:i<acc.length:=(List.getElem?_eq_some_iff.1 hm).1
  have hcs:csl[i]? = some csl[i]:=List.getElem?_eq_getElem (by omega)
  obtain ⟨ov,hc,hb⟩:=h4 i m _ hm hcs
  have hcell : ∀ (k:Nat) (u:Value),k<2->csl[i][k]? = some u->w.cell? ⟨g,i*2+k,none⟩=some u:=fun k u hk hu=>by
   have hf:=xG h2 i csl[i] hcs k u hu
   rw [← e7,List.getElem?_take,if_pos (by omega)] at hf
   simp only [World.cell?,e3]
   simpa using hf
  refine ⟨ov,?_,?_,hb.mono (fun _ _=>rfl) (fun b hb=>⟨hb.1,hb.2.1⟩)⟩
  ·have:=hcell 0 (.int .i64 m.pl) (by omega) (by rw [hc];rfl)
   simpa using this
  ·have:=hcell 1 ov (by omega) (by rw [hc];rfl)
   simpa using this
theorem fL.own {B:Nat} {v:Value} {acc:List MB} {w:World} (h:fL B v acc w) : ∀ g,v.ownBlock=some g->B<=g/\g<w.heap.size:=fun g hg=>by
 obtain ⟨csl,-,-,o1,-⟩:=h
 exact dA o1 hg
theorem fL.shape {B:Nat} {v:Value} {acc:List MB} {w:World} (h:fL B v acc w) : ∃ p cap,v=.slice p acc.length cap:=by
 obtain ⟨p,cap,h,-⟩:=h.final.len
 exact ⟨p,cap,h⟩
theorem aPa:(Tryz.prog.info? 68).map (fun i=>(i.zero,i.size,i.bytes))=some (some (.agg #[.int .i64 0,.slice none 0 0]),2,32):=by kernel_rfl
theorem aOz:(Tryz.prog.info? 4).map (fun i=>(i.zero,i.size,i.bytes))=some (some (.bool false),1,1):=by kernel_rfl
end Go.Proofs.YtonlloiemgdfkaaGreatDoor
namespace Go.Proofs.YtonlloiemgdfkaaGreatDoor
open Go.RowKit Go.Lib
theorem mB {B e n:Nat} {v:Value} {xs:List Value} {w:World} (h:w.ownsRow B e 1 v n xs) : ∃ p cap,v=.slice p n cap:=by
 obtain ⟨-,⟨rfl,h0⟩ | ⟨g,cap,cur,rfl,-⟩⟩:=h
 ·exact ⟨none,0,by rw [h0]⟩
 ·exact ⟨_,_,rfl⟩
theorem xT {g T:Nat} {x:Value} {w:World} (h:aE g T x w) (j:Nat) (u:Value) (hu : [x][j]? = some u):w.cell? ((⟨g,0,none⟩:Addr).add j)=some u:=by
 match j,hu with
 | 0,hu=>simp at hu;subst hu;exact h.facts.1
theorem lK {bm k:Nat} {T:TypeId} {p:Value} {mv v':Value} {xs ys:List Value} {W3 w w':World} (hbm:W3.heap.size=bm) (hb:aD bm T #[p,mv] w) (ho:w.ownsRow (bm+1) 4 1 mv k xs) (hg:w.grownBy w' mv.ownBlock) (h1:w'.ownsRow (bm+1) 4 1 v' (k+1) ys) (hk:aA W3 w) :
  aD bm T #[p,mv] w'/\aD bm T #[p,v'] (w'.setCell ⟨bm,1,none⟩ v')/\(w'.setCell ⟨bm,1,none⟩ v').ownsRow (bm+1) 4 1 v' (k+1) ys/\aA W3 (w'.setCell ⟨bm,1,none⟩ v'):=by
 have hb':aD bm T #[p,mv] w':=by
  have h5:=hb
  have h6:=hb.facts.2.2
  unfold aD at *
  rw [hg.block bm h6 fun e=>by have:=(dA ho e.symm).1;omega];exact h5
 refine ⟨hb',hb'.set 1 v',?_,?_⟩
 ·exact Cn.cF h1 fun g hg=>Below.heap_setCell _ _ _ _ (fun e=>by have e2:g=bm:=e;have:=(dA h1 hg).1;omega)
 ·exact Below.setCell (Below.grown hk hg hk.size (fun g hg=>by have:=(dA ho hg).1;omega)) (p:=⟨bm,1,none⟩) (by show W3.heap.size<=bm;omega) _
theorem aCb {B n:Nat} {v:Value} {bs:List Bool} {w:World} (h:w.ownsRow B 4 1 v n (bs.map Value.bool)) (hn:bs.length=n):bA (fun c=>B<=c/\c<w.heap.size) w bs v:=by
 subst hn
 obtain ⟨h3,⟨rfl,h0⟩ | ⟨g,cap,cur,rfl,e2,e3,e4,e5,e6,e7⟩⟩:=h
 ·exact ⟨none,0,by rw [h0],by omega,fun h=>by omega⟩
 ·have hg:=(Array.getElem?_eq_some_iff.1 e3).1
  refine ⟨_,_,rfl,by unfold maxLen at e5;omega,fun _=>⟨g,0,rfl,⟨e2,hg⟩,fun j x hx=> ?_⟩⟩
  have hj:j<bs.length:=(List.getElem?_eq_some_iff.1 hx).1
  have hf:(bs.map Value.bool)[j]? = some (.bool x):=by rw [List.getElem?_map,hx];rfl
  rw [← e7,List.getElem?_take,if_pos (by omega)] at hf
  simp only [World.cell?,e3,Nat.zero_add]
  simpa using hf
theorem wZ {P:Program} {md:Region.Mode} {ops:Array Oper} {Q:Exit->Act->World->Prop} {S:World->Prop} {fuel:Nat} {listed:Array Bool} {a:Act} {W:World} (R:World->Prop) (hR:R W) (h : ∀ W',R W'->wpAnyH P md ops Q S fuel listed a W'):wpAnyH P md ops Q S fuel listed a W:=h W hR
theorem nV {s:Bool} (u:Value) (h:u ∈ [Value.bool s]):u.oneCell'=true:=by rw [List.mem_singleton.1 h];rfl
end Go.Proofs.YtonlloiemgdfkaaGreatDoor
namespace Go.Proofs.YtonlloiemgdfkaaGreatDoor
def aKr (a:Nat × List Bool):MB:=⟨(a.1:Int),a.2⟩
theorem aJv {l:List Int} (h : ∀ k,0<k->k<l.length->l.getD (k-1) 0<l.getD k 0) (i:Nat) : ∀ d,i+d+1<l.length->l.getD i 0<l.getD (i+d+1) 0
 | 0,hl=>by have:=h (i+1) (by omega) hl;simpa using this
 | d+1,hl=>by
  have h1:=aJv h i d (by omega)
  have h2:=h (i+(d+1)+1) (by omega) hl
  rw [show i+(d+1)+1-1=i+d+1 by omega] at h2
  omega
theorem yO {l:List Int} (h : ∀ k,0<k->k<l.length->l.getD (k-1) 0<l.getD k 0):l.Pairwise (· < ·):=by
 rw [List.pairwise_iff_getElem]
 intro i j hi hj hij
 have h1:=aJv h i (j-i-1) (by omega)
 rw [show i+(j-i-1)+1=j by omega] at h1
 rw [List.getD_eq_getElem?_getD,List.getD_eq_getElem?_getD,List.getElem?_eq_getElem hi,List.getElem?_eq_getElem hj] at h1
 exact h1
theorem aFx {l:List Int} (h : ∀ k,0<k->k<l.length->l.getD (k-1) 0<l.getD k 0) (h0 : ∀ x∈l,0<=x) : ∀ k,k<l.length->(k:Int)<=l.getD k 0
 | 0,hk=>by
  have:=h0 (l.getD 0 0) (by rw [List.getD_eq_getElem?_getD,List.getElem?_eq_getElem hk];exact List.getElem_mem hk)
  simpa using this
 | k+1,hk=>by
  have h1:=aFx h h0 k (by omega)
  have h2:=h (k+1) (by omega) hk
  rw [Nat.add_sub_cancel] at h2
  omega
theorem aFo (ms:List MB) (k:Nat):(plI ms).getD k 0=(ms.getD k MB.zero).pl:=by
 unfold plI
 rw [List.getD_eq_getElem?_getD,List.getD_eq_getElem?_getD,List.getElem?_map]
 cases ms[k]? <;> rfl
theorem qF {ps:List PK} {ms:List MB} (h:eM ps ms=0):ps.length<=8/\(∀ p∈ps,p.fl.length<=2)/\(plI ms).Pairwise (· < ·)/\(∀ x∈plI ms,0<=x/\x<ps.length)/\ms.length<=8/\aOb ps ms:=by
 have hok:=aLm h
 have ht:dC ps=0:=by
  unfold eM at h
  by_cases e:dC ps=0
  ·exact e
  ·rw [if_pos e] at h;exact h
 have hs:aMv ps ms=0:=by unfold eM at h;rw [ht] at h;simpa using h
 have hz:=(cK ms.length 0).1 hs
 obtain ⟨h8,hp⟩:=dG ht
 have hup : ∀ k,0<k->k<(plI ms).length->(plI ms).getD (k-1) 0<(plI ms).getD k 0:=fun k h0 hk=>by
  have hk2:k<ms.length:=by simpa [plI] using hk
  have h1:=hz k hk2
  rw [Nat.zero_add] at h1
  rw [aFo,aFo]
  unfold mbE at h1
  by_cases e1:(ms.getD k MB.zero).pl<0∨(ps.length:Int)<=(ms.getD k MB.zero).pl
  ·rw [if_pos e1] at h1;omega
  ·rw [if_neg e1] at h1
   by_cases e2:0<k/\(ms.getD k MB.zero).pl<=(ms.getD (k-1) MB.zero).pl
   ·rw [if_pos e2] at h1;omega
   ·omega
 have hin : ∀ x∈plI ms,0<=x/\x<ps.length:=fun x hx=>by
  obtain ⟨m,hm,rfl⟩:=List.mem_map.1 hx
  obtain ⟨i,hi⟩:=List.mem_iff_getElem?.1 hm
  exact ⟨(hok i m hi).1,(hok i m hi).2.1⟩
 have hlen:ms.length<=8:=by
  by_cases h0:ms.length=0
  ·omega
  ·have hl:(plI ms).length=ms.length:=by simp [plI]
   have h1:=aFx hup (fun x hx=>(hin x hx).1) (ms.length-1) (by omega)
   have h2:=(hin ((plI ms).getD (ms.length-1) 0) (by rw [List.getD_eq_getElem?_getD,List.getElem?_eq_getElem (by omega)];exact List.getElem_mem _)).2
   omega
 refine ⟨h8,fun p hpm=> ?_,yO hup,hin,hlen,hok⟩
 have h1:=hp p hpm
 by_cases h2:2<p.fl.length
 ·have h3:dU p.fl=2:=by unfold dU;rw [if_pos h2]
  unfold eG at h1
  rw [h3] at h1
  split at h1
  ·omega
  ·split at h1
   ·omega
   ·simp at h1
 ·omega
theorem aPs {ms:List MB} (h:(plI ms).Pairwise (· < ·)) (h0 : ∀ x∈plI ms,0<=x):(ms.map fun m=>m.pl.toNat).Pairwise (· < ·):=by
 unfold plI at h
 rw [List.pairwise_map] at h ⊢
 refine h.imp_of_mem fun ha hb hab=> ?_
 have h1:=h0 _ (List.mem_map.2 ⟨_,ha,rfl⟩)
 have h2:=h0 _ (List.mem_map.2 ⟨_,hb,rfl⟩)
 omega
theorem oL {ps:List PK} {wi:WI} (h:eM ps wi.ins=0):(aB ps wi).Ok:=by
 obtain ⟨-,-,h1,h2,-,-⟩:=qF h
 refine ⟨aPs h1 fun x hx=>(h2 x hx).1,fun i hi=> ?_⟩
 obtain ⟨m,hm,rfl⟩:=List.mem_map.1 hi
 have:=h2 m.pl (List.mem_map.2 ⟨m,hm,rfl⟩)
 show m.pl.toNat<(ps.map fun p=>p.fl.length).length
 rw [List.length_map]
 omega
end Go.Proofs.YtonlloiemgdfkaaGreatDoor
namespace Go.Proofs
open Go.Shelf
def Tryz.laysSlH10_f56_ren:Go.Shelf.Ren:=⟨fun | 10=>56 | 6=>94 | n=>n,fun | 22=>27 | 23=>3 | 25=>89 | 3=>3 | 4=>4 | 0=>0 | n=>n,fun | n=>n⟩
theorem Tryz.laysSlH10_f56:Go.Proofs.SlLaysH.n10 Tryz.prog Tryz.laysSlH10_f56_ren:= {
 mixed:=by kernel_rfl
 f6:=⟨Tryz.f94.name,by decide,Tryz.func94.trans (congrArg some (by kernel_rfl))⟩
 f10:=⟨Tryz.f56.name,by decide,Tryz.func56.trans (congrArg some (by kernel_rfl))⟩
 t0:=Tryz.underlying0
 a0:=Tryz.isAgg0
 z0:=Tryz.sizeOf0
 v0:=Tryz.zeroValue0
 t3:=Tryz.underlying3
 a3:=Tryz.isAgg3
 z3:=Tryz.sizeOf3
 v3:=Tryz.zeroValue3
 t4:=Tryz.underlying4
 a4:=Tryz.isAgg4
 z4:=Tryz.sizeOf4
 v4:=Tryz.zeroValue4
 t22:=Tryz.underlying27
 a22:=Tryz.isAgg27
 z22:=Tryz.sizeOf27
 v22:=Tryz.zeroValue27
 a23:=Tryz.isAgg3
 z23:=Tryz.sizeOf3
 t25:=Tryz.underlying89
 a25:=Tryz.isAgg89
 z25:=Tryz.sizeOf89
 v25:=Tryz.zeroValue89 }
open Go.RowKit Go.Lib Go.Sort in
theorem Tryz.slices_DeleteFunc {α:Type} [Inhabited α] (enc:α->Value) (hO:OneCell enc) (p:α->Bool) (g:Nat) (lb:Array Value) (eg : ∀ args w,(callFunc g args).run Tryz.prog w=.ok (.enter g args) w) (zr:α) (v23 : ∀ w,(zeroValue 3).run Tryz.prog w=.ok (enc zr) w) (blk off cap:Nat) (d:Array α) (w:World) (hp:PredAt Tryz.prog g lb enc p w) (hpo:PredOver Tryz.prog g lb enc p blk off d.size w) (hH:Holds enc w blk off d) (hsz:d.size<=9223372036854775807) (hcap:d.size<=cap) :
  Calls Tryz.prog 56 #[.slice (some ⟨blk,off,none⟩) d.size cap,.func (.func g) #[] lb] w fun e w'=>e=.returned (.slice (some ⟨blk,off,none⟩) (d.toList.filter fun x=> !p x).length cap)/\∃ q,w'=putRow enc (Sort.ahead w q) blk off ((d.toList.filter fun x=> !p x)++List.replicate (d.size-(d.toList.filter fun x=> !p x).length) zr).toArray:=AnyE.slices_DeleteFunc Tryz.laysSlH10_f56 enc hO p g lb eg zr v23 blk off cap d w hp hpo hH hsz hcap
end Go.Proofs
namespace Go.Proofs.YtonlloiemgdfkaaGreatDoor
open Go.RowKit Go.Sort
theorem aAk (w:World):aA w w.drew:=⟨rfl,rfl,rfl,Nat.le_refl _,fun _ _=>rfl⟩
theorem pW {α:Type} [Inhabited α] [DecidableEq α] (d:Array α) : ∀ (m:Nat) (j:Nat),j<m->d[j]! ∈ Lib.compactUpTo d m
 | 0,j,h=>absurd h (Nat.not_lt_zero _)
 | m+1,j,h=>by
  rw [Lib.compactUpTo_succ,List.mem_append]
  by_cases hjm:j<m
  ·exact Or.inl (pW d m j hjm)
  ·obtain rfl:j=m:=by omega
   by_cases h0:j=0
   ·subst h0
    rw [if_pos (Lib.keeps_lt_one d 0 (by omega))]
    exact Or.inr (List.mem_singleton.2 rfl)
   ·by_cases hk:d[j]! = d[j-1]!
    ·rw [hk];exact Or.inl (pW d j (j-1) (by omega))
    ·rw [if_pos (Lib.keeps_pos hk)]
     exact Or.inr (List.mem_singleton.2 rfl)
theorem aAn {t:NT} {f:ByteArray} (h:f∈t.flags):f.data.toList∈t.sorted:=by
 unfold NT.sorted Lib.compact
 have h1:f.data.toList∈(t.flags.map (·.data.toList)).mergeSort fun x y=>decide (x<=y):=(List.mergeSort_perm _ _).mem_iff.2 (List.mem_map.2 ⟨f,h,rfl⟩)
 generalize (t.flags.map (·.data.toList)).mergeSort (fun x y=>decide (x<=y))=M at h1 ⊢
 obtain ⟨j,hj,e⟩:=List.mem_iff_getElem.1 h1
 have:=pW M.toArray M.toArray.size j (by simpa using hj)
 rw [← e]
 simpa [hj] using this
theorem pC {p:PK} (h:eG p=0) : ∀ f∈p.nd.flags,aP p.fl f<p.fl.length:=by
 intro f hf
 have hn:gO p.nd p.fl=0:=by
  unfold eG at h
  split at h
  ·cases h
  ·split at h
   ·cases h
   ·split at h
    ·rename_i hne;exact absurd h hne
    ·exact h
 unfold gO at hn
 split at hn
 ·cases hn
 ·split at hn
  ·rename_i hne;exact absurd hn hne
  ·split at hn
   ·rename_i hall
    have:=List.all_eq_true.1 hall _ (aAn hf)
    unfold gG at this
    rw [cE,Lib.containsS_iff] at this
    unfold aP
    exact List.findIdx_lt_length_of_exists ⟨f,this,by simp⟩
   ·cases hn
end Go.Proofs.YtonlloiemgdfkaaGreatDoor
