/- Steps of the proof: EncRefCh, EncMbRow, EncPair, EncRefSet, EncRefJoin, EncRefOk, ShelfC, ValidHolds, ValidHold. -/
import Derived.Test.YthaaaecmeafofaaGreatDoorRb10
import Derived.Test.YthaaaecmeafofaaGreatDoorRb11
import Derived.Test.YthaaaecmeafofaaGreatDoorRb13
import Derived.Laws.StructEq
import Derived.Shelf.LaysM
import Derived.Shelf.LaysC
import Derived.Shelf.SlicesE.DeleteFunc
import Derived.Test.YthaaaecmeafofaaGreatDoorProg
import Derived.BigRegion
import Derived.Laws.EntriesVeiled
set_option maxHeartbeats 16000000
set_option maxRecDepth 100000
namespace Go.Proofs.YthaaaecmeafofaaGreatDoor
open Go.RowKit Go.Lib
def aB (ps:List PK) (wi:WI):Cn.CT:=⟨ps.map fun p=>p.fl.length,wi.ins.map fun m=>m.pl.toNat,fun i k=>wi.on.contains ((i:Int),(k:Int))⟩
def plI (ms:List MB):List Int:=ms.map fun m=>m.pl
end Go.Proofs.YthaaaecmeafofaaGreatDoor
namespace Go.Proofs.YthaaaecmeafofaaGreatDoor
open Go.RowKit
def wB (S:Nat->Prop) (w:World) (m:MB) (cs:List Value):Prop:= ∃ ov,cs = [.int .i64 m.pl,ov]/\aZ S w m.on ov
theorem wB.mono {S S':Nat->Prop} {w w':World} (hw : ∀ p:Addr,S p.block->w'.cell? p=w.cell? p) (hS : ∀ b,S b->S' b) {m:MB} {cs:List Value} (h:wB S w m cs):wB S' w' m cs:=by
 obtain ⟨ov,h1,h2⟩:=h
 exact ⟨ov,h1,h2.mono hw hS⟩
def fZ (B:Nat) (v:Value) (acc:List MB) (w:World):Prop:=
 ∃ csl:List (List Value),csl.length=acc.length/\(∀ cs∈csl,cs.length=2)/\w.ownsRow B 64 2 v acc.length csl.flatten/\∀ (i:Nat) t cs,acc[i]? = some t->csl[i]? = some cs->wB (fun b=>B<=b/\b<w.heap.size/\v.ownBlock≠some b) w t cs
theorem fZ.nil (B:Nat) (w:World):fZ B (.slice none 0 0) [] w:=⟨[],rfl,by simp,World.ownsRow_nil _ _ _ _,by simp⟩
theorem fZ.other {B:Nat} {v:Value} {acc:List MB} {w w':World} (h:fZ B v acc w) (hs:w.heap.size<=w'.heap.size) (hb : ∀ b,B<=b->b<w.heap.size->w'.heap[b]? = w.heap[b]?):fZ B v acc w':=by
 obtain ⟨csl,h1,h2,⟨h3,h3'⟩,h4⟩:=h
 refine ⟨csl,h1,h2,⟨h3,h3'.imp id ?_⟩,fun i t cs hi hc=>wB.mono (fun p hp=>World.cell?_of_block (w:=w) (hb _ hp.1 hp.2.1)) (fun b hb=>⟨hb.1,Nat.lt_of_lt_of_le hb.2.1 hs,hb.2.2⟩) (h4 i t cs hi hc)⟩
 rintro ⟨g,cap,cur,e1,e2,e3,e4⟩
 exact ⟨g,cap,cur,e1,e2,by rw [hb g e2 (Array.getElem?_eq_some_iff.1 e3).1];exact e3,e4⟩
theorem fZ.keep {B:Nat} {v:Value} {acc:List MB} {w w':World} (h:fZ B v acc w) (k:aA w w'):fZ B v acc w':=h.other k.size fun b _ hb=>k.block b hb
theorem fZ.push {B B':Nat} {v v':Value} {acc:List MB} {csl:List (List Value)} {t:MB} {cs:List Value} {w w':World} {o:Obj} (h1:csl.length=acc.length) (h2 : ∀ cs∈csl,cs.length=2)
  (h4 : ∀ (i:Nat) t cs,acc[i]? = some t->csl[i]? = some cs->wB (fun b=>B<=b/\b<w.heap.size/\v.ownBlock≠some b) w t cs)
  (hB:B<=B') (hv : ∀ g,v.ownBlock=some g->g<B') (hn:wB (fun b=>B'<=b/\b<w.heap.size) w t cs) (hc:cs.length=2)
  (h5:w'.ownsRow B 64 2 v' (acc.length+1) (csl.flatten++cs)) (h6:(w.alloc o).grownBy w' v.ownBlock) (h7:v'.ownBlock=v.ownBlock∨v'.ownBlock=some (w.alloc o).heap.size):fZ B v' (acc ++ [t]) w':=by
 have e:=aC w o
 have hsz:w.heap.size<=w'.heap.size:=by have:=h6.size;omega
 have hcell : ∀ p:Addr,p.block<w.heap.size->v.ownBlock≠some p.block->w'.cell? p=w.cell? p:=fun p hp hne=>by
  rw [World.cell?_of_block (w:=w.alloc o) (a:=p) (h6.block p.block (by omega) (fun e=>hne e.symm))]
  exact (aA.alloc w o).cell hp
 have hne : ∀ b,b<w.heap.size->v.ownBlock≠some b->v'.ownBlock≠some b:=fun b hb hn=>by
  rcases h7 with h7 | h7
  ·rw [h7];exact hn
  ·rw [h7];intro e;have:=Option.some.inj e;omega
 refine ⟨csl ++ [cs],by simp [h1],fun x hx=> ?_,by simpa using h5,fun i u x hu hx=> ?_⟩
 ·rcases List.mem_append.1 hx with hx | hx
  ·exact h2 x hx
  ·rw [List.mem_singleton.1 hx];exact hc
 ·by_cases hi:i<acc.length
  ·rw [List.getElem?_append_left hi] at hu
   rw [List.getElem?_append_left (by omega)] at hx
   exact wB.mono (fun p hp=>hcell p hp.2.1 hp.2.2) (fun b hb=>⟨hb.1,by omega,hne b hb.2.1 hb.2.2⟩) (h4 i u x hu hx)
  ·have hi2:i=acc.length:=by
    have:=(List.getElem?_eq_some_iff.1 hu).1
    simp at this;omega
   subst hi2
   rw [List.getElem?_append_right (Nat.le_refl _),Nat.sub_self] at hu
   rw [← h1,List.getElem?_append_right (Nat.le_refl _),Nat.sub_self] at hx
   cases hu;cases hx
   have hvn : ∀ b,B'<=b->v.ownBlock≠some b:=fun b hb e=>by have:=hv b e;omega
   exact wB.mono (fun p hp=>hcell p hp.2 (hvn _ hp.1)) (fun b hb=>⟨by omega,by omega,hne b hb.2 (hvn b hb.1)⟩) hn
theorem yW {csl:List (List Value)} (h2 : ∀ cs∈csl,cs.length=2) : ∀ (i:Nat) (cs:List Value),csl[i]? = some cs->∀ (m:Nat) (v:Value),cs[m]? = some v->csl.flatten[i*2+m]? = some v:=by
 induction csl with
 | nil=>intro i cs h;simp at h
 | cons c r ih=>
  intro i cs h m v hv
  have hc:c.length=2:=h2 c (by simp)
  cases i with
  | zero=>
   simp at h;subst h
   have hm:m<c.length:=(List.getElem?_eq_some_iff.1 hv).1
   rw [List.flatten_cons,Nat.zero_mul,Nat.zero_add,List.getElem?_append_left hm];exact hv
  | succ i=>
   rw [List.flatten_cons,List.getElem?_append_right (by omega),show (i+1)*2+m-c.length=i*2+m by omega]
   exact ih (fun x hx=>h2 x (by simp [hx])) i cs (by simpa using h) m v hv
theorem fZ.final {B:Nat} {v:Value} {acc:List MB} {w:World} (h:fZ B v acc w):bI (fun b=>B<=b/\b<w.heap.size) w acc v:=by
 obtain ⟨csl,h1,h2,⟨h3,⟨rfl,h0⟩ | ⟨g,cap,cur,rfl,e2,e3,e4,e5,e6,e7⟩⟩,h4⟩:=h
 ·obtain rfl:=List.length_eq_zero_iff.1 h0
  exact ⟨_,_,rfl,by decide,fun h=>absurd h (by decide)⟩
 ·have hg:=(Array.getElem?_eq_some_iff.1 e3).1
  refine ⟨_,_,rfl,⟨by omega,by unfold maxLen at e5;omega⟩,fun _=>⟨g,0,rfl,⟨e2,hg⟩,fun i m hm=> ?_⟩⟩
  have hi:i<acc.length:=(List.getElem?_eq_some_iff.1 hm).1
  have hcs:csl[i]? = some csl[i]:=List.getElem?_eq_getElem (by omega)
  obtain ⟨ov,hc,hb⟩:=h4 i m _ hm hcs
  have hcell : ∀ (k:Nat) (u:Value),k<2->csl[i][k]? = some u->w.cell? ⟨g,i*2+k,none⟩=some u:=fun k u hk hu=>by
   have hf:=yW h2 i csl[i] hcs k u hu
   rw [← e7,List.getElem?_take,if_pos (by omega)] at hf
   simp only [World.cell?,e3]
   simpa using hf
  refine ⟨ov,?_,?_,hb.mono (fun _ _=>rfl) (fun b hb=>⟨hb.1,hb.2.1⟩)⟩
  ·have:=hcell 0 (.int .i64 m.pl) (by omega) (by rw [hc];rfl)
   simpa using this
  ·have:=hcell 1 ov (by omega) (by rw [hc];rfl)
   simpa using this
theorem fZ.own {B:Nat} {v:Value} {acc:List MB} {w:World} (h:fZ B v acc w) : ∀ g,v.ownBlock=some g->B<=g/\g<w.heap.size:=fun g hg=>by
 obtain ⟨csl,-,-,o1,-⟩:=h
 exact cV o1 hg
theorem fZ.shape {B:Nat} {v:Value} {acc:List MB} {w:World} (h:fZ B v acc w) : ∃ p cap,v=.slice p acc.length cap:=by
 obtain ⟨p,cap,h,-⟩:=h.final.len
 exact ⟨p,cap,h⟩
theorem aRz:(Tryz.prog.info? 64).map (fun i=>(i.zero,i.size,i.bytes))=some (some (.agg #[.int .i64 0,.slice none 0 0]),2,32):=by kernel_rfl
theorem aRy:(Tryz.prog.info? 4).map (fun i=>(i.zero,i.size,i.bytes))=some (some (.bool false),1,1):=by kernel_rfl
end Go.Proofs.YthaaaecmeafofaaGreatDoor
namespace Go.Proofs.YthaaaecmeafofaaGreatDoor
open Go.RowKit Go.Lib
theorem nA {B e n:Nat} {v:Value} {xs:List Value} {w:World} (h:w.ownsRow B e 1 v n xs) : ∃ p cap,v=.slice p n cap:=by
 obtain ⟨-,⟨rfl,h0⟩ | ⟨g,cap,cur,rfl,-⟩⟩:=h
 ·exact ⟨none,0,by rw [h0]⟩
 ·exact ⟨_,_,rfl⟩
theorem zM {g T:Nat} {x:Value} {w:World} (h:aE g T x w) (j:Nat) (u:Value) (hu : [x][j]? = some u):w.cell? ((⟨g,0,none⟩:Addr).add j)=some u:=by
 match j,hu with
 | 0,hu=>simp at hu;subst hu;exact h.facts.1
theorem mJ {bm k:Nat} {T:TypeId} {p:Value} {mv v':Value} {xs ys:List Value} {W3 w w':World} (hbm:W3.heap.size=bm) (hb:aD bm T #[p,mv] w) (ho:w.ownsRow (bm+1) 4 1 mv k xs) (hg:w.grownBy w' mv.ownBlock) (h1:w'.ownsRow (bm+1) 4 1 v' (k+1) ys) (hk:aA W3 w) :
  aD bm T #[p,mv] w'/\aD bm T #[p,v'] (w'.setCell ⟨bm,1,none⟩ v')/\(w'.setCell ⟨bm,1,none⟩ v').ownsRow (bm+1) 4 1 v' (k+1) ys/\aA W3 (w'.setCell ⟨bm,1,none⟩ v'):=by
 have hb':aD bm T #[p,mv] w':=by
  have h5:=hb
  have h6:=hb.facts.2.2
  unfold aD at *
  rw [hg.block bm h6 fun e=>by have:=(cV ho e.symm).1;omega];exact h5
 refine ⟨hb',hb'.set 1 v',?_,?_⟩
 ·exact Cn.cM h1 fun g hg=>Below.heap_setCell _ _ _ _ (fun e=>by have e2:g=bm:=e;have:=(cV h1 hg).1;omega)
 ·exact Below.setCell (Below.grown hk hg hk.size (fun g hg=>by have:=(cV ho hg).1;omega)) (p:=⟨bm,1,none⟩) (by show W3.heap.size<=bm;omega) _
theorem aEi {B n:Nat} {v:Value} {bs:List Bool} {w:World} (h:w.ownsRow B 4 1 v n (bs.map Value.bool)) (hn:bs.length=n):aZ (fun c=>B<=c/\c<w.heap.size) w bs v:=by
 subst hn
 obtain ⟨h3,⟨rfl,h0⟩ | ⟨g,cap,cur,rfl,e2,e3,e4,e5,e6,e7⟩⟩:=h
 ·exact ⟨none,0,by rw [h0],by omega,fun h=>by omega⟩
 ·have hg:=(Array.getElem?_eq_some_iff.1 e3).1
  refine ⟨_,_,rfl,by unfold maxLen at e5;omega,fun _=>⟨g,0,rfl,⟨e2,hg⟩,fun j x hx=> ?_⟩⟩
  have hj:j<bs.length:=(List.getElem?_eq_some_iff.1 hx).1
  have hf:(bs.map Value.bool)[j]? = some (.bool x):=by rw [List.getElem?_map,hx];rfl
  rw [← e7,List.getElem?_take,if_pos (by omega)] at hf
  simp only [World.cell?,e3,Nat.zero_add]
  simpa using hf
theorem yP {P:Program} {md:Region.Mode} {ops:Array Oper} {Q:Exit->Act->World->Prop} {S:World->Prop} {fuel:Nat} {listed:Array Bool} {a:Act} {W:World} (R:World->Prop) (hR:R W) (h : ∀ W',R W'->wpAnyH P md ops Q S fuel listed a W'):wpAnyH P md ops Q S fuel listed a W:=h W hR
theorem pD {s:Bool} (u:Value) (h:u ∈ [Value.bool s]):u.oneCell'=true:=by rw [List.mem_singleton.1 h];rfl
end Go.Proofs.YthaaaecmeafofaaGreatDoor
namespace Go.Proofs.YthaaaecmeafofaaGreatDoor
def aCm (a:Nat × List Bool):MB:=⟨(a.1:Int),a.2⟩
theorem aMn {l:List Int} (h : ∀ k,0<k->k<l.length->l.getD (k-1) 0<l.getD k 0) (i:Nat) : ∀ d,i+d+1<l.length->l.getD i 0<l.getD (i+d+1) 0
 | 0,hl=>by have:=h (i+1) (by omega) hl;simpa using this
 | d+1,hl=>by
  have h1:=aMn h i d (by omega)
  have h2:=h (i+(d+1)+1) (by omega) hl
  rw [show i+(d+1)+1-1=i+d+1 by omega] at h2
  omega
theorem aAi {l:List Int} (h : ∀ k,0<k->k<l.length->l.getD (k-1) 0<l.getD k 0):l.Pairwise (· < ·):=by
 rw [List.pairwise_iff_getElem]
 intro i j hi hj hij
 have h1:=aMn h i (j-i-1) (by omega)
 rw [show i+(j-i-1)+1=j by omega] at h1
 rw [List.getD_eq_getElem?_getD,List.getD_eq_getElem?_getD,List.getElem?_eq_getElem hi,List.getElem?_eq_getElem hj] at h1
 exact h1
theorem aIp {l:List Int} (h : ∀ k,0<k->k<l.length->l.getD (k-1) 0<l.getD k 0) (h0 : ∀ x∈l,0<=x) : ∀ k,k<l.length->(k:Int)<=l.getD k 0
 | 0,hk=>by
  have:=h0 (l.getD 0 0) (by rw [List.getD_eq_getElem?_getD,List.getElem?_eq_getElem hk];exact List.getElem_mem hk)
  simpa using this
 | k+1,hk=>by
  have h1:=aIp h h0 k (by omega)
  have h2:=h (k+1) (by omega) hk
  rw [Nat.add_sub_cancel] at h2
  omega
theorem aIe (ms:List MB) (k:Nat):(plI ms).getD k 0=(ms.getD k MB.zero).pl:=by
 unfold plI
 rw [List.getD_eq_getElem?_getD,List.getD_eq_getElem?_getD,List.getElem?_map]
 cases ms[k]? <;> rfl
theorem dD {ps:List PK} {ms:List MB} (h:bV ps ms=0):ps.length<=8/\(∀ p∈ps,p.fl.length<=2)/\(plI ms).Pairwise (· < ·)/\(∀ x∈plI ms,0<=x/\x<ps.length)/\ms.length<=8/\wU ps ms:=by
 have hok:=aDj h
 have ht:dA ps=0:=by
  unfold bV at h
  by_cases e:dA ps=0
  ·exact e
  ·rw [if_pos e] at h;exact h
 have hs:aMi ps ms=0:=by unfold bV at h;rw [ht] at h;simpa using h
 have hz:=(cK ms.length 0).1 hs
 obtain ⟨h8,hp⟩:=dN ht
 have hup : ∀ k,0<k->k<(plI ms).length->(plI ms).getD (k-1) 0<(plI ms).getD k 0:=fun k h0 hk=>by
  have hk2:k<ms.length:=by simpa [plI] using hk
  have h1:=hz k hk2
  rw [Nat.zero_add] at h1
  rw [aIe,aIe]
  unfold mbE at h1
  by_cases e1:(ms.getD k MB.zero).pl<0∨(ps.length:Int)<=(ms.getD k MB.zero).pl
  ·rw [if_pos e1] at h1;omega
  ·rw [if_neg e1] at h1
   by_cases e2:0<k/\(ms.getD k MB.zero).pl<=(ms.getD (k-1) MB.zero).pl
   ·rw [if_pos e2] at h1;omega
   ·omega
 have hin : ∀ x∈plI ms,0<=x/\x<ps.length:=fun x hx=>by
  obtain ⟨m,hm,rfl⟩:=List.mem_map.1 hx
  obtain ⟨i,hi⟩:=List.mem_iff_getElem?.1 hm
  exact ⟨(hok i m hi).1,(hok i m hi).2.1⟩
 have hlen:ms.length<=8:=by
  by_cases h0:ms.length=0
  ·omega
  ·have hl:(plI ms).length=ms.length:=by simp [plI]
   have h1:=aIp hup (fun x hx=>(hin x hx).1) (ms.length-1) (by omega)
   have h2:=(hin ((plI ms).getD (ms.length-1) 0) (by rw [List.getD_eq_getElem?_getD,List.getElem?_eq_getElem (by omega)];exact List.getElem_mem _)).2
   omega
 refine ⟨h8,fun p hpm=> ?_,aAi hup,hin,hlen,hok⟩
 have h1:=hp p hpm
 by_cases h2:2<p.fl.length
 ·have h3:dT p.fl=2:=by unfold dT;rw [if_pos h2]
  unfold eQ at h1
  rw [h3] at h1
  split at h1
  ·omega
  ·split at h1
   ·omega
   ·simp at h1
 ·omega
theorem aOx {ms:List MB} (h:(plI ms).Pairwise (· < ·)) (h0 : ∀ x∈plI ms,0<=x):(ms.map fun m=>m.pl.toNat).Pairwise (· < ·):=by
 unfold plI at h
 rw [List.pairwise_map] at h ⊢
 refine h.imp_of_mem fun ha hb hab=> ?_
 have h1:=h0 _ (List.mem_map.2 ⟨_,ha,rfl⟩)
 have h2:=h0 _ (List.mem_map.2 ⟨_,hb,rfl⟩)
 omega
theorem gB {ps:List PK} {wi:WI} (h:bV ps wi.ins=0):(aB ps wi).Ok:=by
 obtain ⟨-,-,h1,h2,-,-⟩:=dD h
 refine ⟨aOx h1 fun x hx=>(h2 x hx).1,fun i hi=> ?_⟩
 obtain ⟨m,hm,rfl⟩:=List.mem_map.1 hi
 have:=h2 m.pl (List.mem_map.2 ⟨m,hm,rfl⟩)
 show m.pl.toNat<(ps.map fun p=>p.fl.length).length
 rw [List.length_map]
 omega
def eW (ms:List MB):List (Nat × List Bool):=ms.map fun m=>(m.pl.toNat,m.on)
theorem vL {ps:List PK} {ms:List MB} (wi:WI) (h:bV ps ms=0):(aB ps wi).IsSet (eW ms):=by
 obtain ⟨-,-,h1,h2,-,h3⟩:=dD h
 have hu:=aOx h1 fun x hx=>(h2 x hx).1
 refine ⟨?_,fun a ha=> ?_,fun a ha=> ?_⟩
 ·unfold eW
  rw [List.pairwise_map] at hu ⊢
  exact hu
 ·obtain ⟨m,hm,rfl⟩:=List.mem_map.1 ha
  have:=h2 m.pl (List.mem_map.2 ⟨m,hm,rfl⟩)
  show m.pl.toNat<(ps.map fun p=>p.fl.length).length
  rw [List.length_map]
  omega
 ·obtain ⟨m,hm,rfl⟩:=List.mem_map.1 ha
  obtain ⟨i,hi⟩:=List.mem_iff_getElem?.1 hm
  have h4:=h3 i m hi
  have h5:m.pl.toNat<ps.length:=by omega
  show m.on.length=(ps.map fun p=>p.fl.length).getD m.pl.toNat 0
  rw [h4.2.2,cN,List.getD_eq_getElem?_getD,List.getD_eq_getElem?_getD,List.getElem?_map,List.getElem?_eq_getElem h5]
  rfl
theorem aTs {ms:List MB} (h : ∀ x∈plI ms,0<=x):(eW ms).map aCm=ms:=by
 unfold eW
 rw [List.map_map]
 conv=>rhs;rw [← List.map_id ms]
 refine List.map_congr_left fun m hm=> ?_
 have:=h m.pl (List.mem_map.2 ⟨m,hm,rfl⟩)
 have e:((m.pl.toNat:Nat):Int)=m.pl:=by omega
 show (⟨((m.pl.toNat:Nat):Int),m.on⟩:MB)=m
 rw [e]
end Go.Proofs.YthaaaecmeafofaaGreatDoor
namespace Go.Proofs
open Go.Shelf
def Tryz.laysSlH10_f176_ren:Go.Shelf.Ren:=⟨fun | 10=>176 | 6=>68 | n=>n,fun | 22=>37 | 23=>3 | 25=>124 | 3=>3 | 4=>4 | 0=>0 | n=>n,fun | n=>n⟩
theorem Tryz.laysSlH10_f176:Go.Proofs.SlLaysH.n10 Tryz.prog Tryz.laysSlH10_f176_ren:= {
 mixed:=by kernel_rfl
 f6:=⟨Tryz.f68.name,by decide,Tryz.func68.trans (congrArg some (by kernel_rfl))⟩
 f10:=⟨Tryz.f176.name,by decide,Tryz.func176.trans (congrArg some (by kernel_rfl))⟩
 t0:=Tryz.underlying0
 a0:=Tryz.isAgg0
 z0:=Tryz.sizeOf0
 v0:=Tryz.zeroValue0
 t3:=Tryz.underlying3
 a3:=Tryz.isAgg3
 z3:=Tryz.sizeOf3
 v3:=Tryz.zeroValue3
 t4:=Tryz.underlying4
 a4:=Tryz.isAgg4
 z4:=Tryz.sizeOf4
 v4:=Tryz.zeroValue4
 t22:=Tryz.underlying37
 a22:=Tryz.isAgg37
 z22:=Tryz.sizeOf37
 v22:=Tryz.zeroValue37
 a23:=Tryz.isAgg3
 z23:=Tryz.sizeOf3
 t25:=Tryz.underlying124
 a25:=Tryz.isAgg124
 z25:=Tryz.sizeOf124
 v25:=Tryz.zeroValue124 }
open Go.RowKit Go.Lib Go.Sort in
theorem Tryz.slices_DeleteFunc {α:Type} [Inhabited α] (enc:α->Value) (hO:OneCell enc) (p:α->Bool) (g:Nat) (lb:Array Value) (eg : ∀ args w,(callFunc g args).run Tryz.prog w=.ok (.enter g args) w) (zr:α) (v23 : ∀ w,(zeroValue 3).run Tryz.prog w=.ok (enc zr) w) (blk off cap:Nat) (d:Array α) (w:World) (hp:PredAt Tryz.prog g lb enc p w) (hpo:PredOver Tryz.prog g lb enc p blk off d.size w) (hH:Holds enc w blk off d) (hsz:d.size<=9223372036854775807) (hcap:d.size<=cap) :
  Calls Tryz.prog 176 #[.slice (some ⟨blk,off,none⟩) d.size cap,.func (.func g) #[] lb] w fun e w'=>e=.returned (.slice (some ⟨blk,off,none⟩) (d.toList.filter fun x=> !p x).length cap)/\∃ q,w'=putRow enc (Sort.ahead w q) blk off ((d.toList.filter fun x=> !p x)++List.replicate (d.size-(d.toList.filter fun x=> !p x).length) zr).toArray:=AnyE.slices_DeleteFunc Tryz.laysSlH10_f176 enc hO p g lb eg zr v23 blk off cap d w hp hpo hH hsz hcap
end Go.Proofs
namespace Go.Proofs.YthaaaecmeafofaaGreatDoor
open Go.RowKit Go.Sort
theorem uH {F:Nat} {cap:Array Value} (S:Nat->Prop) (kids:List NT) (g:NT->Bool) (kp:Option Addr) (kc:Nat) (w:World) (hS : ∀ b,S b->b<w.heap.size)
  (hF : ∀ args w,(callFunc F args).run Tryz.prog w=.ok (.enter F args) w) (hmax:kids.length<=9223372036854775807) (hk:bB S w kids kp 0)
  (hc : ∀ (j:Nat) (h:j<kids.length) (cs:List Value) (W:World),aA w W->aI S W kids[j] cs->Calls Tryz.prog F (#[.agg cs.toArray]++cap) W fun e w'=>e=.returned (.bool (g kids[j]))/\aA W w') :
  Calls Tryz.prog 125 #[.slice kp kids.length kc,.func (.func F) #[] cap] w fun e w'=> ∃ n:Int,e=.returned (.int .i64 n)/\decide (0<=n)=kids.any g/\aA w w':=by
 have HK:=hid hk
 have HC:=hid hc
 clear hk hc
 go_enter Tryz.func125,Tryz.ntmps125
 go_wp2_with fail
 go_loopg [8] kids.length (fun gk i wr=> ∃ j:Nat,j+gk=kids.length/\i=.int .i64 j/\(kids.take j).any g=false/\aA w wr)
 case atStart=>exact ⟨0,by simp,rfl,by simp,aA.refl _⟩
 case round=>
  obtain ⟨j,hj,rfl,hno,hkp⟩:=hrel
  have HNO:=hid hno
  have HKP:=hid hkp
  clear hno hkp
  by_cases hlt:j<kids.length
  ·obtain ⟨p,cs,hp,hSp,hcell,hneed⟩:=jG (bB.mono (bG hS HKP.out) (fun _ h=>h) kids kp 0 HK.out) j hlt
   have HCALL:=hid (HC.out j hlt cs wr HKP.out hneed)
   have HST:Hid ((kids.take (j+1)).any g=g kids[j]):=by
    show _=_
    rw [List.take_succ_eq_append_getElem hlt,List.any_append,HNO.out];simp
   have HUP:Hid (g kids[j]=true->kids.any g=true):=fun h=>List.any_eq_true.2 ⟨kids[j],List.getElem_mem hlt,h⟩
   subst hp
   rw [Nat.zero_add] at hcell
   generalize g kids[j]=β at HCALL HST HUP
   cases hkid:kids[j] with
   | node k' a' fl' nt' kids'=>
   rw [hkid,aI] at hneed
   obtain ⟨kp',kc',rfl,-,-,-⟩:=hneed
   obtain ⟨c0,c1,c2,c3,c4,c5,c6,c7,c8,c9⟩:=sY hcell
   clear hcell hkid HNO
   go_wp2_with fail
   refine HCALL.out.mono ?_
   rintro e w1 ⟨rfl,k1⟩
   have K1:=hid (HKP.out.trans k1)
   clear k1 c0 c1 c2 c3 c4 c5 c6 c7 c8 c9 HCALL
   cases β
   ·go_wp2_with fail
    go_roundg (kids.length-(j+1))
    case rel=>exact ⟨j+1,by omega,by go_num,HST.out,K1.out⟩
    case measure=>omega
   ·go_wp2_with fail
    go_ret
    exact ⟨(j:Int),rfl,by rw [show kids.any g=true from HUP.out trivial];exact decide_eq_true (by omega),K1.out⟩
  ·obtain rfl:j=kids.length:=by omega
   go_wp2_with fail
   go_ret
   refine ⟨-1,rfl,?_,HKP.out⟩
   have:=HNO.out
   rw [List.take_length] at this
   rw [this];rfl
theorem jZ {F:Nat} {cap:Array Value} (S:Nat->Prop) (kids:List NT) (g:NT->Bool) (kp:Option Addr) (kc:Nat) (w:World) (hS : ∀ b,S b->b<w.heap.size)
  (hF : ∀ args w,(callFunc F args).run Tryz.prog w=.ok (.enter F args) w) (hmax:kids.length<=9223372036854775807) (hk:bB S w kids kp 0)
  (hc : ∀ (j:Nat) (h:j<kids.length) (cs:List Value) (W:World),aA w W->aI S W kids[j] cs->Calls Tryz.prog F (#[.agg cs.toArray]++cap) W fun e w'=>e=.returned (.bool (g kids[j]))/\aA W w') :
  Calls Tryz.prog 62 #[.slice kp kids.length kc,.func (.func F) #[] cap] w fun e w'=>e=.returned (.bool (kids.any g))/\aA w w':=by
 have HI:=hid (uH S kids g kp kc w hS hF hmax hk hc)
 clear hk hc
 go_enter Tryz.func62,Tryz.ntmps62
 go_wp2_with fail
 refine HI.out.mono ?_
 rintro e w1 ⟨n,rfl,hn,k1⟩
 have HN:=hid hn
 have K1:=hid k1
 clear hn k1 HI
 go_wp2_with fail
 go_ret
 exact ⟨aK HN.out,K1.out⟩
theorem aJt (k:Int) (a:At) (fl:ByteArray) (nt:Bool) : ∀ (kids:List NT) (j:Nat) (h:j<kids.length) (f:ByteArray),f∈kids[j].flags->f∈(NT.node k a fl nt kids).flags:=by
 intro kids j h f hf
 rw [NT.flags]
 refine List.mem_append_right _ ?_
 induction kids generalizing j with
 | nil=>exact absurd h (Nat.not_lt_zero _)
 | cons t ts ih=>
  rw [dE]
  cases j with
  | zero=>exact List.mem_append_left _ hf
  | succ j=>exact List.mem_append_right _ (ih j (by simpa using h) hf)
theorem aAx (ps:List PK) (ms:List MB) (k:Nat) : ∀ kids:List NT,aAw ps ms k kids=kids.any (bS ps ms k)
 | []=>by simp [aAw]
 | t :: ts=>by rw [aAw,aAx ps ms k ts];simp
theorem tN (ps:List PK) (ms:List MB) (k:Nat) : ∀ kids:List NT,aAt ps ms k kids = !kids.any (fun t=> !bS ps ms k t)
 | []=>by simp [aAt]
 | t :: ts=>by rw [aAt,tN ps ms k ts];simp
structure lI (S:Nat->Prop) (ps:List PK) (ms:List MB) (k:Nat) (tp lp:Option Addr) (tc lc ct cl ck ch cp cf:Nat) (pcs:Array Value) (w:World):Prop where
 tree:aE ct 24 (.slice tp ps.length tc) w
 set:aE cl 25 (.slice lp ms.length lc) w
 num:aE ck 3 (.int .i64 k) w
 self:aE ch 111 (.func (.func 130) #[] #[.pointer (some ⟨ct,0,none⟩),.pointer (some ⟨cl,0,none⟩),.pointer (some ⟨ck,0,none⟩),.pointer (some ⟨ch,0,none⟩),.pointer (some ⟨cp,0,none⟩),.pointer (some ⟨cf,0,none⟩)]) w
 pack:aN cp pcs w
 fails:aE cf 111 (.func (.func 129) #[] #[.pointer (some ⟨ch,0,none⟩)]) w
 row:bC S w ps (.slice tp ps.length tc)
 mbs:bI S w ms (.slice lp ms.length lc)
 old : ∀ b,S b->b<w.heap.size
theorem lI.keep {S:Nat->Prop} {ps:List PK} {ms:List MB} {k:Nat} {tp lp:Option Addr} {tc lc ct cl ck ch cp cf:Nat} {pcs:Array Value} {w w':World} (h:lI S ps ms k tp lp tc lc ct cl ck ch cp cf pcs w) (k':aA w w'):lI S ps ms k tp lp tc lc ct cl ck ch cp cf pcs w':=
 ⟨h.tree.keep k' h.tree.facts.2.2,h.set.keep k' h.set.facts.2.2,h.num.keep k' h.num.facts.2.2,h.self.keep k' h.self.facts.2.2,h.pack.keep k' h.pack.1,h.fails.keep k' h.fails.facts.2.2,h.row.keep h.old k',h.mbs.keep h.old k',fun b hb=>Nat.lt_of_lt_of_le (h.old b hb) k'.size⟩
theorem rX (args:Array Value) (w:World):(callFunc 129 args).run Tryz.prog w=.ok (.enter 129 args) w:=enters_of Tryz.func129 (by kernel_rfl) rfl args w
theorem kC (args:Array Value) (w:World):(callFunc 130 args).run Tryz.prog w=.ok (.enter 130 args) w:=enters_of Tryz.func130 (by kernel_rfl) rfl args w
theorem aJg {S:Nat->Prop} {ps:List PK} {ms:List MB} {k:Nat} {tp lp:Option Addr} {tc lc ct cl ck ch cp cf:Nat} {pcs:Array Value} (t:NT) (cs:List Value) (w:World) (h:lI S ps ms k tp lp tc lc ct cl ck ch cp cf pcs w) (hn:aI S w t cs)
  (hc : ∀ W,aA w W->Calls Tryz.prog 130 #[.agg cs.toArray,.pointer (some ⟨ct,0,none⟩),.pointer (some ⟨cl,0,none⟩),.pointer (some ⟨ck,0,none⟩),.pointer (some ⟨ch,0,none⟩),.pointer (some ⟨cp,0,none⟩),.pointer (some ⟨cf,0,none⟩)] W fun e w'=>e=.returned (.bool (bS ps ms k t))/\aA W w') :
  Calls Tryz.prog 129 #[.agg cs.toArray,.pointer (some ⟨ch,0,none⟩)] w fun e w'=>e=.returned (.bool (!bS ps ms k t))/\aA w w':=by
 obtain ⟨hc0,-,hl0⟩:=h.self.facts
 have hent:=kC
 have HC:=hid hc
 rcases t with ⟨kd,a,fl,nt,kids⟩
 rw [aI] at hn
 obtain ⟨kp,kc,rfl,-,-,-⟩:=hn
 clear h hc
 generalize bS ps ms k (.node kd a fl nt kids)=β at HC ⊢
 go_enter Tryz.func129,Tryz.ntmps129
 go_wp2_with fail
 refine aX (fun W'=>aA w W') (aA.alloc _ _) ?_
 intro W0 k0
 refine (HC.out W0 k0).mono ?_
 rintro e w1 ⟨rfl,k1⟩
 have K1:=hid (k0.trans k1)
 clear k0 k1 hc0
 go_wp2_with fail
 go_ret
 exact ⟨aK (by simp),K1.out⟩
theorem aFg {S:Nat->Prop} {ps:List PK} {ms:List MB} {k:Nat} {tp lp:Option Addr} {tc lc ct cl ck ch cp cf:Nat} {pcs:Array Value} {fp:Option Addr} {fc:Nat} (hk:k<ms.length) (hok:wU ps ms)
  (hpc:pcs[3]? = some (.slice fp (cN ps ms[k]).fl.length fc)) : ∀ (m:Nat) (t:NT),t.size<=m->(∀ f∈t.flags,aO (cN ps ms[k]).fl f<(cN ps ms[k]).fl.length)->∀ (cs:List Value) (w:World),lI S ps ms k tp lp tc lc ct cl ck ch cp cf pcs w->cF S w (cN ps ms[k]).fl (.slice fp (cN ps ms[k]).fl.length fc)->aI S w t cs->
  Calls Tryz.prog 130 #[.agg cs.toArray,.pointer (some ⟨ct,0,none⟩),.pointer (some ⟨cl,0,none⟩),.pointer (some ⟨ck,0,none⟩),.pointer (some ⟨ch,0,none⟩),.pointer (some ⟨cp,0,none⟩),.pointer (some ⟨cf,0,none⟩)] w fun e w'=>e=.returned (.bool (bS ps ms k t))/\aA w w':=by
 intro m
 induction m with
 | zero=>
  rintro ⟨kd,a,fl,nt,kids⟩ hm
  rw [NT.size] at hm;omega
 | succ m ih=>
  rintro ⟨kd,a,fl,nt,kids⟩ hm hfl cs w hw hst hn
  rw [NT.size] at hm
  have hn':=hn
  rw [aI] at hn
  obtain ⟨kp,kc,rfl,hcap,hmax,hkids⟩:=hn
  have HK:=hid hkids
  have HW:=hid hw
  have HST:=hid hst
  have HPC:=hid hpc
  have hold:=hw.old
  have HKEEP:Hid (∀ W,aA w W->bB S W kids kp 0):=fun W kw=>bB.mono (bG hold kw) (fun _ h=>h) kids kp 0 HK.out
  have HIH:Hid (∀ (j:Nat) (h:j<kids.length) (cs:List Value) (W:World),aA w W->aI S W kids[j] cs->Calls Tryz.prog 130 (#[.agg cs.toArray]++#[.pointer (some ⟨ct,0,none⟩),.pointer (some ⟨cl,0,none⟩),.pointer (some ⟨ck,0,none⟩),.pointer (some ⟨ch,0,none⟩),.pointer (some ⟨cp,0,none⟩),.pointer (some ⟨cf,0,none⟩)]) W fun e w'=>e=.returned (.bool (bS ps ms k kids[j]))/\aA W w'):=fun j h cs W kw hnd=>
   ih kids[j] (by have:=oB kids j h;omega) (fun f hf=>hfl f (aJt kd a fl nt kids j h f hf)) cs W (hw.keep kw) (hst.keep hold kw) hnd
  have HFL:Hid (kd=5->aO (cN ps ms[k]).fl fl<(cN ps ms[k]).fl.length):=fun h5=>hfl fl (by rw [NT.flags,if_pos h5];simp)
  obtain ⟨hct,-,hlt⟩:=hw.tree.facts
  obtain ⟨hcl,-,hll⟩:=hw.set.facts
  obtain ⟨hck,-,hlk⟩:=hw.num.facts
  obtain ⟨hch,-,hlh⟩:=hw.self.facts
  obtain ⟨hcf,-,hlf⟩:=hw.fails.facts
  have hcp:=hw.pack.2
  have hlp:=hw.pack.1
  have e1:=rX
  have e2:=kC
  clear ih hkids hw hst hn' hfl hpc
  by_cases h1:kd=1
  ·subst h1
   have HX:Hid (bS ps ms k (.node 1 a fl nt kids)=eY ps ms (-1) a):=by show _=_;rw [bS,if_pos rfl]
   go_enter Tryz.func130,Tryz.ntmps130
   go_wp2_with fail
   refine aX (fun W'=>aA w W') (aA.alloc _ _) ?_
   intro W0 k0
   refine (kP S ps ms _ _ (-1) a.n a.f a.op a.v a.sl a.on W0 (HW.out.keep k0).old (HW.out.keep k0).row (HW.out.keep k0).mbs hok).mono ?_
   rintro e w1 ⟨rfl,k1⟩
   have K1:=hid (k0.trans k1)
   clear k0 k1
   go_wp2_with fail
   go_ret
   exact ⟨aK HX.out.symm,K1.out⟩
  by_cases h2:kd=2
  ·subst h2
   have HX:Hid (bS ps ms k (.node 2 a fl nt kids) = !eY ps ms k a):=by show _=_;rw [bS,if_neg (by decide),if_pos rfl]
   clear h1
   go_enter Tryz.func130,Tryz.ntmps130
   go_wp2_with fail
   refine aX (fun W'=>aA w W') (aA.alloc _ _) ?_
   intro W0 k0
   refine (kP S ps ms _ _ k a.n a.f a.op a.v a.sl a.on W0 (HW.out.keep k0).old (HW.out.keep k0).row (HW.out.keep k0).mbs hok).mono ?_
   rintro e w1 ⟨rfl,k1⟩
   have K1:=hid (k0.trans k1)
   have HX2:Hid (bS ps ms k (.node 2 a fl nt kids) = !eY ps ms k ⟨a.n,a.op,a.v,a.sl,a.f,a.on⟩):=HX.out
   generalize eY ps ms k ⟨a.n,a.op,a.v,a.sl,a.f,a.on⟩=β at HX2 ⊢
   clear k0 k1
   go_wp2_with fail
   go_ret
   exact ⟨aK (by rw [HX2.out]),K1.out⟩
  by_cases h4:kd=4
  ·subst h4
   have HX:Hid (bS ps ms k (.node 4 a fl nt kids)=kids.any (bS ps ms k)):=by show _=_;rw [bS,if_neg (by decide),if_neg (by decide),if_pos rfl,aAx]
   clear h1 h2
   go_enter Tryz.func130,Tryz.ntmps130
   go_wp2_with fail
   refine aX (fun W'=>aA w W') (aA.alloc _ _) ?_
   intro W0 k0
   refine (jZ S kids (bS ps ms k) kp kc W0 (HW.out.keep k0).old kC hmax (HKEEP.out W0 k0) (fun j h cs W kW hnd=>HIH.out j h cs W (k0.trans kW) hnd)).mono ?_
   rintro e w1 ⟨rfl,k1⟩
   have K1:=hid (k0.trans k1)
   generalize kids.any (bS ps ms k)=β at HX ⊢
   clear k0 k1
   go_wp2_with fail
   go_ret
   exact ⟨aK (by rw [HX.out]),K1.out⟩
  have HALL:Hid (∀ W,aA w W->Calls Tryz.prog 62 #[.slice kp kids.length kc,.func (.func 129) #[] #[.pointer (some ⟨ch,0,none⟩)]] W fun e w'=>e=.returned (.bool (kids.any fun t=> !bS ps ms k t))/\aA W w'):=fun W kW=>
   jZ S kids (fun t=> !bS ps ms k t) kp kc W (HW.out.keep kW).old rX hmax (HKEEP.out W kW) (fun j h cs W' kW' hnd=>aJg kids[j] cs W' (HW.out.keep (kW.trans kW')) hnd (fun W2 k2=>HIH.out j h cs W2 (kW.trans (kW'.trans k2)) (hnd.keep (HW.out.keep (kW.trans kW')).old k2)))
  clear HIH HKEEP HK
  have b1:(kd==1)=false:=by simp [h1]
  have b2:(kd==2)=false:=by simp [h2]
  have b4:(kd==4)=false:=by simp [h4]
  by_cases h5:kd=5
  ·have HFA:=hid (HFL.out h5)
   subst h5
   clear h1 h2 h4 b1 b2 b4 HFL
   have HX:Hid (bS ps ms k (.node 5 a fl nt kids)=if ((ms.getD k MB.zero).on.getD (aO (cN ps (ms.getD k MB.zero)).fl fl) false==nt)=true then true else !kids.any (fun t=> !bS ps ms k t)):=by
    show _=_
    rw [bS,if_neg (by decide),if_neg (by decide),if_neg (by decide),tN]
    simp only [true_and]
   rw [iM ms k hk] at HX
   obtain ⟨mb,moff,mcap,hmv,hmS,-,hrow⟩:=HW.out.mbs.get hk
   cases hmv
   obtain ⟨op,oc,hm0,hm1,hon,hbl⟩:=hrow k _ (List.getElem?_eq_getElem hk)
   obtain ⟨-,-,hol⟩:=hok k _ (List.getElem?_eq_getElem hk)
   have hqo:aO (cN ps ms[k]).fl fl<ms[k].on.length:=by rw [hol];exact HFA.out
   obtain ⟨ob,ooff,hop,hSo,hcell⟩:=hbl.cell hqo
   subst hop
   have hmlt:=hold mb hmS
   have holt:=hold ob hSo
   have hc3:w.cell? ⟨cp,3,none⟩=some (.slice fp (cN ps ms[k]).fl.length fc):=(hcp 3).trans HPC.out
   generalize hqe:aO (cN ps ms[k]).fl fl=q at hqo hcell HX HFA
   have HQE:=hid hqe
   generalize (cN ps ms[k]).fl=fs at HST HPC HFA HQE hc3
   generalize ms[k].on.getD q false=β at hcell HX
   generalize ms[k].on.length=ol at hm1 hon hqo
   clear hrow hbl hol hm0 hqe hcp
   go_enter Tryz.func130,Tryz.ntmps130
   go_upto_region 9 with fail
   refine bF (fun W'=>aA w W'/\aN w.heap.size #[.int .i64 5,.string a.n,.int .i64 a.op,.int .i64 a.v,.int .i64 a.sl,.string a.f,.bool a.on,.string fl,.bool nt,.slice kp kids.length kc] W') ⟨aA.alloc _ _,aN.new _ _ _⟩ ?_
   rintro W2 ⟨k2,bx2⟩
   have K2:=hid k2
   have B2:=hid bx2
   have H2:=hid (HW.out.keep k2)
   have g1:=(k2.cell (p:=⟨cl,0,none⟩) hll).trans hcl
   have g2:=(k2.cell (p:=⟨ck,0,none⟩) hlk).trans hck
   have g3:=(k2.cell (p:=⟨mb,moff+k*2+1,none⟩) hmlt).trans hm1
   have g4:=(k2.cell (p:=⟨ob,ooff+q,none⟩) holt).trans hcell
   have g5:=(k2.cell (p:=⟨cp,3,none⟩) hlp).trans hc3
   have g6:=bx2.2
   have g7:=bx2.1
   have hq:=hid (show ∀ n,Calls Tryz.prog 61 #[.slice fp fs.length fc,.string fl] (W2.drewN n) fun e w''=>e=.returned (.int .i64 (q:Int))/\∃ n',w''=W2.drewN n' from fun n=>by
    refine (rI S fs _ fl (W2.drewN n) (HST.out.keep hold (k2.trans (aA.drewN (aA.refl _) _)))).mono ?_
    rintro e w' ⟨rfl,rfl⟩
    exact ⟨by rw [HQE.out,if_pos HFA.out],n,rfl⟩)
   clear hct hcl hck hch hcf hm1 hcell hc3 k2 bx2 HST HPC HQE
   go_quiet ((go_at_call 61;exact hq.out _))
   have k3:aA W2 (W2.drewN nq):=aA.drewN (aA.refl _) _
   generalize W2.drewN nq=W3 at k3
   have K3:=hid (K2.out.trans k3)
   have B3:=hid (B2.out.keep k3 B2.out.1)
   have H3:=hid (H2.out.keep k3)
   have hc3:=B3.out.2
   have hl3:=B3.out.1
   obtain ⟨hcf3,-,hlf3⟩:=H3.out.fails.facts
   clear k3 g1 g2 g3 g4 g5 g6 g7 hq
   cases hβ:(β==nt)
   ·rw [hβ] at HX
    go_wp2_with fail
    refine (HALL.out W3 K3.out).mono ?_
    rintro e w4 ⟨rfl,k4⟩
    have K4:=hid (K3.out.trans k4)
    have HX2:Hid (bS ps ms k (.node 5 a fl nt kids) = !kids.any (fun t=> !bS ps ms k t)):=HX.out
    generalize (kids.any fun t=> !bS ps ms k t)=γ at HX2 ⊢
    clear k4 hc3 hcf3 HX
    go_wp2_with fail
    go_ret
    exact ⟨aK (by rw [HX2.out]),K4.out⟩
   ·rw [hβ] at HX
    go_wp2_with fail
    go_ret
    exact ⟨aK (by rw [HX.out];rfl),K3.out⟩
  ·have HX:Hid (bS ps ms k (.node kd a fl nt kids) = !kids.any (fun t=> !bS ps ms k t)):=by
    show _=_
    rw [bS,if_neg h1,if_neg h2,if_neg h4,if_neg (fun h=>h5 h.1),tN]
   have b5:(kd==5)=false:=by simp [h5]
   clear h1 h2 h4 h5 HFL
   go_enter Tryz.func130,Tryz.ntmps130
   go_wp2_with fail
   refine aX (fun W'=>aA w W') (aA.alloc _ _) ?_
   intro W0 k0
   refine (HALL.out W0 k0).mono ?_
   rintro e w1 ⟨rfl,k1⟩
   have K1:=hid (k0.trans k1)
   generalize (kids.any fun t=> !bS ps ms k t)=γ at HX ⊢
   clear k0 k1
   go_wp2_with fail
   go_ret
   exact ⟨aK (by rw [HX.out]),K1.out⟩
theorem lB (w:World):aA w w.drew:=⟨rfl,rfl,rfl,Nat.le_refl _,fun _ _=>rfl⟩
theorem rJ {α:Type} [Inhabited α] [DecidableEq α] (d:Array α) : ∀ (m:Nat) (j:Nat),j<m->d[j]! ∈ Lib.compactUpTo d m
 | 0,j,h=>absurd h (Nat.not_lt_zero _)
 | m+1,j,h=>by
  rw [Lib.compactUpTo_succ,List.mem_append]
  by_cases hjm:j<m
  ·exact Or.inl (rJ d m j hjm)
  ·obtain rfl:j=m:=by omega
   by_cases h0:j=0
   ·subst h0
    rw [if_pos (Lib.keeps_lt_one d 0 (by omega))]
    exact Or.inr (List.mem_singleton.2 rfl)
   ·by_cases hk:d[j]! = d[j-1]!
    ·rw [hk];exact Or.inl (rJ d j (j-1) (by omega))
    ·rw [if_pos (Lib.keeps_pos hk)]
     exact Or.inr (List.mem_singleton.2 rfl)
theorem aCn {t:NT} {f:ByteArray} (h:f∈t.flags):f.data.toList∈t.sorted:=by
 unfold NT.sorted Lib.compact
 have h1:f.data.toList∈(t.flags.map (·.data.toList)).mergeSort fun x y=>decide (x<=y):=(List.mergeSort_perm _ _).mem_iff.2 (List.mem_map.2 ⟨f,h,rfl⟩)
 generalize (t.flags.map (·.data.toList)).mergeSort (fun x y=>decide (x<=y))=M at h1 ⊢
 obtain ⟨j,hj,e⟩:=List.mem_iff_getElem.1 h1
 have:=rJ M.toArray M.toArray.size j (by simpa using hj)
 rw [← e]
 simpa [hj] using this
theorem nB {p:PK} (h:eQ p=0) : ∀ f∈p.nd.flags,aO p.fl f<p.fl.length:=by
 intro f hf
 have hn:gI p.nd p.fl=0:=by
  unfold eQ at h
  split at h
  ·cases h
  ·split at h
   ·cases h
   ·split at h
    ·rename_i hne;exact absurd h hne
    ·exact h
 unfold gI at hn
 split at hn
 ·cases hn
 ·split at hn
  ·rename_i hne;exact absurd hn hne
  ·split at hn
   ·rename_i hall
    have:=List.all_eq_true.1 hall _ (aCn hf)
    unfold hD at this
    rw [cL,Lib.containsS_iff] at this
    unfold aO
    exact List.findIdx_lt_length_of_exists ⟨f,this,by simp⟩
   ·cases hn
theorem aJq (S:Nat->Prop) (ps:List PK) (ms:List MB) (tv lv:Value) (k:Nat) (w:World) (hS : ∀ b,S b->b<w.heap.size) (hp:bC S w ps tv) (hm:bI S w ms lv) (hk:k<ms.length) (hok:wU ps ms) (hct:dA ps=0) :
  Calls Tryz.prog 79 #[.agg #[tv],lv,.int .i64 k] w fun e w'=>e=.returned (.bool (sC ps ms k))/\aA w w':=by
 have HP:=hid hp
 have HMS:=hid hm
 have HOK:=hid hok
 obtain ⟨tp,tc,rfl,hlen⟩:=hp.len
 obtain ⟨lp,lc,rfl,hllen⟩:=hm.len
 obtain ⟨mb,moff,mcap,hmv,hmS,-,hrow⟩:=hm.get hk
 cases hmv
 obtain ⟨op,oc,hc0,-,-,-⟩:=hrow k _ (List.getElem?_eq_getElem hk)
 obtain ⟨h0,h1,h2⟩:=hok k _ (List.getElem?_eq_getElem hk)
 obtain ⟨q,hq⟩ : ∃ q:Nat,ms[k].pl=q:=⟨ms[k].pl.toNat,by omega⟩
 have hqp:q<ps.length:=by omega
 have hpk:cN ps ms[k]=ps[q]:=by unfold cN;rw [hq,Int.toNat_natCast,fD ps q hqp]
 have HPK:=hid hpk
 have HFL:Hid (∀ f∈(cN ps ms[k]).nd.flags,aO (cN ps ms[k]).fl f<(cN ps ms[k]).fl.length):=nB ((dN hct).2 _ (by rw [hpk];exact List.getElem_mem hqp))
 have HX:Hid (sC ps ms k=bS ps ms k ps[q].nd):=by
  show _=_
  unfold sC
  rw [iM ms k hk,hpk]
 rw [hq] at hc0
 obtain ⟨tb,toff,tcap,htv,htb,-,htrow⟩:=hp.get hqp
 cases htv
 obtain ⟨cs,hcs,hpj⟩:=htrow q hqp
 have HFS:Hid ((cN ps ms[k]).fl=ps[q].fl):=by show _=_;rw [hpk]
 rw [hpk] at HFL
 have HFL':=HFL
 clear HFL
 generalize ps[q]=p at hpj HX HFS HFL'
 obtain ⟨kk,a,fl,nt,kids,kp,fp,kc,fc,hnd,hfl,rfl,hf,hn⟩:=hpj.spelt
 have HF:=hid hf
 have HN:=hid hn
 obtain ⟨c0,c1,c2,c3,c4,c5,c6,c7,c8,c9,c10,c11,c12,c13⟩:=eO hcs
 have hmlt:=hS mb hmS
 have htlt:=hS tb htb
 clear hcs hpj htrow hrow hp hm hok hct h0 h1 h2 hq hpk HPK hf hn
 rcases p with ⟨n,v,sl,fs,nd⟩
 simp only at hnd hfl c0 c1 c2 c3 HX HFS HFL' HF HN
 have HND:=hid hnd
 clear hnd
 go_enter Tryz.func79,Tryz.ntmps79
 go_upto_region 1 with fail
 have e1:=aC w (.cells #[.slice (some ⟨tb,toff,none⟩) ps.length tc] 24)
 refine bF (fun W'=>aA w W'/\aE w.heap.size 24 (.slice (some ⟨tb,toff,none⟩) ps.length tc) W'/\aE (w.heap.size+1) 25 (.slice (some ⟨mb,moff,none⟩) ms.length lc) W'/\aE (w.heap.size+1+1) 3 (.int .i64 k) W'/\W'.heap.size=w.heap.size+3) ⟨((aA.alloc _ _).alloc' _).alloc' _,(aE.new _ _ _).keep ((aA.alloc _ _).alloc' _) (by simp),?_,?_,by simp⟩ ?_
 ·have:=aE.new (w.alloc (.cells #[.slice (some ⟨tb,toff,none⟩) ps.length tc] 24)) 25 (.slice (some ⟨mb,moff,none⟩) ms.length lc)
  rw [e1] at this;exact this.keep (aA.alloc _ _) this.facts.2.2
 ·have:=aE.new ((w.alloc (.cells #[.slice (some ⟨tb,toff,none⟩) ps.length tc] 24)).alloc (.cells #[.slice (some ⟨mb,moff,none⟩) ms.length lc] 25)) 3 (.int .i64 k)
  rw [aC,e1] at this;exact this
 clear e1
 rintro W0 ⟨k0,v0,v1,v2,hz0⟩
 have K0:=hid k0
 have V0:=hid v0
 have V1:=hid v1
 have V2:=hid v2
 have HZ0:=hid hz0
 obtain ⟨g0,-,l0⟩:=v0.facts
 obtain ⟨g1,-,l1⟩:=v1.facts
 obtain ⟨g2,-,l2⟩:=v2.facts
 have gm:=(k0.cell (p:=⟨mb,moff+k*2,none⟩) hmlt).trans hc0
 have gt : ∀ (o:Nat) (x:Value),w.cell? ⟨tb,o,none⟩=some x->W0.cell? ⟨tb,o,none⟩=some x:=fun o x h=>(k0.cell (p:=⟨tb,o,none⟩) htlt).trans h
 have d0:=gt _ _ c0
 have d1:=gt _ _ c1
 have d2:=gt _ _ c2
 have d3:=gt _ _ c3
 have d4:=gt _ _ c4
 have d5:=gt _ _ c5
 have d6:=gt _ _ c6
 have d7:=gt _ _ c7
 have d8:=gt _ _ c8
 have d9:=gt _ _ c9
 have d10:=gt _ _ c10
 have d11:=gt _ _ c11
 have d12:=gt _ _ c12
 have d13:=gt _ _ c13
 have hm0:mb<W0.heap.size:=Nat.lt_of_lt_of_le hmlt k0.size
 have ht0:tb<W0.heap.size:=Nat.lt_of_lt_of_le htlt k0.size
 clear c0 c1 c2 c3 c4 c5 c6 c7 c8 c9 c10 c11 c12 c13 gt k0 v0 v1 v2 hz0 hc0
 go_region
 clear d0 d1 d2 d3 d4 d5 d6 d7 d8 d9 d10 d11 d12 d13 g0 g1 g2 gm
 go_upto_region 2 with fail
 refine bF (fun W'=>aA W0 W'/\aN W0.heap.size #[.string n,.int .i64 v,.int .i64 sl,.slice fp fs.length fc,.int .i64 kk,.string a.n,.int .i64 a.op,.int .i64 a.v,.int .i64 a.sl,.string a.f,.bool a.on,.string fl,.bool nt,.slice kp kids.length kc] W'/\W'.heap.size=W0.heap.size+1) ⟨(aA.alloc _ _).trans (lB _),(aN.new _ _ _).keep (lB _) (by rw [aC];omega),by rw [← aC W0 (.cells #[.string n,.int .i64 v,.int .i64 sl,.slice fp fs.length fc,.int .i64 kk,.string a.n,.int .i64 a.op,.int .i64 a.v,.int .i64 a.sl,.string a.f,.bool a.on,.string fl,.bool nt,.slice kp kids.length kc] 76)];rfl⟩ ?_
 rintro W1 ⟨k1,b1,hz1⟩
 have K1:=hid k1
 have B1:=hid b1
 have HZ1:=hid hz1
 clear k1 b1 hz1
 go_upto_region 3 with fail
 refine bF (fun W'=>aA W1 W'/\aE W1.heap.size 111 .nilFunc W'/\W'.heap.size=W1.heap.size+1) ⟨aA.alloc _ _,aE.new _ _ _,aC _ _⟩ ?_
 rintro W2 ⟨k2,f2,hz2⟩
 have K2:=hid k2
 have F2:=hid f2
 have HZ2:=hid hz2
 clear k2 f2 hz2
 have hmf : ∀ (fn:Fn) (first cap:Array Value) (w:World),(Instr.makeFunc fn first cap).run Tryz.prog w=.ok (.func fn first cap) w:=fun _ _ _ _=>rfl
 go_upto_region 4 with fail
 refine bF (fun W'=>aA W2 W'/\aE W2.heap.size 111 (.func (.func 129) #[] #[.pointer (some ⟨W1.heap.size,0,none⟩)]) W') ⟨aA.alloc _ _,aE.new _ _ _⟩ ?_
 rintro W3 ⟨k3,f3⟩
 have hb0:W0.heap.size=w.heap.size+3:=HZ0.out
 have hb1:W1.heap.size=W0.heap.size+1:=HZ1.out
 have hb2:W2.heap.size=W1.heap.size+1:=HZ2.out
 have k13:aA W1 W3:=K2.out.trans k3
 have k03:aA W0 W3:=K1.out.trans k13
 have kw3:aA w W3:=K0.out.trans k03
 have f23:=F2.out.keep k3 F2.out.facts.2.2
 have HFN:Hid (lI S ps ms k (some ⟨tb,toff,none⟩) (some ⟨mb,moff,none⟩) tc lc w.heap.size (w.heap.size+1) (w.heap.size+1+1) W1.heap.size W0.heap.size W2.heap.size #[.string n,.int .i64 v,.int .i64 sl,.slice fp fs.length fc,.int .i64 kk,.string a.n,.int .i64 a.op,.int .i64 a.v,.int .i64 a.sl,.string a.f,.bool a.on,.string fl,.bool nt,.slice kp kids.length kc] (W3.setCell ⟨W1.heap.size,0,none⟩ (.func (.func 130) #[] #[.pointer (some ⟨w.heap.size,0,none⟩),.pointer (some ⟨w.heap.size+1,0,none⟩),.pointer (some ⟨w.heap.size+1+1,0,none⟩),.pointer (some ⟨W1.heap.size,0,none⟩),.pointer (some ⟨W0.heap.size,0,none⟩),.pointer (some ⟨W2.heap.size,0,none⟩)]))):=by
  have ap:=gX W1.heap.size W3 (.func (.func 130) #[] #[.pointer (some ⟨w.heap.size,0,none⟩),.pointer (some ⟨w.heap.size+1,0,none⟩),.pointer (some ⟨w.heap.size+1+1,0,none⟩),.pointer (some ⟨W1.heap.size,0,none⟩),.pointer (some ⟨W0.heap.size,0,none⟩),.pointer (some ⟨W2.heap.size,0,none⟩)])
  have hlow : ∀ p:Addr,S p.block->(W3.setCell ⟨W1.heap.size,0,none⟩ (.func (.func 130) #[] #[.pointer (some ⟨w.heap.size,0,none⟩),.pointer (some ⟨w.heap.size+1,0,none⟩),.pointer (some ⟨w.heap.size+1+1,0,none⟩),.pointer (some ⟨W1.heap.size,0,none⟩),.pointer (some ⟨W0.heap.size,0,none⟩),.pointer (some ⟨W2.heap.size,0,none⟩)])).cell? p=W3.cell? p:=fun p hp=>ap.cell p (Nat.lt_of_lt_of_le (hS _ hp) kw3.size) (fun e=>by have e':p.block=W1.heap.size:=e;have:=hS _ hp;omega)
  exact ⟨((V0.out.keep k03 V0.out.facts.2.2)).apart ap (by omega),((V1.out.keep k03 V1.out.facts.2.2)).apart ap (by omega),((V2.out.keep k03 V2.out.facts.2.2)).apart ap (by omega),f23.set _,(B1.out.keep k13 B1.out.1).apart ap (by omega),f3.apart ap (by omega),(HP.out.keep hS kw3).mono hlow (fun _ h=>h),(HMS.out.keep hS kw3).mono hlow (fun _ h=>h),fun b hb=>Nat.lt_of_lt_of_le (Nat.lt_of_lt_of_le (hS b hb) kw3.size) ap.size⟩
 have KFN:Hid (aA w (W3.setCell ⟨W1.heap.size,0,none⟩ (.func (.func 130) #[] #[.pointer (some ⟨w.heap.size,0,none⟩),.pointer (some ⟨w.heap.size+1,0,none⟩),.pointer (some ⟨w.heap.size+1+1,0,none⟩),.pointer (some ⟨W1.heap.size,0,none⟩),.pointer (some ⟨W0.heap.size,0,none⟩),.pointer (some ⟨W2.heap.size,0,none⟩)]))):=Below.trans kw3 ((gX W1.heap.size W3 _).below kw3.size fun b hb e=>by have:b=W1.heap.size:=e;omega)
 obtain ⟨g3,z3,l3⟩:=f23.facts
 have hent:=kC
 clear k3 f3 k13 k03 kw3 f23 K0 K1 K2 V0 V1 V2 F2 B1 hb0 hb1 hb2
 go_upto_region 5 with fail
 refine bF (fun W'=>lI S ps ms k (some ⟨tb,toff,none⟩) (some ⟨mb,moff,none⟩) tc lc w.heap.size (w.heap.size+1) (w.heap.size+1+1) W1.heap.size W0.heap.size W2.heap.size #[.string n,.int .i64 v,.int .i64 sl,.slice fp fs.length fc,.int .i64 kk,.string a.n,.int .i64 a.op,.int .i64 a.v,.int .i64 a.sl,.string a.f,.bool a.on,.string fl,.bool nt,.slice kp kids.length kc] W'/\aA w W') ?_ ?_
 exact ⟨HFN.out,KFN.out⟩
 rintro W4 ⟨h4,k4⟩
 have H4:=hid h4
 have K4:=hid k4
 obtain ⟨g4,-,l4⟩:=h4.self.facts
 have g5:=h4.pack.2
 have l5:=h4.pack.1
 clear h4 k4 HFN KFN g3 z3 l3
 go_wp2_with fail
 have hfs:=HFS.out
 have hcall:=aFg (S:=S) (fp:=fp) (fc:=fc) hk HOK.out (pcs:=#[.string n,.int .i64 v,.int .i64 sl,.slice fp fs.length fc,.int .i64 kk,.string a.n,.int .i64 a.op,.int .i64 a.v,.int .i64 a.sl,.string a.f,.bool a.on,.string fl,.bool nt,.slice kp kids.length kc]) (by rw [hfs];rfl) nd.size nd (Nat.le_refl _) (by rw [hfs];exact HFL'.out) _ W4 H4.out (by rw [hfs];exact HF.out.keep hS K4.out) (HN.out.keep hS K4.out)
 refine Calls.mono hcall ?_
 rintro e w5 ⟨rfl,k5⟩
 have K5:=hid (K4.out.trans k5)
 clear k5 g4 g5 hcall hfs
 go_wp2_with fail
 go_ret
 exact ⟨aK HX.out.symm,K5.out⟩
end Go.Proofs.YthaaaecmeafofaaGreatDoor
