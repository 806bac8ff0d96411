/- Steps of the proof: EncRowsP, EncLitsP, SatKnown, SatAns, MapP, EncMem, EncClause, EncSome, Filled, EncAll. -/
import Derived.Test.YtonlloiemgdfkaaGreatDoorRu18
import Derived.Test.YtonlloiemgdfkaaGreatDoorRu13
import Derived.Maps.Own
import Derived.Maps.OwnSet
import Derived.WideKeyPair
import Derived.Test.YtonlloiemgdfkaaGreatDoorRu17
import Derived.Test.YtonlloiemgdfkaaGreatDoorRu16
import Derived.Deep.RegionLaw
import Derived.Laws.AppendOwnNone
import Derived.Laws.OwnMore
import Derived.Deep.LoopGhost
import Derived.OwnWalk
import Derived.BigQuiet
import Derived.Deep.RegionHeld3
set_option maxHeartbeats 16000000
set_option maxRecDepth 100000
namespace Go.Proofs.YtonlloiemgdfkaaGreatDoor.Cn
def CT.t1 (c:CT):Nat->List Int
 | 0=>List.replicate c.nf.length 0
 | j+1=>(c.t1 j).set (c.ins.getD j 0) (-((j:Int)+1))
theorem CT.t1_len (c:CT) : ∀ j,(c.t1 j).length=c.nf.length
 | 0=>by simp [CT.t1]
 | j+1=>by rw [CT.t1,List.length_set,CT.t1_len c j]
theorem CT.t1_get {c:CT} (h:c.Ok) : ∀ j,j<=c.ins.length->∀ i,(c.t1 j).getD i 0=if (c.ins.take j).contains i=true then -((c.ins.idxOf i:Int)+1) else 0
 | 0,_,i=>by
  rw [CT.t1,List.getD_eq_getElem?_getD,List.getElem?_replicate]
  split<;>simp
 | j+1,hj,i=>by
  have hin:c.ins[j]? = some c.ins[j]:=List.getElem?_eq_getElem (by omega)
  have hg:c.ins.getD j 0=c.ins[j]:=by rw [List.getD_eq_getElem?_getD,hin];rfl
  rw [CT.t1,hg,List.take_succ_eq_append_getElem (by omega)]
  have hlt:=h.lt c.ins[j] (List.getElem_mem _)
  by_cases e:c.ins[j]=i
  ·subst e
   rw [List.getD_eq_getElem?_getD,List.getElem?_set_self (by rw [CT.t1_len];exact hlt),sT (tP h.up) hin,if_pos (by rw [List.contains_eq_mem,decide_eq_true_eq];exact List.mem_append_right _ List.mem_cons_self)]
   rfl
  ·have e2:(c.ins.take j ++ [c.ins[j]]).contains i=(c.ins.take j).contains i:=by
    rw [Bool.eq_iff_iff]
    simp only [List.contains_eq_mem,List.mem_append,List.mem_singleton,decide_eq_true_eq]
    constructor
    ·rintro (h | h)
     ·exact h
     ·exact absurd h.symm e
    ·exact .inl
   rw [List.getD_eq_getElem?_getD,List.getElem?_set_ne e,← List.getD_eq_getElem?_getD,CT.t1_get h j (by omega) i,e2]
def CT.t2 (c:CT):Nat->List Int × Int
 | 0=>(c.t1 c.ins.length,(c.ins.length:Int))
 | k+1=>if (c.t2 k).1.getD k 0=0 then ((c.t2 k).1.set k ((c.t2 k).2+1),(c.t2 k).2+1) else c.t2 k
theorem CT.t2_len (c:CT) : ∀ k,(c.t2 k).1.length=c.nf.length
 | 0=>CT.t1_len c _
 | k+1=>by
  rw [CT.t2]
  split
  ·rw [List.length_set,CT.t2_len c k]
  ·exact CT.t2_len c k
theorem aCt (p:Nat->Bool) {n k:Nat} (hk:k<n) (hp:p k=true):((List.range n).filter p).idxOf k=((List.range k).filter p).length:=by
 have hsp:List.range n=List.range k++(k :: List.range' (k+1) (n-k-1)):=by
  rw [List.range_eq_range',List.range_eq_range',← List.range'_succ,show n-k-1+1=n-k by omega]
  have:= @List.range'_append_1 0 k (n-k)
  rw [Nat.zero_add,show k+(n-k)=n by omega] at this
  exact this.symm
 rw [hsp,List.filter_append,List.filter_cons_of_pos hp,List.idxOf_append,if_neg (fun h=>by have:=List.mem_range.1 (List.mem_filter.1 h).1;omega),List.idxOf_cons_self]
 omega
theorem CT.tk_other {c:CT} {k:Nat} (hk:k<c.nf.length) (hn:c.ins.contains k=false):c.tkL k=((c.ins.length+((List.range k).filter fun i=> !c.ins.contains i).length:Nat):Int)+1:=by
 unfold CT.tkL CT.order sg
 have h1:k ∉ c.ins:=by simpa using hn
 rw [hn,Bool.not_false,if_pos rfl,List.idxOf_append,if_neg h1,aCt (fun i=> !c.ins.contains i) hk (by rw [hn];rfl)]
 omega
theorem CT.tk_ins {c:CT} {k:Nat} (hn:c.ins.contains k=true):c.tkL k = -((c.ins.idxOf k:Int)+1):=by
 unfold CT.tkL CT.order sg
 have h1:k∈c.ins:=by simpa using hn
 rw [hn,Bool.not_true,if_neg (by decide),List.idxOf_append,if_pos h1]
theorem CT.t2_get {c:CT} (h:c.Ok) : ∀ k,k<=c.nf.length->(c.t2 k).2=((c.ins.length+((List.range k).filter fun i=> !c.ins.contains i).length:Nat):Int)/\∀ i,i<c.nf.length->(c.t2 k).1.getD i 0=if i<k∨c.ins.contains i=true then c.tkL i else 0
 | 0,_=>⟨by simp [CT.t2],fun i hi=>by
   rw [CT.t2]
   show (c.t1 c.ins.length).getD i 0=_
   rw [CT.t1_get h _ (Nat.le_refl _),List.take_length]
   by_cases e:c.ins.contains i=true
   ·rw [if_pos e,if_pos (.inr e),CT.tk_ins e]
   ·rw [if_neg e,if_neg (fun h=>h.elim (by omega) e)]⟩
 | k+1,hk=>by
  obtain ⟨h1,h2⟩:=CT.t2_get h k (by omega)
  have hgk:=h2 k (by omega)
  rw [CT.t2,List.range_succ,List.filter_append]
  cases e:c.ins.contains k with
  | true=>
   rw [e,if_pos (.inr rfl)] at hgk
   have hne:c.tkL k≠0:=(CT.tk_lit h (by omega)).1
   rw [if_neg (by rw [hgk];exact hne)]
   refine ⟨by rw [h1,List.filter_cons_of_neg (by simpa using e)];simp,fun i hi=> ?_⟩
   rw [h2 i hi]
   by_cases hik:i=k
   ·subst hik;rw [if_pos (.inr e),if_pos (.inr e)]
   ·by_cases h3:i<k∨c.ins.contains i=true
    ·rw [if_pos h3,if_pos (h3.imp (by omega) id)]
    ·rw [if_neg h3,if_neg (fun h=>h3 (h.imp (by omega) id))]
  | false=>
   rw [e,if_neg (by simp)] at hgk
   rw [if_pos hgk]
   have h5:=CT.tk_other (c:=c) (k:=k) (by omega) e
   refine ⟨by rw [h1,List.filter_cons_of_pos (by simp only [e,Bool.not_false])];simp;omega,fun i hi=> ?_⟩
   show ((c.t2 k).1.set k ((c.t2 k).2+1)).getD i 0=_
   by_cases hik:k=i
   ·subst hik
    rw [List.getD_eq_getElem?_getD,List.getElem?_set_self (by rw [CT.t2_len];omega),h1,if_pos (.inl (by omega)),h5]
    rfl
   ·rw [List.getD_eq_getElem?_getD,List.getElem?_set_ne hik,← List.getD_eq_getElem?_getD,h2 i hi]
    by_cases h3:i<k∨c.ins.contains i=true
    ·rw [if_pos h3,if_pos (h3.imp (by omega) id)]
    ·rw [if_neg h3,if_neg (fun h=>h3 (h.imp (by omega) id))]
def CT.tks (c:CT):List Int:=(List.range c.nf.length).map c.tkL
theorem CT.tks_get (c:CT) {i:Nat} (hi:i<c.nf.length):c.tks[i]? = some (c.tkL i):=by
 unfold CT.tks
 rw [List.getElem?_map,List.getElem?_range hi];rfl
theorem CT.tks_len (c:CT):c.tks.length=c.nf.length:=by simp [CT.tks]
theorem CT.t2_done {c:CT} (h:c.Ok):c.t2 c.nf.length=(c.tks,(c.nf.length:Int)):=by
 obtain ⟨h1,h2⟩:=CT.t2_get h c.nf.length (Nat.le_refl _)
 refine Prod.ext ?_ ?_
 ·refine List.ext_getElem? fun i=> ?_
  by_cases hi:i<c.nf.length
  ·have:=h2 i hi
   rw [if_pos (.inl hi),List.getD_eq_getElem?_getD,List.getElem?_eq_getElem (by rw [CT.t2_len];exact hi)] at this
   rw [CT.tks_get c hi,List.getElem?_eq_getElem (by rw [CT.t2_len];exact hi)]
   exact congrArg some this
  ·rw [List.getElem?_eq_none (by rw [CT.t2_len];omega),List.getElem?_eq_none (by rw [CT.tks_len];omega)]
 ·rw [h1]
  have:=CT.order_len h
  unfold CT.order at this
  rw [List.length_append] at this
  show _=(c.nf.length:Int)
  omega
theorem CT.t2_le {c:CT} (h:c.Ok) {k:Nat} (hk:k<=c.nf.length):0<=(c.t2 k).2/\(c.t2 k).2<=2*c.nf.length:=by
 obtain ⟨h1,-⟩:=CT.t2_get h k hk
 have h2:=List.length_filter_le (fun i=> !c.ins.contains i) (List.range k)
 rw [List.length_range] at h2
 have h3:=CT.order_len h
 unfold CT.order at h3
 rw [List.length_append] at h3
 omega
def CT.f3 (c:CT) (i k:Nat) (x y:Int):Int:=if 0<=x/\0<=y/\y<c.nf.getD x.toNat 0/\(x<i∨x=i/\y<k) then ((c.base x.toNat+y.toNat:Nat):Int)+1 else 0
theorem CT.f3_zero (c:CT):c.f3 0 0=fun _ _=>0:=by
 funext x y
 unfold CT.f3
 rw [if_neg (by omega)]
theorem CT.f3_put (c:CT) {i k:Nat} (hk:k<c.nf.getD i 0):fD (c.f3 i k) (i:Int) (k:Int) (((c.base i+k:Nat):Int)+1)=c.f3 i (k+1):=by
 funext x y
 unfold fD
 by_cases e:x=(i:Int)/\y=(k:Int)
 ·obtain ⟨rfl,rfl⟩:=e
  rw [if_pos ⟨rfl,rfl⟩,CT.f3,if_pos ⟨by omega,by omega,by rw [Int.toNat_natCast];omega,by omega⟩,Int.toNat_natCast,Int.toNat_natCast]
 ·rw [if_neg e]
  unfold CT.f3
  by_cases h:0<=x/\0<=y/\y<c.nf.getD x.toNat 0/\(x<i∨x=i/\y<k)
  ·rw [if_pos h,if_pos ⟨h.1,h.2.1,h.2.2.1,by omega⟩]
  ·rw [if_neg h,if_neg (fun g=>h ⟨g.1,g.2.1,g.2.2.1,by omega⟩)]
theorem CT.f3_next (c:CT) {i k:Nat} (hk:k=c.nf.getD i 0):c.f3 i k=c.f3 (i+1) 0:=by
 subst hk
 funext x y
 unfold CT.f3
 by_cases h:0<=x/\0<=y/\y<c.nf.getD x.toNat 0/\(x<i∨x=i/\y<c.nf.getD i 0)
 ·rw [if_pos h,if_pos ⟨h.1,h.2.1,h.2.2.1,by omega⟩]
 ·rw [if_neg h,if_neg (fun g=>h ⟨g.1,g.2.1,g.2.2.1,by
   by_cases hx:x=i
   ·right
    have:=g.2.2.1
    rw [hx,Int.toNat_natCast] at this
    exact ⟨hx,this⟩
   ·left;omega⟩)]
def CT.f4 (c:CT) (on:List (Int × Int)) (j:Nat) (x y:Int):Int:=if (on.take j).contains (x,y)=true then -(c.f3 c.nf.length 0 x y) else c.f3 c.nf.length 0 x y
theorem CT.f4_zero (c:CT) (on:List (Int × Int)):c.f4 on 0=c.f3 c.nf.length 0:=by
 funext x y
 simp [CT.f4]
theorem CT.f4_put (c:CT) {on:List (Int × Int)} (hn:on.Nodup) {j:Nat} (hj:j<on.length):fD (c.f4 on j) on[j].1 on[j].2 (-(c.f4 on j on[j].1 on[j].2))=c.f4 on (j+1):=by
 have hnot:(on.take j).contains on[j]=false:=by
  have:on[j] ∉ on.take j:=fun hm=>by
   obtain ⟨i,hi,e⟩:=List.getElem_of_mem hm
   rw [List.getElem_take] at e
   rw [List.length_take] at hi
   rw [List.nodup_iff_pairwise_ne,List.pairwise_iff_getElem] at hn
   exact hn i j (by omega) hj (by omega) e
  simpa using this
 funext x y
 unfold fD
 by_cases e:x=on[j].1/\y=on[j].2
 ·rw [if_pos e]
  obtain ⟨rfl,rfl⟩:=e
  have h2:(on.take (j+1)).contains (on[j].1,on[j].2)=true:=by rw [List.take_succ_eq_append_getElem hj,List.contains_eq_mem,decide_eq_true_eq];exact List.mem_append_right _ List.mem_cons_self
  unfold CT.f4
  rw [if_pos h2,if_neg (by rw [show (on[j].1,on[j].2)=on[j] from rfl,hnot];decide)]
 ·rw [if_neg e]
  unfold CT.f4
  have h2:(on.take (j+1)).contains (x,y)=(on.take j).contains (x,y):=by
   rw [List.take_succ_eq_append_getElem hj,Bool.eq_iff_iff]
   simp only [List.contains_eq_mem,List.mem_append,List.mem_singleton,decide_eq_true_eq]
   constructor
   ·rintro (h | h)
    ·exact h
    ·exact absurd ⟨congrArg Prod.fst h,congrArg Prod.snd h⟩ e
   ·exact .inl
  rw [h2]
def CT.fgs (c:CT) (on:List (Int × Int)):Int->Int->Int:=c.f4 on on.length
theorem CT.fgs_get {c:CT} {on:List (Int × Int)} (hc : ∀ i k:Nat,c.on i k=on.contains ((i:Int),(k:Int))) {i k:Nat} (hi:i<c.nf.length) (hk:k<c.nf.getD i 0):c.fgs on (i:Int) (k:Int)=c.fgL i k:=by
 unfold CT.fgs CT.f4 CT.fgL sg
 rw [List.take_length,hc i k]
 have h3:c.f3 c.nf.length 0 (i:Int) (k:Int)=((c.base i+k:Nat):Int)+1:=by
  rw [CT.f3,if_pos ⟨by omega,by omega,by rw [Int.toNat_natCast];omega,by omega⟩,Int.toNat_natCast,Int.toNat_natCast]
 rw [h3]
 cases on.contains ((i:Int),(k:Int))<;>simp
theorem CT.f3_le (c:CT) (i k:Nat) (x y:Int) (hi:i<=c.nf.length) (hk:0<k->i<c.nf.length):0<=c.f3 i k x y/\c.f3 i k x y<=c.many:=by
 unfold CT.f3
 by_cases h:0<=x/\0<=y/\y<c.nf.getD x.toNat 0/\(x<i∨x=i/\y<k)
 ·rw [if_pos h]
  have:=CT.fg_lit c (i:=x.toNat) (k:=y.toNat) (by omega) (by omega)
  unfold CT.fgL sg Lit at this
  have h2:(((c.base x.toNat+y.toNat:Nat):Int)+1).natAbs<=c.many:=by
   split at this
   ·exact this.2
   ·have:=this.2;omega
  omega
 ·rw [if_neg h];omega
theorem CT.f4_le (c:CT) (on:List (Int × Int)) (j:Nat) (x y:Int):(c.f4 on j x y).natAbs<=c.many:=by
 have:=CT.f3_le c c.nf.length 0 x y (Nat.le_refl _) (by omega)
 unfold CT.f4
 split<;>omega
theorem aDr (x:Int) (b:Bool):(sg x b).natAbs=x.natAbs:=by unfold sg;split<;>omega
theorem nH : ∀ (l:List Nat) (i j:Nat),i<=j->(l.take i).sum<=(l.take j).sum
 | [],i,j,_=>by simp
 | a :: l,0,j,_=>by simp
 | a :: l,i+1,0,h=>by omega
 | a :: l,i+1,j+1,h=>by
  have:=nH l i j (by omega)
  simp
  omega
theorem CT.base_lt_many (c:CT) {i k:Nat} (hi:i<c.nf.length) (hk:k<c.nf.getD i 0):c.base i+k<c.many:=by
 have:=mG c.nf i k hi hk
 unfold CT.base CT.many
 omega
theorem CT.idx_lt {c:CT} (h:c.Ok) {i:Nat} (hi:i<c.nf.length):c.order.idxOf i<c.nf.length:=by
 have:=List.idxOf_lt_length_iff.2 ((CT.order_mem h i).2 hi)
 rwa [CT.order_len h] at this
end Go.Proofs.YtonlloiemgdfkaaGreatDoor.Cn
namespace Go.Proofs.YtonlloiemgdfkaaGreatDoor.Cn
theorem aMc : ∀ {a b:List Nat},a.Pairwise (· < ·)->b.Pairwise (· < ·)->(∀ x,x∈a↔x∈b)->a=b
 | [],[],_,_,_=>rfl
 | [],y :: b,_,_,h=>absurd ((h y).2 List.mem_cons_self) (by simp)
 | x :: a,[],_,_,h=>absurd ((h x).1 List.mem_cons_self) (by simp)
 | x :: a,y :: b,ha,hb,h=>by
  obtain ⟨ha1,ha2⟩:=List.pairwise_cons.1 ha
  obtain ⟨hb1,hb2⟩:=List.pairwise_cons.1 hb
  have hxy:x=y:=by
   rcases List.mem_cons.1 ((h x).1 List.mem_cons_self) with e | e
   ·exact e
   ·rcases List.mem_cons.1 ((h y).2 List.mem_cons_self) with e' | e'
    ·exact e'.symm
    ·have:=hb1 x e;have:=ha1 y e';omega
  subst hxy
  congr 1
  refine aMc ha2 hb2 fun z=>⟨fun hz=> ?_,fun hz=> ?_⟩
  ·rcases List.mem_cons.1 ((h z).1 (List.mem_cons_of_mem _ hz)) with e | e
   ·subst e;exact absurd (ha1 z hz) (Nat.lt_irrefl _)
   ·exact e
  ·rcases List.mem_cons.1 ((h z).2 (List.mem_cons_of_mem _ hz)) with e | e
   ·subst e;exact absurd (hb1 z hz) (Nat.lt_irrefl _)
   ·exact e
structure lF (n:Nat) (F:List (List Int)) (A:List Int) (l:List Int):Prop where
 up:l.Pairwise fun x y=>x.natAbs<y.natAbs
 mem : ∀ x,x∈l↔Der F A x
 lit:aK n l
theorem zD {n:Nat} {F:List (List Int)} {A K L:List Int} (h:yU n F A K L) (hL : ∀ x,x∈L↔Der F A x):lF n F A (dL K):=by
 refine ⟨?_,fun x=>(zY h x).trans (hL x),fun x hx=>h.lits ((zY h x).1 hx)⟩
 unfold dL
 rw [List.pairwise_filter,List.pairwise_iff_getElem]
 intro i j hi hj hij h1 h2
 have hx:K[i]≠0:=by simpa using h1
 have hy:K[j]≠0:=by simpa using h2
 have e1:K.getD i 0=K[i]:=by simp [List.getD_eq_getElem?_getD,hi]
 have e2:K.getD j 0=K[j]:=by simp [List.getD_eq_getElem?_getD,hj]
 have a:=h.own i hi
 have b:=h.own j hj
 rw [e1] at a
 rw [e2] at b
 have a:=a.resolve_left hx
 have b:=b.resolve_left hy
 omega
open Classical in
theorem lF.vars {n:Nat} {F:List (List Int)} {A l:List Int} (h:lF n F A l):l.map Int.natAbs=(List.range' 1 n).filter fun k=>decide (Kn F A k):=by
 refine aMc (List.pairwise_map.2 h.up) (List.Pairwise.filter _ (List.pairwise_lt_range' ..)) fun k=> ?_
 rw [List.mem_map,List.mem_filter,List.mem_range'_1]
 constructor
 ·rintro ⟨x,hx,rfl⟩
  have hl:=h.lit x hx
  have hd:=(h.mem x).1 hx
  refine ⟨⟨by have:=hl.1;omega,by have:=hl.2;omega⟩,decide_eq_true ?_⟩
  rcases Int.lt_or_gt_of_ne hl.1 with h0 | h0
  ·exact .inr (by rwa [show -(x.natAbs:Int)=x by omega])
  ·exact .inl (by rwa [show (x.natAbs:Int)=x by omega])
 ·rintro ⟨-,hk⟩
  rcases of_decide_eq_true hk with hd | hd
  ·exact ⟨_,(h.mem _).2 hd,by simp⟩
  ·exact ⟨_,(h.mem _).2 hd,by simp⟩
theorem lF.full {n:Nat} {F:List (List Int)} {A l:List Int} (h:lF n F A l):l.length=n↔gT n F A=none:=by
 classical
 have hv:=congrArg List.length h.vars
 rw [List.length_map] at hv
 constructor
 ·intro e
  refine tH fun k h1 h2=> ?_
  have e2:((List.range' 1 n).filter fun k=>decide (Kn F A k)).length=(List.range' 1 n).length:=by rw [← hv,e];simp
  have:=(List.length_filter_eq_length_iff.1 e2) k (List.mem_range'_1.2 ⟨h1,by omega⟩)
  exact of_decide_eq_true this
 ·intro e
  have hall:=gY e
  have e2:((List.range' 1 n).filter fun k=>decide (Kn F A k)).length=(List.range' 1 n).length:=List.length_filter_eq_length_iff.2 fun k hk=>by
   have:=List.mem_range'_1.1 hk
   exact decide_eq_true (hall k this.1 (by omega))
  rw [hv,e2];simp
theorem lF.short {n:Nat} {F:List (List Int)} {A l:List Int} (h:lF n F A l):l.length<=n:=by
 classical
 have hv:=congrArg List.length h.vars
 rw [List.length_map] at hv
 have:=List.length_filter_le (fun k=>decide (Kn F A k)) (List.range' 1 n)
 simp at this;omega
theorem lF.model {n:Nat} {F:List (List Int)} {A l:List Int} (h:lF n F A l) (hf : ¬ bF F A) (hl:gT n F A=none):l.map (fun x=>decide (0<x))=rI n F A:=by
 classical
 have hlen:=h.full.2 hl
 have hall:=gY hl
 have hv:l.map Int.natAbs=List.range' 1 n:=by
  rw [h.vars]
  refine List.filter_eq_self.2 fun k hk=> ?_
  have:=List.mem_range'_1.1 hk
  exact decide_eq_true (hall k this.1 (by omega))
 refine oP (by rw [List.length_map,jH,hlen]) fun i hi=> ?_
 rw [List.length_map] at hi
 rw [tK (by omega),List.getD_eq_getElem?_getD,List.getElem?_map,List.getElem?_eq_getElem hi]
 simp only [Option.map_some,Option.getD_some]
 have hn:(l[i]).natAbs=i+1:=by
  have:=congrArg (fun q=>q[i]?) hv
  simp only [List.getElem?_map,List.getElem?_eq_getElem hi,Option.map_some] at this
  rw [List.getElem?_range' (by omega)] at this
  have:=Option.some.inj this
  omega
 have hd:=(h.mem _).1 (List.getElem_mem hi)
 generalize l[i]=x at hn hd
 by_cases hx:0<x
 ·have:((i+1:Nat):Int)=x:=by omega
  rw [this];simp [hx,hd]
 ·have e:((i+1:Nat):Int) = -x:=by omega
  rw [e]
  have hno : ¬ Der F A (-x):=fun h'=>hf (.inl ⟨x,hd,h'⟩)
  simp [hx,hno]
theorem lF.gap {n:Nat} {F:List (List Int)} {A l:List Int} {k:Nat} (h:lF n F A l) (hl:gT n F A=some k):(∀ (i:Nat) x,i<k-1->l[i]? = some x->x.natAbs=i+1)/\k-1<=l.length/\∀ x,l[k-1]? = some x->x.natAbs≠k:=by
 classical
 obtain ⟨h1,h2,h3,h4⟩:=fA hl
 have hv:=h.vars
 have hsp:List.range' 1 n=List.range' 1 (k-1)++k :: List.range' (k+1) (n-k):=by
  have e1:= @List.range'_append_1 1 (k-1) (n-k+1)
  rw [show k-1+(n-k+1)=n by omega,List.range'_succ,show 1+(k-1)=k by omega] at e1
  exact e1.symm
 rw [hsp,List.filter_append,List.filter_cons,if_neg (by simpa using h3)] at hv
 have hfull:(List.range' 1 (k-1)).filter (fun k=>decide (Kn F A k))=List.range' 1 (k-1):=List.filter_eq_self.2 fun j hj=>by
  have:=List.mem_range'_1.1 hj
  exact decide_eq_true (h4 j this.1 (by omega))
 rw [hfull] at hv
 have hget : ∀ i:Nat,(l[i]?).map Int.natAbs=(List.range' 1 (k-1)++(List.range' (k+1) (n-k)).filter fun k=>decide (Kn F A k))[i]? :=fun i=>by rw [← hv,List.getElem?_map]
 have hlen:=congrArg List.length hv
 rw [List.length_map,List.length_append,List.length_range'] at hlen
 refine ⟨fun i x hi hx=> ?_,by omega,fun x hx e=> ?_⟩
 ·have:=hget i
  rw [hx,List.getElem?_append_left (by simpa using hi),List.getElem?_range' hi] at this
  have:=Option.some.inj this
  omega
 ·have:=hget (k-1)
  rw [hx,List.getElem?_append_right (by simp)] at this
  have hm:=List.mem_of_getElem? this.symm
  have:=List.mem_range'_1.1 (List.mem_filter.1 hm).1
  omega
end Go.Proofs.YtonlloiemgdfkaaGreatDoor.Cn
namespace Go.Proofs.YtonlloiemgdfkaaGreatDoor.Cn
open Go.RowKit Go.Lib
structure Ans where
 er:Int
 m:List Bool
 P:List (List Int)
def eY (r:aIu):Ans:=match r.o with
 | .out=>⟨8,[],[]⟩
 | .model m=>⟨0,m,[]⟩
 | .closed=>⟨0,[],r.P⟩
noncomputable def pI (vars:Int) (F:List (List Int)) (steps:Int):Ans:=
 if gP vars F≠0 then ⟨gP vars F,[],[]⟩ else if steps<1∨40000<steps then ⟨3,[],[]⟩ else eY (fR vars.toNat F steps.toNat)
def aPu (n:Nat) (F:List (List Int)) (a:Ans):Prop:=
 (a.P = []/\Mod n F a.m/\∀ o,Mod n F o->nE a.m o)∨(a.P ≠ []/\a.m = []/\aIt F a.P/\a.P.length<=40000/\(∀ c∈a.P,c.length<=60/\aK n c)/\∀ o,¬ Mod n F o)
theorem tW {n:Nat} {F:List (List Int)} {steps:Int} (h:gP n F=0) (h1:1<=steps) (h2:steps<=40000):pI n F steps=eY (fR n F steps.toNat):=by
 unfold pI
 rw [if_neg (by simp [h]),if_neg (by omega),Int.toNat_natCast]
theorem aNy {vars:Int} {F:List (List Int)} {steps:Int} (h:(pI vars F steps).er=0) : ∃ n:Nat,vars=n/\n<=400/\F.length<=4000/\(∀ c∈F,c.length<=60/\aK n c)/\gP vars F=0/\aPu n F (pI vars F steps):=by
 by_cases hf:gP vars F=0
 ·obtain ⟨n,rfl,h1,h2,h3⟩:=sO hf
  refine ⟨n,rfl,h1,h2,h3,hf,?_⟩
  by_cases hs:steps<1∨40000<steps
  ·unfold pI at h
   rw [if_neg (by simp [hf]),if_pos hs] at h
   cases h
  ·rw [tW hf (by omega) (by omega)] at h ⊢
   have hF : ∀ c∈F,aK n c:=fun c hc=>(h3 c hc).2
   cases e:(fR n F steps.toNat).o with
   | out=>rw [eY,e] at h;cases h
   | model m=>
    rw [eY,e]
    exact .inl ⟨rfl,aDu hF e⟩
   | closed=>
    rw [eY,e]
    obtain ⟨a1,a2,a3,a4⟩:=aBf hF e
    refine .inr ⟨fun e2=> ?_,rfl,a1,?_,a3,a4⟩
    ·have e3:(fR n F steps.toNat).P = []:=e2
     have:=a1.2
     rw [e3] at this
     cases this
    ·show (fR n F steps.toNat).P.length<=40000
     omega
 ·unfold pI at h
  rw [if_pos hf] at h
  exact absurd h hf
def aMh (a:Ans) (w:World) (e:Ending) (w':World):Prop:=
 aA w w'/\∃ mv pv,e=.returned (.tuple #[.agg #[mv,pv],.int .i64 a.er])/\bA (fun b=>w.heap.size<=b/\b<w'.heap.size) w' a.m mv/\dZ (fun b=>w.heap.size<=b/\b<w'.heap.size) w' a.P pv
theorem fW (S:Nat->Prop) (w:World):bA S w [] (.slice none 0 0):=⟨none,0,rfl,by simp,fun h=>by simp at h⟩
theorem kL (S:Nat->Prop) (w:World):dZ S w [] (.slice none 0 0):= .inl ⟨rfl,none,0,rfl⟩
def SmP (x:Int):Prop:=x.natAbs<=1000000
theorem aDs {x:Int} (h:SmP x):(Go.Lit.int .i64 x).wf=true:=by
 unfold SmP at h
 have e1:IntKind.i64.min = -9223372036854775808:=by decide
 have e2:IntKind.i64.max=9223372036854775807:=by decide
 simp [Go.Lit.wf]
 omega
theorem aPw:WideMaps.ArrKey Tryz.prog 105 3 2:=⟨Tryz.underlying105,by kernel_rfl,by kernel_rfl,by kernel_rfl⟩
theorem oS:Maps.Keyed Tryz.prog 105:=Maps.Keyed.of_law aPw.law
theorem aIl : ∃ m,Tryz.prog.types.size=m+1:=⟨Tryz.prog.types.size-1,by kernel_rfl⟩
def aNf (x y:Int):Go.Lit:= .string (keyBytes [.int .i64 x,.int .i64 y])
theorem lR {x y:Int} (hx:SmP x) (hy:SmP y):keyOf Tryz.prog 105 (.agg #[.int .i64 x,.int .i64 y])=some (aNf x y):=WideMaps.keyOf_pair aPw Tryz.underlying3 aIl (aDs hx) (aDs hy)
theorem aKh {x y x' y':Int} (hx:SmP x) (hy:SmP y) (hx':SmP x') (hy':SmP y') (h:aNf x y=aNf x' y'):x=x'/\y=y':=by
 have h1:=lR hx hy
 have h2:=lR hx' hy'
 rw [h] at h1
 have:=oS.inj h1 h2
 simp only [Value.agg.injEq,Array.mk.injEq,List.cons.injEq,Value.int.injEq,true_and,and_true] at this
 exact this
theorem qI:Tryz.prog.underlying 156=some (.map 105 3):=Tryz.underlying156
def fV (g n:Nat) (f:Int->Int->Int) (w:World):Prop:= ∃ D:DataW Unit,w.ownsMap Tryz.prog 105 (plainElem Tryz.prog 3) g n D/\∀ x y,SmP x->SmP y->D.atKey (aNf x y) (.lit (.int .i64 0))=.lit (.int .i64 (f x y))
theorem fV.lt {g n:Nat} {f:Int->Int->Int} {w:World} (h:fV g n f w):g<w.heap.size:=by obtain ⟨D,h,-⟩:=h;exact h.lt
theorem fV.mono {g n n':Nat} {f:Int->Int->Int} {w:World} (h:fV g n f w) (hn:n<=n'):fV g n' f w:=by obtain ⟨D,h,h2⟩:=h;exact ⟨D,h.mono hn,h2⟩
theorem fV.at {g n:Nat} {f:Int->Int->Int} {w w':World} (h:fV g n f w) (hb:w'.heap[g]? = w.heap[g]?):fV g n f w':=by
 obtain ⟨D,⟨es,clock,hm,hr⟩,h2⟩:=h
 exact ⟨D,⟨es,clock,hb.trans hm,hr⟩,h2⟩
theorem fV.keep {g n:Nat} {f:Int->Int->Int} {w w':World} (h:fV g n f w) (k:aA w w'):fV g n f w':=h.at (k.block g h.lt)
theorem qB (w:World):fV w.heap.size 0 (fun _ _=>0) (w.alloc (.map #[] 0)):=⟨.map [],World.ownsMap_made w _ _ _,fun x y _ _=>by simp [DataW.atKey]⟩
theorem fV.look {g n:Nat} {f:Int->Int->Int} {w:World} {t:TypeId} (h:fV g n f w) (ht:Tryz.prog.underlying t=some (.map 105 3)) {x y:Int} (hx:SmP x) (hy:SmP y):(Instr.lookup t (.map (some g)) (.agg #[.int .i64 x,.int .i64 y]) false).run Tryz.prog w=.ok (.int .i64 (f x y)) w:=by
 obtain ⟨D,h1,h2⟩:=h
 obtain ⟨c,hrun,hv,-⟩:=h1.lookup_int oS ht Tryz.underlying3 (by kernel_rfl) (lR hx hy)
 rw [h2 x y hx hy] at hv
 have e:f x y=c:=by simpa using hv
 rw [hrun,e]
theorem fV.put {g n:Nat} {f:Int->Int->Int} {w:World} {t:TypeId} (h:fV g n f w) (ht:Tryz.prog.underlying t=some (.map 105 3)) {x y v:Int} (hx:SmP x) (hy:SmP y) (hv:SmP v) (hl:n<1000000) : ∃ w',(Instr.mapUpdate t (.map (some g)) (.agg #[.int .i64 x,.int .i64 y]) (.int .i64 v)).run Tryz.prog w=.ok () w'/\fV g (n+1) (fD f x y v) w'/\w.grownBy w' (some g):=by
 obtain ⟨D,h1,h2⟩:=h
 obtain ⟨w',hrun,hown,hgr⟩:=h1.update oS ht (by unfold maxLen;omega) (lR hx hy) (plainElem_int Tryz.underlying3 (aDs hv))
 refine ⟨w',hrun,⟨_,hown,fun p q hp hq=> ?_⟩,hgr⟩
 unfold fD
 by_cases e:p=x/\q=y
 ·obtain ⟨rfl,rfl⟩:=e
  rw [Maps.atKey_put_same h1.isMap (oS.key (lR hx hy))];simp
 ·rw [Maps.atKey_put_other (fun hh=>e (aKh hp hq hx hy hh)),h2 p q hp hq,if_neg e]
structure DD where
 b:Nat
 many:Nat
 tv:Value
 g1:Nat
 pv:Value
 cv:Value
 g2:Nat
 np:Nat
 cs:Nat->Prop
 ro:Nat->Prop
def DD.box (x:DD) (n:Nat):Array Value:=#[.int .i64 x.many,x.tv,.map (some x.g1),x.pv,.int .i64 n,x.cv,.map (some x.g2)]
def DD.own (x:DD) (b:Nat):Prop:=b=x.b∨x.cv.ownBlock=some b∨b=x.g2∨x.cs b
def DD.to (x:DD) (v:Value) (k:Nat) (cs:Nat->Prop):DD:= { x with cv:=v,np:=k,cs:=cs }
structure DM (x:DD) (L:Nat) (s:DS) (w:World):Prop where
 low:L<=x.b/\L<=x.g2/\x.b≠x.g2
 np:x.np<=s.n
 ne:x.cv.ownBlock≠some x.b/\x.cv.ownBlock≠some x.g2
 box:aD x.b 161 (x.box s.n) w
 row:nL L x.cs x.cv s.cl w
 csl : ∀ c,x.cs c->L<=c/\c<w.heap.size/\c≠x.b/\c≠x.g2/\x.cv.ownBlock≠some c
 pr:fV x.g2 x.np s.pr w
theorem DM.lt {x:DD} {L:Nat} {s:DS} {w:World} (h:DM x L s w) {b:Nat} (hb:x.own b):L<=b/\b<w.heap.size:=by
 rcases hb with rfl | hb | rfl | hb
 ·exact ⟨h.low.1,h.box.facts.2.2⟩
 ·exact h.row.in hb
 ·exact ⟨h.low.2.1,h.pr.lt⟩
 ·exact ⟨(h.csl b hb).1,(h.csl b hb).2.1⟩
theorem DM.other {x:DD} {L:Nat} {s:DS} {w w':World} (h:DM x L s w) (hs:w.heap.size<=w'.heap.size) (hown : ∀ b,x.own b->w'.heap[b]? = w.heap[b]?):DM x L s w':=by
 refine ⟨h.low,h.np,h.ne,?_,h.row.mono (fun g hg=>hown g (.inr (.inl hg))) fun b hd=>⟨hown b (.inr (.inr (.inr hd))),hd⟩,fun c hc=> ?_,h.pr.at (hown _ (.inr (.inr (.inl rfl))))⟩
 ·have:=h.box;unfold aD at *;rw [hown _ (.inl rfl)];exact this
 ·have:=h.csl c hc
  exact ⟨this.1,Nat.lt_of_lt_of_le this.2.1 hs,this.2.2⟩
theorem DM.keep {x:DD} {L:Nat} {s:DS} {w w':World} (h:DM x L s w) (k:aA w w'):DM x L s w':=h.other k.size fun b ho=>k.block b (h.lt ho).2
theorem DM.L {x:DD} {L:Nat} {s:DS} {w:World} (h:DM x L s w):L<=w.heap.size:=by have:=h.lt (b:=x.b) (.inl rfl);omega
theorem DM.push {x:DD} {L:Nat} {s:DS} {w w5:World} {vs:List Value} {u v':Value} {l:List Int} {U:Nat->Prop} (h:DM x L s w) (hvl:vs.length=s.cl.length) (hvn : ∀ (i:Nat) c y,s.cl[i]? = some c->vs[i]? = some y->aH x.cs w c y)
  (hU : ∀ c,U c->L<=c/\c<w.heap.size/\¬ x.own c) (hu:aH U w l u) (hg:w.grownBy w5 x.cv.ownBlock) (ho:v'.ownBlock=x.cv.ownBlock∨∃ g,v'.ownBlock=some g/\w.heap.size<=g) (h5:w5.ownsRow L 168 1 v' (s.cl.length+1) (vs ++ [u])) :
  DM (x.to v' x.np (fun c=>x.cs c∨U c)) L (s.clause l) (w5.setCell ⟨x.b,5,none⟩ v')/\aF (fun b=>x.own b∨U b) (x.to v' x.np (fun c=>x.cs c∨U c)).own w (w5.setCell ⟨x.b,5,none⟩ v'):=by
 have hlow:=h.low
 have hne:=h.ne
 have hbl:=h.box.facts.2.2
 have hgl:=h.pr.lt
 have hso : ∀ c,c≠x.b->(w5.setCell ⟨x.b,5,none⟩ v').heap[c]? = w5.heap[c]? :=fun c hc=>dI _ _ _ _ hc
 have hsz:(w5.setCell ⟨x.b,5,none⟩ v').heap.size=w5.heap.size:=fH ..
 have hk : ∀ c,c<w.heap.size->x.cv.ownBlock≠some c->w5.heap[c]? = w.heap[c]? :=fun c hc hn=>hg.block c hc fun e=>hn e.symm
 have hvb:v'.ownBlock≠some x.b/\v'.ownBlock≠some x.g2:=by
  rcases ho with ho | ⟨g,ho,hge⟩
  ·rw [ho];exact hne
  ·rw [ho];exact ⟨fun e=>by have:=Option.some.inj e;omega,fun e=>by have:=Option.some.inj e;omega⟩
 have hcs : ∀ c,x.cs c∨U c->L<=c/\c<w.heap.size/\c≠x.b/\c≠x.g2/\x.cv.ownBlock≠some c:=fun c hc=>by
  rcases hc with hc | hc
  ·exact h.csl c hc
  ·have:=hU c hc
   exact ⟨this.1,this.2.1,fun e=>this.2.2 (.inl e),fun e=>this.2.2 (.inr (.inr (.inl e))),fun e=>this.2.2 (.inr (.inl e))⟩
 have hcv : ∀ c,x.cs c∨U c->v'.ownBlock≠some c:=fun c hc e=>by
  have h1:=hcs c hc
  rcases ho with ho | ⟨g,ho,hge⟩
  ·exact h1.2.2.2.2 (ho ▸ e)
  ·rw [ho] at e;have:=Option.some.inj e;omega
 have hnums : ∀ c y,aH (fun c=>x.cs c∨U c) w c y->aH (fun c=>x.cs c∨U c) (w5.setCell ⟨x.b,5,none⟩ v') c y:=fun c y hc=>hc.mono (fun p hp=>World.cell?_of_block (w:=w) (by
   have:=hcs _ hp
   rw [hso _ this.2.2.1,hk _ this.2.1 this.2.2.2.2])) fun b hb=>hb
 refine ⟨⟨hlow,h.np,hvb,?_,⟨vs ++ [u],?_,?_,fun i c y hc hy=> ?_⟩,fun c hc=> ?_,?_⟩,?_⟩
 ·have hB5:aD x.b 161 (x.box s.n) w5:=by have:=h.box;unfold aD at *;rw [hk _ hbl hne.1];exact this
  exact hB5.set 5 v'
 ·show (vs ++ [u]).length=(s.cl ++ [l]).length
  simp [hvl]
 ·show World.ownsRow _ L _ 1 v' (s.cl ++ [l]).length _
  rw [List.length_append]
  exact cF h5 fun g hgv=>hso g (fun e=>hvb.1 (e ▸ hgv))
 ·have hc:(s.cl ++ [l])[i]? = some c:=hc
  by_cases hi:i<s.cl.length
  ·rw [List.getElem?_append_left hi] at hc
   rw [List.getElem?_append_left (by omega)] at hy
   exact hnums _ _ ((hvn i c y hc hy).mono (fun _ _=>rfl) fun _ h=> .inl h)
  ·have hi2:i=s.cl.length:=by
    have:=(List.getElem?_eq_some_iff.1 hc).1
    simp at this;omega
   subst hi2
   rw [List.getElem?_append_right (Nat.le_refl _),Nat.sub_self] at hc
   rw [← hvl,List.getElem?_append_right (Nat.le_refl _),Nat.sub_self] at hy
   cases hc;cases hy
   exact hnums _ _ (hu.mono (fun _ _=>rfl) fun _ h=> .inr h)
 ·have:=hcs c hc
  exact ⟨this.1,by rw [hsz];exact Nat.lt_of_lt_of_le this.2.1 hg.size,this.2.2.1,this.2.2.2.1,hcv c hc⟩
 ·exact h.pr.at (by show (World.setCell _ _ _).heap[x.g2]? = _;rw [hso _ (Ne.symm hlow.2.2),hk _ hgl hne.2])
 ·have t1:=aF.grown (O:=fun b=>x.own b∨U b) hg (fun g hg=> .inl (.inr (.inl hg))) ho
  have t2:=t1.trans (aF.set _ w5 x.b 5 v' (.inl (.inl (.inl rfl))))
  refine t2.less fun b hb=> ?_
  rcases hb with hb | hb | hb | hb | hb
  ·exact .inl (.inl (.inl hb))
  ·exact .inr hb
  ·exact .inl (.inl (.inr (.inr (.inl hb))))
  ·exact .inl (.inl (.inr (.inr (.inr hb))))
  ·exact .inl (.inr hb)
theorem DM.vars {x:DD} {L:Nat} {s:DS} {w:World} (h:DM x L s w) {n:Nat} (hn:s.n<=n):DM x L ⟨n,s.cl,s.pr⟩ (w.setCell ⟨x.b,4,none⟩ (.int .i64 n))/\aF x.own x.own w (w.setCell ⟨x.b,4,none⟩ (.int .i64 n)):=by
 have hso : ∀ c,c≠x.b->(w.setCell ⟨x.b,4,none⟩ (.int .i64 n)).heap[c]? = w.heap[c]? :=fun c hc=>dI _ _ _ _ hc
 have hsz:(w.setCell ⟨x.b,4,none⟩ (.int .i64 n)).heap.size=w.heap.size:=fH ..
 refine ⟨⟨h.low,Nat.le_trans h.np hn,h.ne,h.box.set 4 (.int .i64 n),h.row.mono (fun g hg=>hso g (fun e=>h.ne.1 (e ▸ hg))) fun b hd=>⟨hso b (h.csl b hd).2.2.1,hd⟩,fun c hc=>by rw [hsz];exact h.csl c hc,h.pr.at (hso _ (Ne.symm h.low.2.2))⟩,aF.set _ _ _ _ _ (.inl rfl)⟩
theorem DM.put {x:DD} {L:Nat} {s:DS} {w w':World} (h:DM x L s w) {f:Int->Int->Int} (hm:fV x.g2 (x.np+1) f w') (hn:x.np+1<=s.n) (hg:w.grownBy w' (some x.g2)):DM (x.to x.cv (x.np+1) x.cs) L ⟨s.n,s.cl,f⟩ w'/\aF x.own (x.to x.cv (x.np+1) x.cs).own w w':=by
 have hk : ∀ c,c<w.heap.size->c≠x.g2->w'.heap[c]? = w.heap[c]? :=fun c hc hn=>hg.block c hc fun e=>hn (Option.some.inj e)
 refine ⟨⟨h.low,hn,h.ne,?_,h.row.mono (fun g hgv=>hk g (h.row.in hgv).2 (fun e=>h.ne.2 (e ▸ hgv))) fun b hd=>⟨hk b (h.csl b hd).2.1 (h.csl b hd).2.2.2.1,hd⟩,fun c hc=> ?_,hm⟩,⟨hg.os,hg.tape,hg.output,hg.size,fun b hb hn=>hk b hb (fun e=>hn (.inr (.inr (.inl e)))),fun _ h=> .inl h⟩⟩
 ·have h1:=h.box
  have h2:=hk _ h.box.facts.2.2 h.low.2.2
  unfold aD at h1
  exact h2.trans h1
 ·have:=h.csl c hc
  exact ⟨this.1,Nat.lt_of_lt_of_le this.2.1 hg.size,this.2.2⟩
theorem aQ.nums {B:Nat} {v:Value} {zs:List Int} {w:World} (h:aQ B v zs w) (hl:zs.length<=1000000):aH (fun b=>B<=b/\b<w.heap.size) w zs v:=by
 rcases h with ⟨h1,⟨rfl,h0⟩ | ⟨g,cap,cur,rfl,e2,e3,e4,e5,e6,e7⟩⟩
 ·exact ⟨none,0,by rw [h0],by omega,fun hh=>by omega⟩
 ·refine ⟨_,cap,rfl,by omega,fun hh=>⟨g,0,rfl,⟨e2,(Array.getElem?_eq_some_iff.1 e3).1⟩,fun j x hx=> ?_⟩⟩
  have hj:j<zs.length:=(List.getElem?_eq_some_iff.1 hx).1
  have hf:(zs.map (Value.int .i64))[j]? = some (.int .i64 x):=by rw [List.getElem?_map,hx];rfl
  rw [← e7,List.getElem?_take,if_pos (by omega)] at hf
  simp only [World.cell?,e3,Nat.zero_add]
  simpa using hf
theorem xL {w w':World} (k:aA w.drew w'):aA w w':=(aA.drew (aA.refl w)).trans k
theorem DM.cell {x:DD} {L:Nat} {s:DS} {w:World} (h:DM x L s w) (o:Nat):w.cell? ⟨x.b,o,none⟩=(x.box s.n)[o]? :=h.box.facts.1 o
theorem eR (x:DD) (L:Nat) (s:DS) (Q:Nat->Prop) (l:List Int) (p:Option Addr) (n cap:Nat) (w:World) (hln:l.length=n) (h:DM x L s w) (hQ : ∀ b,Q b->b<w.heap.size) (hl:aH Q w l (.slice p n cap)) (hlen:l.length<=1000) (hc:s.cl.length<=1000000) :
  Calls Tryz.prog 106 #[.pointer (some ⟨x.b,0,none⟩),.slice p n cap] w fun e w'=>e=.returned (.tuple #[])/\∃ v c,DM (x.to v x.np c) L (s.clause l) w'/\aF x.own (x.to v x.np c).own w w':=by
 subst hln
 obtain ⟨i0,hi,hz0,hz1,hz2⟩:=info_parts aCy
 have HD:=hid h
 have HLL:=hid h.L
 have HNE:=hid h.ne
 have HL:=hid hl
 obtain ⟨ap,ac,hav⟩:=h.row.shape
 have HAV:=hid hav
 have hb5:w.cell? ⟨x.b,5,none⟩=some (.slice ap s.cl.length ac):=(h.cell 5).trans (congrArg some hav)
 have hbl:=h.box.facts.2.2
 clear h hl hav
 go_enter Tryz.func106,Tryz.ntmps106
 go_region_law (first
  | (refine aX rfl _ _ 31 rfl L 168 i0 (.slice none 0 0) 1 24 Tryz.underlying31 hi hz0 hz1 hz2 rfl (by decide) (.slice ap s.cl.length ac) s.cl.length vs rfl (OW1.out.alloc _) ⟨w1.heap.size,0,none⟩ 1 1 [.slice qp l.length qc] rfl rfl cN fC (by unfold maxLen;omega) (by omega) (by have:=aC w1 (.cells #[.slice qp l.length qc] 168);omega) ?_
     intro v5 w5 h1 h2 h4
     obtain ⟨g5,cap5,rfl⟩:=aW h1 (Nat.succ_pos _)
     have P5:=hid (D1.out.push VL.out VN.out HU1.out U1.out (HAV.out ▸ bU h2) (HAV.out ▸ mW h4) h1)
     have B5:aD x.b 161 (x.box s.n) w5:=(by
      have hk:w5.heap[x.b]? = w1.heap[x.b]? :=(bU h2).block x.b hbl1 (fun e=>HNE.out.1 (HAV.out ▸ e.symm))
      have:=D1.out.box
      unfold aD at *
      rw [hk];exact this)
     obtain ⟨hbc5,hbf5,hbl5⟩:=B5.facts
     have hc55:w5.cell? ⟨x.b,5,none⟩=some (.slice ap s.cl.length ac):=(hbc5 5).trans (congrArg some HAV.out)
     have hf55:=hbf5 5
     clear hbc5 hbf5 B5 h1 h2 h4)
  | (go_simp;go_at_call 28;refine (iE Q l p cap _ (fun b hb=>by have:=hQ b hb;simpa using this) (HL.out.keep (B:=w.heap.size) hQ (aA.drew (aA.refl w))) (by omega)).mono ?_
     rintro e w1 ⟨u1,rfl,ho1,k1⟩
     obtain ⟨qp,qc,rfl⟩:=ho1.ints.len
     have K1:=hid (xL k1)
     have D1:=hid (HD.out.keep K1.out)
     have U1:=hid (ho1.nums (by omega))
     have HU1:=hid (show ∀ c,w.drew.heap.size<=c/\c<w1.heap.size->L<=c/\c<w1.heap.size/\¬ x.own c from fun b hb=>⟨by have:=HLL.out;have:=hb.1;simp at this;omega,hb.2,fun ho=>by have:=(HD.out.lt ho).2;have:=hb.1;simp at this;omega⟩)
     obtain ⟨vs,hvl,how,hvn⟩:=D1.out.row
     have VL:=hid hvl
     have OW1:=hid (HAV.out ▸ how)
     have VN:=hid hvn
     have hb51:w1.cell? ⟨x.b,5,none⟩=some (.slice ap s.cl.length ac):=(D1.out.cell 5).trans (congrArg some HAV.out)
     have hbl1:=D1.out.box.facts.2.2
     have hL1:L<=w1.heap.size:=D1.out.L
     clear ho1 k1 hvl how hvn
     go_simp))
 all_goals
  have HQ:=hid P5.out
  go_wp2_with fail
  refine bodyPost_end (results_none rfl _ _ _) rfl ?_
  refine ⟨rfl,_,_,HQ.out.1,?_⟩
  exact (show aF x.own (fun b=>x.own b∨(w.drew.heap.size<=b/\b<w1.heap.size)) w w1 from ⟨K1.out.os,K1.out.tape,K1.out.output,K1.out.size,fun b hb _=>K1.out.block b hb,fun b hb=>hb.imp id fun h=>h.1⟩).trans HQ.out.2
def gJ (s:DS) (l:List Int) (j:Nat):DS:=⟨s.n+1,s.cl++(l.take j).map (fun x=> [(s.n:Int)+1,-x]),s.pr⟩
theorem aDw (s:DS) (l:List Int):gJ s l 0=⟨s.n+1,s.cl,s.pr⟩:=by simp [gJ]
theorem aDv {s:DS} {l:List Int} {j:Nat} {z:Int} (h:l[j]? = some z):(gJ s l j).clause [(s.n:Int)+1,-z]=gJ s l (j+1):=by
 obtain ⟨hj,rfl⟩:=List.getElem?_eq_some_iff.1 h
 unfold gJ DS.clause
 simp only
 rw [List.take_succ_eq_append_getElem hj,List.map_append,List.append_assoc]
 rfl
theorem tY {s:DS} {l:List Int} (h:l.length≠1):(gJ s l l.length).clause (-((s.n:Int)+1) :: l)=s.someS l:=by
 unfold gJ DS.clause DS.someS
 rw [if_neg h,List.take_length]
theorem mI (w:World) (a b:Int):aH (fun c=>c=w.heap.size) (w.alloc (.cells #[.int .i64 a,.int .i64 b] 3)) [a,b] (.slice (some ⟨w.heap.size,0,none⟩) 2 2):=by
 refine ⟨_,2,rfl,by simp,fun _=>⟨w.heap.size,0,rfl,rfl,fun j x hx=> ?_⟩⟩
 have hb:=(aD.new w 3 #[.int .i64 a,.int .i64 b]).facts.1 (0+j)
 rw [hb]
 match j,hx with
 | 0,hx=>cases hx;rfl
 | 1,hx=>cases hx;rfl
theorem aAt (w:World) (a:Int):aH (fun c=>c=w.heap.size) (w.alloc (.cells #[.int .i64 a] 3)) [a] (.slice (some ⟨w.heap.size,0,none⟩) 1 1):=by
 refine ⟨_,1,rfl,by simp,fun _=>⟨w.heap.size,0,rfl,rfl,fun j x hx=> ?_⟩⟩
 have hb:=(aD.new w 3 #[.int .i64 a]).facts.1 (0+j)
 rw [hb]
 match j,hx with
 | 0,hx=>cases hx;rfl
theorem aBh (x:DD) (L:Nat) (s:DS) (Q:Nat->Prop) (l:List Int) (p:Option Addr) (n cap:Nat) (w:World) (hln:l.length=n) (hnil:p=none->cap=0) (h:DM x L s w) (hQ : ∀ b,Q b->b<w.heap.size/\¬ x.own b) (hl:aH Q w l (.slice p n cap)) (hlen:l.length<=900) (hc:s.cl.length<=500000) (hn:s.n<=500000) (hsm : ∀ y∈l,y.natAbs<=900000) :
  Calls Tryz.prog 166 #[.pointer (some ⟨x.b,0,none⟩),.slice p n cap] w fun e w'=>e=.returned (.int .i64 (s.someL l))/\∃ v c,DM (x.to v x.np c) L (s.someS l) w'/\aF x.own (x.to v x.np c).own w w':=by
 subst hln
 by_cases h1:l.length=1
 ·obtain ⟨y,rfl⟩:=List.length_eq_one_iff.1 h1
  have HD:=hid h
  obtain ⟨lb,lo,hp,hQb,hlc⟩:=hl.nth (k:=0) (by simp)
  subst hp
  have hc0:w.cell? ⟨lb,lo,none⟩=some (.int .i64 y):=hlc 0 y rfl
  have hlb:=(hQ lb hQb).1
  clear hl hlc h h1 hsm hlen
  go_enter Tryz.func166,Tryz.ntmps166
  go_wp2_with fail
  go_ret
  refine ⟨by simp [DS.someL],x.cv,x.cs,?_,aF.refl _ _⟩
  have:s.someS [y]=s:=by simp [DS.someS]
  rw [this];exact HD.out
 ·have HD:=hid h
  have HL:=hid hl
  have HQ:=hid hQ
  have HSM:=hid hsm
  have H1:=hid h1
  have he1:((l.length:Int)==1)=false:=by simpa using (show ¬ (l.length:Int)=1 by omega)
  have hb4:w.cell? ⟨x.b,4,none⟩=some (.int .i64 s.n):=h.cell 4
  have hf4:=h.box.facts.2.1 4
  have hbl:=h.box.facts.2.2
  have HV:=hid (h.vars (n:=s.n+1) (Nat.le_succ _))
  have hcast:((s.n+1:Nat):Int)=(s.n:Int)+1:=by omega
  rw [hcast] at HV
  clear h hl hsm h1 hQ hcast
  go_enter Tryz.func166,Tryz.ntmps166
  go_upto_region 4 with fail
  refine bR (fun W'=>DM x L ⟨s.n+1,s.cl,s.pr⟩ W'/\aF x.own x.own w W') ?_ ?_
  ·exact HV.out
  rintro W1 ⟨d1,t1⟩
  have D1:=hid d1
  have T1:=hid t1
  have hb4:W1.cell? ⟨x.b,4,none⟩=some (.int .i64 ((s.n:Int)+1)):=(d1.cell 4).trans (by show some (Value.int .i64 ((s.n+1:Nat):Int))=_;rw [show ((s.n+1:Nat):Int)=(s.n:Int)+1 by omega])
  have hbl:=d1.box.facts.2.2
  clear d1 t1 HV hf4
  go_wp2_with fail
  go_loopg [30] l.length (fun gk iv wr=> ∃ (j:Nat) (v:Value) (cc:Nat->Prop),j+gk=l.length/\iv=.int .i64 j/\DM (x.to v x.np cc) L (gJ s l j) wr/\aF x.own (x.to v x.np cc).own w wr)
  case atStart=>exact ⟨0,x.cv,x.cs,by omega,rfl,by rw [aDw];exact D1.out,T1.out⟩
  case round=>
   obtain ⟨j,v,cc,hj,rfl,hd,ht⟩:=hrel
   have D2:=hid hd
   have T2:=hid ht
   clear hd ht D1 T1 hb4 hbl
   have HL2:=hid (HL.out.turn T2.out HQ.out)
   by_cases hlt:j<l.length
   ·obtain ⟨lb,lo,rfl,hQb,hlc⟩:=HL2.out.nth hlt
    have hcj:=hlc j _ (List.getElem?_eq_getElem hlt)
    have HJ:=hid (List.getElem?_eq_getElem hlt)
    have hz:=HSM.out l[j] (List.getElem_mem hlt)
    have hlb:=Nat.lt_of_lt_of_le (HQ.out lb hQb).1 T2.out.size
    generalize l[j]=z at hcj HJ hz
    have hz1 : -900000<=z:=by omega
    have hz2:z<=900000:=by omega
    have hjI:(j:Int)<(l.length:Int):=by omega
    clear hlc hz
    go_wp2_with fail
    have HS:=hid (show (gJ s l j).cl.length<=1000000 by simp [gJ];omega)
    refine bD (fun W'=>DM (x.to v x.np cc) L (gJ s l j) W'/\aF (x.to v x.np cc).own (x.to v x.np cc).own wr W'/\aH (fun c=>c=wr.heap.size) W' [(s.n:Int)+1,-z] (.slice (some ⟨wr.heap.size,0,none⟩) 2 2)/\wr.heap.size<W'.heap.size) ⟨D2.out.keep (aA.alloc _ _),aF.keep (aA.alloc _ _),mI _ _ _,by rw [aC];omega⟩ ?_
    rintro W3 ⟨d3,t3,n3,s3⟩
    refine (eR (x.to v x.np cc) L (gJ s l j) (fun c=>c=wr.heap.size) [(s.n:Int)+1,-z] _ 2 2 W3 rfl d3 (fun b hb=>by omega) n3 (by simp) HS.out).mono ?_
    rintro e w4 ⟨rfl,v4,c4,d4,t4⟩
    rw [aDv HJ.out] at d4
    have D4:=hid d4
    have T4:=hid ((T2.out.trans t3).trans t4)
    clear d3 t3 n3 s3 d4 t4
    go_wp2_with fail
    go_roundg (l.length-(j+1))
    case rel=>exact ⟨j+1,v4,c4,by omega,by go_num,D4.out,T4.out⟩
    case measure=>omega
   ·obtain rfl:j=l.length:=by omega
    obtain ⟨i0,hi,hz0,hz1,hz2⟩:=info_parts cW
    have HS:=hid (show (gJ s l l.length).cl.length<=1000000 by simp [gJ];omega)
    have HL3:=hid (show ∀ ad,p=some ad->∀ j u,(l.map (Value.int .i64))[j]? = some u->(wr.alloc (.cells #[.int .i64 (-((s.n:Int)+1))] 3)).cell? (ad.add j)=some u from fun ad hp=>wB (hp ▸ HL2.out) _ (fun b hb=>Nat.lt_of_lt_of_le (HQ.out b hb).1 T2.out.size))
    have HONE:=hid (show ∀ u∈l.map (Value.int .i64),u.oneCell'=true by intro u hu;obtain ⟨z,-,rfl⟩:=List.mem_map.1 hu;rfl)
    have HLEN:=hid (show (l.map (Value.int .i64)).length=l.length*1 by simp)
    have OW:=hid (World.ownsRow_lit (base:=wr.heap.size) (e:=3) (size:=1) wr #[.int .i64 (-((s.n:Int)+1))] 1 (Nat.le_refl _) (by unfold maxLen;omega) rfl)
    obtain ⟨news,hnews⟩ : ∃ news,news=l.map (Value.int .i64):=⟨_,rfl⟩
    have HNEWS:=hid hnews
    rw [← hnews] at HL3 HONE HLEN
    clear hnews
    cases p with
    | none=>
     obtain rfl:l = []:=by
      rcases Nat.eq_zero_or_pos l.length with h0 | h0
      ·exact List.length_eq_zero_iff.1 h0
      ·obtain ⟨b,off,hp,-⟩:=HL2.out.nth (k:=0) h0
       cases hp
     obtain rfl:=hnil rfl
     go_wp2_with (at_builtin;refine wpList_append_own_none rfl _ _ 27 rfl wr.heap.size 3 i0 1 Tryz.underlying27 hi (.slice (some ⟨wr.heap.size,0,none⟩) 1 1) 1 _ rfl OW.out rfl ?_)
     refine bD (fun W'=>DM (x.to v x.np cc) L (gJ s [] 0) W'/\aF (x.to v x.np cc).own (x.to v x.np cc).own wr W'/\aH (fun c=>c=wr.heap.size) W' [-((s.n:Int)+1)] (.slice (some ⟨wr.heap.size,0,none⟩) 1 1)/\wr.heap.size<W'.heap.size) ⟨D2.out.keep (aA.alloc _ _),aF.keep (aA.alloc _ _),aAt _ _,by rw [aC];omega⟩ ?_
     rintro W3 ⟨d3,t3,n3,s3⟩
     refine (eR (x.to v x.np cc) L (gJ s [] 0) (fun c=>c=wr.heap.size) [-((s.n:Int)+1)] _ 1 1 W3 rfl d3 (fun b hb=>by omega) n3 (by simp) HS.out).mono ?_
     rintro e w4 ⟨rfl,v4,c4,d4,t4⟩
     have D4:=hid (tY H1.out ▸ d4)
     have T4:=hid ((T2.out.trans t3).trans t4)
     clear d3 t3 n3 s3 d4 t4
     go_wp2_with fail
     go_ret
     exact ⟨by simp [DS.someL],v4,c4,D4.out,T4.out⟩
    | some ad=>
     go_wp2_with (at_builtin;refine wpList_append_own_at _ rfl _ _ 27 rfl wr.heap.size 3 i0 (.int .i64 0) 1 8 Tryz.underlying27 hi hz0 hz1 hz2 rfl (by decide) (.slice (some ⟨wr.heap.size,0,none⟩) 1 1) 1 [.int .i64 (-((s.n:Int)+1))] rfl OW.out ad l.length cap news rfl HLEN.out (HL3.out ad rfl) HONE.out (by unfold maxLen;omega) (by omega) (by rw [aC];omega) ?_;intro v5 w5 h1 h2 _ h4)
     obtain ⟨g5,cap5,rfl⟩:=aW h1 (by omega)
     have k5:aA wr w5:=Below.grown ((Below.refl wr.heap.size wr).alloc (Nat.le_refl _) _) h2 (by rw [aC];omega) (fun g hg=>by cases hg;exact Nat.le_refl _)
     have HO:Hid (aQ wr.heap.size (.slice (some ⟨g5,0,none⟩) (1+l.length) cap5) (-((s.n:Int)+1) :: l) w5):=by
      show World.ownsRow _ _ _ _ _ _ _
      rw [List.length_cons,List.map_cons,show l.length+1=1+l.length by omega,← HNEWS.out]
      exact h1
     clear h1 h2 h4
     refine (eR (x.to v x.np cc) L (gJ s l l.length) (fun b=>wr.heap.size<=b/\b<w5.heap.size) (-((s.n:Int)+1) :: l) _ _ _ w5 (by rw [List.length_cons];omega) (D2.out.keep k5) (fun b hb=>hb.2) (HO.out.nums (by rw [List.length_cons];omega)) (by rw [List.length_cons];omega) HS.out).mono ?_
     rintro e w4 ⟨rfl,v4,c4,d4,t4⟩
     have D4:=hid (tY H1.out ▸ d4)
     have T4:=hid ((T2.out.trans (aF.keep k5)).trans t4)
     clear d4 t4 k5
     go_wp2_with fail
     go_ret
     exact ⟨by simp [DS.someL,H1.out],v4,c4,D4.out,T4.out⟩
theorem aKd:(Tryz.prog.info? 4).map (fun i=>(i.zero,i.size,i.bytes))=some (some (.bool false),1,1):=by kernel_rfl
theorem pV {w w':World} (h:w.grownBy w' none):aA w w':=⟨h.os,h.tape,h.output,h.size,fun b hb=>h.block b hb (by simp)⟩
def dN (f:Int->Value) (A:List Int) (j:Nat) (b:Nat) (T:TypeId) (w:World):Prop:= ∃ cs:List Value,cs.length=A.length/\(∀ (i:Nat) x,i<j->A[i]? = some x->cs[i]? = some (f x))/\aD b T cs.toArray w
theorem dN.start {f:Int->Value} {A:List Int} {b:Nat} {T:TypeId} {w:World} {z:Value} (h:aD b T (List.replicate A.length z).toArray w):dN f A 0 b T w:=⟨_,by simp,fun i x hi=>by omega,h⟩
theorem dN.cell {f:Int->Value} {A:List Int} {j b:Nat} {T:TypeId} {w:World} (h:dN f A j b T w) {i:Nat} (hi:i<A.length):(∃ v,w.cell? ⟨b,i,none⟩=some v)/\w.frozen? ⟨b,i,none⟩=false/\b<w.heap.size:=by
 obtain ⟨cs,h1,-,h3⟩:=h
 obtain ⟨a,c,d⟩:=h3.facts
 refine ⟨⟨cs[i]'(by omega),?_⟩,c i,d⟩
 rw [a];simp [h1,hi]
theorem dN.next {f:Int->Value} {A:List Int} {j b:Nat} {T:TypeId} {w:World} {x:Int} (h:dN f A j b T w) (hx:A[j]? = some x):dN f A (j+1) b T (w.setCell ⟨b,j,none⟩ (f x)):=by
 obtain ⟨cs,h1,h2,h3⟩:=h
 have hj:=(List.getElem?_eq_some_iff.1 hx).1
 refine ⟨cs.set j (f x),by simp [h1],fun i y hi hy=> ?_,?_⟩
 ·by_cases e:j=i
  ·subst e
   rw [hx] at hy;cases hy
   rw [List.getElem?_set_self (by omega)]
  ·rw [List.getElem?_set_ne e]
   exact h2 i y (by omega) hy
 ·have:=h3.set j (f x)
  rwa [List.setIfInBounds_toArray] at this
theorem dN.all {f:Int->Value} {A:List Int} {b:Nat} {T:TypeId} {w:World} (h:dN f A A.length b T w) : ∀ (i:Nat) x,A[i]? = some x->w.cell? ⟨b,i,none⟩=some (f x):=fun i x hx=>by
 obtain ⟨cs,h1,h2,h3⟩:=h
 rw [h3.facts.1]
 have:=h2 i x (List.getElem?_eq_some_iff.1 hx).1 hx
 simpa using this
theorem dN.lt {f:Int->Value} {A:List Int} {j b:Nat} {T:TypeId} {w:World} (h:dN f A j b T w):b<w.heap.size:=by
 obtain ⟨cs,-,-,h3⟩:=h;exact h3.facts.2.2
theorem aLt {s:DS} {l:List Int} (hn:s.n<=500000) (h : ∀ y∈l,y.natAbs<=900000):(s.someL l).natAbs<=900000:=by
 unfold DS.someL
 split
 ·rename_i h1
  obtain ⟨y,rfl⟩:=List.length_eq_one_iff.1 h1
  exact h y List.mem_cons_self
 ·omega
theorem dN.nums {f:Int->Int} {l:List Int} {b:Nat} {w:World} (h:dN (fun x=> .int .i64 (f x)) l l.length b 3 w) (hl:l.length<=1000000):aH (fun c=>c=b) w (l.map f) (.slice (some ⟨b,0,none⟩) l.length l.length):=by
 refine ⟨_,l.length,by rw [List.length_map],by rw [List.length_map];omega,fun _=>⟨b,0,rfl,rfl,fun i x hx=> ?_⟩⟩
 rw [Nat.zero_add]
 rw [List.getElem?_map] at hx
 cases e:l[i]? with
 | none=>rw [e] at hx;cases hx
 | some y=>
  rw [e] at hx
  cases hx
  exact h.all i y e
theorem aEn (x:DD) (L:Nat) (s:DS) (Q:Nat->Prop) (l:List Int) (p:Option Addr) (n cap:Nat) (w:World) (hln:l.length=n) (h:DM x L s w) (hQ : ∀ b,Q b->b<w.heap.size) (hl:aH Q w l (.slice p n cap)) (hlen:l.length<=900) (hc:s.cl.length<=500000) (hn:s.n<=500000) (hsm : ∀ y∈l,y.natAbs<=900000) :
  Calls Tryz.prog 167 #[.pointer (some ⟨x.b,0,none⟩),.slice p n cap] w fun e w'=>e=.returned (.int .i64 (s.allL l))/\∃ v c,DM (x.to v x.np c) L (s.allS l) w'/\aF x.own (x.to v x.np c).own w w':=by
 subst hln
 obtain ⟨i0,hi,hz0,hz1,hz2⟩:=info_parts cW
 have HD:=hid h
 have HL:=hid hl
 have HQ:=hid hQ
 have HSM:=hid hsm
 have hbl:=h.box.facts.2.2
 clear h hl hQ hsm
 go_enter Tryz.func167,Tryz.ntmps167
 go_wp2_with (at_make;refine wpList_make_full _ rfl _ _ 27 rfl w.heap.size 3 i0 (.int .i64 0) 1 Tryz.underlying27 hi hz0 hz1 .i64 .i64 (l.length:Int) (l.length:Int) l.length rfl rfl rfl rfl (by rw [hz2];omega) (by unfold maxLen;omega) (Nat.le_refl _) ?_;intro w1 h1 h2;have K1:=hid (pV h2);have F1:=hid (dN.start (f:=fun x=> .int .i64 (-x)) (A:=l) (gI (v:= .int .i64 0) rfl h1));clear h1 h2)
 go_loopg [13] l.length (fun gk iv wr=> ∃ j:Nat,j+gk=l.length/\iv=.int .i64 j/\aA w wr/\dN (fun x=> .int .i64 (-x)) l j w.heap.size 3 wr)
 case atStart=>exact ⟨0,by omega,rfl,K1.out,F1.out⟩
 case round=>
  obtain ⟨j,hj,rfl,hk,hf⟩:=hrel
  have K2:=hid hk
  have F2:=hid hf
  clear hk hf K1 F1
  by_cases hlt:j<l.length
  ·obtain ⟨cb,co,rfl,hcb,hcc⟩:=(HL.out.keep HQ.out K2.out).nth hlt
   have hc1:=hcc j _ (List.getElem?_eq_getElem hlt)
   have hx:=HSM.out l[j] (List.getElem_mem hlt)
   have HX:=hid (List.getElem?_eq_getElem hlt)
   have hcl:=Nat.lt_of_lt_of_le (HQ.out cb hcb) K2.out.size
   obtain ⟨⟨v0,hv0⟩,hfr,hbl2⟩:=F2.out.cell hlt
   generalize l[j]=z at hc1 hx HX
   have hz1' : -900000<=z:=by omega
   have hz2':z<=900000:=by omega
   have hjI:(j:Int)<(l.length:Int):=by omega
   clear hcc hx
   have F3:=hid (F2.out.next HX.out)
   have K3:=hid (show aA w (wr.setCell ⟨w.heap.size,j,none⟩ (.int .i64 (-z))) from Below.trans K2.out (aL wr w.heap.size j _))
   go_wp2_with fail
   go_roundg (l.length-(j+1))
   case rel=>exact ⟨j+1,by omega,by go_num,K3.out,F3.out⟩
   case measure=>omega
  ·obtain rfl:j=l.length:=by omega
   have HS:=hid (show ∀ y∈l.map (fun x=> -x),y.natAbs<=900000 by intro y hy;obtain ⟨z,hz,rfl⟩:=List.mem_map.1 hy;have:=HSM.out z hz;omega)
   go_wp2_with fail
   refine (aBh x L s (fun c=>c=w.heap.size) (l.map fun x=> -x) (some ⟨w.heap.size,0,none⟩) l.length l.length wr (by simp) (by intro hh;cases hh) (HD.out.keep K2.out) (fun b hb=>by subst hb;exact ⟨F2.out.lt,fun ho=>by have:=(HD.out.lt ho).2;omega⟩) (F2.out.nums (f:=fun x=> -x) (by omega)) (by simpa using hlen) hc hn HS.out).mono ?_
   rintro e w4 ⟨rfl,v4,c4,d4,t4⟩
   have D4:=hid d4
   have T4:=hid ((aF.keep K2.out).trans t4)
   have hr:=aLt hn HS.out
   have HR:Hid (s.allL l = -s.someL (l.map fun x=> -x)):=rfl
   have HSS:Hid (s.allS l=s.someS (l.map fun x=> -x)):=rfl
   generalize s.someL (l.map fun x=> -x)=r at hr HR ⊢
   have hr1 : -900000<=r:=by omega
   have hr2:r<=900000:=by omega
   clear d4 t4 hr
   go_wp2_with fail
   go_ret
   exact ⟨by rw [HR.out];rfl,v4,c4,HSS.out ▸ D4.out,T4.out⟩
theorem iI {w w':World} {g:Nat} (h:w.grownBy w' (some g)) {b o:Nat} (hb:b<w.heap.size) (hne:b≠g):w'.cell? ⟨b,o,none⟩=w.cell? ⟨b,o,none⟩:=World.cell?_of_block (w:=w) (h.block b hb (fun e=>hne (Option.some.inj e)))
theorem aJb (s:DS) (a b:Int):(s.allS [a,b]).n=s.n+1/\(s.allS [a,b]).pr=s.pr/\(s.allS [a,b]).cl.length=s.cl.length+3:=by simp [DS.allS,DS.someS]
theorem aIz (s:DS) (a b:Int):s.allL [a,b] = -((s.n:Int)+1):=by simp [DS.allL,DS.someL]
theorem aJn (x:DD) (L:Nat) (s:DS) (a b:Int) (w:World) (h:DM x L s w) (ha:a.natAbs<=900000) (hb:b.natAbs<=900000) (hc:s.cl.length<=500000) (hn:s.n<=500000) :
  Calls Tryz.prog 163 #[.pointer (some ⟨x.b,0,none⟩),.int .i64 a,.int .i64 b] w fun e w'=>e=.returned (.int .i64 (s.bothL a b))/\∃ v k c,DM (x.to v k c) L (s.bothS a b) w'/\aF x.own (x.to v k c).own w w':=by
 have HD:=hid h
 have hsa:SmP a:=by unfold SmP;omega
 have hsb:SmP b:=by unfold SmP;omega
 have und:Tryz.prog.underlying 156=some (.map 105 3):=Tryz.underlying156
 clear h
 go_enter Tryz.func163,Tryz.ntmps163
 go_upto_region 2 with fail
 refine bR (fun W'=>aA w W'/\aD w.heap.size 105 #[.int .i64 a,.int .i64 b] W') ⟨aA.alloc _ _,aD.new _ _ _⟩ ?_
 rintro W1 ⟨k1,b1⟩
 have K1:=hid k1
 have B1:=hid b1
 have D1:=hid (HD.out.keep k1)
 clear k1 b1
 have hb6:W1.cell? ⟨x.b,6,none⟩=some (.map (some x.g2)):=D1.out.cell 6
 have hbl:x.b<W1.heap.size:=D1.out.box.facts.2.2
 have hp0:W1.cell? ⟨w.heap.size,0,none⟩=some (.int .i64 a):=B1.out.facts.1 0
 have hp1:W1.cell? ⟨w.heap.size,1,none⟩=some (.int .i64 b):=B1.out.facts.1 1
 have hpl:=B1.out.facts.2.2
 have hlk : ∀ n,(Instr.lookup 156 (.map (some x.g2)) (.agg #[.int .i64 a,.int .i64 b]) false).run Tryz.prog (W1.drewN n)=.ok (.int .i64 (s.pr a b)) (W1.drewN n):=fun n=>(D1.out.keep ((aA.refl W1).drewN n)).pr.look und hsa hsb
 have HBS:Hid (s.bothS a b=if s.pr a b=0 then ⟨(s.allS [a,b]).n,(s.allS [a,b]).cl,fD s.pr a b (s.allL [a,b])⟩ else s):=rfl
 have HBL:Hid (s.bothL a b=if s.pr a b=0 then s.allL [a,b] else s.pr a b):=rfl
 generalize hpr:s.pr a b=pv at hlk HBS HBL
 by_cases h0:pv=0
 ·subst h0
  go_quiet (fail)
  have k2:aA W1 (W1.drewN nq):=(aA.refl W1).drewN nq
  generalize W1.drewN nq=W2 at k2 ⊢
  have D2:=hid (D1.out.keep k2)
  have K2:=hid (K1.out.trans k2)
  have hb6:W2.cell? ⟨x.b,6,none⟩=some (.map (some x.g2)):=(k2.cell (p:=⟨x.b,6,none⟩) hbl).trans hb6
  have hp0:W2.cell? ⟨w.heap.size,0,none⟩=some (.int .i64 a):=(k2.cell (p:=⟨w.heap.size,0,none⟩) hpl).trans hp0
  have hp1:W2.cell? ⟨w.heap.size,1,none⟩=some (.int .i64 b):=(k2.cell (p:=⟨w.heap.size,1,none⟩) hpl).trans hp1
  have hbl2:x.b<W2.heap.size:=D2.out.box.facts.2.2
  have hpl2:w.heap.size<W2.heap.size:=Nat.lt_of_lt_of_le hpl k2.size
  have HNO:=hid (show ¬ x.own w.heap.size from fun ho=>by have:=(HD.out.lt ho).2;omega)
  clear hlk k2 D1 B1 hbl hpl
  have HS:=hid (show W2.cell? ⟨x.b,6,none⟩=some (.map (some x.g2))/\W2.cell? ⟨w.heap.size,0,none⟩=some (.int .i64 a)/\W2.cell? ⟨w.heap.size,1,none⟩=some (.int .i64 b) from ⟨hb6,hp0,hp1⟩)
  have HSd:=hid (show W2.drew.cell? ⟨x.b,6,none⟩=some (.map (some x.g2))/\W2.drew.cell? ⟨w.heap.size,0,none⟩=some (.int .i64 a)/\W2.drew.cell? ⟨w.heap.size,1,none⟩=some (.int .i64 b) from ⟨hb6,hp0,hp1⟩)
  have HV:=hid (aIz s a b)
  have HAS:=hid (aJb s a b)
  go_upto_region 3 with fail
  go_region_held3 (fun W'=>W'.cell? ⟨x.b,6,none⟩=some (.map (some x.g2))/\W'.cell? ⟨w.heap.size,0,none⟩=some (.int .i64 a)/\W'.cell? ⟨w.heap.size,1,none⟩=some (.int .i64 b))
   (first | with_reducible exact HS.out | with_reducible exact HSd.out | with_reducible exact HS4.out | with_reducible exact HS5.out | go_keep)
   (first | (go_at_call 167;refine (aEn x L s (fun c=>c=W2.drew.heap.size) [a,b] _ 2 2 (W2.drew.alloc (.cells #[.int .i64 a,.int .i64 b] 3)) rfl (D2.out.keep ((aA.drew (aA.refl _)).alloc' _)) (fun c hc=>by rw [hc,aC];omega) (mI _ _ _) (by simp) hc hn (fun y hy=>by simp at hy;rcases hy with rfl | rfl<;>assumption)).mono ?_;rintro e w4 ⟨rfl,v4,c4,d4,t4⟩;have D4:=hid d4;have T4:=hid ((aF.keep ((aA.drew (aA.refl W2)).alloc' _)).trans t4);have HS4:=hid (show w4.cell? ⟨x.b,6,none⟩=some (.map (some x.g2))/\w4.cell? ⟨w.heap.size,0,none⟩=some (.int .i64 a)/\w4.cell? ⟨w.heap.size,1,none⟩=some (.int .i64 b) from ⟨d4.cell 6,(T4.out.cell ⟨w.heap.size,0,none⟩ hpl2 HNO.out).trans HS.out.2.1,(T4.out.cell ⟨w.heap.size,1,none⟩ hpl2 HNO.out).trans HS.out.2.2⟩);obtain ⟨w5,hrun5,hm5,hg5⟩:=d4.pr.put und hsa hsb (v:=s.allL [a,b]) (by rw [HV.out];unfold SmP;omega) (by have h1:=d4.np;rw [HAS.out.1] at h1;have:(x.to v4 x.np c4).np=x.np:=rfl;omega);have HS5:=hid (show w5.cell? ⟨x.b,6,none⟩=some (.map (some x.g2))/\w5.cell? ⟨w.heap.size,0,none⟩=some (.int .i64 a)/\w5.cell? ⟨w.heap.size,1,none⟩=some (.int .i64 b) from ⟨(iI hg5 (b:=x.b) (o:=6) d4.box.facts.2.2 d4.low.2.2).trans HS4.out.1,(iI hg5 (b:=w.heap.size) (o:=0) (Nat.lt_of_lt_of_le hpl2 T4.out.size) (fun e=>HNO.out (.inr (.inr (.inl e))))).trans HS4.out.2.1,(iI hg5 (b:=w.heap.size) (o:=1) (Nat.lt_of_lt_of_le hpl2 T4.out.size) (fun e=>HNO.out (.inr (.inr (.inl e))))).trans HS4.out.2.2⟩);have P5:=hid (d4.put hm5 (by have:=HD.out.np;rw [HAS.out.1];show x.np+1<=_;omega) hg5);have hrun6:(Instr.mapUpdate 156 (.map (some x.g2)) (.agg #[.int .i64 a,.int .i64 b]) (.int .i64 (s.allL [a,b]))).run Tryz.prog w4=.ok () w5:=hrun5;clear d4 t4 hm5 hg5 hrun5))
  have D5:Hid (DM (x.to v4 (x.np+1) c4) L ⟨(s.allS [a,b]).n,(s.allS [a,b]).cl,fD s.pr a b (s.allL [a,b])⟩ w5):=by
   have:=P5.out.1
   rw [HAS.out.2.1] at this
   exact this
  have T5:=hid ((aF.keep K2.out).trans (T4.out.trans P5.out.2))
  have hb6:w5.cell? ⟨x.b,6,none⟩=some (.map (some x.g2)):=HS5.out.1
  have hp0:w5.cell? ⟨w.heap.size,0,none⟩=some (.int .i64 a):=HS5.out.2.1
  have hp1:w5.cell? ⟨w.heap.size,1,none⟩=some (.int .i64 b):=HS5.out.2.2
  have hbl5:x.b<w5.heap.size:=D5.out.box.facts.2.2
  have hpl5:w.heap.size<w5.heap.size:=Nat.lt_of_lt_of_le hpl2 (T4.out.trans P5.out.2).size
  have hlk5 : ∀ n,(Instr.lookup 156 (.map (some x.g2)) (.agg #[.int .i64 a,.int .i64 b]) false).run Tryz.prog (w5.drewN n)=.ok (.int .i64 (s.allL [a,b])) (w5.drewN n):=fun n=>by
   have:=(D5.out.keep ((aA.refl w5).drewN n)).pr.look und hsa hsb
   have e:fD s.pr a b (s.allL [a,b]) a b=s.allL [a,b]:=by simp [fD]
   rw [← e];exact this
  clear hrun6 P5 HS5 HS4 HS HSd D4 T4 D2 hbl2 hpl2
  go_wp2_with fail
  go_quiet (fail)
  have k6:aA w5 (w5.drewN nq):=(aA.refl w5).drewN nq
  generalize w5.drewN nq=W6 at k6 ⊢
  have D6:=hid (D5.out.keep k6)
  have T6:=hid (T5.out.trans (aF.keep k6))
  clear k6
  go_wp2_with fail
  go_ret
  refine ⟨by rw [HBL.out];rfl,v4,x.np+1,c4,?_,T6.out⟩
  rw [HBS.out];exact D6.out
 ·have h0':(pv==0)=false:=by simpa using h0
  go_quiet (fail)
  have k2:aA W1 (W1.drewN nq):=(aA.refl W1).drewN nq
  generalize W1.drewN nq=W2 at k2 ⊢
  have K2:=hid (K1.out.trans k2)
  have hb6:W2.cell? ⟨x.b,6,none⟩=some (.map (some x.g2)):=(k2.cell (p:=⟨x.b,6,none⟩) hbl).trans hb6
  have hp0:W2.cell? ⟨w.heap.size,0,none⟩=some (.int .i64 a):=(k2.cell (p:=⟨w.heap.size,0,none⟩) hpl).trans hp0
  have hp1:W2.cell? ⟨w.heap.size,1,none⟩=some (.int .i64 b):=(k2.cell (p:=⟨w.heap.size,1,none⟩) hpl).trans hp1
  have hbl2:x.b<W2.heap.size:=Nat.lt_of_lt_of_le hbl k2.size
  have hpl2:w.heap.size<W2.heap.size:=Nat.lt_of_lt_of_le hpl k2.size
  have hlk2 : ∀ n,(Instr.lookup 156 (.map (some x.g2)) (.agg #[.int .i64 a,.int .i64 b]) false).run Tryz.prog (W2.drewN n)=.ok (.int .i64 pv) (W2.drewN n):=fun n=>by rw [← hpr];exact (D1.out.keep (k2.trans ((aA.refl W2).drewN n))).pr.look und hsa hsb
  clear hlk k2 hbl hpl
  go_wp2_with fail
  go_quiet (fail)
  have k3:aA W2 (W2.drewN nq):=(aA.refl W2).drewN nq
  generalize W2.drewN nq=W3 at k3 ⊢
  have K3:=hid (K2.out.trans k3)
  clear k3
  go_wp2_with fail
  go_ret
  refine ⟨by rw [HBL.out,if_neg h0];rfl,x.cv,x.np,x.cs,?_,aF.keep K3.out⟩
  rw [HBS.out,if_neg h0];exact HD.out.keep K3.out
end Go.Proofs.YtonlloiemgdfkaaGreatDoor.Cn
