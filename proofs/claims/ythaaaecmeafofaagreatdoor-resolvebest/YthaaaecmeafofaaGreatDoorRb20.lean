/- Steps of the proof: EncRowsP, EncLitsP, SatKnown, SatAns, MapP, EncMem, EncClause, EncSome, Filled. -/
import Derived.Test.YthaaaecmeafofaaGreatDoorRb18
import Derived.Test.YthaaaecmeafofaaGreatDoorRb13
import Derived.Maps.Own
import Derived.Maps.OwnSet
import Derived.WideKeyPair
import Derived.Test.YthaaaecmeafofaaGreatDoorRb17
import Derived.Test.YthaaaecmeafofaaGreatDoorRb16
import Derived.Deep.RegionLaw
import Derived.Laws.AppendOwnNone
import Derived.Laws.OwnMore
import Derived.Deep.LoopGhost
import Derived.OwnWalk
set_option maxHeartbeats 16000000
set_option maxRecDepth 100000
namespace Go.Proofs.YthaaaecmeafofaaGreatDoor.Cn
def CT.t1 (c:CT):Nat->List Int
 | 0=>List.replicate c.nf.length 0
 | j+1=>(c.t1 j).set (c.ins.getD j 0) (-((j:Int)+1))
theorem CT.t1_len (c:CT) : ∀ j,(c.t1 j).length=c.nf.length
 | 0=>by simp [CT.t1]
 | j+1=>by rw [CT.t1,List.length_set,CT.t1_len c j]
theorem CT.t1_get {c:CT} (h:c.Ok) : ∀ j,j<=c.ins.length->∀ i,(c.t1 j).getD i 0=if (c.ins.take j).contains i=true then -((c.ins.idxOf i:Int)+1) else 0
 | 0,_,i=>by
  rw [CT.t1,List.getD_eq_getElem?_getD,List.getElem?_replicate]
  split<;>simp
 | j+1,hj,i=>by
  have hin:c.ins[j]? = some c.ins[j]:=List.getElem?_eq_getElem (by omega)
  have hg:c.ins.getD j 0=c.ins[j]:=by rw [List.getD_eq_getElem?_getD,hin];rfl
  rw [CT.t1,hg,List.take_succ_eq_append_getElem (by omega)]
  have hlt:=h.lt c.ins[j] (List.getElem_mem _)
  by_cases e:c.ins[j]=i
  ·subst e
   rw [List.getD_eq_getElem?_getD,List.getElem?_set_self (by rw [CT.t1_len];exact hlt),pA (vA h.up) hin,if_pos (by rw [List.contains_eq_mem,decide_eq_true_eq];exact List.mem_append_right _ List.mem_cons_self)]
   rfl
  ·have e2:(c.ins.take j ++ [c.ins[j]]).contains i=(c.ins.take j).contains i:=by
    rw [Bool.eq_iff_iff]
    simp only [List.contains_eq_mem,List.mem_append,List.mem_singleton,decide_eq_true_eq]
    constructor
    ·rintro (h | h)
     ·exact h
     ·exact absurd h.symm e
    ·exact .inl
   rw [List.getD_eq_getElem?_getD,List.getElem?_set_ne e,← List.getD_eq_getElem?_getD,CT.t1_get h j (by omega) i,e2]
def CT.t2 (c:CT):Nat->List Int × Int
 | 0=>(c.t1 c.ins.length,(c.ins.length:Int))
 | k+1=>if (c.t2 k).1.getD k 0=0 then ((c.t2 k).1.set k ((c.t2 k).2+1),(c.t2 k).2+1) else c.t2 k
theorem CT.t2_len (c:CT) : ∀ k,(c.t2 k).1.length=c.nf.length
 | 0=>CT.t1_len c _
 | k+1=>by
  rw [CT.t2]
  split
  ·rw [List.length_set,CT.t2_len c k]
  ·exact CT.t2_len c k
theorem aEz (p:Nat->Bool) {n k:Nat} (hk:k<n) (hp:p k=true):((List.range n).filter p).idxOf k=((List.range k).filter p).length:=by
 have hsp:List.range n=List.range k++(k :: List.range' (k+1) (n-k-1)):=by
  rw [List.range_eq_range',List.range_eq_range',← List.range'_succ,show n-k-1+1=n-k by omega]
  have:= @List.range'_append_1 0 k (n-k)
  rw [Nat.zero_add,show k+(n-k)=n by omega] at this
  exact this.symm
 rw [hsp,List.filter_append,List.filter_cons_of_pos hp,List.idxOf_append,if_neg (fun h=>by have:=List.mem_range.1 (List.mem_filter.1 h).1;omega),List.idxOf_cons_self]
 omega
theorem CT.tk_other {c:CT} {k:Nat} (hk:k<c.nf.length) (hn:c.ins.contains k=false):c.tkL k=((c.ins.length+((List.range k).filter fun i=> !c.ins.contains i).length:Nat):Int)+1:=by
 unfold CT.tkL CT.order sg
 have h1:k ∉ c.ins:=by simpa using hn
 rw [hn,Bool.not_false,if_pos rfl,List.idxOf_append,if_neg h1,aEz (fun i=> !c.ins.contains i) hk (by rw [hn];rfl)]
 omega
theorem CT.tk_ins {c:CT} {k:Nat} (hn:c.ins.contains k=true):c.tkL k = -((c.ins.idxOf k:Int)+1):=by
 unfold CT.tkL CT.order sg
 have h1:k∈c.ins:=by simpa using hn
 rw [hn,Bool.not_true,if_neg (by decide),List.idxOf_append,if_pos h1]
theorem CT.t2_get {c:CT} (h:c.Ok) : ∀ k,k<=c.nf.length->(c.t2 k).2=((c.ins.length+((List.range k).filter fun i=> !c.ins.contains i).length:Nat):Int)/\∀ i,i<c.nf.length->(c.t2 k).1.getD i 0=if i<k∨c.ins.contains i=true then c.tkL i else 0
 | 0,_=>⟨by simp [CT.t2],fun i hi=>by
   rw [CT.t2]
   show (c.t1 c.ins.length).getD i 0=_
   rw [CT.t1_get h _ (Nat.le_refl _),List.take_length]
   by_cases e:c.ins.contains i=true
   ·rw [if_pos e,if_pos (.inr e),CT.tk_ins e]
   ·rw [if_neg e,if_neg (fun h=>h.elim (by omega) e)]⟩
 | k+1,hk=>by
  obtain ⟨h1,h2⟩:=CT.t2_get h k (by omega)
  have hgk:=h2 k (by omega)
  rw [CT.t2,List.range_succ,List.filter_append]
  cases e:c.ins.contains k with
  | true=>
   rw [e,if_pos (.inr rfl)] at hgk
   have hne:c.tkL k≠0:=(CT.tk_lit h (by omega)).1
   rw [if_neg (by rw [hgk];exact hne)]
   refine ⟨by rw [h1,List.filter_cons_of_neg (by simpa using e)];simp,fun i hi=> ?_⟩
   rw [h2 i hi]
   by_cases hik:i=k
   ·subst hik;rw [if_pos (.inr e),if_pos (.inr e)]
   ·by_cases h3:i<k∨c.ins.contains i=true
    ·rw [if_pos h3,if_pos (h3.imp (by omega) id)]
    ·rw [if_neg h3,if_neg (fun h=>h3 (h.imp (by omega) id))]
  | false=>
   rw [e,if_neg (by simp)] at hgk
   rw [if_pos hgk]
   have h5:=CT.tk_other (c:=c) (k:=k) (by omega) e
   refine ⟨by rw [h1,List.filter_cons_of_pos (by simp only [e,Bool.not_false])];simp;omega,fun i hi=> ?_⟩
   show ((c.t2 k).1.set k ((c.t2 k).2+1)).getD i 0=_
   by_cases hik:k=i
   ·subst hik
    rw [List.getD_eq_getElem?_getD,List.getElem?_set_self (by rw [CT.t2_len];omega),h1,if_pos (.inl (by omega)),h5]
    rfl
   ·rw [List.getD_eq_getElem?_getD,List.getElem?_set_ne hik,← List.getD_eq_getElem?_getD,h2 i hi]
    by_cases h3:i<k∨c.ins.contains i=true
    ·rw [if_pos h3,if_pos (h3.imp (by omega) id)]
    ·rw [if_neg h3,if_neg (fun h=>h3 (h.imp (by omega) id))]
def CT.tks (c:CT):List Int:=(List.range c.nf.length).map c.tkL
theorem CT.tks_get (c:CT) {i:Nat} (hi:i<c.nf.length):c.tks[i]? = some (c.tkL i):=by
 unfold CT.tks
 rw [List.getElem?_map,List.getElem?_range hi];rfl
theorem CT.tks_len (c:CT):c.tks.length=c.nf.length:=by simp [CT.tks]
theorem CT.t2_done {c:CT} (h:c.Ok):c.t2 c.nf.length=(c.tks,(c.nf.length:Int)):=by
 obtain ⟨h1,h2⟩:=CT.t2_get h c.nf.length (Nat.le_refl _)
 refine Prod.ext ?_ ?_
 ·refine List.ext_getElem? fun i=> ?_
  by_cases hi:i<c.nf.length
  ·have:=h2 i hi
   rw [if_pos (.inl hi),List.getD_eq_getElem?_getD,List.getElem?_eq_getElem (by rw [CT.t2_len];exact hi)] at this
   rw [CT.tks_get c hi,List.getElem?_eq_getElem (by rw [CT.t2_len];exact hi)]
   exact congrArg some this
  ·rw [List.getElem?_eq_none (by rw [CT.t2_len];omega),List.getElem?_eq_none (by rw [CT.tks_len];omega)]
 ·rw [h1]
  have:=CT.order_len h
  unfold CT.order at this
  rw [List.length_append] at this
  show _=(c.nf.length:Int)
  omega
theorem CT.t2_le {c:CT} (h:c.Ok) {k:Nat} (hk:k<=c.nf.length):0<=(c.t2 k).2/\(c.t2 k).2<=2*c.nf.length:=by
 obtain ⟨h1,-⟩:=CT.t2_get h k hk
 have h2:=List.length_filter_le (fun i=> !c.ins.contains i) (List.range k)
 rw [List.length_range] at h2
 have h3:=CT.order_len h
 unfold CT.order at h3
 rw [List.length_append] at h3
 omega
def CT.f3 (c:CT) (i k:Nat) (x y:Int):Int:=if 0<=x/\0<=y/\y<c.nf.getD x.toNat 0/\(x<i∨x=i/\y<k) then ((c.base x.toNat+y.toNat:Nat):Int)+1 else 0
theorem CT.f3_zero (c:CT):c.f3 0 0=fun _ _=>0:=by
 funext x y
 unfold CT.f3
 rw [if_neg (by omega)]
theorem CT.f3_put (c:CT) {i k:Nat} (hk:k<c.nf.getD i 0):fT (c.f3 i k) (i:Int) (k:Int) (((c.base i+k:Nat):Int)+1)=c.f3 i (k+1):=by
 funext x y
 unfold fT
 by_cases e:x=(i:Int)/\y=(k:Int)
 ·obtain ⟨rfl,rfl⟩:=e
  rw [if_pos ⟨rfl,rfl⟩,CT.f3,if_pos ⟨by omega,by omega,by rw [Int.toNat_natCast];omega,by omega⟩,Int.toNat_natCast,Int.toNat_natCast]
 ·rw [if_neg e]
  unfold CT.f3
  by_cases h:0<=x/\0<=y/\y<c.nf.getD x.toNat 0/\(x<i∨x=i/\y<k)
  ·rw [if_pos h,if_pos ⟨h.1,h.2.1,h.2.2.1,by omega⟩]
  ·rw [if_neg h,if_neg (fun g=>h ⟨g.1,g.2.1,g.2.2.1,by omega⟩)]
theorem CT.f3_next (c:CT) {i k:Nat} (hk:k=c.nf.getD i 0):c.f3 i k=c.f3 (i+1) 0:=by
 subst hk
 funext x y
 unfold CT.f3
 by_cases h:0<=x/\0<=y/\y<c.nf.getD x.toNat 0/\(x<i∨x=i/\y<c.nf.getD i 0)
 ·rw [if_pos h,if_pos ⟨h.1,h.2.1,h.2.2.1,by omega⟩]
 ·rw [if_neg h,if_neg (fun g=>h ⟨g.1,g.2.1,g.2.2.1,by
   by_cases hx:x=i
   ·right
    have:=g.2.2.1
    rw [hx,Int.toNat_natCast] at this
    exact ⟨hx,this⟩
   ·left;omega⟩)]
def CT.f4 (c:CT) (on:List (Int × Int)) (j:Nat) (x y:Int):Int:=if (on.take j).contains (x,y)=true then -(c.f3 c.nf.length 0 x y) else c.f3 c.nf.length 0 x y
theorem CT.f4_zero (c:CT) (on:List (Int × Int)):c.f4 on 0=c.f3 c.nf.length 0:=by
 funext x y
 simp [CT.f4]
theorem CT.f4_put (c:CT) {on:List (Int × Int)} (hn:on.Nodup) {j:Nat} (hj:j<on.length):fT (c.f4 on j) on[j].1 on[j].2 (-(c.f4 on j on[j].1 on[j].2))=c.f4 on (j+1):=by
 have hnot:(on.take j).contains on[j]=false:=by
  have:on[j] ∉ on.take j:=fun hm=>by
   obtain ⟨i,hi,e⟩:=List.getElem_of_mem hm
   rw [List.getElem_take] at e
   rw [List.length_take] at hi
   rw [List.nodup_iff_pairwise_ne,List.pairwise_iff_getElem] at hn
   exact hn i j (by omega) hj (by omega) e
  simpa using this
 funext x y
 unfold fT
 by_cases e:x=on[j].1/\y=on[j].2
 ·rw [if_pos e]
  obtain ⟨rfl,rfl⟩:=e
  have h2:(on.take (j+1)).contains (on[j].1,on[j].2)=true:=by rw [List.take_succ_eq_append_getElem hj,List.contains_eq_mem,decide_eq_true_eq];exact List.mem_append_right _ List.mem_cons_self
  unfold CT.f4
  rw [if_pos h2,if_neg (by rw [show (on[j].1,on[j].2)=on[j] from rfl,hnot];decide)]
 ·rw [if_neg e]
  unfold CT.f4
  have h2:(on.take (j+1)).contains (x,y)=(on.take j).contains (x,y):=by
   rw [List.take_succ_eq_append_getElem hj,Bool.eq_iff_iff]
   simp only [List.contains_eq_mem,List.mem_append,List.mem_singleton,decide_eq_true_eq]
   constructor
   ·rintro (h | h)
    ·exact h
    ·exact absurd ⟨congrArg Prod.fst h,congrArg Prod.snd h⟩ e
   ·exact .inl
  rw [h2]
def CT.fgs (c:CT) (on:List (Int × Int)):Int->Int->Int:=c.f4 on on.length
theorem CT.fgs_get {c:CT} {on:List (Int × Int)} (hc : ∀ i k:Nat,c.on i k=on.contains ((i:Int),(k:Int))) {i k:Nat} (hi:i<c.nf.length) (hk:k<c.nf.getD i 0):c.fgs on (i:Int) (k:Int)=c.fgL i k:=by
 unfold CT.fgs CT.f4 CT.fgL sg
 rw [List.take_length,hc i k]
 have h3:c.f3 c.nf.length 0 (i:Int) (k:Int)=((c.base i+k:Nat):Int)+1:=by
  rw [CT.f3,if_pos ⟨by omega,by omega,by rw [Int.toNat_natCast];omega,by omega⟩,Int.toNat_natCast,Int.toNat_natCast]
 rw [h3]
 cases on.contains ((i:Int),(k:Int))<;>simp
theorem CT.f3_le (c:CT) (i k:Nat) (x y:Int) (hi:i<=c.nf.length) (hk:0<k->i<c.nf.length):0<=c.f3 i k x y/\c.f3 i k x y<=c.many:=by
 unfold CT.f3
 by_cases h:0<=x/\0<=y/\y<c.nf.getD x.toNat 0/\(x<i∨x=i/\y<k)
 ·rw [if_pos h]
  have:=CT.fg_lit c (i:=x.toNat) (k:=y.toNat) (by omega) (by omega)
  unfold CT.fgL sg Lit at this
  have h2:(((c.base x.toNat+y.toNat:Nat):Int)+1).natAbs<=c.many:=by
   split at this
   ·exact this.2
   ·have:=this.2;omega
  omega
 ·rw [if_neg h];omega
theorem CT.f4_le (c:CT) (on:List (Int × Int)) (j:Nat) (x y:Int):(c.f4 on j x y).natAbs<=c.many:=by
 have:=CT.f3_le c c.nf.length 0 x y (Nat.le_refl _) (by omega)
 unfold CT.f4
 split<;>omega
def vI (row:List Int) (x:Int):List Int:=row.set (x.natAbs-1) x
theorem zX {m:List Bool} {x:Int} (hx:Lit m.length x):vI (chL m) x=chL (m.set (x.natAbs-1) (decide (0<x))):=by
 obtain ⟨h0,h1⟩:=hx
 unfold vI
 refine List.ext_getElem? fun v=> ?_
 by_cases hv:v<m.length
 ·rw [nN (by simpa using hv)]
  by_cases e:x.natAbs-1=v
  ·subst e
   rw [List.getElem?_set_self (by rw [iL];omega)]
   have h2:(m.set (x.natAbs-1) (decide (0<x))).getD (x.natAbs-1) false=decide (0<x):=by simp [List.getD_eq_getElem?_getD,hv]
   rw [h2]
   by_cases hp:0<x
   ·simp only [hp,decide_true,if_true];congr 1;omega
   ·simp only [hp,decide_false,Bool.false_eq_true,if_false];congr 1;omega
  ·rw [List.getElem?_set_ne e,nN hv]
   have h2:(m.set (x.natAbs-1) (decide (0<x))).getD v false=m.getD v false:=by simp [List.getD_eq_getElem?_getD,List.getElem?_set_ne e]
   rw [h2]
 ·rw [List.getElem?_eq_none (by rw [List.length_set,iL];omega),List.getElem?_eq_none (by rw [iL,List.length_set];omega)]
def vG (n:Nat):Nat->List Int
 | 0=>List.replicate n 0
 | k+1=>vI (vG n k) (-((k:Int)+1))
theorem qR (n:Nat) : ∀ k,(vG n k).length=n
 | 0=>by simp [vG]
 | k+1=>by rw [vG,vI,List.length_set,qR n k]
theorem aDg (n:Nat) : ∀ k,k<=n->∀ v,v<k->(vG n k)[v]? = some (-(v:Int)-1)
 | 0,_,v,h=>by omega
 | k+1,hk,v,h=>by
  rw [vG,vI,show (-((k:Int)+1)).natAbs-1=k by omega]
  by_cases e:k=v
  ·subst e
   rw [List.getElem?_set_self (by rw [qR];omega)];congr 1;omega
  ·rw [List.getElem?_set_ne e,aDg n k (by omega) v (by omega)]
theorem aKs (n:Nat):vG n n=chL (List.replicate n false):=by
 refine List.ext_getElem? fun v=> ?_
 by_cases hv:v<n
 ·rw [aDg n n (Nat.le_refl _) v hv,nN (by simpa using hv)]
  simp [List.getD_eq_getElem?_getD,hv]
 ·rw [List.getElem?_eq_none (by rw [qR];omega),List.getElem?_eq_none (by rw [iL];simp;omega)]
def CT.stT (c:CT) (m:List Bool) (i:Nat):List Bool:=m.set (c.order.idxOf i) (c.ins.contains i)
def CT.stY (c:CT) (m:List Bool) (i:Nat):List Bool:=m.set (c.order.idxOf i) (!c.ins.contains i)
def CT.stF (c:CT) (i:Nat) (on:List Bool) (m:List Bool):Nat->List Bool
 | 0=>m
 | k+1=>(c.stF i on m k).set (c.base i+k) (on.getD k false != c.on i k)
theorem nF (x:Int) (b:Bool):(sg x b).natAbs=x.natAbs:=by unfold sg;split<;>omega
theorem CT.set_tkN {c:CT} (h:c.Ok) {m:List Bool} (hm:m.length=c.many) {i:Nat} (hi:i<c.nf.length):vI (chL m) (-c.tkL i)=chL (c.stT m i):=by
 rw [zX (by rw [hm];exact (CT.tk_lit h hi).neg)]
 unfold CT.stT
 have h1:(-c.tkL i).natAbs-1=c.order.idxOf i:=by unfold CT.tkL;rw [Int.natAbs_neg,nF];omega
 have h2:decide (0 < -c.tkL i)=c.ins.contains i:=by
  unfold CT.tkL sg
  cases c.ins.contains i<;>simp<;>omega
 rw [h1,h2]
theorem CT.set_tkY {c:CT} (h:c.Ok) {m:List Bool} (hm:m.length=c.many) {i:Nat} (hi:i<c.nf.length):vI (chL m) (c.tkL i)=chL (c.stY m i):=by
 rw [zX (by rw [hm];exact CT.tk_lit h hi)]
 unfold CT.stY
 have h1:(c.tkL i).natAbs-1=c.order.idxOf i:=by unfold CT.tkL;rw [nF];omega
 have h2:decide (0<c.tkL i) = !c.ins.contains i:=by
  unfold CT.tkL sg
  cases c.ins.contains i<;>simp<;>omega
 rw [h1,h2]
theorem CT.stF_len (c:CT) (i:Nat) (on m:List Bool) : ∀ k,(c.stF i on m k).length=m.length
 | 0=>rfl
 | k+1=>by rw [CT.stF,List.length_set,CT.stF_len c i on m k]
theorem CT.set_fg (c:CT) {m:List Bool} (hm:m.length=c.many) {i k:Nat} (hi:i<c.nf.length) (hk:k<c.nf.getD i 0) (on:List Bool):vI (chL (c.stF i on m k)) (sg (c.fgL i k) (on.getD k false))=chL (c.stF i on m (k+1)):=by
 rw [zX (by rw [CT.stF_len,hm];exact pE (CT.fg_lit c hi hk) _)]
 have h1:(sg (c.fgL i k) (on.getD k false)).natAbs-1=c.base i+k:=by unfold CT.fgL;rw [nF,nF];omega
 have h2:decide (0<sg (c.fgL i k) (on.getD k false))=(on.getD k false != c.on i k):=by
  unfold CT.fgL sg
  cases c.on i k<;>cases on.getD k false<;>simp<;>omega
 rw [h1,h2,CT.stF]
def CT.l2 (c:CT):Nat->List Bool
 | 0=>List.replicate c.many false
 | i+1=>c.stT (c.l2 i) i
theorem CT.l2_len (c:CT) : ∀ i,(c.l2 i).length=c.many
 | 0=>by simp [CT.l2]
 | i+1=>by rw [CT.l2,CT.stT,List.length_set,CT.l2_len c i]
def CT.l3 (c:CT) (l:List (Nat × List Bool)):Nat->List Bool
 | 0=>c.l2 c.nf.length
 | j+1=>c.stF (l.getD j (0,[])).1 (l.getD j (0,[])).2 (c.stY (c.l3 l j) (l.getD j (0,[])).1) (l.getD j (0,[])).2.length
theorem CT.l3_len (c:CT) (l:List (Nat × List Bool)) : ∀ j,(c.l3 l j).length=c.many
 | 0=>CT.l2_len c _
 | j+1=>by rw [CT.l3,CT.stF_len,CT.stY,List.length_set,CT.l3_len c l j]
theorem kR : ∀ (l:List Nat) (i j:Nat),i<=j->(l.take i).sum<=(l.take j).sum
 | [],i,j,_=>by simp
 | a :: l,0,j,_=>by simp
 | a :: l,i+1,0,h=>by omega
 | a :: l,i+1,j+1,h=>by
  have:=kR l i j (by omega)
  simp
  omega
theorem CT.base_lt (c:CT) {i i' k:Nat} (hi:i<i') (hin:i<c.nf.length) (hk:k<c.nf.getD i 0):c.base i+k<c.base i':=by
 have h1:=kR c.nf (i+1) i' hi
 rw [List.take_succ_eq_append_getElem hin,List.sum_append] at h1
 rw [List.getD_eq_getElem?_getD,List.getElem?_eq_getElem hin] at hk
 simp at hk h1
 unfold CT.base
 omega
theorem CT.base_inj (c:CT) {i k i' k':Nat} (hi:i<c.nf.length) (hk:k<c.nf.getD i 0) (hi':i'<c.nf.length) (hk':k'<c.nf.getD i' 0) (e:c.base i+k=c.base i'+k'):i=i'/\k=k':=by
 rcases Nat.lt_trichotomy i i' with h | h | h
 ·have:=CT.base_lt c h hi hk;omega
 ·subst h;omega
 ·have:=CT.base_lt c h hi' hk';omega
theorem CT.base_lt_many (c:CT) {i k:Nat} (hi:i<c.nf.length) (hk:k<c.nf.getD i 0):c.base i+k<c.many:=by
 have:=nG c.nf i k hi hk
 unfold CT.base CT.many
 omega
theorem CT.idx_lt {c:CT} (h:c.Ok) {i:Nat} (hi:i<c.nf.length):c.order.idxOf i<c.nf.length:=by
 have:=List.idxOf_lt_length_iff.2 ((CT.order_mem h i).2 hi)
 rwa [CT.order_len h] at this
theorem CT.idx_inj {c:CT} (h:c.Ok) {i i':Nat} (hi:i<c.nf.length) (hi':i'<c.nf.length) (e:c.order.idxOf i=c.order.idxOf i'):i=i':=by
 have h1:=yY ((CT.order_mem h i).2 hi)
 have h2:=yY ((CT.order_mem h i').2 hi')
 rw [e,h2] at h1
 exact (Option.some.inj h1).symm
theorem kM {m:List Bool} {v:Nat} (hv:v<m.length) (b:Bool):(m.set v b).getD v false=b:=by simp [List.getD_eq_getElem?_getD,hv]
theorem fP {m:List Bool} {v u:Nat} (h:v≠u) (b:Bool):(m.set v b).getD u false=m.getD u false:=by simp [List.getD_eq_getElem?_getD,List.getElem?_set_ne h]
theorem CT.stF_get (c:CT) {i:Nat} (hi:i<c.nf.length) (on:List Bool) {m:List Bool} (hm:m.length=c.many) : ∀ K,K<=c.nf.getD i 0->(∀ k<K,(c.stF i on m K).getD (c.base i+k) false=(on.getD k false != c.on i k))/\∀ v,(∀ k<K,v≠c.base i+k)->(c.stF i on m K).getD v false=m.getD v false
 | 0,_=>⟨fun k hk=>by omega,fun v _=>rfl⟩
 | K+1,hK=>by
  obtain ⟨h1,h2⟩:=CT.stF_get c hi on hm K (by omega)
  have hlt:=CT.base_lt_many c hi (k:=K) (by omega)
  refine ⟨fun k hk=> ?_,fun v hv=> ?_⟩
  ·rw [CT.stF]
   by_cases e:k=K
   ·subst e;rw [kM (by rw [CT.stF_len,hm];exact hlt)]
   ·rw [fP (by omega),h1 k (by omega)]
  ·rw [CT.stF,fP (fun e=>hv K (by omega) e.symm),h2 v fun k hk=>hv k (by omega)]
structure CT.Says (c:CT) (l:List (Nat × List Bool)) (m:List Bool):Prop where
 len:m.length=c.many
 tk : ∀ i<c.nf.length,m.getD (c.order.idxOf i) false=(uC l i != c.ins.contains i)
 fg : ∀ i<c.nf.length,∀ k<c.nf.getD i 0,m.getD (c.base i+k) false=oK l c i k
theorem CT.l2_get {c:CT} (h:c.Ok) : ∀ n,n<=c.nf.length->(∀ i<n,(c.l2 n).getD (c.order.idxOf i) false=c.ins.contains i)/\∀ v,c.nf.length<=v->(c.l2 n).getD v false=false
 | 0,_=>⟨fun i hi=>by omega,fun v _=>by
   rw [CT.l2,List.getD_eq_getElem?_getD,List.getElem?_replicate]
   split<;>rfl⟩
 | n+1,hn=>by
  obtain ⟨h1,h2⟩:=CT.l2_get h n (by omega)
  have hx:=CT.idx_lt h (i:=n) (by omega)
  refine ⟨fun i hi=> ?_,fun v hv=> ?_⟩
  ·rw [CT.l2,CT.stT]
   by_cases e:i=n
   ·subst e;rw [kM (by rw [CT.l2_len];unfold CT.many;omega)]
   ·rw [fP (fun hh=>e (CT.idx_inj h (by omega) (by omega) hh.symm)),h1 i (by omega)]
  ·rw [CT.l2,CT.stT,fP (by omega),h2 v hv]
theorem CT.says_none {c:CT} (h:c.Ok):c.Says [] (c.l3 [] 0):=by
 obtain ⟨h1,h2⟩:=CT.l2_get h c.nf.length (Nat.le_refl _)
 refine ⟨CT.l3_len c _ _,fun i hi=> ?_,fun i hi k hk=> ?_⟩
 ·show (c.l2 _).getD _ _=_
  rw [h1 i hi];cases c.ins.contains i<;>rfl
 ·show (c.l2 _).getD _ _=_
  rw [h2 _ (by unfold CT.base;omega)];rfl
theorem CT.says_more {c:CT} (h:c.Ok) {l:List (Nat × List Bool)} {m:List Bool} {a:Nat × List Bool} (hs:c.Says l m) (ha:a.1<c.nf.length) (hf:a.2.length=c.nf.getD a.1 0) (hn : ∀ b∈l,b.1≠a.1):c.Says (l ++ [a]) (c.stF a.1 a.2 (c.stY m a.1) a.2.length):=by
 have hl:(c.stY m a.1).length=c.many:=by rw [CT.stY,List.length_set,hs.len]
 obtain ⟨h1,h2⟩:=CT.stF_get c ha a.2 hl a.2.length (by omega)
 have hx:=CT.idx_lt h ha
 have hnone:l.find? (fun b=>b.1==a.1)=none:=List.find?_eq_none.2 fun b hb=>by simpa using hn b hb
 refine ⟨by rw [CT.stF_len,hl],fun i hi=> ?_,fun i hi k hk=> ?_⟩
 ·have hxi:=CT.idx_lt h hi
  rw [h2 _ fun k hk e=>by unfold CT.base at e;omega,CT.stY]
  unfold uC
  rw [List.any_append,List.any_cons,List.any_nil,Bool.or_false]
  by_cases e:i=a.1
  ·subst e
   rw [kM (by rw [hs.len];unfold CT.many;omega)]
   simp
  ·rw [fP (fun hh=>e (CT.idx_inj h hi ha hh.symm)),hs.tk i hi]
   have:(a.1==i)=false:=by simpa using Ne.symm e
   rw [this,Bool.or_false]
   rfl
 ·by_cases e:i=a.1
  ·subst e
   rw [h1 k (by omega)]
   unfold oK
   rw [List.find?_append,hnone]
   simp
  ·rw [h2 _ fun k' hk' hh=>e (CT.base_inj c hi hk ha (by omega) hh).1,CT.stY,fP (by unfold CT.base;omega),hs.fg i hi k hk]
   unfold oK
   have:(a.1==i)=false:=by simpa using Ne.symm e
   rw [List.find?_append,List.find?_cons,this]
   cases l.find? fun b=>b.1==i<;>rfl
theorem CT.says_all {c:CT} (h:c.Ok) {l:List (Nat × List Bool)} (hl:c.IsSet l) : ∀ j,j<=l.length->c.Says (l.take j) (c.l3 l j)
 | 0,_=>by have:=CT.says_none h;simpa [CT.l3] using this
 | j+1,hj=>by
  have hs:=CT.says_all h hl j (by omega)
  have hg:l.getD j (0,[])=l[j]:=by rw [List.getD_eq_getElem?_getD,List.getElem?_eq_getElem (by omega)];rfl
  have hm:=List.getElem_mem (show j<l.length by omega)
  rw [CT.l3,hg,List.take_succ_eq_append_getElem (by omega)]
  refine CT.says_more h hs (hl.lt _ hm) (hl.fl _ hm) fun b hb=> ?_
  obtain ⟨i,hi,e⟩:=List.getElem_of_mem hb
  rw [List.getElem_take] at e
  rw [List.length_take] at hi
  have:=List.pairwise_iff_getElem.1 hl.up i j (by omega) (by omega) (by omega)
  rw [e] at this
  omega
theorem CT.l3_done {c:CT} (h:c.Ok) {l:List (Nat × List Bool)} (hl:c.IsSet l):c.l3 l l.length=c.mod l:=by
 have hs:=CT.says_all h hl l.length (Nat.le_refl _)
 rw [List.take_length] at hs
 refine lA (by rw [hs.len,CT.mod_len h]) fun v hv=> ?_
 rw [hs.len] at hv
 by_cases hn:v<c.nf.length
 ·have hvo:v<c.order.length:=by rw [CT.order_len h];exact hn
  have hg:c.order[v]? = some c.order[v]:=List.getElem?_eq_getElem hvo
  have hx:=pA (CT.order_nodup h) hg
  have hi:=(CT.order_mem h _).1 (List.mem_of_getElem? hg)
  have:=hs.tk _ hi
  rw [hx] at this
  rw [this,CT.mod_take h l hg]
 ·obtain ⟨i,k,hi,hk,hvk⟩:=oF (nf:=c.nf) (v:=v-c.nf.length) (by unfold CT.many at hv;omega)
  have hve:v=c.base i+k:=by unfold CT.base;omega
  subst hve
  rw [hs.fg i hi k hk,CT.mod_flag h l hi hk]
end Go.Proofs.YthaaaecmeafofaaGreatDoor.Cn
namespace Go.Proofs.YthaaaecmeafofaaGreatDoor.Cn
theorem aOw : ∀ {a b:List Nat},a.Pairwise (· < ·)->b.Pairwise (· < ·)->(∀ x,x∈a↔x∈b)->a=b
 | [],[],_,_,_=>rfl
 | [],y :: b,_,_,h=>absurd ((h y).2 List.mem_cons_self) (by simp)
 | x :: a,[],_,_,h=>absurd ((h x).1 List.mem_cons_self) (by simp)
 | x :: a,y :: b,ha,hb,h=>by
  obtain ⟨ha1,ha2⟩:=List.pairwise_cons.1 ha
  obtain ⟨hb1,hb2⟩:=List.pairwise_cons.1 hb
  have hxy:x=y:=by
   rcases List.mem_cons.1 ((h x).1 List.mem_cons_self) with e | e
   ·exact e
   ·rcases List.mem_cons.1 ((h y).2 List.mem_cons_self) with e' | e'
    ·exact e'.symm
    ·have:=hb1 x e;have:=ha1 y e';omega
  subst hxy
  congr 1
  refine aOw ha2 hb2 fun z=>⟨fun hz=> ?_,fun hz=> ?_⟩
  ·rcases List.mem_cons.1 ((h z).1 (List.mem_cons_of_mem _ hz)) with e | e
   ·subst e;exact absurd (ha1 z hz) (Nat.lt_irrefl _)
   ·exact e
  ·rcases List.mem_cons.1 ((h z).2 (List.mem_cons_of_mem _ hz)) with e | e
   ·subst e;exact absurd (hb1 z hz) (Nat.lt_irrefl _)
   ·exact e
structure mE (n:Nat) (F:List (List Int)) (A:List Int) (l:List Int):Prop where
 up:l.Pairwise fun x y=>x.natAbs<y.natAbs
 mem : ∀ x,x∈l↔Der F A x
 lit:aL n l
theorem aBc {n:Nat} {F:List (List Int)} {A K L:List Int} (h:aAp n F A K L) (hL : ∀ x,x∈L↔Der F A x):mE n F A (dW K):=by
 refine ⟨?_,fun x=>(aBy h x).trans (hL x),fun x hx=>h.lits ((aBy h x).1 hx)⟩
 unfold dW
 rw [List.pairwise_filter,List.pairwise_iff_getElem]
 intro i j hi hj hij h1 h2
 have hx:K[i]≠0:=by simpa using h1
 have hy:K[j]≠0:=by simpa using h2
 have e1:K.getD i 0=K[i]:=by simp [List.getD_eq_getElem?_getD,hi]
 have e2:K.getD j 0=K[j]:=by simp [List.getD_eq_getElem?_getD,hj]
 have a:=h.own i hi
 have b:=h.own j hj
 rw [e1] at a
 rw [e2] at b
 have a:=a.resolve_left hx
 have b:=b.resolve_left hy
 omega
open Classical in
theorem mE.vars {n:Nat} {F:List (List Int)} {A l:List Int} (h:mE n F A l):l.map Int.natAbs=(List.range' 1 n).filter fun k=>decide (Kn F A k):=by
 refine aOw (List.pairwise_map.2 h.up) (List.Pairwise.filter _ (List.pairwise_lt_range' ..)) fun k=> ?_
 rw [List.mem_map,List.mem_filter,List.mem_range'_1]
 constructor
 ·rintro ⟨x,hx,rfl⟩
  have hl:=h.lit x hx
  have hd:=(h.mem x).1 hx
  refine ⟨⟨by have:=hl.1;omega,by have:=hl.2;omega⟩,decide_eq_true ?_⟩
  rcases Int.lt_or_gt_of_ne hl.1 with h0 | h0
  ·exact .inr (by rwa [show -(x.natAbs:Int)=x by omega])
  ·exact .inl (by rwa [show (x.natAbs:Int)=x by omega])
 ·rintro ⟨-,hk⟩
  rcases of_decide_eq_true hk with hd | hd
  ·exact ⟨_,(h.mem _).2 hd,by simp⟩
  ·exact ⟨_,(h.mem _).2 hd,by simp⟩
theorem mE.full {n:Nat} {F:List (List Int)} {A l:List Int} (h:mE n F A l):l.length=n↔iN n F A=none:=by
 classical
 have hv:=congrArg List.length h.vars
 rw [List.length_map] at hv
 constructor
 ·intro e
  refine uS fun k h1 h2=> ?_
  have e2:((List.range' 1 n).filter fun k=>decide (Kn F A k)).length=(List.range' 1 n).length:=by rw [← hv,e];simp
  have:=(List.length_filter_eq_length_iff.1 e2) k (List.mem_range'_1.2 ⟨h1,by omega⟩)
  exact of_decide_eq_true this
 ·intro e
  have hall:=iS e
  have e2:((List.range' 1 n).filter fun k=>decide (Kn F A k)).length=(List.range' 1 n).length:=List.length_filter_eq_length_iff.2 fun k hk=>by
   have:=List.mem_range'_1.1 hk
   exact decide_eq_true (hall k this.1 (by omega))
  rw [hv,e2];simp
theorem mE.short {n:Nat} {F:List (List Int)} {A l:List Int} (h:mE n F A l):l.length<=n:=by
 classical
 have hv:=congrArg List.length h.vars
 rw [List.length_map] at hv
 have:=List.length_filter_le (fun k=>decide (Kn F A k)) (List.range' 1 n)
 simp at this;omega
theorem mE.model {n:Nat} {F:List (List Int)} {A l:List Int} (h:mE n F A l) (hf : ¬ bJ F A) (hl:iN n F A=none):l.map (fun x=>decide (0<x))=sT n F A:=by
 classical
 have hlen:=h.full.2 hl
 have hall:=iS hl
 have hv:l.map Int.natAbs=List.range' 1 n:=by
  rw [h.vars]
  refine List.filter_eq_self.2 fun k hk=> ?_
  have:=List.mem_range'_1.1 hk
  exact decide_eq_true (hall k this.1 (by omega))
 refine lA (by rw [List.length_map,kH,hlen]) fun i hi=> ?_
 rw [List.length_map] at hi
 rw [uV (by omega),List.getD_eq_getElem?_getD,List.getElem?_map,List.getElem?_eq_getElem hi]
 simp only [Option.map_some,Option.getD_some]
 have hn:(l[i]).natAbs=i+1:=by
  have:=congrArg (fun q=>q[i]?) hv
  simp only [List.getElem?_map,List.getElem?_eq_getElem hi,Option.map_some] at this
  rw [List.getElem?_range' (by omega)] at this
  have:=Option.some.inj this
  omega
 have hd:=(h.mem _).1 (List.getElem_mem hi)
 generalize l[i]=x at hn hd
 by_cases hx:0<x
 ·have:((i+1:Nat):Int)=x:=by omega
  rw [this];simp [hx,hd]
 ·have e:((i+1:Nat):Int) = -x:=by omega
  rw [e]
  have hno : ¬ Der F A (-x):=fun h'=>hf (.inl ⟨x,hd,h'⟩)
  simp [hx,hno]
theorem mE.gap {n:Nat} {F:List (List Int)} {A l:List Int} {k:Nat} (h:mE n F A l) (hl:iN n F A=some k):(∀ (i:Nat) x,i<k-1->l[i]? = some x->x.natAbs=i+1)/\k-1<=l.length/\∀ x,l[k-1]? = some x->x.natAbs≠k:=by
 classical
 obtain ⟨h1,h2,h3,h4⟩:=fQ hl
 have hv:=h.vars
 have hsp:List.range' 1 n=List.range' 1 (k-1)++k :: List.range' (k+1) (n-k):=by
  have e1:= @List.range'_append_1 1 (k-1) (n-k+1)
  rw [show k-1+(n-k+1)=n by omega,List.range'_succ,show 1+(k-1)=k by omega] at e1
  exact e1.symm
 rw [hsp,List.filter_append,List.filter_cons,if_neg (by simpa using h3)] at hv
 have hfull:(List.range' 1 (k-1)).filter (fun k=>decide (Kn F A k))=List.range' 1 (k-1):=List.filter_eq_self.2 fun j hj=>by
  have:=List.mem_range'_1.1 hj
  exact decide_eq_true (h4 j this.1 (by omega))
 rw [hfull] at hv
 have hget : ∀ i:Nat,(l[i]?).map Int.natAbs=(List.range' 1 (k-1)++(List.range' (k+1) (n-k)).filter fun k=>decide (Kn F A k))[i]? :=fun i=>by rw [← hv,List.getElem?_map]
 have hlen:=congrArg List.length hv
 rw [List.length_map,List.length_append,List.length_range'] at hlen
 refine ⟨fun i x hi hx=> ?_,by omega,fun x hx e=> ?_⟩
 ·have:=hget i
  rw [hx,List.getElem?_append_left (by simpa using hi),List.getElem?_range' hi] at this
  have:=Option.some.inj this
  omega
 ·have:=hget (k-1)
  rw [hx,List.getElem?_append_right (by simp)] at this
  have hm:=List.mem_of_getElem? this.symm
  have:=List.mem_range'_1.1 (List.mem_filter.1 hm).1
  omega
end Go.Proofs.YthaaaecmeafofaaGreatDoor.Cn
namespace Go.Proofs.YthaaaecmeafofaaGreatDoor.Cn
open Go.RowKit Go.Lib
structure Ans where
 er:Int
 m:List Bool
 P:List (List Int)
def fA (r:aLo):Ans:=match r.o with
 | .out=>⟨8,[],[]⟩
 | .model m=>⟨0,m,[]⟩
 | .closed=>⟨0,[],r.P⟩
noncomputable def oJ (vars:Int) (F:List (List Int)) (steps:Int):Ans:=
 if gZ vars F≠0 then ⟨gZ vars F,[],[]⟩ else if steps<1∨40000<steps then ⟨3,[],[]⟩ else fA (fX vars.toNat F steps.toNat)
def aSv (n:Nat) (F:List (List Int)) (a:Ans):Prop:=
 (a.P = []/\Mod n F a.m/\∀ o,Mod n F o->jT a.m o)∨(a.P ≠ []/\a.m = []/\aGx F a.P/\a.P.length<=40000/\(∀ c∈a.P,c.length<=60/\aL n c)/\∀ o,¬ Mod n F o)
theorem pH {n:Nat} {F:List (List Int)} {steps:Int} (h:gZ n F=0) (h1:1<=steps) (h2:steps<=40000):oJ n F steps=fA (fX n F steps.toNat):=by
 unfold oJ
 rw [if_neg (by simp [h]),if_neg (by omega),Int.toNat_natCast]
theorem aRk {n:Nat} {F:List (List Int)} {steps:Int} (h:gZ n F=0) (h1:1<=steps) (h2:steps<=40000):(oJ n F steps).er=0∨(oJ n F steps).er=8:=by
 rw [pH h h1 h2]
 unfold fA
 cases (fX n F steps.toNat).o<;>simp
theorem aQw {vars:Int} {F:List (List Int)} {steps:Int} (h:(oJ vars F steps).er=0) : ∃ n:Nat,vars=n/\n<=400/\F.length<=4000/\(∀ c∈F,c.length<=60/\aL n c)/\gZ vars F=0/\aSv n F (oJ vars F steps):=by
 by_cases hf:gZ vars F=0
 ·obtain ⟨n,rfl,h1,h2,h3⟩:=tY hf
  refine ⟨n,rfl,h1,h2,h3,hf,?_⟩
  by_cases hs:steps<1∨40000<steps
  ·unfold oJ at h
   rw [if_neg (by simp [hf]),if_pos hs] at h
   cases h
  ·rw [pH hf (by omega) (by omega)] at h ⊢
   have hF : ∀ c∈F,aL n c:=fun c hc=>(h3 c hc).2
   cases e:(fX n F steps.toNat).o with
   | out=>rw [fA,e] at h;cases h
   | model m=>
    rw [fA,e]
    exact .inl ⟨rfl,aGh hF e⟩
   | closed=>
    rw [fA,e]
    obtain ⟨a1,a2,a3,a4⟩:=aDk hF e
    refine .inr ⟨fun e2=> ?_,rfl,a1,?_,a3,a4⟩
    ·have e3:(fX n F steps.toNat).P = []:=e2
     have:=a1.2
     rw [e3] at this
     cases this
    ·show (fX n F steps.toNat).P.length<=40000
     omega
 ·unfold oJ at h
  rw [if_pos hf] at h
  exact absurd h hf
def aPd (a:Ans) (w:World) (e:Ending) (w':World):Prop:=
 aA w w'/\∃ mv pv,e=.returned (.tuple #[.agg #[mv,pv],.int .i64 a.er])/\aZ (fun b=>w.heap.size<=b/\b<w'.heap.size) w' a.m mv/\eE (fun b=>w.heap.size<=b/\b<w'.heap.size) w' a.P pv
theorem gL (S:Nat->Prop) (w:World):aZ S w [] (.slice none 0 0):=⟨none,0,rfl,by simp,fun h=>by simp at h⟩
theorem gW (S:Nat->Prop) (w:World):eE S w [] (.slice none 0 0):= .inl ⟨rfl,none,0,rfl⟩
def SmP (x:Int):Prop:=x.natAbs<=1000000
theorem aGf {x:Int} (h:SmP x):(Go.Lit.int .i64 x).wf=true:=by
 unfold SmP at h
 have e1:IntKind.i64.min = -9223372036854775808:=by decide
 have e2:IntKind.i64.max=9223372036854775807:=by decide
 simp [Go.Lit.wf]
 omega
theorem aSx:WideMaps.ArrKey Tryz.prog 65 3 2:=⟨Tryz.underlying65,by kernel_rfl,by kernel_rfl,by kernel_rfl⟩
theorem qC:Maps.Keyed Tryz.prog 65:=Maps.Keyed.of_law aSx.law
theorem aLi : ∃ m,Tryz.prog.types.size=m+1:=⟨Tryz.prog.types.size-1,by kernel_rfl⟩
def aQc (x y:Int):Go.Lit:= .string (keyBytes [.int .i64 x,.int .i64 y])
theorem mR {x y:Int} (hx:SmP x) (hy:SmP y):keyOf Tryz.prog 65 (.agg #[.int .i64 x,.int .i64 y])=some (aQc x y):=WideMaps.keyOf_pair aSx Tryz.underlying3 aLi (aGf hx) (aGf hy)
theorem aMz {x y x' y':Int} (hx:SmP x) (hy:SmP y) (hx':SmP x') (hy':SmP y') (h:aQc x y=aQc x' y'):x=x'/\y=y':=by
 have h1:=mR hx hy
 have h2:=mR hx' hy'
 rw [h] at h1
 have:=qC.inj h1 h2
 simp only [Value.agg.injEq,Array.mk.injEq,List.cons.injEq,Value.int.injEq,true_and,and_true] at this
 exact this
theorem rQ:Tryz.prog.underlying 132=some (.map 65 3):=Tryz.underlying132
def gH (g n:Nat) (f:Int->Int->Int) (w:World):Prop:= ∃ D:DataW Unit,w.ownsMap Tryz.prog 65 (plainElem Tryz.prog 3) g n D/\∀ x y,SmP x->SmP y->D.atKey (aQc x y) (.lit (.int .i64 0))=.lit (.int .i64 (f x y))
theorem gH.lt {g n:Nat} {f:Int->Int->Int} {w:World} (h:gH g n f w):g<w.heap.size:=by obtain ⟨D,h,-⟩:=h;exact h.lt
theorem gH.mono {g n n':Nat} {f:Int->Int->Int} {w:World} (h:gH g n f w) (hn:n<=n'):gH g n' f w:=by obtain ⟨D,h,h2⟩:=h;exact ⟨D,h.mono hn,h2⟩
theorem gH.at {g n:Nat} {f:Int->Int->Int} {w w':World} (h:gH g n f w) (hb:w'.heap[g]? = w.heap[g]?):gH g n f w':=by
 obtain ⟨D,⟨es,clock,hm,hr⟩,h2⟩:=h
 exact ⟨D,⟨es,clock,hb.trans hm,hr⟩,h2⟩
theorem gH.keep {g n:Nat} {f:Int->Int->Int} {w w':World} (h:gH g n f w) (k:aA w w'):gH g n f w':=h.at (k.block g h.lt)
theorem rO (w:World):gH w.heap.size 0 (fun _ _=>0) (w.alloc (.map #[] 0)):=⟨.map [],World.ownsMap_made w _ _ _,fun x y _ _=>by simp [DataW.atKey]⟩
theorem gH.look {g n:Nat} {f:Int->Int->Int} {w:World} {t:TypeId} (h:gH g n f w) (ht:Tryz.prog.underlying t=some (.map 65 3)) {x y:Int} (hx:SmP x) (hy:SmP y):(Instr.lookup t (.map (some g)) (.agg #[.int .i64 x,.int .i64 y]) false).run Tryz.prog w=.ok (.int .i64 (f x y)) w:=by
 obtain ⟨D,h1,h2⟩:=h
 obtain ⟨c,hrun,hv,-⟩:=h1.lookup_int qC ht Tryz.underlying3 (by kernel_rfl) (mR hx hy)
 rw [h2 x y hx hy] at hv
 have e:f x y=c:=by simpa using hv
 rw [hrun,e]
theorem gH.put {g n:Nat} {f:Int->Int->Int} {w:World} {t:TypeId} (h:gH g n f w) (ht:Tryz.prog.underlying t=some (.map 65 3)) {x y v:Int} (hx:SmP x) (hy:SmP y) (hv:SmP v) (hl:n<1000000) : ∃ w',(Instr.mapUpdate t (.map (some g)) (.agg #[.int .i64 x,.int .i64 y]) (.int .i64 v)).run Tryz.prog w=.ok () w'/\gH g (n+1) (fT f x y v) w'/\w.grownBy w' (some g):=by
 obtain ⟨D,h1,h2⟩:=h
 obtain ⟨w',hrun,hown,hgr⟩:=h1.update qC ht (by unfold maxLen;omega) (mR hx hy) (plainElem_int Tryz.underlying3 (aGf hv))
 refine ⟨w',hrun,⟨_,hown,fun p q hp hq=> ?_⟩,hgr⟩
 unfold fT
 by_cases e:p=x/\q=y
 ·obtain ⟨rfl,rfl⟩:=e
  rw [Maps.atKey_put_same h1.isMap (qC.key (mR hx hy))];simp
 ·rw [Maps.atKey_put_other (fun hh=>e (aMz hp hq hx hy hh)),h2 p q hp hq,if_neg e]
structure DD where
 b:Nat
 many:Nat
 tv:Value
 g1:Nat
 pv:Value
 cv:Value
 g2:Nat
 np:Nat
 cs:Nat->Prop
 ro:Nat->Prop
def DD.box (x:DD) (n:Nat):Array Value:=#[.int .i64 x.many,x.tv,.map (some x.g1),x.pv,.int .i64 n,x.cv,.map (some x.g2)]
def DD.own (x:DD) (b:Nat):Prop:=b=x.b∨x.cv.ownBlock=some b∨b=x.g2∨x.cs b
def DD.to (x:DD) (v:Value) (k:Nat) (cs:Nat->Prop):DD:= { x with cv:=v,np:=k,cs:=cs }
structure DM (x:DD) (L:Nat) (s:DS) (w:World):Prop where
 low:L<=x.b/\L<=x.g2/\x.b≠x.g2
 np:x.np<=s.n
 ne:x.cv.ownBlock≠some x.b/\x.cv.ownBlock≠some x.g2
 box:aD x.b 148 (x.box s.n) w
 row:oQ L x.cs x.cv s.cl w
 csl : ∀ c,x.cs c->L<=c/\c<w.heap.size/\c≠x.b/\c≠x.g2/\x.cv.ownBlock≠some c
 pr:gH x.g2 x.np s.pr w
theorem DM.lt {x:DD} {L:Nat} {s:DS} {w:World} (h:DM x L s w) {b:Nat} (hb:x.own b):L<=b/\b<w.heap.size:=by
 rcases hb with rfl | hb | rfl | hb
 ·exact ⟨h.low.1,h.box.facts.2.2⟩
 ·exact h.row.in hb
 ·exact ⟨h.low.2.1,h.pr.lt⟩
 ·exact ⟨(h.csl b hb).1,(h.csl b hb).2.1⟩
theorem DM.other {x:DD} {L:Nat} {s:DS} {w w':World} (h:DM x L s w) (hs:w.heap.size<=w'.heap.size) (hown : ∀ b,x.own b->w'.heap[b]? = w.heap[b]?):DM x L s w':=by
 refine ⟨h.low,h.np,h.ne,?_,h.row.mono (fun g hg=>hown g (.inr (.inl hg))) fun b hd=>⟨hown b (.inr (.inr (.inr hd))),hd⟩,fun c hc=> ?_,h.pr.at (hown _ (.inr (.inr (.inl rfl))))⟩
 ·have:=h.box;unfold aD at *;rw [hown _ (.inl rfl)];exact this
 ·have:=h.csl c hc
  exact ⟨this.1,Nat.lt_of_lt_of_le this.2.1 hs,this.2.2⟩
theorem DM.keep {x:DD} {L:Nat} {s:DS} {w w':World} (h:DM x L s w) (k:aA w w'):DM x L s w':=h.other k.size fun b ho=>k.block b (h.lt ho).2
theorem DM.L {x:DD} {L:Nat} {s:DS} {w:World} (h:DM x L s w):L<=w.heap.size:=by have:=h.lt (b:=x.b) (.inl rfl);omega
theorem DM.push {x:DD} {L:Nat} {s:DS} {w w5:World} {vs:List Value} {u v':Value} {l:List Int} {U:Nat->Prop} (h:DM x L s w) (hvl:vs.length=s.cl.length) (hvn : ∀ (i:Nat) c y,s.cl[i]? = some c->vs[i]? = some y->aH x.cs w c y)
  (hU : ∀ c,U c->L<=c/\c<w.heap.size/\¬ x.own c) (hu:aH U w l u) (hg:w.grownBy w5 x.cv.ownBlock) (ho:v'.ownBlock=x.cv.ownBlock∨∃ g,v'.ownBlock=some g/\w.heap.size<=g) (h5:w5.ownsRow L 153 1 v' (s.cl.length+1) (vs ++ [u])) :
  DM (x.to v' x.np (fun c=>x.cs c∨U c)) L (s.clause l) (w5.setCell ⟨x.b,5,none⟩ v')/\aF (fun b=>x.own b∨U b) (x.to v' x.np (fun c=>x.cs c∨U c)).own w (w5.setCell ⟨x.b,5,none⟩ v'):=by
 have hlow:=h.low
 have hne:=h.ne
 have hbl:=h.box.facts.2.2
 have hgl:=h.pr.lt
 have hso : ∀ c,c≠x.b->(w5.setCell ⟨x.b,5,none⟩ v').heap[c]? = w5.heap[c]? :=fun c hc=>dM _ _ _ _ hc
 have hsz:(w5.setCell ⟨x.b,5,none⟩ v').heap.size=w5.heap.size:=fV ..
 have hk : ∀ c,c<w.heap.size->x.cv.ownBlock≠some c->w5.heap[c]? = w.heap[c]? :=fun c hc hn=>hg.block c hc fun e=>hn e.symm
 have hvb:v'.ownBlock≠some x.b/\v'.ownBlock≠some x.g2:=by
  rcases ho with ho | ⟨g,ho,hge⟩
  ·rw [ho];exact hne
  ·rw [ho];exact ⟨fun e=>by have:=Option.some.inj e;omega,fun e=>by have:=Option.some.inj e;omega⟩
 have hcs : ∀ c,x.cs c∨U c->L<=c/\c<w.heap.size/\c≠x.b/\c≠x.g2/\x.cv.ownBlock≠some c:=fun c hc=>by
  rcases hc with hc | hc
  ·exact h.csl c hc
  ·have:=hU c hc
   exact ⟨this.1,this.2.1,fun e=>this.2.2 (.inl e),fun e=>this.2.2 (.inr (.inr (.inl e))),fun e=>this.2.2 (.inr (.inl e))⟩
 have hcv : ∀ c,x.cs c∨U c->v'.ownBlock≠some c:=fun c hc e=>by
  have h1:=hcs c hc
  rcases ho with ho | ⟨g,ho,hge⟩
  ·exact h1.2.2.2.2 (ho ▸ e)
  ·rw [ho] at e;have:=Option.some.inj e;omega
 have hnums : ∀ c y,aH (fun c=>x.cs c∨U c) w c y->aH (fun c=>x.cs c∨U c) (w5.setCell ⟨x.b,5,none⟩ v') c y:=fun c y hc=>hc.mono (fun p hp=>World.cell?_of_block (w:=w) (by
   have:=hcs _ hp
   rw [hso _ this.2.2.1,hk _ this.2.1 this.2.2.2.2])) fun b hb=>hb
 refine ⟨⟨hlow,h.np,hvb,?_,⟨vs ++ [u],?_,?_,fun i c y hc hy=> ?_⟩,fun c hc=> ?_,?_⟩,?_⟩
 ·have hB5:aD x.b 148 (x.box s.n) w5:=by have:=h.box;unfold aD at *;rw [hk _ hbl hne.1];exact this
  exact hB5.set 5 v'
 ·show (vs ++ [u]).length=(s.cl ++ [l]).length
  simp [hvl]
 ·show World.ownsRow _ L _ 1 v' (s.cl ++ [l]).length _
  rw [List.length_append]
  exact cM h5 fun g hgv=>hso g (fun e=>hvb.1 (e ▸ hgv))
 ·have hc:(s.cl ++ [l])[i]? = some c:=hc
  by_cases hi:i<s.cl.length
  ·rw [List.getElem?_append_left hi] at hc
   rw [List.getElem?_append_left (by omega)] at hy
   exact hnums _ _ ((hvn i c y hc hy).mono (fun _ _=>rfl) fun _ h=> .inl h)
  ·have hi2:i=s.cl.length:=by
    have:=(List.getElem?_eq_some_iff.1 hc).1
    simp at this;omega
   subst hi2
   rw [List.getElem?_append_right (Nat.le_refl _),Nat.sub_self] at hc
   rw [← hvl,List.getElem?_append_right (Nat.le_refl _),Nat.sub_self] at hy
   cases hc;cases hy
   exact hnums _ _ (hu.mono (fun _ _=>rfl) fun _ h=> .inr h)
 ·have:=hcs c hc
  exact ⟨this.1,by rw [hsz];exact Nat.lt_of_lt_of_le this.2.1 hg.size,this.2.2.1,this.2.2.2.1,hcv c hc⟩
 ·exact h.pr.at (by show (World.setCell _ _ _).heap[x.g2]? = _;rw [hso _ (Ne.symm hlow.2.2),hk _ hgl hne.2])
 ·have t1:=aF.grown (O:=fun b=>x.own b∨U b) hg (fun g hg=> .inl (.inr (.inl hg))) ho
  have t2:=t1.trans (aF.set _ w5 x.b 5 v' (.inl (.inl (.inl rfl))))
  refine t2.less fun b hb=> ?_
  rcases hb with hb | hb | hb | hb | hb
  ·exact .inl (.inl (.inl hb))
  ·exact .inr hb
  ·exact .inl (.inl (.inr (.inr (.inl hb))))
  ·exact .inl (.inl (.inr (.inr (.inr hb))))
  ·exact .inl (.inr hb)
theorem DM.vars {x:DD} {L:Nat} {s:DS} {w:World} (h:DM x L s w) {n:Nat} (hn:s.n<=n):DM x L ⟨n,s.cl,s.pr⟩ (w.setCell ⟨x.b,4,none⟩ (.int .i64 n))/\aF x.own x.own w (w.setCell ⟨x.b,4,none⟩ (.int .i64 n)):=by
 have hso : ∀ c,c≠x.b->(w.setCell ⟨x.b,4,none⟩ (.int .i64 n)).heap[c]? = w.heap[c]? :=fun c hc=>dM _ _ _ _ hc
 have hsz:(w.setCell ⟨x.b,4,none⟩ (.int .i64 n)).heap.size=w.heap.size:=fV ..
 refine ⟨⟨h.low,Nat.le_trans h.np hn,h.ne,h.box.set 4 (.int .i64 n),h.row.mono (fun g hg=>hso g (fun e=>h.ne.1 (e ▸ hg))) fun b hd=>⟨hso b (h.csl b hd).2.2.1,hd⟩,fun c hc=>by rw [hsz];exact h.csl c hc,h.pr.at (hso _ (Ne.symm h.low.2.2))⟩,aF.set _ _ _ _ _ (.inl rfl)⟩
theorem DM.put {x:DD} {L:Nat} {s:DS} {w w':World} (h:DM x L s w) {f:Int->Int->Int} (hm:gH x.g2 (x.np+1) f w') (hn:x.np+1<=s.n) (hg:w.grownBy w' (some x.g2)):DM (x.to x.cv (x.np+1) x.cs) L ⟨s.n,s.cl,f⟩ w'/\aF x.own (x.to x.cv (x.np+1) x.cs).own w w':=by
 have hk : ∀ c,c<w.heap.size->c≠x.g2->w'.heap[c]? = w.heap[c]? :=fun c hc hn=>hg.block c hc fun e=>hn (Option.some.inj e)
 refine ⟨⟨h.low,hn,h.ne,?_,h.row.mono (fun g hgv=>hk g (h.row.in hgv).2 (fun e=>h.ne.2 (e ▸ hgv))) fun b hd=>⟨hk b (h.csl b hd).2.1 (h.csl b hd).2.2.2.1,hd⟩,fun c hc=> ?_,hm⟩,⟨hg.os,hg.tape,hg.output,hg.size,fun b hb hn=>hk b hb (fun e=>hn (.inr (.inr (.inl e)))),fun _ h=> .inl h⟩⟩
 ·have h1:=h.box
  have h2:=hk _ h.box.facts.2.2 h.low.2.2
  unfold aD at h1
  exact h2.trans h1
 ·have:=h.csl c hc
  exact ⟨this.1,Nat.lt_of_lt_of_le this.2.1 hg.size,this.2.2⟩
theorem aU.nums {B:Nat} {v:Value} {zs:List Int} {w:World} (h:aU B v zs w) (hl:zs.length<=1000000):aH (fun b=>B<=b/\b<w.heap.size) w zs v:=by
 rcases h with ⟨h1,⟨rfl,h0⟩ | ⟨g,cap,cur,rfl,e2,e3,e4,e5,e6,e7⟩⟩
 ·exact ⟨none,0,by rw [h0],by omega,fun hh=>by omega⟩
 ·refine ⟨_,cap,rfl,by omega,fun hh=>⟨g,0,rfl,⟨e2,(Array.getElem?_eq_some_iff.1 e3).1⟩,fun j x hx=> ?_⟩⟩
  have hj:j<zs.length:=(List.getElem?_eq_some_iff.1 hx).1
  have hf:(zs.map (Value.int .i64))[j]? = some (.int .i64 x):=by rw [List.getElem?_map,hx];rfl
  rw [← e7,List.getElem?_take,if_pos (by omega)] at hf
  simp only [World.cell?,e3,Nat.zero_add]
  simpa using hf
theorem zB {w w':World} (k:aA w.drew w'):aA w w':=(aA.drew (aA.refl w)).trans k
theorem DM.cell {x:DD} {L:Nat} {s:DS} {w:World} (h:DM x L s w) (o:Nat):w.cell? ⟨x.b,o,none⟩=(x.box s.n)[o]? :=h.box.facts.1 o
theorem fG (x:DD) (L:Nat) (s:DS) (Q:Nat->Prop) (l:List Int) (p:Option Addr) (n cap:Nat) (w:World) (hln:l.length=n) (h:DM x L s w) (hQ : ∀ b,Q b->b<w.heap.size) (hl:aH Q w l (.slice p n cap)) (hlen:l.length<=1000) (hc:s.cl.length<=1000000) :
  Calls Tryz.prog 93 #[.pointer (some ⟨x.b,0,none⟩),.slice p n cap] w fun e w'=>e=.returned (.tuple #[])/\∃ v c,DM (x.to v x.np c) L (s.clause l) w'/\aF x.own (x.to v x.np c).own w w':=by
 subst hln
 obtain ⟨i0,hi,hz0,hz1,hz2⟩:=info_parts aFh
 have HD:=hid h
 have HLL:=hid h.L
 have HNE:=hid h.ne
 have HL:=hid hl
 obtain ⟨ap,ac,hav⟩:=h.row.shape
 have HAV:=hid hav
 have hb5:w.cell? ⟨x.b,5,none⟩=some (.slice ap s.cl.length ac):=(h.cell 5).trans (congrArg some hav)
 have hbl:=h.box.facts.2.2
 clear h hl hav
 go_enter Tryz.func93,Tryz.ntmps93
 go_region_law (first
  | (refine aY rfl _ _ 47 rfl L 153 i0 (.slice none 0 0) 1 24 Tryz.underlying47 hi hz0 hz1 hz2 rfl (by decide) (.slice ap s.cl.length ac) s.cl.length vs rfl (OW1.out.alloc _) ⟨w1.heap.size,0,none⟩ 1 1 [.slice qp l.length qc] rfl rfl dC fS (by unfold maxLen;omega) (by omega) (by have:=aC w1 (.cells #[.slice qp l.length qc] 153);omega) ?_
     intro v5 w5 h1 h2 h4
     obtain ⟨g5,cap5,rfl⟩:=aW h1 (Nat.succ_pos _)
     have P5:=hid (D1.out.push VL.out VN.out HU1.out U1.out (HAV.out ▸ bZ h2) (HAV.out ▸ nZ h4) h1)
     have B5:aD x.b 148 (x.box s.n) w5:=(by
      have hk:w5.heap[x.b]? = w1.heap[x.b]? :=(bZ h2).block x.b hbl1 (fun e=>HNE.out.1 (HAV.out ▸ e.symm))
      have:=D1.out.box
      unfold aD at *
      rw [hk];exact this)
     obtain ⟨hbc5,hbf5,hbl5⟩:=B5.facts
     have hc55:w5.cell? ⟨x.b,5,none⟩=some (.slice ap s.cl.length ac):=(hbc5 5).trans (congrArg some HAV.out)
     have hf55:=hbf5 5
     clear hbc5 hbf5 B5 h1 h2 h4)
  | (go_simp;go_at_call 74;refine (lN Q l p cap _ (fun b hb=>by have:=hQ b hb;simpa using this) (HL.out.keep (B:=w.heap.size) hQ (aA.drew (aA.refl w))) (by omega)).mono ?_
     rintro e w1 ⟨u1,rfl,ho1,k1⟩
     obtain ⟨qp,qc,rfl⟩:=ho1.ints.len
     have K1:=hid (zB k1)
     have D1:=hid (HD.out.keep K1.out)
     have U1:=hid (ho1.nums (by omega))
     have HU1:=hid (show ∀ c,w.drew.heap.size<=c/\c<w1.heap.size->L<=c/\c<w1.heap.size/\¬ x.own c from fun b hb=>⟨by have:=HLL.out;have:=hb.1;simp at this;omega,hb.2,fun ho=>by have:=(HD.out.lt ho).2;have:=hb.1;simp at this;omega⟩)
     obtain ⟨vs,hvl,how,hvn⟩:=D1.out.row
     have VL:=hid hvl
     have OW1:=hid (HAV.out ▸ how)
     have VN:=hid hvn
     have hb51:w1.cell? ⟨x.b,5,none⟩=some (.slice ap s.cl.length ac):=(D1.out.cell 5).trans (congrArg some HAV.out)
     have hbl1:=D1.out.box.facts.2.2
     have hL1:L<=w1.heap.size:=D1.out.L
     clear ho1 k1 hvl how hvn
     go_simp))
 all_goals
  have HQ:=hid P5.out
  go_wp2_with fail
  refine bodyPost_end (results_none rfl _ _ _) rfl ?_
  refine ⟨rfl,_,_,HQ.out.1,?_⟩
  exact (show aF x.own (fun b=>x.own b∨(w.drew.heap.size<=b/\b<w1.heap.size)) w w1 from ⟨K1.out.os,K1.out.tape,K1.out.output,K1.out.size,fun b hb _=>K1.out.block b hb,fun b hb=>hb.imp id fun h=>h.1⟩).trans HQ.out.2
def hY (s:DS) (l:List Int) (j:Nat):DS:=⟨s.n+1,s.cl++(l.take j).map (fun x=> [(s.n:Int)+1,-x]),s.pr⟩
theorem aGj (s:DS) (l:List Int):hY s l 0=⟨s.n+1,s.cl,s.pr⟩:=by simp [hY]
theorem aGi {s:DS} {l:List Int} {j:Nat} {z:Int} (h:l[j]? = some z):(hY s l j).clause [(s.n:Int)+1,-z]=hY s l (j+1):=by
 obtain ⟨hj,rfl⟩:=List.getElem?_eq_some_iff.1 h
 unfold hY DS.clause
 simp only
 rw [List.take_succ_eq_append_getElem hj,List.map_append,List.append_assoc]
 rfl
theorem vK {s:DS} {l:List Int} (h:l.length≠1):(hY s l l.length).clause (-((s.n:Int)+1) :: l)=s.someS l:=by
 unfold hY DS.clause DS.someS
 rw [if_neg h,List.take_length]
theorem nI (w:World) (a b:Int):aH (fun c=>c=w.heap.size) (w.alloc (.cells #[.int .i64 a,.int .i64 b] 3)) [a,b] (.slice (some ⟨w.heap.size,0,none⟩) 2 2):=by
 refine ⟨_,2,rfl,by simp,fun _=>⟨w.heap.size,0,rfl,rfl,fun j x hx=> ?_⟩⟩
 have hb:=(aD.new w 3 #[.int .i64 a,.int .i64 b]).facts.1 (0+j)
 rw [hb]
 match j,hx with
 | 0,hx=>cases hx;rfl
 | 1,hx=>cases hx;rfl
theorem aCw (w:World) (a:Int):aH (fun c=>c=w.heap.size) (w.alloc (.cells #[.int .i64 a] 3)) [a] (.slice (some ⟨w.heap.size,0,none⟩) 1 1):=by
 refine ⟨_,1,rfl,by simp,fun _=>⟨w.heap.size,0,rfl,rfl,fun j x hx=> ?_⟩⟩
 have hb:=(aD.new w 3 #[.int .i64 a]).facts.1 (0+j)
 rw [hb]
 match j,hx with
 | 0,hx=>cases hx;rfl
theorem aDm (x:DD) (L:Nat) (s:DS) (Q:Nat->Prop) (l:List Int) (p:Option Addr) (n cap:Nat) (w:World) (hln:l.length=n) (hnil:p=none->cap=0) (h:DM x L s w) (hQ : ∀ b,Q b->b<w.heap.size/\¬ x.own b) (hl:aH Q w l (.slice p n cap)) (hlen:l.length<=900) (hc:s.cl.length<=500000) (hn:s.n<=500000) (hsm : ∀ y∈l,y.natAbs<=900000) :
  Calls Tryz.prog 140 #[.pointer (some ⟨x.b,0,none⟩),.slice p n cap] w fun e w'=>e=.returned (.int .i64 (s.someL l))/\∃ v c,DM (x.to v x.np c) L (s.someS l) w'/\aF x.own (x.to v x.np c).own w w':=by
 subst hln
 by_cases h1:l.length=1
 ·obtain ⟨y,rfl⟩:=List.length_eq_one_iff.1 h1
  have HD:=hid h
  obtain ⟨lb,lo,hp,hQb,hlc⟩:=hl.nth (k:=0) (by simp)
  subst hp
  have hc0:w.cell? ⟨lb,lo,none⟩=some (.int .i64 y):=hlc 0 y rfl
  have hlb:=(hQ lb hQb).1
  clear hl hlc h h1 hsm hlen
  go_enter Tryz.func140,Tryz.ntmps140
  go_wp2_with fail
  go_ret
  refine ⟨by simp [DS.someL],x.cv,x.cs,?_,aF.refl _ _⟩
  have:s.someS [y]=s:=by simp [DS.someS]
  rw [this];exact HD.out
 ·have HD:=hid h
  have HL:=hid hl
  have HQ:=hid hQ
  have HSM:=hid hsm
  have H1:=hid h1
  have he1:((l.length:Int)==1)=false:=by simpa using (show ¬ (l.length:Int)=1 by omega)
  have hb4:w.cell? ⟨x.b,4,none⟩=some (.int .i64 s.n):=h.cell 4
  have hf4:=h.box.facts.2.1 4
  have hbl:=h.box.facts.2.2
  have HV:=hid (h.vars (n:=s.n+1) (Nat.le_succ _))
  have hcast:((s.n+1:Nat):Int)=(s.n:Int)+1:=by omega
  rw [hcast] at HV
  clear h hl hsm h1 hQ hcast
  go_enter Tryz.func140,Tryz.ntmps140
  go_upto_region 4 with fail
  refine bF (fun W'=>DM x L ⟨s.n+1,s.cl,s.pr⟩ W'/\aF x.own x.own w W') ?_ ?_
  ·exact HV.out
  rintro W1 ⟨d1,t1⟩
  have D1:=hid d1
  have T1:=hid t1
  have hb4:W1.cell? ⟨x.b,4,none⟩=some (.int .i64 ((s.n:Int)+1)):=(d1.cell 4).trans (by show some (Value.int .i64 ((s.n+1:Nat):Int))=_;rw [show ((s.n+1:Nat):Int)=(s.n:Int)+1 by omega])
  have hbl:=d1.box.facts.2.2
  clear d1 t1 HV hf4
  go_wp2_with fail
  go_loopg [30] l.length (fun gk iv wr=> ∃ (j:Nat) (v:Value) (cc:Nat->Prop),j+gk=l.length/\iv=.int .i64 j/\DM (x.to v x.np cc) L (hY s l j) wr/\aF x.own (x.to v x.np cc).own w wr)
  case atStart=>exact ⟨0,x.cv,x.cs,by omega,rfl,by rw [aGj];exact D1.out,T1.out⟩
  case round=>
   obtain ⟨j,v,cc,hj,rfl,hd,ht⟩:=hrel
   have D2:=hid hd
   have T2:=hid ht
   clear hd ht D1 T1 hb4 hbl
   have HL2:=hid (HL.out.turn T2.out HQ.out)
   by_cases hlt:j<l.length
   ·obtain ⟨lb,lo,rfl,hQb,hlc⟩:=HL2.out.nth hlt
    have hcj:=hlc j _ (List.getElem?_eq_getElem hlt)
    have HJ:=hid (List.getElem?_eq_getElem hlt)
    have hz:=HSM.out l[j] (List.getElem_mem hlt)
    have hlb:=Nat.lt_of_lt_of_le (HQ.out lb hQb).1 T2.out.size
    generalize l[j]=z at hcj HJ hz
    have hz1 : -900000<=z:=by omega
    have hz2:z<=900000:=by omega
    have hjI:(j:Int)<(l.length:Int):=by omega
    clear hlc hz
    go_wp2_with fail
    have HS:=hid (show (hY s l j).cl.length<=1000000 by simp [hY];omega)
    refine aX (fun W'=>DM (x.to v x.np cc) L (hY s l j) W'/\aF (x.to v x.np cc).own (x.to v x.np cc).own wr W'/\aH (fun c=>c=wr.heap.size) W' [(s.n:Int)+1,-z] (.slice (some ⟨wr.heap.size,0,none⟩) 2 2)/\wr.heap.size<W'.heap.size) ⟨D2.out.keep (aA.alloc _ _),aF.keep (aA.alloc _ _),nI _ _ _,by rw [aC];omega⟩ ?_
    rintro W3 ⟨d3,t3,n3,s3⟩
    refine (fG (x.to v x.np cc) L (hY s l j) (fun c=>c=wr.heap.size) [(s.n:Int)+1,-z] _ 2 2 W3 rfl d3 (fun b hb=>by omega) n3 (by simp) HS.out).mono ?_
    rintro e w4 ⟨rfl,v4,c4,d4,t4⟩
    rw [aGi HJ.out] at d4
    have D4:=hid d4
    have T4:=hid ((T2.out.trans t3).trans t4)
    clear d3 t3 n3 s3 d4 t4
    go_wp2_with fail
    go_roundg (l.length-(j+1))
    case rel=>exact ⟨j+1,v4,c4,by omega,by go_num,D4.out,T4.out⟩
    case measure=>omega
   ·obtain rfl:j=l.length:=by omega
    obtain ⟨i0,hi,hz0,hz1,hz2⟩:=info_parts dG
    have HS:=hid (show (hY s l l.length).cl.length<=1000000 by simp [hY];omega)
    have HL3:=hid (show ∀ ad,p=some ad->∀ j u,(l.map (Value.int .i64))[j]? = some u->(wr.alloc (.cells #[.int .i64 (-((s.n:Int)+1))] 3)).cell? (ad.add j)=some u from fun ad hp=>xP (hp ▸ HL2.out) _ (fun b hb=>Nat.lt_of_lt_of_le (HQ.out b hb).1 T2.out.size))
    have HONE:=hid (show ∀ u∈l.map (Value.int .i64),u.oneCell'=true by intro u hu;obtain ⟨z,-,rfl⟩:=List.mem_map.1 hu;rfl)
    have HLEN:=hid (show (l.map (Value.int .i64)).length=l.length*1 by simp)
    have OW:=hid (World.ownsRow_lit (base:=wr.heap.size) (e:=3) (size:=1) wr #[.int .i64 (-((s.n:Int)+1))] 1 (Nat.le_refl _) (by unfold maxLen;omega) rfl)
    obtain ⟨news,hnews⟩ : ∃ news,news=l.map (Value.int .i64):=⟨_,rfl⟩
    have HNEWS:=hid hnews
    rw [← hnews] at HL3 HONE HLEN
    clear hnews
    cases p with
    | none=>
     obtain rfl:l = []:=by
      rcases Nat.eq_zero_or_pos l.length with h0 | h0
      ·exact List.length_eq_zero_iff.1 h0
      ·obtain ⟨b,off,hp,-⟩:=HL2.out.nth (k:=0) h0
       cases hp
     obtain rfl:=hnil rfl
     go_wp2_with (at_builtin;refine wpList_append_own_none rfl _ _ 37 rfl wr.heap.size 3 i0 1 Tryz.underlying37 hi (.slice (some ⟨wr.heap.size,0,none⟩) 1 1) 1 _ rfl OW.out rfl ?_)
     refine aX (fun W'=>DM (x.to v x.np cc) L (hY s [] 0) W'/\aF (x.to v x.np cc).own (x.to v x.np cc).own wr W'/\aH (fun c=>c=wr.heap.size) W' [-((s.n:Int)+1)] (.slice (some ⟨wr.heap.size,0,none⟩) 1 1)/\wr.heap.size<W'.heap.size) ⟨D2.out.keep (aA.alloc _ _),aF.keep (aA.alloc _ _),aCw _ _,by rw [aC];omega⟩ ?_
     rintro W3 ⟨d3,t3,n3,s3⟩
     refine (fG (x.to v x.np cc) L (hY s [] 0) (fun c=>c=wr.heap.size) [-((s.n:Int)+1)] _ 1 1 W3 rfl d3 (fun b hb=>by omega) n3 (by simp) HS.out).mono ?_
     rintro e w4 ⟨rfl,v4,c4,d4,t4⟩
     have D4:=hid (vK H1.out ▸ d4)
     have T4:=hid ((T2.out.trans t3).trans t4)
     clear d3 t3 n3 s3 d4 t4
     go_wp2_with fail
     go_ret
     exact ⟨by simp [DS.someL],v4,c4,D4.out,T4.out⟩
    | some ad=>
     go_wp2_with (at_builtin;refine wpList_append_own_at _ rfl _ _ 37 rfl wr.heap.size 3 i0 (.int .i64 0) 1 8 Tryz.underlying37 hi hz0 hz1 hz2 rfl (by decide) (.slice (some ⟨wr.heap.size,0,none⟩) 1 1) 1 [.int .i64 (-((s.n:Int)+1))] rfl OW.out ad l.length cap news rfl HLEN.out (HL3.out ad rfl) HONE.out (by unfold maxLen;omega) (by omega) (by rw [aC];omega) ?_;intro v5 w5 h1 h2 _ h4)
     obtain ⟨g5,cap5,rfl⟩:=aW h1 (by omega)
     have k5:aA wr w5:=Below.grown ((Below.refl wr.heap.size wr).alloc (Nat.le_refl _) _) h2 (by rw [aC];omega) (fun g hg=>by cases hg;exact Nat.le_refl _)
     have HO:Hid (aU wr.heap.size (.slice (some ⟨g5,0,none⟩) (1+l.length) cap5) (-((s.n:Int)+1) :: l) w5):=by
      show World.ownsRow _ _ _ _ _ _ _
      rw [List.length_cons,List.map_cons,show l.length+1=1+l.length by omega,← HNEWS.out]
      exact h1
     clear h1 h2 h4
     refine (fG (x.to v x.np cc) L (hY s l l.length) (fun b=>wr.heap.size<=b/\b<w5.heap.size) (-((s.n:Int)+1) :: l) _ _ _ w5 (by rw [List.length_cons];omega) (D2.out.keep k5) (fun b hb=>hb.2) (HO.out.nums (by rw [List.length_cons];omega)) (by rw [List.length_cons];omega) HS.out).mono ?_
     rintro e w4 ⟨rfl,v4,c4,d4,t4⟩
     have D4:=hid (vK H1.out ▸ d4)
     have T4:=hid ((T2.out.trans (aF.keep k5)).trans t4)
     clear d4 t4 k5
     go_wp2_with fail
     go_ret
     exact ⟨by simp [DS.someL,H1.out],v4,c4,D4.out,T4.out⟩
theorem aMt:(Tryz.prog.info? 4).map (fun i=>(i.zero,i.size,i.bytes))=some (some (.bool false),1,1):=by kernel_rfl
theorem nR {w w':World} (h:w.grownBy w' none):aA w w':=⟨h.os,h.tape,h.output,h.size,fun b hb=>h.block b hb (by simp)⟩
def dY (f:Int->Value) (A:List Int) (j:Nat) (b:Nat) (T:TypeId) (w:World):Prop:= ∃ cs:List Value,cs.length=A.length/\(∀ (i:Nat) x,i<j->A[i]? = some x->cs[i]? = some (f x))/\aD b T cs.toArray w
theorem dY.start {f:Int->Value} {A:List Int} {b:Nat} {T:TypeId} {w:World} {z:Value} (h:aD b T (List.replicate A.length z).toArray w):dY f A 0 b T w:=⟨_,by simp,fun i x hi=>by omega,h⟩
theorem dY.cell {f:Int->Value} {A:List Int} {j b:Nat} {T:TypeId} {w:World} (h:dY f A j b T w) {i:Nat} (hi:i<A.length):(∃ v,w.cell? ⟨b,i,none⟩=some v)/\w.frozen? ⟨b,i,none⟩=false/\b<w.heap.size:=by
 obtain ⟨cs,h1,-,h3⟩:=h
 obtain ⟨a,c,d⟩:=h3.facts
 refine ⟨⟨cs[i]'(by omega),?_⟩,c i,d⟩
 rw [a];simp [h1,hi]
theorem dY.next {f:Int->Value} {A:List Int} {j b:Nat} {T:TypeId} {w:World} {x:Int} (h:dY f A j b T w) (hx:A[j]? = some x):dY f A (j+1) b T (w.setCell ⟨b,j,none⟩ (f x)):=by
 obtain ⟨cs,h1,h2,h3⟩:=h
 have hj:=(List.getElem?_eq_some_iff.1 hx).1
 refine ⟨cs.set j (f x),by simp [h1],fun i y hi hy=> ?_,?_⟩
 ·by_cases e:j=i
  ·subst e
   rw [hx] at hy;cases hy
   rw [List.getElem?_set_self (by omega)]
  ·rw [List.getElem?_set_ne e]
   exact h2 i y (by omega) hy
 ·have:=h3.set j (f x)
  rwa [List.setIfInBounds_toArray] at this
theorem dY.all {f:Int->Value} {A:List Int} {b:Nat} {T:TypeId} {w:World} (h:dY f A A.length b T w) : ∀ (i:Nat) x,A[i]? = some x->w.cell? ⟨b,i,none⟩=some (f x):=fun i x hx=>by
 obtain ⟨cs,h1,h2,h3⟩:=h
 rw [h3.facts.1]
 have:=h2 i x (List.getElem?_eq_some_iff.1 hx).1 hx
 simpa using this
theorem dY.lt {f:Int->Value} {A:List Int} {j b:Nat} {T:TypeId} {w:World} (h:dY f A j b T w):b<w.heap.size:=by
 obtain ⟨cs,-,-,h3⟩:=h;exact h3.facts.2.2
end Go.Proofs.YthaaaecmeafofaaGreatDoor.Cn
