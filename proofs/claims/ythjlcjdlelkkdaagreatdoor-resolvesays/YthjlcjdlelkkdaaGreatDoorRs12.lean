/- Steps of the proof. -/
import Derived.Test.YthjlcjdlelkkdaaGreatDoorRs10
import Derived.WideKeyPair
import Derived.Laws.OwnMore
set_option maxHeartbeats 16000000
set_option maxRecDepth 100000
namespace Go.Proofs.YthjlcjdlelkkdaaGreatDoor.Cn
section
def CT.t1(c:CT):Nat->List Int
 | 0=>List.replicate c.nf.length 0
 | j+1=>(c.t1 j).set (c.ins.getD j 0) (-((j:Int)+1))
theorem CT.t1_len(c:CT):∀j,(c.t1 j).length=c.nf.length
 | 0=>by simp[CT.t1]
 | j+1=>by rw[CT.t1,List.length_set,CT.t1_len c j]
theorem CT.t1_get{c:CT}(h:c.Ok):∀j,j<=c.ins.length->∀i,(c.t1 j).getD i 0=if (c.ins.take j).contains i=true then -((c.ins.idxOf i:Int)+1) else 0
 | 0,_,i=>by
  rw[CT.t1,R0,List.getElem?_replicate];split<;>simp
 | j+1,hj,i=>by
  have a0:c.ins[j]? = some c.ins[j]:=Q9 (by omega);have hg:c.ins.getD j 0=c.ins[j]:=by rw[R0,a0];rfl
  rw[CT.t1,hg,U4 (by omega)];have a1:=h.lt c.ins[j] (U5 _);by_cases e:c.ins[j]=i
  ·subst e;rw[R0,Z4 (by rw[CT.t1_len];exact a1),sF (wE h.up) a0,if_pos (by rw[List.contains_eq_mem,decide_eq_true_eq];exact Y5 _ Y9)];rfl
  ·have e2:(c.ins.take j++[c.ins[j]]).contains i=(c.ins.take j).contains i:=by
    rw[Bool.eq_iff_iff];simp only[List.contains_eq_mem,List.mem_append,List.mem_singleton,decide_eq_true_eq];constructor
    ·rintro (h | h)
     ·exact h
     ·exact absurd h.symm e
    ·exact .inl
   rw[R0,Q8 e,<-R0,CT.t1_get h j (by omega) i,e2]
def CT.t2(c:CT):Nat->List Int × Int
 | 0=>(c.t1 c.ins.length,(c.ins.length:Int))
 | k+1=>if (c.t2 k).1.getD k 0=0 then ((c.t2 k).1.set k ((c.t2 k).2+1),(c.t2 k).2+1) else c.t2 k
theorem CT.t2_len(c:CT):∀k,(c.t2 k).1.length=c.nf.length
 | 0=>CT.t1_len c _
 | k+1=>by
  rw[CT.t2];split
  ·rw[List.length_set,CT.t2_len c k]
  ·exact CT.t2_len c k
theorem aHc(p:Nat->Bool){n k:Nat}(hk:k<n)(hp:p k=true):((List.range n).filter p).idxOf k=((List.range k).filter p).length:=by
 have a0:List.range n=List.range k++(k :: List.range' (k+1) (n-k-1)):=by
  rw[List.range_eq_range',List.range_eq_range',<-List.range'_succ,show n-k-1+1=n-k by omega];have:= @List.range'_append_1 0 k (n-k);rw[Z6,show k+(n-k)=n by omega] at this;exact this.symm
 rw[a0,List.filter_append,List.filter_cons_of_pos hp,List.idxOf_append,if_neg (fun h=>by have:=List.mem_range.1 (List.mem_filter.1 h).1;omega),List.idxOf_cons_self];omega
theorem CT.tk_other{c:CT}{k:Nat}(hk:k<c.nf.length)(hn:c.ins.contains k=false):c.tkL k=((c.ins.length+((List.range k).filter fun i=> !c.ins.contains i).length:Nat):Int)+1:=by
 unfold CT.tkL CT.order sg;have h1:k ∉ c.ins:=by simpa using hn
 rw[hn,Bool.not_false,if_pos rfl,List.idxOf_append,if_neg h1,aHc (fun i=> !c.ins.contains i) hk (by rw[hn];rfl)];omega
theorem CT.tk_ins{c:CT}{k:Nat}(hn:c.ins.contains k=true):c.tkL k = -((c.ins.idxOf k:Int)+1):=by
 unfold CT.tkL CT.order sg;have h1:k∈c.ins:=by simpa using hn
 rw[hn,Bool.not_true,if_neg (by decide),List.idxOf_append,if_pos h1]
theorem CT.t2_get{c:CT}(h:c.Ok):∀k,k<=c.nf.length->(c.t2 k).2=((c.ins.length+((List.range k).filter fun i=> !c.ins.contains i).length:Nat):Int)/\∀i,i<c.nf.length->(c.t2 k).1.getD i 0=if i<k\/c.ins.contains i=true then c.tkL i else 0
 | 0,_=>⟨by simp[CT.t2],fun i hi=>by
   rw[CT.t2];show (c.t1 c.ins.length).getD i 0=_;rw[CT.t1_get h _ (Y1 _),Z7];by_cases e:c.ins.contains i=true
   ·rw[if_pos e,if_pos (.inr e),CT.tk_ins e]
   ·rw[if_neg e,if_neg (fun h=>h.elim (by omega) e)]⟩
 | k+1,hk=>by
  obtain⟨h1,h2⟩:=CT.t2_get h k (by omega);have a0:=h2 k (by omega);rw[CT.t2,List.range_succ,List.filter_append];cases e:c.ins.contains k with
  | true=>
   rw[e,if_pos (.inr rfl)] at a0;have a1:c.tkL k≠0:=(CT.tk_lit h (by omega)).1;rw[if_neg (by rw[a0];exact a1)];refine⟨by rw[h1,List.filter_cons_of_neg (by simpa using e)];simp,fun i hi=>?_⟩;rw[h2 i hi];by_cases hik:i=k
   ·subst hik;rw[if_pos (.inr e),if_pos (.inr e)]
   ·by_cases h3:i<k\/c.ins.contains i=true
    ·rw[if_pos h3,if_pos (h3.imp (by omega) id)]
    ·rw[if_neg h3,if_neg (fun h=>h3 (h.imp (by omega) id))]
  | false=>
   rw[e,if_neg (by simp)] at a0;rw[if_pos a0];have h5:=CT.tk_other (c:=c) (k:=k) (by omega) e;refine⟨by rw[h1,List.filter_cons_of_pos (by simp only[e,Bool.not_false])];simp;omega,fun i hi=>?_⟩;show ((c.t2 k).1.set k ((c.t2 k).2+1)).getD i 0=_;by_cases hik:k=i
   ·subst hik;rw[R0,Z4 (by rw[CT.t2_len];omega),h1,if_pos (.inl (by omega)),h5];rfl
   ·rw[R0,Q8 hik,<-R0,h2 i hi];by_cases h3:i<k\/c.ins.contains i=true
    ·rw[if_pos h3,if_pos (h3.imp (by omega) id)]
    ·rw[if_neg h3,if_neg (fun h=>h3 (h.imp (by omega) id))]
def CT.tks(c:CT):List Int:=(List.range c.nf.length).map c.tkL
theorem CT.tks_get(c:CT){i:Nat}(hi:i<c.nf.length):c.tks[i]? = some (c.tkL i):=by
 unfold CT.tks;rw[Z2,List.getElem?_range hi];rfl
theorem CT.tks_len(c:CT):c.tks.length=c.nf.length:=by simp[CT.tks]
theorem CT.t2_done{c:CT}(h:c.Ok):c.t2 c.nf.length=(c.tks,(c.nf.length:Int)):=by
 obtain⟨h1,h2⟩:=CT.t2_get h c.nf.length (Y1 _);refine Prod.ext ?_ ?_
 ·refine List.ext_getElem? fun i=>?_;by_cases hi:i<c.nf.length
  ·have:=h2 i hi;rw[if_pos (.inl hi),R0,Q9 (by rw[CT.t2_len];exact hi)] at this;rw[CT.tks_get c hi,Q9 (by rw[CT.t2_len];exact hi)];exact Q0 some this
  ·rw[A9 (by rw[CT.t2_len];omega),A9 (by rw[CT.tks_len];omega)]
 ·rw[h1];have:=CT.order_len h;unfold CT.order at this;rw[X9] at this;show _=(c.nf.length:Int);omega
theorem CT.t2_le{c:CT}(h:c.Ok){k:Nat}(hk:k<=c.nf.length):0<=(c.t2 k).2/\(c.t2 k).2<=2*c.nf.length:=by
 obtain⟨h1,-⟩:=CT.t2_get h k hk;have h2:=List.length_filter_le (fun i=> !c.ins.contains i) (List.range k);rw[List.length_range] at h2;have h3:=CT.order_len h;unfold CT.order at h3;rw[X9] at h3;omega
def CT.f3(c:CT)(i k:Nat)(x y:Int):Int:=if 0<=x/\0<=y/\y<c.nf.getD x.toNat 0/\(x<i\/x=i/\y<k) then ((c.base x.toNat+y.toNat:Nat):Int)+1 else 0
theorem CT.f3_zero(c:CT):c.f3 0 0=fun _ _=>0:=by
 funext x y;unfold CT.f3;rw[if_neg (by omega)]
theorem CT.f3_put(c:CT){i k:Nat}(hk:k<c.nf.getD i 0):gD (c.f3 i k) (i:Int) (k:Int) (((c.base i+k:Nat):Int)+1)=c.f3 i (k+1):=by
 funext x y;unfold gD;by_cases e:x=(i:Int)/\y=(k:Int)
 ·obtain⟨rfl,rfl⟩:=e;rw[if_pos ⟨rfl,rfl⟩,CT.f3,if_pos ⟨by omega,by omega,by rw[Y3];omega,by omega⟩,Y3,Y3]
 ·rw[if_neg e];unfold CT.f3;by_cases h:0<=x/\0<=y/\y<c.nf.getD x.toNat 0/\(x<i\/x=i/\y<k)
  ·rw[if_pos h,if_pos ⟨h.1,h.2.1,h.2.2.1,by omega⟩]
  ·rw[if_neg h,if_neg (fun g=>h ⟨g.1,g.2.1,g.2.2.1,by omega⟩)]
theorem CT.f3_next(c:CT){i k:Nat}(hk:k=c.nf.getD i 0):c.f3 i k=c.f3 (i+1) 0:=by
 subst hk;funext x y;unfold CT.f3;by_cases h:0<=x/\0<=y/\y<c.nf.getD x.toNat 0/\(x<i\/x=i/\y<c.nf.getD i 0)
 ·rw[if_pos h,if_pos ⟨h.1,h.2.1,h.2.2.1,by omega⟩]
 ·rw[if_neg h,if_neg (fun g=>h ⟨g.1,g.2.1,g.2.2.1,by
   by_cases hx:x=i
   ·right;have:=g.2.2.1;rw[hx,Y3] at this;exact⟨hx,this⟩
   ·left;omega⟩)]
def CT.f4(c:CT)(on:List (Int × Int))(j:Nat)(x y:Int):Int:=if (on.take j).contains (x,y)=true then -(c.f3 c.nf.length 0 x y) else c.f3 c.nf.length 0 x y
theorem CT.f4_zero(c:CT)(on:List (Int × Int)):c.f4 on 0=c.f3 c.nf.length 0:=by
 funext x y;simp[CT.f4]
theorem CT.f4_put(c:CT){on:List (Int × Int)}(hn:on.Nodup){j:Nat}(hj:j<on.length):gD (c.f4 on j) on[j].1 on[j].2 (-(c.f4 on j on[j].1 on[j].2))=c.f4 on (j+1):=by
 have a0:(on.take j).contains on[j]=false:=by
  have:on[j] ∉ on.take j:=fun hm=>by
   obtain⟨i,hi,e⟩:=List.getElem_of_mem hm;rw[List.getElem_take] at e;rw[List.length_take] at hi;rw[List.nodup_iff_pairwise_ne,List.pairwise_iff_getElem] at hn;exact hn i j (by omega) hj (by omega) e
  simpa using this
 funext x y;unfold gD;by_cases e:x=on[j].1/\y=on[j].2
 ·rw[if_pos e];obtain⟨rfl,rfl⟩:=e;have h2:(on.take (j+1)).contains (on[j].1,on[j].2)=true:=by rw[U4 hj,List.contains_eq_mem,decide_eq_true_eq];exact Y5 _ Y9
  unfold CT.f4;rw[if_pos h2,if_neg (by rw[show (on[j].1,on[j].2)=on[j] from rfl,a0];decide)]
 ·rw[if_neg e];unfold CT.f4;have h2:(on.take (j+1)).contains (x,y)=(on.take j).contains (x,y):=by
   rw[U4 hj,Bool.eq_iff_iff];simp only[List.contains_eq_mem,List.mem_append,List.mem_singleton,decide_eq_true_eq];constructor
   ·rintro (h | h)
    ·exact h
    ·exact absurd ⟨Q0 Prod.fst h,Q0 Prod.snd h⟩ e
   ·exact .inl
  rw[h2]
def CT.fgs(c:CT)(on:List (Int × Int)):Int->Int->Int:=c.f4 on on.length
theorem CT.fgs_get{c:CT}{on:List (Int × Int)}(hc:∀i k:Nat,c.on i k=on.contains ((i:Int),(k:Int))){i k:Nat}(hi:i<c.nf.length)(hk:k<c.nf.getD i 0):c.fgs on (i:Int) (k:Int)=c.fgL i k:=by
 unfold CT.fgs CT.f4 CT.fgL sg;rw[Z7,hc i k];have h3:c.f3 c.nf.length 0 (i:Int) (k:Int)=((c.base i+k:Nat):Int)+1:=by
  rw[CT.f3,if_pos ⟨by omega,by omega,by rw[Y3];omega,by omega⟩,Y3,Y3]
 rw[h3];cases on.contains ((i:Int),(k:Int))<;>simp
theorem CT.f3_le(c:CT)(i k:Nat)(x y:Int)(hi:i<=c.nf.length)(hk:0<k->i<c.nf.length):0<=c.f3 i k x y/\c.f3 i k x y<=c.many:=by
 unfold CT.f3;by_cases h:0<=x/\0<=y/\y<c.nf.getD x.toNat 0/\(x<i\/x=i/\y<k)
 ·rw[if_pos h];have:=CT.fg_lit c (i:=x.toNat) (k:=y.toNat) (by omega) (by omega);unfold CT.fgL sg Lit at this;have h2:(((c.base x.toNat+y.toNat:Nat):Int)+1).natAbs<=c.many:=by
   split at this
   ·exact this.2
   ·have:=this.2;omega
  omega
 ·rw[if_neg h];omega
theorem CT.f4_le(c:CT)(on:List (Int × Int))(j:Nat)(x y:Int):(c.f4 on j x y).natAbs<=c.many:=by
 have:=CT.f3_le c c.nf.length 0 x y (Y1 _) (by omega);unfold CT.f4;split<;>omega
theorem aIh(x:Int)(b:Bool):(sg x b).natAbs=x.natAbs:=by unfold sg;split<;>omega
theorem pO:∀(l:List Nat) (i j:Nat),i<=j->(l.take i).sum<=(l.take j).sum
 | [],i,j,_=>by simp
 | a :: l,0,j,_=>by simp
 | a :: l,i+1,0,h=>by omega
 | a :: l,i+1,j+1,h=>by
  have:=pO l i j (by omega);simp;omega
theorem CT.base_lt_many(c:CT){i k:Nat}(hi:i<c.nf.length)(hk:k<c.nf.getD i 0):c.base i+k<c.many:=by
 have:=oH c.nf i k hi hk;unfold CT.base CT.many;omega
theorem CT.idx_lt{c:CT}(h:c.Ok){i:Nat}(hi:i<c.nf.length):c.order.idxOf i<c.nf.length:=by
 have:=List.idxOf_lt_length_iff.2 ((CT.order_mem h i).2 hi);rwa [CT.order_len h] at this
end
section
theorem aSi:∀ {a b:List Nat},a.Pairwise (· < ·)->b.Pairwise (· < ·)->(∀x,x∈a↔x∈b)->a=b
 | [],[],_,_,_=>rfl
 | [],y :: b,_,_,h=>absurd ((h y).2 Y9) (by simp)
 | x :: a,[],_,_,h=>absurd ((h x).1 Y9) (by simp)
 | x :: a,y :: b,ha,hb,h=>by
  obtain⟨a1,a2⟩:=List.pairwise_cons.1 ha;obtain⟨a0,a4⟩:=List.pairwise_cons.1 hb;have a3:x=y:=by
   rcases Q3.1 ((h x).1 Y9) with e | e
   ·exact e
   ·rcases Q3.1 ((h y).2 Y9) with e' | e'
    ·exact e'.symm
    ·have:=a0 x e;have:=a1 y e';omega
  subst a3;congr 1;refine aSi a2 a4 fun z=>⟨fun hz=>?_,fun hz=>?_⟩
  ·rcases Q3.1 ((h z).1 (Z3 _ hz)) with e | e
   ·subst e;exact absurd (a1 z hz) (Nat.lt_irrefl _)
   ·exact e
  ·rcases Q3.1 ((h z).2 (Z3 _ hz)) with e | e
   ·subst e;exact absurd (a0 z hz) (Nat.lt_irrefl _)
   ·exact e
structure nB (n:Nat) (F:List (List Int)) (A:List Int) (l:List Int):Prop where
 up:l.Pairwise fun x y=>x.natAbs<y.natAbs
 mem:∀x,x∈l↔Der F A x
 lit:aO n l
theorem aCu{n:Nat}{F:List (List Int)}{A K L:List Int}(h:aCh n F A K L)(hL:∀x,x∈L↔Der F A x):nB n F A (eJ K):=by
 refine⟨?_,fun x=>(aDr h x).trans (hL x),fun x hx=>h.lits ((aDr h x).1 hx)⟩;unfold eJ;rw[List.pairwise_filter,List.pairwise_iff_getElem];intro i j hi hj a0 h1 h2;have hx:K[i]≠0:=by simpa using h1
 have hy:K[j]≠0:=by simpa using h2
 have e1:K.getD i 0=K[i]:=by simp[List.getD_eq_getElem?_getD,hi]
 have e2:K.getD j 0=K[j]:=by simp[List.getD_eq_getElem?_getD,hj]
 have a:=h.own i hi;have b:=h.own j hj;rw[e1] at a;rw[e2] at b;have a:=a.resolve_left hx;have b:=b.resolve_left hy;omega
open Classical in
theorem nB.vars{n:Nat}{F:List (List Int)}{A l:List Int}(h:nB n F A l):l.map Int.natAbs=(List.range' 1 n).filter fun k=>decide (Kn F A k):=by
 refine aSi (List.pairwise_map.2 h.up) (List.Pairwise.filter _ (List.pairwise_lt_range' ..)) fun k=>?_;rw[Q4,List.mem_filter,List.mem_range'_1];constructor
 ·rintro⟨x,hx,rfl⟩;have hl:=h.lit x hx;have hd:=(h.mem x).1 hx;refine⟨⟨by have:=hl.1;omega,by have:=hl.2;omega⟩,Y7 ?_⟩;rcases Int.lt_or_gt_of_ne hl.1 with h0 | h0
  ·exact .inr (by rwa [show -(x.natAbs:Int)=x by omega])
  ·exact .inl (by rwa [show (x.natAbs:Int)=x by omega])
 ·rintro⟨-,hk⟩;rcases of_decide_eq_true hk with hd | hd
  ·exact⟨_,(h.mem _).2 hd,by simp⟩
  ·exact⟨_,(h.mem _).2 hd,by simp⟩
theorem nB.full{n:Nat}{F:List (List Int)}{A l:List Int}(h:nB n F A l):l.length=n↔jC n F A=none:=by
 classical
 have hv:=Q0 List.length h.vars;rw[A0] at hv;constructor
 ·intro e;refine vW fun k h1 h2=>?_;have e2:((List.range' 1 n).filter fun k=>decide (Kn F A k)).length=(List.range' 1 n).length:=by rw[<-hv,e];simp
  have:=(List.length_filter_eq_length_iff.1 e2) k (List.mem_range'_1.2 ⟨h1,by omega⟩);exact of_decide_eq_true this
 ·intro e;have a0:=jH e;have e2:((List.range' 1 n).filter fun k=>decide (Kn F A k)).length=(List.range' 1 n).length:=List.length_filter_eq_length_iff.2 fun k hk=>by
   have:=List.mem_range'_1.1 hk;exact Y7 (a0 k this.1 (by omega))
  rw[hv,e2];simp
theorem nB.short{n:Nat}{F:List (List Int)}{A l:List Int}(h:nB n F A l):l.length<=n:=by
 classical
 have hv:=Q0 List.length h.vars;rw[A0] at hv;have:=List.length_filter_le (fun k=>decide (Kn F A k)) (List.range' 1 n);simp at this;omega
theorem nB.model{n:Nat}{F:List (List Int)}{A l:List Int}(h:nB n F A l)(hf:¬bO F A)(hl:jC n F A=none):l.map (fun x=>decide (0<x))=tP n F A:=by
 classical
 have a0:=h.full.2 hl;have a1:=jH hl;have hv:l.map Int.natAbs=List.range' 1 n:=by
  rw[h.vars];refine List.filter_eq_self.2 fun k hk=>?_;have:=List.mem_range'_1.1 hk;exact Y7 (a1 k this.1 (by omega))
 refine qU (by rw[A0,kT,a0]) fun i hi=>?_;rw[A0] at hi;rw[vZ (by omega),R0,Z2,Q9 hi];simp only[Option.map_some,Option.getD_some];have hn:(l[i]).natAbs=i+1:=by
  have:=Q0 (fun q=>q[i]?) hv;simp only[List.getElem?_map,List.getElem?_eq_getElem hi,Option.map_some] at this;rw[List.getElem?_range' (by omega)] at this;have:=U6 this;omega
 have hd:=(h.mem _).1 (U5 hi);generalize l[i]=x at hn hd;by_cases hx:0<x
 ·have:((i+1:Nat):Int)=x:=by omega
  rw[this];simp[hx,hd]
 ·have e:((i+1:Nat):Int) = -x:=by omega
  rw[e];have a2:¬Der F A (-x):=fun h'=>hf (.inl ⟨x,hd,h'⟩);simp[hx,a2]
theorem nB.gap{n:Nat}{F:List (List Int)}{A l:List Int}{k:Nat}(h:nB n F A l)(hl:jC n F A=some k):(∀(i:Nat) x,i<k-1->l[i]? = some x->x.natAbs=i+1)/\k-1<=l.length/\∀x,l[k-1]? = some x->x.natAbs≠k:=by
 classical
 obtain⟨h1,h2,h3,h4⟩:=gA hl;have hv:=h.vars;have a3:List.range' 1 n=List.range' 1 (k-1)++k :: List.range' (k+1) (n-k):=by
  have e1:= @List.range'_append_1 1 (k-1) (n-k+1);rw[show k-1+(n-k+1)=n by omega,List.range'_succ,show 1+(k-1)=k by omega] at e1;exact e1.symm
 rw[a3,List.filter_append,List.filter_cons,if_neg (by simpa using h3)] at hv;have a1:(List.range' 1 (k-1)).filter (fun k=>decide (Kn F A k))=List.range' 1 (k-1):=List.filter_eq_self.2 fun j hj=>by
  have:=List.mem_range'_1.1 hj;exact Y7 (h4 j this.1 (by omega))
 rw[a1] at hv;have a0:∀i:Nat,(l[i]?).map Int.natAbs=(List.range' 1 (k-1)++(List.range' (k+1) (n-k)).filter fun k=>decide (Kn F A k))[i]? :=fun i=>by rw[<-hv,Z2]
 have a2:=Q0 List.length hv;rw[A0,X9,List.length_range'] at a2;refine⟨fun i x hi hx=>?_,by omega,fun x hx e=>?_⟩
 ·have:=a0 i;rw[hx,Y0 (by simpa using hi),List.getElem?_range' hi] at this;have:=U6 this;omega
 ·have:=a0 (k-1);rw[hx,Y2 (by simp)] at this;have hm:=Z1 this.symm;have:=List.mem_range'_1.1 (List.mem_filter.1 hm).1;omega
end
section
open Go.RowKit Go.Lib
structure Ans where
 er:Int
 m:List Bool
 P:List (List Int)
def fP(r:aOn):Ans:=match r.o with
 | .out=>⟨8,[],[]⟩
 | .model m=>⟨0,m,[]⟩
 | .closed=>⟨0,[],r.P⟩
noncomputable def pL(vars:Int)(F:List (List Int))(steps:Int):Ans:=
 if iK vars F≠0 then ⟨iK vars F,[],[]⟩ else if steps<1\/40000<steps then ⟨3,[],[]⟩ else fP (gG vars.toNat F steps.toNat)
def aWi(n:Nat)(F:List (List Int))(a:Ans):Prop:=
 (a.P = []/\Mod n F a.m/\∀o,Mod n F o->nI a.m o)\/(a.P ≠ []/\a.m = []/\aJa F a.P/\a.P.length<=40000/\(∀c∈a.P,c.length<=60/\aO n c)/\∀o,¬Mod n F o)
theorem qB{n:Nat}{F:List (List Int)}{steps:Int}(h:iK n F=0)(h1:1<=steps)(h2:steps<=40000):pL n F steps=fP (gG n F steps.toNat):=by
 unfold pL;rw[if_neg (by simp[h]),if_neg (by omega),Y3]
theorem aUy{n:Nat}{F:List (List Int)}{steps:Int}(h:iK n F=0)(h1:1<=steps)(h2:steps<=40000):(pL n F steps).er=0\/(pL n F steps).er=8:=by
 rw[qB h h1 h2];unfold fP;cases (gG n F steps.toNat).o<;>simp
theorem aUj{vars:Int}{F:List (List Int)}{steps:Int}(h:(pL vars F steps).er=0):∃n:Nat,vars=n/\n<=400/\F.length<=4000/\(∀c∈F,c.length<=60/\aO n c)/\iK vars F=0/\aWi n F (pL vars F steps):=by
 by_cases hf:iK vars F=0
 ·obtain⟨n,rfl,h1,h2,h3⟩:=vB hf;refine⟨n,rfl,h1,h2,h3,hf,?_⟩;by_cases hs:steps<1\/40000<steps
  ·unfold pL at h;rw[if_neg (by simp[hf]),if_pos hs] at h;cases h
  ·rw[qB hf (by omega) (by omega)] at h |-
   have hF:∀c∈F,aO n c:=fun c hc=>(h3 c hc).2;cases e:(gG n F steps.toNat).o with
   | out=>rw[fP,e] at h;cases h
   | model m=>
    rw[fP,e];exact .inl ⟨rfl,aIk hF e⟩
   | closed=>
    rw[fP,e];obtain⟨a1,a2,a3,a4⟩:=aFo hF e;refine .inr ⟨fun e2=>?_,rfl,a1,?_,a3,a4⟩
    ·have e3:(gG n F steps.toNat).P = []:=e2;have:=a1.2;rw[e3] at this;cases this
    ·show (gG n F steps.toNat).P.length<=40000;omega
 ·unfold pL at h;rw[if_pos hf] at h;exact absurd h hf
def aSn(a:Ans)(w:World)(e:Ending)(w':World):Prop:=
 aA w w'/\∃mv pv,e=.returned (.tuple #[.agg #[mv,pv],.int .i64 a.er])/\bC (fun b=>w.heap.size<=b/\b<w'.heap.size) w' a.m mv/\eU (fun b=>w.heap.size<=b/\b<w'.heap.size) w' a.P pv
theorem gX(S:Nat->Prop)(w:World):bC S w [] (.slice none 0 0):=⟨none,0,rfl,by simp,fun h=>by simp at h⟩
theorem iH(S:Nat->Prop)(w:World):eU S w [] (.slice none 0 0):= .inl ⟨rfl,none,0,rfl⟩
def SmP(x:Int):Prop:=x.natAbs<=1000000
theorem aIi{x:Int}(h:SmP x):(Go.Lit.int .i64 x).wf=true:=by
 unfold SmP at h;have e1:IntKind.i64.min = -9223372036854775808:=by decide
 have e2:IntKind.i64.max=9223372036854775807:=by decide
 simp[Go.Lit.wf];omega
theorem aWk:WideMaps.ArrKey Tryz.prog 99 3 2:=⟨Tryz.underlying99,by kernel_rfl,by kernel_rfl,by kernel_rfl⟩
theorem qX:Maps.Keyed Tryz.prog 99:=Maps.Keyed.of_law aWk.law
theorem aOh:∃m,Tryz.prog.types.size=m+1:=⟨Tryz.prog.types.size-1,by kernel_rfl⟩
def aTn(x y:Int):Go.Lit:= .string (keyBytes [.int .i64 x,.int .i64 y])
theorem nS{x y:Int}(hx:SmP x)(hy:SmP y):keyOf Tryz.prog 99 (.agg #[.int .i64 x,.int .i64 y])=some (aTn x y):=WideMaps.keyOf_pair aWk Tryz.underlying3 aOh (aIi hx) (aIi hy)
theorem aQc{x y x' y':Int}(hx:SmP x)(hy:SmP y)(hx':SmP x')(hy':SmP y')(h:aTn x y=aTn x' y'):x=x'/\y=y':=by
 have h1:=nS hx hy;have h2:=nS hx' hy';rw[h] at h1;have:=qX.inj h1 h2;simp only[Value.agg.injEq,Array.mk.injEq,List.cons.injEq,Value.int.injEq,true_and,and_true] at this;exact this
theorem sT:Tryz.prog.underlying 74=some (.map 99 3):=Tryz.underlying74
def gW(g n:Nat)(f:Int->Int->Int)(w:World):Prop:=∃D:DataW Unit,w.ownsMap Tryz.prog 99 (plainElem Tryz.prog 3) g n D/\∀x y,SmP x->SmP y->D.atKey (aTn x y) (.lit (.int .i64 0))=.lit (.int .i64 (f x y))
theorem gW.lt{g n:Nat}{f:Int->Int->Int}{w:World}(h:gW g n f w):g<w.heap.size:=by obtain⟨D,h,-⟩:=h;exact h.lt
theorem gW.mono{g n n':Nat}{f:Int->Int->Int}{w:World}(h:gW g n f w)(hn:n<=n'):gW g n' f w:=by obtain⟨D,h,h2⟩:=h;exact⟨D,h.mono hn,h2⟩
theorem gW.at{g n:Nat}{f:Int->Int->Int}{w w':World}(h:gW g n f w)(hb:w'.heap[g]? = w.heap[g]?):gW g n f w':=by
 obtain⟨D,⟨es,a0,hm,hr⟩,h2⟩:=h;exact⟨D,⟨es,a0,hb.trans hm,hr⟩,h2⟩
theorem gW.keep{g n:Nat}{f:Int->Int->Int}{w w':World}(h:gW g n f w)(k:aA w w'):gW g n f w':=h.at (k.block g h.lt)
theorem sN(w:World):gW w.heap.size 0 (fun _ _=>0) (w.alloc (.map #[] 0)):=⟨.map [],World.ownsMap_made w _ _ _,fun x y _ _=>by simp[DataW.atKey]⟩
theorem gW.look{g n:Nat}{f:Int->Int->Int}{w:World}{t:TypeId}(h:gW g n f w)(ht:Tryz.prog.underlying t=some (.map 99 3)){x y:Int}(hx:SmP x)(hy:SmP y):(Instr.lookup t (.map (some g)) (.agg #[.int .i64 x,.int .i64 y]) false).run Tryz.prog w=.ok (.int .i64 (f x y)) w:=by
 obtain⟨D,h1,h2⟩:=h;obtain⟨c,a0,hv,-⟩:=h1.lookup_int qX ht Tryz.underlying3 (by kernel_rfl) (nS hx hy);rw[h2 x y hx hy] at hv;have e:f x y=c:=by simpa using hv
 rw[a0,e]
theorem gW.put{g n:Nat}{f:Int->Int->Int}{w:World}{t:TypeId}(h:gW g n f w)(ht:Tryz.prog.underlying t=some (.map 99 3)){x y v:Int}(hx:SmP x)(hy:SmP y)(hv:SmP v)(hl:n<1000000):∃w',(Instr.mapUpdate t (.map (some g)) (.agg #[.int .i64 x,.int .i64 y]) (.int .i64 v)).run Tryz.prog w=.ok () w'/\gW g (n+1) (gD f x y v) w'/\w.grownBy w' (some g):=by
 obtain⟨D,h1,h2⟩:=h;obtain⟨w',a1,a0,a2⟩:=h1.update qX ht (by unfold maxLen;omega) (nS hx hy) (plainElem_int Tryz.underlying3 (aIi hv));refine⟨w',a1,⟨_,a0,fun p q hp hq=>?_⟩,a2⟩;unfold gD;by_cases e:p=x/\q=y
 ·obtain⟨rfl,rfl⟩:=e;rw[Maps.atKey_put_same h1.isMap (qX.key (nS hx hy))];simp
 ·rw[Maps.atKey_put_other (fun hh=>e (aQc hp hq hx hy hh)),h2 p q hp hq,if_neg e]
structure DD where
 b:Nat
 many:Nat
 tv:Value
 g1:Nat
 pv:Value
 cv:Value
 g2:Nat
 np:Nat
 cs:Nat->Prop
 ro:Nat->Prop
def DD.box(x:DD)(n:Nat):Array Value:=#[.int .i64 x.many,x.tv,.map (some x.g1),x.pv,.int .i64 n,x.cv,.map (some x.g2)]
def DD.own(x:DD)(b:Nat):Prop:=b=x.b\/x.cv.ownBlock=some b\/b=x.g2\/x.cs b
def DD.to(x:DD)(v:Value)(k:Nat)(cs:Nat->Prop):DD:= { x with cv:=v,np:=k,cs:=cs }
structure DM (x:DD) (L:Nat) (s:DS) (w:World):Prop where
 low:L<=x.b/\L<=x.g2/\x.b≠x.g2
 np:x.np<=s.n
 ne:x.cv.ownBlock≠some x.b/\x.cv.ownBlock≠some x.g2
 box:aF x.b 79 (x.box s.n) w
 row:pS L x.cs x.cv s.cl w
 csl:∀c,x.cs c->L<=c/\c<w.heap.size/\c≠x.b/\c≠x.g2/\x.cv.ownBlock≠some c
 pr:gW x.g2 x.np s.pr w
theorem DM.lt{x:DD}{L:Nat}{s:DS}{w:World}(h:DM x L s w){b:Nat}(hb:x.own b):L<=b/\b<w.heap.size:=by
 rcases hb with rfl | hb | rfl | hb
 ·exact⟨h.low.1,h.box.facts.2.2⟩
 ·exact h.row.in hb
 ·exact⟨h.low.2.1,h.pr.lt⟩
 ·exact⟨(h.csl b hb).1,(h.csl b hb).2.1⟩
theorem DM.other{x:DD}{L:Nat}{s:DS}{w w':World}(h:DM x L s w)(hs:w.heap.size<=w'.heap.size)(hown:∀b,x.own b->w'.heap[b]? = w.heap[b]?):DM x L s w':=by
 refine⟨h.low,h.np,h.ne,?_,h.row.mono (fun g hg=>hown g (.inr (.inl hg))) fun b hd=>⟨hown b (.inr (.inr (.inr hd))),hd⟩,fun c hc=>?_,h.pr.at (hown _ (.inr (.inr (.inl rfl))))⟩
 ·have:=h.box;unfold aF at *;rw[hown _ (.inl rfl)];exact this
 ·have:=h.csl c hc;exact⟨this.1,R8 this.2.1 hs,this.2.2⟩
theorem DM.keep{x:DD}{L:Nat}{s:DS}{w w':World}(h:DM x L s w)(k:aA w w'):DM x L s w':=h.other k.size fun b ho=>k.block b (h.lt ho).2
theorem DM.L{x:DD}{L:Nat}{s:DS}{w:World}(h:DM x L s w):L<=w.heap.size:=by have:=h.lt (b:=x.b) (.inl rfl);omega
theorem DM.push{x:DD}{L:Nat}{s:DS}{w w5:World}{vs:List Value}{u v':Value}{l:List Int}{U:Nat->Prop}(h:DM x L s w)(hvl:vs.length=s.cl.length)(hvn:∀(i:Nat) c y,s.cl[i]? = some c->vs[i]? = some y->aI x.cs w c y)
  (hU:∀c,U c->L<=c/\c<w.heap.size/\¬x.own c) (hu:aI U w l u) (hg:w.grownBy w5 x.cv.ownBlock) (ho:v'.ownBlock=x.cv.ownBlock\/∃g,v'.ownBlock=some g/\w.heap.size<=g) (h5:w5.ownsRow L 128 1 v' (s.cl.length+1) (vs++[u])):
  DM (x.to v' x.np (fun c=>x.cs c\/U c)) L (s.clause l) (w5.setCell ⟨x.b,5,none⟩ v')/\aG (fun b=>x.own b\/U b) (x.to v' x.np (fun c=>x.cs c\/U c)).own w (w5.setCell ⟨x.b,5,none⟩ v'):=by
 have a1:=h.low;have a2:=h.ne;have b1:=h.box.facts.2.2;have a9:=h.pr.lt;have a4:∀c,c≠x.b->(w5.setCell ⟨x.b,5,none⟩ v').heap[c]? = w5.heap[c]? :=fun c hc=>eC _ _ _ _ hc;have a8:(w5.setCell ⟨x.b,5,none⟩ v').heap.size=w5.heap.size:=gE ..;have hk:∀c,c<w.heap.size->x.cv.ownBlock≠some c->w5.heap[c]? = w.heap[c]? :=fun c hc hn=>hg.block c hc fun e=>hn e.symm;have a5:v'.ownBlock≠some x.b/\v'.ownBlock≠some x.g2:=by
  rcases ho with ho | ⟨g,ho,hge⟩
  ·rw[ho];exact a2
  ·rw[ho];exact⟨fun e=>by have:=U6 e;omega,fun e=>by have:=U6 e;omega⟩
 have a3:∀c,x.cs c\/U c->L<=c/\c<w.heap.size/\c≠x.b/\c≠x.g2/\x.cv.ownBlock≠some c:=fun c hc=>by
  rcases hc with hc | hc
  ·exact h.csl c hc
  ·have:=hU c hc;exact⟨this.1,this.2.1,fun e=>this.2.2 (.inl e),fun e=>this.2.2 (.inr (.inr (.inl e))),fun e=>this.2.2 (.inr (.inl e))⟩
 have a6:∀c,x.cs c\/U c->v'.ownBlock≠some c:=fun c hc e=>by
  have h1:=a3 c hc;rcases ho with ho | ⟨g,ho,hge⟩
  ·exact h1.2.2.2.2 (ho ▸ e)
  ·rw[ho] at e;have:=U6 e;omega
 have a0:∀c y,aI (fun c=>x.cs c\/U c) w c y->aI (fun c=>x.cs c\/U c) (w5.setCell ⟨x.b,5,none⟩ v') c y:=fun c y hc=>hc.mono (fun p hp=>X0 (w:=w) (by
   have:=a3 _ hp;rw[a4 _ this.2.2.1,hk _ this.2.1 this.2.2.2.2])) fun b hb=>hb
 refine⟨⟨a1,h.np,a5,?_,⟨vs++[u],?_,?_,fun i c y hc hy=>?_⟩,fun c hc=>?_,?_⟩,?_⟩
 ·have a7:aF x.b 79 (x.box s.n) w5:=by have:=h.box;unfold aF at *;rw[hk _ b1 a2.1];exact this
  exact a7.set 5 v'
 ·show (vs++[u]).length=(s.cl++[l]).length;simp[hvl]
 ·show World.ownsRow _ L _ 1 v' (s.cl++[l]).length _;rw[X9];exact cM h5 fun g hgv=>a4 g (fun e=>a5.1 (e ▸ hgv))
 ·have hc:(s.cl++[l])[i]? = some c:=hc;by_cases hi:i<s.cl.length
  ·rw[Y0 hi] at hc;rw[Y0 (by omega)] at hy;exact a0 _ _ ((hvn i c y hc hy).mono (fun _ _=>rfl) fun _ h=>.inl h)
  ·have b0:i=s.cl.length:=by
    have:=(R9.1 hc).1;simp at this;omega
   subst b0;rw[Y2 (Y1 _),Nat.sub_self] at hc;rw[<-hvl,Y2 (Y1 _),Nat.sub_self] at hy;cases hc;cases hy
   exact a0 _ _ (hu.mono (fun _ _=>rfl) fun _ h=>.inr h)
 ·have:=a3 c hc;exact⟨this.1,by rw[a8];exact R8 this.2.1 hg.size,this.2.2.1,this.2.2.2.1,a6 c hc⟩
 ·exact h.pr.at (by show (World.setCell _ _ _).heap[x.g2]? = _;rw[a4 _ (Ne.symm a1.2.2),hk _ a9 a2.2])
 ·have t1:=aG.grown (O:=fun b=>x.own b\/U b) hg (fun g hg=>.inl (.inr (.inl hg))) ho;have t2:=t1.trans (aG.set _ w5 x.b 5 v' (.inl (.inl (.inl rfl))));refine t2.less fun b hb=>?_;rcases hb with hb | hb | hb | hb | hb
  ·exact .inl (.inl (.inl hb))
  ·exact .inr hb
  ·exact .inl (.inl (.inr (.inr (.inl hb))))
  ·exact .inl (.inl (.inr (.inr (.inr hb))))
  ·exact .inl (.inr hb)
theorem DM.vars{x:DD}{L:Nat}{s:DS}{w:World}(h:DM x L s w){n:Nat}(hn:s.n<=n):DM x L ⟨n,s.cl,s.pr⟩ (w.setCell ⟨x.b,4,none⟩ (.int .i64 n))/\aG x.own x.own w (w.setCell ⟨x.b,4,none⟩ (.int .i64 n)):=by
 have a0:∀c,c≠x.b->(w.setCell ⟨x.b,4,none⟩ (.int .i64 n)).heap[c]? = w.heap[c]? :=fun c hc=>eC _ _ _ _ hc;have a1:(w.setCell ⟨x.b,4,none⟩ (.int .i64 n)).heap.size=w.heap.size:=gE ..;refine⟨⟨h.low,U2 h.np hn,h.ne,h.box.set 4 (.int .i64 n),h.row.mono (fun g hg=>a0 g (fun e=>h.ne.1 (e ▸ hg))) fun b hd=>⟨a0 b (h.csl b hd).2.2.1,hd⟩,fun c hc=>by rw[a1];exact h.csl c hc,h.pr.at (a0 _ (Ne.symm h.low.2.2))⟩,aG.set _ _ _ _ _ (.inl rfl)⟩
theorem DM.put{x:DD}{L:Nat}{s:DS}{w w':World}(h:DM x L s w){f:Int->Int->Int}(hm:gW x.g2 (x.np+1) f w')(hn:x.np+1<=s.n)(hg:w.grownBy w' (some x.g2)):DM (x.to x.cv (x.np+1) x.cs) L ⟨s.n,s.cl,f⟩ w'/\aG x.own (x.to x.cv (x.np+1) x.cs).own w w':=by
 have hk:∀c,c<w.heap.size->c≠x.g2->w'.heap[c]? = w.heap[c]? :=fun c hc hn=>hg.block c hc fun e=>hn (U6 e);refine⟨⟨h.low,hn,h.ne,?_,h.row.mono (fun g hgv=>hk g (h.row.in hgv).2 (fun e=>h.ne.2 (e ▸ hgv))) fun b hd=>⟨hk b (h.csl b hd).2.1 (h.csl b hd).2.2.2.1,hd⟩,fun c hc=>?_,hm⟩,⟨hg.os,hg.tape,hg.output,hg.size,fun b hb hn=>hk b hb (fun e=>hn (.inr (.inr (.inl e)))),fun _ h=>.inl h⟩⟩
 ·have h1:=h.box;have h2:=hk _ h.box.facts.2.2 h.low.2.2;unfold aF at h1;exact h2.trans h1
 ·have:=h.csl c hc;exact⟨this.1,R8 this.2.1 hg.size,this.2.2⟩
theorem aT.nums{B:Nat}{v:Value}{zs:List Int}{w:World}(h:aT B v zs w)(hl:zs.length<=1000000):aI (fun b=>B<=b/\b<w.heap.size) w zs v:=by
 rcases h with ⟨h1,⟨rfl,h0⟩ | ⟨g,cap,cur,rfl,e2,e3,e4,e5,e6,e7⟩⟩
 ·exact⟨none,0,by rw[h0],by omega,fun hh=>by omega⟩
 ·refine⟨_,cap,rfl,by omega,fun hh=>⟨g,0,rfl,⟨e2,(U9.1 e3).1⟩,fun j x hx=>?_⟩⟩;have hj:j<zs.length:=(R9.1 hx).1;have hf:(zs.map (Value.int .i64))[j]? = some (.int .i64 x):=by rw[Z2,hx];rfl
  rw[<-e7,List.getElem?_take,if_pos (by omega)] at hf;simp only[World.cell?,e3,Nat.zero_add];simpa using hf
theorem aAv{w w':World}(k:aA w.drew w'):aA w w':=(aA.drew (aA.refl w)).trans k
theorem DM.cell{x:DD}{L:Nat}{s:DS}{w:World}(h:DM x L s w)(o:Nat):w.cell? ⟨x.b,o,none⟩=(x.box s.n)[o]? :=h.box.facts.1 o
theorem fU(x:DD)(L:Nat)(s:DS)(Q:Nat->Prop)(l:List Int)(p:Option Addr)(n cap:Nat)(w:World)(hln:l.length=n)(h:DM x L s w)(hQ:∀b,Q b->b<w.heap.size)(hl:aI Q w l (.slice p n cap))(hlen:l.length<=1000)(hc:s.cl.length<=1000000):
  Calls Tryz.prog 27 #[.pointer (some ⟨x.b,0,none⟩),.slice p n cap] w fun e w'=>e=.returned (.tuple #[])/\∃v c,DM (x.to v x.np c) L (s.clause l) w'/\aG x.own (x.to v x.np c).own w w':=by
 subst hln;obtain⟨i0,hi,b1,b0,b6⟩:=info_parts aHn;have HD:=hid h;have b7:=hid h.L;have a8:=hid h.ne;have HL:=hid hl;obtain⟨ap,ac,a4⟩:=h.row.shape;have a0:=hid a4;have c1:w.cell? ⟨x.b,5,none⟩=some (.slice ap s.cl.length ac):=(h.cell 5).trans (Q0 some a4);have c0:=h.box.facts.2.2;clear h hl a4;go_enter Tryz.func27,Tryz.ntmps27;go_region_law (first
  | (refine aW rfl _ _ 31 rfl L 128 i0 (.slice none 0 0) 1 24 Tryz.underlying31 hi b1 b0 b6 rfl (by decide) (.slice ap s.cl.length ac) s.cl.length vs rfl (b4.out.alloc _) ⟨w1.heap.size,0,none⟩ 1 1 [.slice qp l.length qc] rfl rfl dP gC (by unfold maxLen;omega) (by omega) (by have:=aC w1 (.cells #[.slice qp l.length qc] 128);omega) ?_
     intro v5 w5 h1 h2 h4;obtain⟨g5,a9,rfl⟩:=aS h1 (Q2 _);have P5:=hid (D1.out.push VL.out VN.out b9.out U1.out (a0.out ▸ bH h2) (a0.out ▸ kX h4) h1);have B5:aF x.b 79 (x.box s.n) w5:=(by
      have hk:w5.heap[x.b]? = w1.heap[x.b]? :=(bH h2).block x.b a3 (fun e=>a8.out.1 (a0.out ▸ e.symm));have:=D1.out.box;unfold aF at *;rw[hk];exact this)
     obtain⟨a1,a2,b3⟩:=B5.facts;have b5:w5.cell? ⟨x.b,5,none⟩=some (.slice ap s.cl.length ac):=(a1 5).trans (Q0 some a0.out);have b8:=a2 5;clear a1 a2 B5 h1 h2 h4)
  | (go_simp;go_at_call 17;refine (mD Q l p cap _ (fun b hb=>by have:=hQ b hb;simpa using this) (HL.out.keep (B:=w.heap.size) hQ (aA.drew (aA.refl w))) (by omega)).mono ?_
     rintro e w1 ⟨u1,rfl,a5,k1⟩;obtain⟨qp,qc,rfl⟩:=a5.ints.len;have K1:=hid (aAv k1);have D1:=hid (HD.out.keep K1.out);have U1:=hid (a5.nums (by omega));have b9:=hid (show ∀c,w.drew.heap.size<=c/\c<w1.heap.size->L<=c/\c<w1.heap.size/\¬x.own c from fun b hb=>⟨by have:=b7.out;have:=hb.1;simp at this;omega,hb.2,fun ho=>by have:=(HD.out.lt ho).2;have:=hb.1;simp at this;omega⟩);obtain⟨vs,a7,how,a6⟩:=D1.out.row;have VL:=hid a7;have b4:=hid (a0.out ▸ how);have VN:=hid a6;have b2:w1.cell? ⟨x.b,5,none⟩=some (.slice ap s.cl.length ac):=(D1.out.cell 5).trans (Q0 some a0.out);have a3:=D1.out.box.facts.2.2;have c2:L<=w1.heap.size:=D1.out.L;clear a5 k1 a7 how a6;go_simp))
 all_goals
  have HQ:=hid P5.out;go_wp2_with fail;refine bodyPost_end (results_none rfl _ _ _) rfl ?_;refine⟨rfl,_,_,HQ.out.1,?_⟩;exact (show aG x.own (fun b=>x.own b\/(w.drew.heap.size<=b/\b<w1.heap.size)) w w1 from⟨K1.out.os,K1.out.tape,K1.out.output,K1.out.size,fun b hb _=>K1.out.block b hb,fun b hb=>hb.imp id fun h=>h.1⟩).trans HQ.out.2
def iP(s:DS)(l:List Int)(j:Nat):DS:=⟨s.n+1,s.cl++(l.take j).map (fun x=> [(s.n:Int)+1,-x]),s.pr⟩
theorem aIm(s:DS)(l:List Int):iP s l 0=⟨s.n+1,s.cl,s.pr⟩:=by simp[iP]
theorem aIl{s:DS}{l:List Int}{j:Nat}{z:Int}(h:l[j]? = some z):(iP s l j).clause [(s.n:Int)+1,-z]=iP s l (j+1):=by
 obtain⟨hj,rfl⟩:=R9.1 h;unfold iP DS.clause;simp only;rw[U4 hj,Z9,List.append_assoc];rfl
theorem wV{s:DS}{l:List Int}(h:l.length≠1):(iP s l l.length).clause (-((s.n:Int)+1) :: l)=s.someS l:=by
 unfold iP DS.clause DS.someS;rw[if_neg h,Z7]
theorem oJ(w:World)(a b:Int):aI (fun c=>c=w.heap.size) (w.alloc (.cells #[.int .i64 a,.int .i64 b] 3)) [a,b] (.slice (some ⟨w.heap.size,0,none⟩) 2 2):=by
 refine⟨_,2,rfl,by simp,fun _=>⟨w.heap.size,0,rfl,rfl,fun j x hx=>?_⟩⟩;have hb:=(aF.new w 3 #[.int .i64 a,.int .i64 b]).facts.1 (0+j);rw[hb]
 match j,hx with
 | 0,hx=>cases hx;rfl
 | 1,hx=>cases hx;rfl
theorem aEu(w:World)(a:Int):aI (fun c=>c=w.heap.size) (w.alloc (.cells #[.int .i64 a] 3)) [a] (.slice (some ⟨w.heap.size,0,none⟩) 1 1):=by
 refine⟨_,1,rfl,by simp,fun _=>⟨w.heap.size,0,rfl,rfl,fun j x hx=>?_⟩⟩;have hb:=(aF.new w 3 #[.int .i64 a]).facts.1 (0+j);rw[hb]
 match j,hx with
 | 0,hx=>cases hx;rfl
theorem aFp(x:DD)(L:Nat)(s:DS)(Q:Nat->Prop)(l:List Int)(p:Option Addr)(n cap:Nat)(w:World)(hln:l.length=n)(hnil:p=none->cap=0)(h:DM x L s w)(hQ:∀b,Q b->b<w.heap.size/\¬x.own b)(hl:aI Q w l (.slice p n cap))(hlen:l.length<=900)(hc:s.cl.length<=500000)(hn:s.n<=500000)(hsm:∀y∈l,y.natAbs<=900000):
  Calls Tryz.prog 63 #[.pointer (some ⟨x.b,0,none⟩),.slice p n cap] w fun e w'=>e=.returned (.int .i64 (s.someL l))/\∃v c,DM (x.to v x.np c) L (s.someS l) w'/\aG x.own (x.to v x.np c).own w w':=by
 subst hln;by_cases h1:l.length=1
 ·obtain⟨y,rfl⟩:=List.length_eq_one_iff.1 h1;have HD:=hid h;obtain⟨lb,lo,hp,a8,a3⟩:=hl.nth (k:=0) (by simp);subst hp;have c0:w.cell? ⟨lb,lo,none⟩=some (.int .i64 y):=a3 0 y rfl;have b9:=(hQ lb a8).1;clear hl a3 h h1 hsm hlen;go_enter Tryz.func63,Tryz.ntmps63;go_wp2_with fail;go_ret;refine⟨by simp[DS.someL],x.cv,x.cs,?_,aG.refl _ _⟩;have:s.someS [y]=s:=by simp[DS.someS]
  rw[this];exact HD.out
 ·have HD:=hid h;have HL:=hid hl;have HQ:=hid hQ;have b8:=hid hsm;have H1:=hid h1;have c2:((l.length:Int)==1)=false:=by simpa using (show ¬(l.length:Int)=1 by omega)
  have b2:w.cell? ⟨x.b,4,none⟩=some (.int .i64 s.n):=h.cell 4;have b5:=h.box.facts.2.1 4;have b3:=h.box.facts.2.2;have HV:=hid (h.vars (n:=s.n+1) (Nat.le_succ _));have a1:((s.n+1:Nat):Int)=(s.n:Int)+1:=by omega
  rw[a1] at HV;clear h hl hsm h1 hQ a1;go_enter Tryz.func63,Tryz.ntmps63;go_upto_region 4 with fail;refine bE (fun W'=>DM x L ⟨s.n+1,s.cl,s.pr⟩ W'/\aG x.own x.own w W') ?_ ?_
  ·exact HV.out
  rintro W1 ⟨d1,t1⟩;have D1:=hid d1;have T1:=hid t1;have b2:W1.cell? ⟨x.b,4,none⟩=some (.int .i64 ((s.n:Int)+1)):=(d1.cell 4).trans (by show some (Value.int .i64 ((s.n+1:Nat):Int))=_;rw[show ((s.n+1:Nat):Int)=(s.n:Int)+1 by omega]);have b3:=d1.box.facts.2.2;clear d1 t1 HV b5;go_wp2_with fail;go_loopg [30] l.length (fun gk iv wr=> ∃(j:Nat) (v:Value) (cc:Nat->Prop),j+gk=l.length/\iv=.int .i64 j/\DM (x.to v x.np cc) L (iP s l j) wr/\aG x.own (x.to v x.np cc).own w wr);case atStart=>exact⟨0,x.cv,x.cs,by omega,rfl,by rw[aIm];exact D1.out,T1.out⟩
  case round=>
   obtain⟨j,v,cc,hj,rfl,hd,ht⟩:=hrel;have D2:=hid hd;have T2:=hid ht;clear hd ht D1 T1 b2 b3;have a9:=hid (HL.out.turn T2.out HQ.out);by_cases hlt:j<l.length
   ·obtain⟨lb,lo,rfl,a8,a3⟩:=a9.out.nth hlt;have b7:=a3 j _ (Q9 hlt);have HJ:=hid (Q9 hlt);have hz:=b8.out l[j] (U5 hlt);have b9:=R8 (HQ.out lb a8).1 T2.out.size;generalize l[j]=z at b7 HJ hz;have b0 : -900000<=z:=by omega
    have b1:z<=900000:=by omega
    have c1:(j:Int)<(l.length:Int):=by omega
    clear a3 hz;go_wp2_with fail;have HS:=hid (show (iP s l j).cl.length<=1000000 by simp[iP];omega);refine bK (fun W'=>DM (x.to v x.np cc) L (iP s l j) W'/\aG (x.to v x.np cc).own (x.to v x.np cc).own wr W'/\aI (fun c=>c=wr.heap.size) W' [(s.n:Int)+1,-z] (.slice (some ⟨wr.heap.size,0,none⟩) 2 2)/\wr.heap.size<W'.heap.size) ⟨D2.out.keep (aA.alloc _ _),aG.keep (aA.alloc _ _),oJ _ _ _,by rw[aC];omega⟩ ?_;rintro W3 ⟨d3,t3,n3,s3⟩;refine (fU (x.to v x.np cc) L (iP s l j) (fun c=>c=wr.heap.size) [(s.n:Int)+1,-z] _ 2 2 W3 rfl d3 (fun b hb=>by omega) n3 (by simp) HS.out).mono ?_;rintro e w4 ⟨rfl,v4,c4,d4,t4⟩;rw[aIl HJ.out] at d4;have D4:=hid d4;have T4:=hid ((T2.out.trans t3).trans t4);clear d3 t3 n3 s3 d4 t4;go_wp2_with fail;go_roundg (l.length-(j+1));case rel=>exact⟨j+1,v4,c4,by omega,by go_num,D4.out,T4.out⟩
    case measure=>omega
   ·obtain rfl:j=l.length:=by omega
    obtain⟨i0,hi,b6,b0,b1⟩:=info_parts dM;have HS:=hid (show (iP s l l.length).cl.length<=1000000 by simp[iP];omega);have b4:=hid (show ∀ad,p=some ad->∀j u,(l.map (Value.int .i64))[j]? = some u->(wr.alloc (.cells #[.int .i64 (-((s.n:Int)+1))] 3)).cell? (ad.add j)=some u from fun ad hp=>zK (hp ▸ a9.out) _ (fun b hb=>R8 (HQ.out b hb).1 T2.out.size));have a4:=hid (show ∀u∈l.map (Value.int .i64),u.oneCell'=true by intro u hu;obtain⟨z,-,rfl⟩:=Q4.1 hu;rfl);have a6:=hid (show (l.map (Value.int .i64)).length=l.length*1 by simp);have OW:=hid (World.ownsRow_lit (base:=wr.heap.size) (e:=3) (size:=1) wr #[.int .i64 (-((s.n:Int)+1))] 1 (Y1 _) (by unfold maxLen;omega) rfl);obtain⟨a2,a0⟩:∃a2,a2=l.map (Value.int .i64):=⟨_,rfl⟩;have a5:=hid a0;rw[<-a0] at b4 a4 a6;clear a0;cases p with
    | none=>
     obtain rfl:l = []:=by
      rcases Nat.eq_zero_or_pos l.length with h0 | h0
      ·exact Y4.1 h0
      ·obtain⟨b,off,hp,-⟩:=a9.out.nth (k:=0) h0;cases hp
     obtain rfl:=hnil rfl;go_wp2_with (at_builtin;refine wpList_append_own_none rfl _ _ 27 rfl wr.heap.size 3 i0 1 Tryz.underlying27 hi (.slice (some ⟨wr.heap.size,0,none⟩) 1 1) 1 _ rfl OW.out rfl ?_)
     refine bK (fun W'=>DM (x.to v x.np cc) L (iP s [] 0) W'/\aG (x.to v x.np cc).own (x.to v x.np cc).own wr W'/\aI (fun c=>c=wr.heap.size) W' [-((s.n:Int)+1)] (.slice (some ⟨wr.heap.size,0,none⟩) 1 1)/\wr.heap.size<W'.heap.size) ⟨D2.out.keep (aA.alloc _ _),aG.keep (aA.alloc _ _),aEu _ _,by rw[aC];omega⟩ ?_;rintro W3 ⟨d3,t3,n3,s3⟩;refine (fU (x.to v x.np cc) L (iP s [] 0) (fun c=>c=wr.heap.size) [-((s.n:Int)+1)] _ 1 1 W3 rfl d3 (fun b hb=>by omega) n3 (by simp) HS.out).mono ?_;rintro e w4 ⟨rfl,v4,c4,d4,t4⟩;have D4:=hid (wV H1.out ▸ d4);have T4:=hid ((T2.out.trans t3).trans t4);clear d3 t3 n3 s3 d4 t4;go_wp2_with fail;go_ret;exact⟨by simp[DS.someL],v4,c4,D4.out,T4.out⟩
    | some ad=>
     go_wp2_with (at_builtin;refine wpList_append_own_at _ rfl _ _ 27 rfl wr.heap.size 3 i0 (.int .i64 0) 1 8 Tryz.underlying27 hi b6 b0 b1 rfl (by decide) (.slice (some ⟨wr.heap.size,0,none⟩) 1 1) 1 [.int .i64 (-((s.n:Int)+1))] rfl OW.out ad l.length cap a2 rfl a6.out (b4.out ad rfl) a4.out (by unfold maxLen;omega) (by omega) (by rw[aC];omega) ?_;intro v5 w5 h1 h2 _ h4)
     obtain⟨g5,a7,rfl⟩:=aS h1 (by omega);have k5:aA wr w5:=Below.grown ((Below.refl wr.heap.size wr).alloc (Y1 _) _) h2 (by rw[aC];omega) (fun g hg=>by cases hg;exact Y1 _);have HO:Hid (aT wr.heap.size (.slice (some ⟨g5,0,none⟩) (1+l.length) a7) (-((s.n:Int)+1) :: l) w5):=by
      show World.ownsRow _ _ _ _ _ _ _;rw[Z0,List.map_cons,show l.length+1=1+l.length by omega,<-a5.out];exact h1
     clear h1 h2 h4;refine (fU (x.to v x.np cc) L (iP s l l.length) (fun b=>wr.heap.size<=b/\b<w5.heap.size) (-((s.n:Int)+1) :: l) _ _ _ w5 (by rw[Z0];omega) (D2.out.keep k5) (fun b hb=>hb.2) (HO.out.nums (by rw[Z0];omega)) (by rw[Z0];omega) HS.out).mono ?_;rintro e w4 ⟨rfl,v4,c4,d4,t4⟩;have D4:=hid (wV H1.out ▸ d4);have T4:=hid ((T2.out.trans (aG.keep k5)).trans t4);clear d4 t4 k5;go_wp2_with fail;go_ret;exact⟨by simp[DS.someL,H1.out],v4,c4,D4.out,T4.out⟩
theorem aPx:(Tryz.prog.info? 4).map (fun i=>(i.zero,i.size,i.bytes))=some (some (.bool false),1,1):=by kernel_rfl
theorem oT{w w':World}(h:w.grownBy w' none):aA w w':=⟨h.os,h.tape,h.output,h.size,fun b hb=>h.block b hb (by simp)⟩
def eM(f:Int->Value)(A:List Int)(j:Nat)(b:Nat)(T:TypeId)(w:World):Prop:=∃cs:List Value,cs.length=A.length/\(∀(i:Nat) x,i<j->A[i]? = some x->cs[i]? = some (f x))/\aF b T cs.toArray w
theorem eM.start{f:Int->Value}{A:List Int}{b:Nat}{T:TypeId}{w:World}{z:Value}(h:aF b T (List.replicate A.length z).toArray w):eM f A 0 b T w:=⟨_,by simp,fun i x hi=>by omega,h⟩
theorem eM.cell{f:Int->Value}{A:List Int}{j b:Nat}{T:TypeId}{w:World}(h:eM f A j b T w){i:Nat}(hi:i<A.length):(∃v,w.cell? ⟨b,i,none⟩=some v)/\w.frozen? ⟨b,i,none⟩=false/\b<w.heap.size:=by
 obtain⟨cs,h1,-,h3⟩:=h;obtain⟨a,c,d⟩:=h3.facts;refine⟨⟨cs[i]'(by omega),?_⟩,c i,d⟩;rw[a];simp[h1,hi]
theorem eM.next{f:Int->Value}{A:List Int}{j b:Nat}{T:TypeId}{w:World}{x:Int}(h:eM f A j b T w)(hx:A[j]? = some x):eM f A (j+1) b T (w.setCell ⟨b,j,none⟩ (f x)):=by
 obtain⟨cs,h1,h2,h3⟩:=h;have hj:=(R9.1 hx).1;refine⟨cs.set j (f x),by simp[h1],fun i y hi hy=>?_,?_⟩
 ·by_cases e:j=i
  ·subst e;rw[hx] at hy;cases hy;rw[Z4 (by omega)]
  ·rw[Q8 e];exact h2 i y (by omega) hy
 ·have:=h3.set j (f x);rwa [List.setIfInBounds_toArray] at this
theorem eM.all{f:Int->Value}{A:List Int}{b:Nat}{T:TypeId}{w:World}(h:eM f A A.length b T w):∀(i:Nat) x,A[i]? = some x->w.cell? ⟨b,i,none⟩=some (f x):=fun i x hx=>by
 obtain⟨cs,h1,h2,h3⟩:=h;rw[h3.facts.1];have:=h2 i x (R9.1 hx).1 hx;simpa using this
theorem eM.lt{f:Int->Value}{A:List Int}{j b:Nat}{T:TypeId}{w:World}(h:eM f A j b T w):b<w.heap.size:=by
 obtain⟨cs,-,-,h3⟩:=h;exact h3.facts.2.2
theorem aRu{s:DS}{l:List Int}(hn:s.n<=500000)(h:∀y∈l,y.natAbs<=900000):(s.someL l).natAbs<=900000:=by
 unfold DS.someL;split
 ·rename_i h1;obtain⟨y,rfl⟩:=List.length_eq_one_iff.1 h1;exact h y Y9
 ·omega
theorem eM.nums{f:Int->Int}{l:List Int}{b:Nat}{w:World}(h:eM (fun x=> .int .i64 (f x)) l l.length b 3 w)(hl:l.length<=1000000):aI (fun c=>c=b) w (l.map f) (.slice (some ⟨b,0,none⟩) l.length l.length):=by
 refine⟨_,l.length,by rw[A0],by rw[A0];omega,fun _=>⟨b,0,rfl,rfl,fun i x hx=>?_⟩⟩;rw[Z6];rw[Z2] at hx;cases e:l[i]? with
 | none=>rw[e] at hx;cases hx
 | some y=>
  rw[e] at hx;cases hx;exact h.all i y e
theorem aJe(x:DD)(L:Nat)(s:DS)(Q:Nat->Prop)(l:List Int)(p:Option Addr)(n cap:Nat)(w:World)(hln:l.length=n)(h:DM x L s w)(hQ:∀b,Q b->b<w.heap.size)(hl:aI Q w l (.slice p n cap))(hlen:l.length<=900)(hc:s.cl.length<=500000)(hn:s.n<=500000)(hsm:∀y∈l,y.natAbs<=900000):
  Calls Tryz.prog 64 #[.pointer (some ⟨x.b,0,none⟩),.slice p n cap] w fun e w'=>e=.returned (.int .i64 (s.allL l))/\∃v c,DM (x.to v x.np c) L (s.allS l) w'/\aG x.own (x.to v x.np c).own w w':=by
 subst hln;obtain⟨i0,hi,a6,a2,a7⟩:=info_parts dM;have HD:=hid h;have HL:=hid hl;have HQ:=hid hQ;have a1:=hid hsm;have b7:=h.box.facts.2.2;clear h hl hQ hsm;go_enter Tryz.func64,Tryz.ntmps64;go_wp2_with (at_make;refine wpList_make_full _ rfl _ _ 27 rfl w.heap.size 3 i0 (.int .i64 0) 1 Tryz.underlying27 hi a6 a2 .i64 .i64 (l.length:Int) (l.length:Int) l.length rfl rfl rfl rfl (by rw[a7];omega) (by unfold maxLen;omega) (Y1 _) ?_;intro w1 h1 h2;have K1:=hid (oT h2);have F1:=hid (eM.start (f:=fun x=> .int .i64 (-x)) (A:=l) (gL (v:= .int .i64 0) rfl h1));clear h1 h2)
 go_loopg [13] l.length (fun gk iv wr=> ∃j:Nat,j+gk=l.length/\iv=.int .i64 j/\aA w wr/\eM (fun x=> .int .i64 (-x)) l j w.heap.size 3 wr);case atStart=>exact⟨0,by omega,rfl,K1.out,F1.out⟩
 case round=>
  obtain⟨j,hj,rfl,hk,hf⟩:=hrel;have K2:=hid hk;have F2:=hid hf;clear hk hf K1 F1;by_cases hlt:j<l.length
  ·obtain⟨cb,co,rfl,a5,a0⟩:=(HL.out.keep HQ.out K2.out).nth hlt;have a9:=a0 j _ (Q9 hlt);have hx:=a1.out l[j] (U5 hlt);have HX:=hid (Q9 hlt);have b4:=R8 (HQ.out cb a5) K2.out.size;obtain⟨⟨v0,b2⟩,b5,a4⟩:=F2.out.cell hlt;generalize l[j]=z at a9 hx HX;have b0 : -900000<=z:=by omega
   have a3:z<=900000:=by omega
   have b3:(j:Int)<(l.length:Int):=by omega
   clear a0 hx;have F3:=hid (F2.out.next HX.out);have K3:=hid (show aA w (wr.setCell ⟨w.heap.size,j,none⟩ (.int .i64 (-z))) from Below.trans K2.out (aQ wr w.heap.size j _));go_wp2_with fail;go_roundg (l.length-(j+1));case rel=>exact⟨j+1,by omega,by go_num,K3.out,F3.out⟩
   case measure=>omega
  ·obtain rfl:j=l.length:=by omega
   have HS:=hid (show ∀y∈l.map (fun x=> -x),y.natAbs<=900000 by intro y hy;obtain⟨z,hz,rfl⟩:=Q4.1 hy;have:=a1.out z hz;omega);go_wp2_with fail;refine (aFp x L s (fun c=>c=w.heap.size) (l.map fun x=> -x) (some ⟨w.heap.size,0,none⟩) l.length l.length wr (by simp) (by intro hh;cases hh) (HD.out.keep K2.out) (fun b hb=>by subst hb;exact⟨F2.out.lt,fun ho=>by have:=(HD.out.lt ho).2;omega⟩) (F2.out.nums (f:=fun x=> -x) (by omega)) (by simpa using hlen) hc hn HS.out).mono ?_;rintro e w4 ⟨rfl,v4,c4,d4,t4⟩;have D4:=hid d4;have T4:=hid ((aG.keep K2.out).trans t4);have hr:=aRu hn HS.out;have HR:Hid (s.allL l = -s.someL (l.map fun x=> -x)):=rfl;have a8:Hid (s.allS l=s.someS (l.map fun x=> -x)):=rfl;generalize s.someL (l.map fun x=> -x)=r at hr HR |-
   have b6 : -900000<=r:=by omega
   have b1:r<=900000:=by omega
   clear d4 t4 hr;go_wp2_with fail;go_ret;exact⟨by rw[HR.out];rfl,v4,c4,a8.out ▸ D4.out,T4.out⟩
theorem jV{w w':World}{g:Nat}(h:w.grownBy w' (some g)){b o:Nat}(hb:b<w.heap.size)(hne:b≠g):w'.cell? ⟨b,o,none⟩=w.cell? ⟨b,o,none⟩:=X0 (w:=w) (h.block b hb (fun e=>hne (U6 e)))
theorem aOs(s:DS)(a b:Int):(s.allS [a,b]).n=s.n+1/\(s.allS [a,b]).pr=s.pr/\(s.allS [a,b]).cl.length=s.cl.length+3:=by simp[DS.allS,DS.someS]
theorem aOr(s:DS)(a b:Int):s.allL [a,b] = -((s.n:Int)+1):=by simp[DS.allL,DS.someL]
theorem aPe(x:DD)(L:Nat)(s:DS)(a b:Int)(w:World)(h:DM x L s w)(ha:a.natAbs<=900000)(hb:b.natAbs<=900000)(hc:s.cl.length<=500000)(hn:s.n<=500000):
  Calls Tryz.prog 59 #[.pointer (some ⟨x.b,0,none⟩),.int .i64 a,.int .i64 b] w fun e w'=>e=.returned (.int .i64 (s.bothL a b))/\∃v k c,DM (x.to v k c) L (s.bothS a b) w'/\aG x.own (x.to v k c).own w w':=by
 have HD:=hid h;have b6:SmP a:=by unfold SmP;omega
 have b3:SmP b:=by unfold SmP;omega
 have b4:Tryz.prog.underlying 74=some (.map 99 3):=Tryz.underlying74;clear h;go_enter Tryz.func59,Tryz.ntmps59;go_upto_region 2 with fail;refine bE (fun W'=>aA w W'/\aF w.heap.size 99 #[.int .i64 a,.int .i64 b] W') ⟨aA.alloc _ _,aF.new _ _ _⟩ ?_;rintro W1 ⟨k1,b1⟩;have K1:=hid k1;have B1:=hid b1;have D1:=hid (HD.out.keep k1);clear k1 b1;have a5:W1.cell? ⟨x.b,6,none⟩=some (.map (some x.g2)):=D1.out.cell 6;have b0:x.b<W1.heap.size:=D1.out.box.facts.2.2;have a3:W1.cell? ⟨w.heap.size,0,none⟩=some (.int .i64 a):=B1.out.facts.1 0;have a4:W1.cell? ⟨w.heap.size,1,none⟩=some (.int .i64 b):=B1.out.facts.1 1;have a2:=B1.out.facts.2.2;have b9:∀n,(Instr.lookup 74 (.map (some x.g2)) (.agg #[.int .i64 a,.int .i64 b]) false).run Tryz.prog (W1.drewN n)=.ok (.int .i64 (s.pr a b)) (W1.drewN n):=fun n=>(D1.out.keep ((aA.refl W1).drewN n)).pr.look b4 b6 b3;have b7:Hid (s.bothS a b=if s.pr a b=0 then ⟨(s.allS [a,b]).n,(s.allS [a,b]).cl,gD s.pr a b (s.allL [a,b])⟩ else s):=rfl;have c0:Hid (s.bothL a b=if s.pr a b=0 then s.allL [a,b] else s.pr a b):=rfl;generalize c7:s.pr a b=pv at b9 b7 c0;by_cases h0:pv=0
 ·subst h0;go_quiet (fail)
  have k2:aA W1 (W1.drewN nq):=(aA.refl W1).drewN nq;generalize W1.drewN nq=W2 at k2 |-
  have D2:=hid (D1.out.keep k2);have K2:=hid (K1.out.trans k2);have a5:W2.cell? ⟨x.b,6,none⟩=some (.map (some x.g2)):=(k2.cell (p:=⟨x.b,6,none⟩) b0).trans a5;have a3:W2.cell? ⟨w.heap.size,0,none⟩=some (.int .i64 a):=(k2.cell (p:=⟨w.heap.size,0,none⟩) a2).trans a3;have a4:W2.cell? ⟨w.heap.size,1,none⟩=some (.int .i64 b):=(k2.cell (p:=⟨w.heap.size,1,none⟩) a2).trans a4;have a6:x.b<W2.heap.size:=D2.out.box.facts.2.2;have a0:w.heap.size<W2.heap.size:=R8 a2 k2.size;have b5:=hid (show ¬x.own w.heap.size from fun ho=>by have:=(HD.out.lt ho).2;omega);clear b9 k2 D1 B1 b0 a2;have HS:=hid (show W2.cell? ⟨x.b,6,none⟩=some (.map (some x.g2))/\W2.cell? ⟨w.heap.size,0,none⟩=some (.int .i64 a)/\W2.cell? ⟨w.heap.size,1,none⟩=some (.int .i64 b) from⟨a5,a3,a4⟩);have c1:=hid (show W2.drew.cell? ⟨x.b,6,none⟩=some (.map (some x.g2))/\W2.drew.cell? ⟨w.heap.size,0,none⟩=some (.int .i64 a)/\W2.drew.cell? ⟨w.heap.size,1,none⟩=some (.int .i64 b) from⟨a5,a3,a4⟩);have HV:=hid (aOr s a b);have b8:=hid (aOs s a b);go_upto_region 3 with fail;go_region_held3 (fun W'=>W'.cell? ⟨x.b,6,none⟩=some (.map (some x.g2))/\W'.cell? ⟨w.heap.size,0,none⟩=some (.int .i64 a)/\W'.cell? ⟨w.heap.size,1,none⟩=some (.int .i64 b))
   (first | with_reducible exact HS.out | with_reducible exact c1.out | with_reducible exact a9.out | with_reducible exact a8.out | go_keep)
   (first | (go_at_call 64;refine (aJe x L s (fun c=>c=W2.drew.heap.size) [a,b] _ 2 2 (W2.drew.alloc (.cells #[.int .i64 a,.int .i64 b] 3)) rfl (D2.out.keep ((aA.drew (aA.refl _)).alloc' _)) (fun c hc=>by rw[hc,aC];omega) (oJ _ _ _) (by simp) hc hn (fun y hy=>by simp at hy;rcases hy with rfl | rfl<;>assumption)).mono ?_;rintro e w4 ⟨rfl,v4,c4,d4,t4⟩;have D4:=hid d4;have T4:=hid ((aG.keep ((aA.drew (aA.refl W2)).alloc' _)).trans t4);have a9:=hid (show w4.cell? ⟨x.b,6,none⟩=some (.map (some x.g2))/\w4.cell? ⟨w.heap.size,0,none⟩=some (.int .i64 a)/\w4.cell? ⟨w.heap.size,1,none⟩=some (.int .i64 b) from⟨d4.cell 6,(T4.out.cell ⟨w.heap.size,0,none⟩ a0 b5.out).trans HS.out.2.1,(T4.out.cell ⟨w.heap.size,1,none⟩ a0 b5.out).trans HS.out.2.2⟩);obtain⟨w5,a1,c2,b2⟩:=d4.pr.put b4 b6 b3 (v:=s.allL [a,b]) (by rw[HV.out];unfold SmP;omega) (by have h1:=d4.np;rw[b8.out.1] at h1;have:(x.to v4 x.np c4).np=x.np:=rfl;omega);have a8:=hid (show w5.cell? ⟨x.b,6,none⟩=some (.map (some x.g2))/\w5.cell? ⟨w.heap.size,0,none⟩=some (.int .i64 a)/\w5.cell? ⟨w.heap.size,1,none⟩=some (.int .i64 b) from⟨(jV b2 (b:=x.b) (o:=6) d4.box.facts.2.2 d4.low.2.2).trans a9.out.1,(jV b2 (b:=w.heap.size) (o:=0) (R8 a0 T4.out.size) (fun e=>b5.out (.inr (.inr (.inl e))))).trans a9.out.2.1,(jV b2 (b:=w.heap.size) (o:=1) (R8 a0 T4.out.size) (fun e=>b5.out (.inr (.inr (.inl e))))).trans a9.out.2.2⟩);have P5:=hid (d4.put c2 (by have:=HD.out.np;rw[b8.out.1];show x.np+1<=_;omega) b2);have a7:(Instr.mapUpdate 74 (.map (some x.g2)) (.agg #[.int .i64 a,.int .i64 b]) (.int .i64 (s.allL [a,b]))).run Tryz.prog w4=.ok () w5:=a1;clear d4 t4 c2 b2 a1))
  have D5:Hid (DM (x.to v4 (x.np+1) c4) L ⟨(s.allS [a,b]).n,(s.allS [a,b]).cl,gD s.pr a b (s.allL [a,b])⟩ w5):=by
   have:=P5.out.1;rw[b8.out.2.1] at this;exact this
  have T5:=hid ((aG.keep K2.out).trans (T4.out.trans P5.out.2));have a5:w5.cell? ⟨x.b,6,none⟩=some (.map (some x.g2)):=a8.out.1;have a3:w5.cell? ⟨w.heap.size,0,none⟩=some (.int .i64 a):=a8.out.2.1;have a4:w5.cell? ⟨w.heap.size,1,none⟩=some (.int .i64 b):=a8.out.2.2;have c6:x.b<w5.heap.size:=D5.out.box.facts.2.2;have c5:w.heap.size<w5.heap.size:=R8 a0 (T4.out.trans P5.out.2).size;have c3:∀n,(Instr.lookup 74 (.map (some x.g2)) (.agg #[.int .i64 a,.int .i64 b]) false).run Tryz.prog (w5.drewN n)=.ok (.int .i64 (s.allL [a,b])) (w5.drewN n):=fun n=>by
   have:=(D5.out.keep ((aA.refl w5).drewN n)).pr.look b4 b6 b3;have e:gD s.pr a b (s.allL [a,b]) a b=s.allL [a,b]:=by simp[gD]
   rw[<-e];exact this
  clear a7 P5 a8 a9 HS c1 D4 T4 D2 a6 a0;go_wp2_with fail;go_quiet (fail)
  have k6:aA w5 (w5.drewN nq):=(aA.refl w5).drewN nq;generalize w5.drewN nq=W6 at k6 |-
  have D6:=hid (D5.out.keep k6);have T6:=hid (T5.out.trans (aG.keep k6));clear k6;go_wp2_with fail;go_ret;refine⟨by rw[c0.out];rfl,v4,x.np+1,c4,?_,T6.out⟩;rw[b7.out];exact D6.out
 ·have c9:(pv==0)=false:=by simpa using h0
  go_quiet (fail)
  have k2:aA W1 (W1.drewN nq):=(aA.refl W1).drewN nq;generalize W1.drewN nq=W2 at k2 |-
  have K2:=hid (K1.out.trans k2);have a5:W2.cell? ⟨x.b,6,none⟩=some (.map (some x.g2)):=(k2.cell (p:=⟨x.b,6,none⟩) b0).trans a5;have a3:W2.cell? ⟨w.heap.size,0,none⟩=some (.int .i64 a):=(k2.cell (p:=⟨w.heap.size,0,none⟩) a2).trans a3;have a4:W2.cell? ⟨w.heap.size,1,none⟩=some (.int .i64 b):=(k2.cell (p:=⟨w.heap.size,1,none⟩) a2).trans a4;have a6:x.b<W2.heap.size:=R8 b0 k2.size;have a0:w.heap.size<W2.heap.size:=R8 a2 k2.size;have c8:∀n,(Instr.lookup 74 (.map (some x.g2)) (.agg #[.int .i64 a,.int .i64 b]) false).run Tryz.prog (W2.drewN n)=.ok (.int .i64 pv) (W2.drewN n):=fun n=>by rw[<-c7];exact (D1.out.keep (k2.trans ((aA.refl W2).drewN n))).pr.look b4 b6 b3
  clear b9 k2 b0 a2;go_wp2_with fail;go_quiet (fail)
  have k3:aA W2 (W2.drewN nq):=(aA.refl W2).drewN nq;generalize W2.drewN nq=W3 at k3 |-
  have K3:=hid (K2.out.trans k3);clear k3;go_wp2_with fail;go_ret;refine⟨by rw[c0.out,if_neg h0];rfl,x.cv,x.np,x.cs,?_,aG.keep K3.out⟩;rw[b7.out,if_neg h0];exact HD.out.keep K3.out
end
section
def Bd(s:DS)(m c:Nat):Prop:=s.n<=m/\s.cl.length<=c/\∀a b,(s.pr a b).natAbs<=m
theorem Bd.mono{s:DS}{m c m' c':Nat}(h:Bd s m c)(hm:m<=m')(hc:c<=c'):Bd s m' c':=⟨U2 h.1 hm,U2 h.2.1 hc,fun a b=>U2 (h.2.2 a b) hm⟩
theorem Bd.clause{s:DS}{m c:Nat}(h:Bd s m c)(l:List Int):Bd (s.clause l) m (c+1):=⟨h.1,by have:=h.2.1;show (s.cl++[l]).length<=_;simp;omega,h.2.2⟩
theorem Bd.some{s:DS}{m c k:Nat}(h:Bd s m c){l:List Int}(hl:l.length<=k):Bd (s.someS l) (m+1) (c+k+1):=by
 obtain⟨h1,h2,h3⟩:=h;unfold DS.someS;split
 ·exact⟨by omega,by omega,fun a b=>U2 (h3 a b) (by omega)⟩
 ·exact⟨by show s.n+1<=_;omega,by simp;omega,fun a b=>U2 (h3 a b) (by omega)⟩
theorem Bd.someL{s:DS}{m c:Nat}(h:Bd s m c){l:List Int}(hl:∀y∈l,y.natAbs<=m+1):(s.someL l).natAbs<=m+1:=by
 have:=h.1;unfold DS.someL;split
 ·rename_i h1;obtain⟨y,rfl⟩:=List.length_eq_one_iff.1 h1;exact hl y Y9
 ·omega
theorem Bd.all{s:DS}{m c k:Nat}(h:Bd s m c){l:List Int}(hl:l.length<=k):Bd (s.allS l) (m+1) (c+k+1):=h.some (by simpa using hl)
theorem Bd.allL{s:DS}{m c:Nat}(h:Bd s m c){l:List Int}(hl:∀y∈l,y.natAbs<=m+1):(s.allL l).natAbs<=m+1:=by
 unfold DS.allL;rw[Int.natAbs_neg];exact h.someL fun y hy=>by obtain⟨z,hz,rfl⟩:=Q4.1 hy;rw[Int.natAbs_neg];exact hl z hz
theorem Bd.both{s:DS}{m c:Nat}(h:Bd s m c)(a b:Int):Bd (s.bothS a b) (m+1) (c+3)/\(s.bothL a b).natAbs<=m+1:=by
 unfold DS.bothS DS.bothL;by_cases h0:s.pr a b=0
 ·rw[if_pos h0,if_pos h0];have e:s.allL [a,b] = -((s.n:Int)+1):=by simp[DS.allL,DS.someL]
  have e2:(s.allS [a,b]).n=s.n+1/\(s.allS [a,b]).cl.length=s.cl.length+3:=by simp[DS.allS,DS.someS]
  have h1:=h.1;have h2:=h.2.1;refine⟨⟨by show (s.allS [a,b]).n<=_;omega,by show (s.allS [a,b]).cl.length<=_;omega,fun p q=>?_⟩,by rw[e];omega⟩;show (gD s.pr a b (s.allL [a,b]) p q).natAbs<=_;unfold gD;split
  ·rw[e];omega
  ·exact U2 (h.2.2 p q) (by omega)
 ·rw[if_neg h0,if_neg h0];exact⟨h.mono (by omega) (by omega),U2 (h.2.2 a b) (by omega)⟩
theorem aGi{but:Int}{nof:Bool}{tk fg:Int->Int}:∀(zs:List Int) (s:DS) (acc:List Int) (m c:Nat),Bd s m c->(∀z∈zs,(tk z).natAbs<=m)->(∀y∈acc,y.natAbs<=m)->
  Bd (zs.foldl (iJ but nof tk fg) (s,acc)).1 (m+zs.length) (c+3*zs.length)/\(∀y∈(zs.foldl (iJ but nof tk fg) (s,acc)).2,y.natAbs<=m+zs.length)/\(zs.foldl (iJ but nof tk fg) (s,acc)).2.length<=acc.length+zs.length
 | [],s,acc,m,c,h,_,ha=>⟨h,ha,by simp⟩
 | z :: zs,s,acc,m,c,h,ht,ha=>by
  rw[List.foldl_cons,Z0];have hz:=ht z Y9;have a1:∀y∈zs,(tk y).natAbs<=m+1:=fun y hy=>U2 (ht y (Z3 _ hy)) (by omega);have key:∀(s':DS) (acc':List Int),Bd s' (m+1) (c+3)->(∀y∈acc',y.natAbs<=m+1)->acc'.length<=acc.length+1->Bd (zs.foldl (iJ but nof tk fg) (s',acc')).1 (m+(zs.length+1)) (c+3*(zs.length+1))/\(∀y∈(zs.foldl (iJ but nof tk fg) (s',acc')).2,y.natAbs<=m+(zs.length+1))/\(zs.foldl (iJ but nof tk fg) (s',acc')).2.length<=acc.length+(zs.length+1):=fun s' acc' h1 h2 h3=>by
   obtain⟨i1,i2,i3⟩:=aGi zs s' acc' (m+1) (c+3) h1 a1 h2;exact⟨i1.mono (by omega) (by omega),fun y hy=>U2 (i2 y hy) (by omega),by omega⟩
  have a0:∀y∈acc,y.natAbs<=m+1:=fun y hy=>U2 (ha y hy) (by omega);by_cases e:z=but
  ·have eF:iJ but nof tk fg (s,acc) z=(s,acc):=by simp[iJ,e]
   rw[eF];exact key s acc (h.mono (by omega) (by omega)) a0 (by omega)
  ·by_cases en:nof=true
   ·have eF:iJ but nof tk fg (s,acc) z=(s,acc++[tk z]):=by simp[iJ,e,en]
    rw[eF];refine key s (acc++[tk z]) (h.mono (by omega) (by omega)) (fun y hy=>?_) (by simp);rcases U0.1 hy with hy | hy
    ·exact a0 y hy
    ·rw[T0.1 hy];omega
   ·have eF:iJ but nof tk fg (s,acc) z=(s.bothS (tk z) (fg z),acc++[s.bothL (tk z) (fg z)]):=by simp[iJ,e,en]
    rw[eF];obtain⟨b1,b2⟩:=h.both (tk z) (fg z);refine key _ _ b1 (fun y hy=>?_) (by simp);rcases U0.1 hy with hy | hy
    ·exact a0 y hy
    ·rw[T0.1 hy];exact b2
end
section
open Go.RowKit Go.Lib
theorem XF.other{x:XD}{B:Nat}{K:List Int}{F:List (List Int)}{w w':World}(h:XF x B K F w)(hs:w.heap.size<=w'.heap.size)(hb:∀b,x.all b->w'.heap[b]? = w.heap[b]?):XF x B K F w':=by
 refine⟨h.xm.other hs fun b hb'=>hb b (.inl hb'),?_,h.xi,h.cl⟩;have:=h.kb;unfold aF at *;rw[hb _ (.inr rfl)];exact this
structure SD where
 x:XD
 sb:Nat
 s:Nat
 mv:Value
 pv:Value
 P:List (List Int)
def SD.own(d:SD)(b:Nat):Prop:=d.x.all b\/b=d.sb\/d.pv.ownBlock=some b
def SD.box(d:SD):Array Value:=#[.int .i64 d.x.n,.pointer (some ⟨d.x.bx,0,none⟩),.int .i64 d.s,d.mv,d.pv]
def SD.far(d:SD)(N:Nat)(w:World)(b:Nat):Prop:=N<=b/\b<w.heap.size/\¬d.own b
structure SrM (d:SD) (B N:Nat) (K:List Int) (F:List (List Int)) (w:World):Prop where
 box:aF d.sb 88 d.box w
 xf:XF d.x B K F w
 sx:¬d.x.all d.sb
 pr:pS N (d.far N w) d.pv d.P w
 px:∀g,d.pv.ownBlock=some g->¬d.x.all g/\g≠d.sb
 nw:N<=w.heap.size
theorem SrM.lt{d:SD}{B N:Nat}{K:List Int}{F:List (List Int)}{w:World}(h:SrM d B N K F w){b:Nat}(hb:d.own b):b<w.heap.size:=by
 rcases hb with hb | rfl | hb
 ·exact h.xf.lt hb
 ·exact h.box.facts.2.2
 ·exact (h.pr.in hb).2
theorem SrM.keep{d:SD}{B N:Nat}{K:List Int}{F:List (List Int)}{w w':World}(h:SrM d B N K F w)(k:aA w w'):SrM d B N K F w':=
 ⟨h.box.keep k h.box.facts.2.2,h.xf.keep k,h.sx,h.pr.mono (fun g hg=>k.block g (h.pr.in hg).2) (fun b hb=>⟨k.block b hb.2.1,hb.1,R8 hb.2.1 k.size,hb.2.2⟩),h.px,U2 h.nw k.size⟩
theorem SrM.from{d:SD}{B N:Nat}{K K':List Int}{F F':List (List Int)}{w w':World}{x':XD}(h:SrM d B N K F w)(hx:XF x' B K' F' w')(ht:aG d.x.all x'.all w w')(hn:x'.n=d.x.n)(hb:x'.bx=d.x.bx):SrM { d with x:=x' } B N K' F' w'/\aG d.own ({ d with x:=x' }:SD).own w w':=by
 have a1:=h.box.facts.2.2;have a0:∀b,b<w.heap.size->¬d.x.all b->¬x'.all b:=fun b hb hn e=>(ht.new b e).elim hn fun e=>by omega
 refine⟨⟨?_,hx,a0 _ a1 h.sx,?_,fun g hg=>⟨a0 g (h.pr.in hg).2 (h.px g hg).1,(h.px g hg).2⟩,U2 h.nw ht.size⟩,?_⟩
 ·have:=h.box.turn ht h.sx;show aF d.sb _ #[.int .i64 x'.n,.pointer (some ⟨x'.bx,0,none⟩),.int .i64 d.s,d.mv,d.pv] w';rw[hn,hb];exact this
 ·exact h.pr.mono (fun g hg=>ht.block g (h.pr.in hg).2 (h.px g hg).1) fun b hb=>⟨ht.block b hb.2.1 fun e=>hb.2.2 (.inl e),hb.1,R8 hb.2.1 ht.size,fun e=>by
   rcases e with e | e | e
   ·exact a0 b hb.2.1 (fun e=>hb.2.2 (.inl e)) e
   ·exact hb.2.2 (.inr (.inl e))
   ·exact hb.2.2 (.inr (.inr e))⟩
 ·refine⟨ht.os,ht.tape,ht.output,ht.size,fun b hb hn=>ht.block b hb fun e=>hn (.inl e),fun b hb=>?_⟩;rcases hb with hb | hb | hb
  ·exact (ht.new b hb).imp .inl id
  ·exact .inl (.inr (.inl hb))
  ·exact .inl (.inr (.inr hb))
theorem SrM.put{d d':SD}{B N:Nat}{K:List Int}{F:List (List Int)}{w:World}(h:SrM d B N K F w)(o:Nat)(v:Value)(e:d.box.setIfInBounds o v=d'.box)(hx:d'.x=d.x)(hs:d'.sb=d.sb)(hp:d'.pv=d.pv)(hP:d'.P=d.P):SrM d' B N K F (w.setCell ⟨d.sb,o,none⟩ v)/\aG d.own d'.own w (w.setCell ⟨d.sb,o,none⟩ v):=by
 have a2:∀b,b≠d.sb->(w.setCell ⟨d.sb,o,none⟩ v).heap[b]? = w.heap[b]? :=fun b hb=>Below.heap_setCell _ _ _ _ (fun e=>hb e);have a1:(w.setCell ⟨d.sb,o,none⟩ v).heap.size=w.heap.size:=by simp
 have a0:d'.own=d.own:=by unfold SD.own;rw[hx,hs,hp]
 refine⟨⟨by rw[hs,<-e];exact h.box.set o v,by rw[hx];exact h.xf.other (by rw[a1];exact Y1 _) fun b hb=>a2 b fun e=>h.sx (e ▸ hb),by rw[hx,hs];exact h.sx,?_,by rw[hx,hs,hp];exact h.px,by rw[a1];exact h.nw⟩,by rw[a0];exact aG.set _ _ _ _ _ (.inr (.inl rfl))⟩;rw[hp,hP];exact h.pr.mono (fun g hg=>a2 g (h.px g hg).2) fun b hb=>⟨a2 b fun e=>hb.2.2 (.inr (.inl e)),hb.1,by rw[a1];exact hb.2.1,by rw[a0];exact hb.2.2⟩
theorem SrM.push{d:SD}{B N:Nat}{K:List Int}{F:List (List Int)}{w w5:World}(h:SrM d B N K F w){vs:List Value}{u v':Value}{c:List Int}(hvl:vs.length=d.P.length)(hvn:∀(i:Nat) c x,d.P[i]? = some c->vs[i]? = some x->aI (d.far N w) w c x)
  (hu:aI (d.far N w) w c u) (hg:w.grownBy w5 d.pv.ownBlock) (ho:v'.ownBlock=d.pv.ownBlock\/∃g,v'.ownBlock=some g/\w.heap.size<=g) (h5:w5.ownsRow N 128 1 v' (d.P.length+1) (vs++[u])):
  SrM { d with pv:=v',P:=d.P++[c] } B N K F (w5.setCell ⟨d.sb,4,none⟩ v')/\aG d.own ({ d with pv:=v',P:=d.P++[c] }:SD).own w (w5.setCell ⟨d.sb,4,none⟩ v'):=by
 have a7:=h.box.facts.2.2;have hb:∀b,b<w.heap.size->d.pv.ownBlock≠some b->w5.heap[b]? = w.heap[b]? :=fun b hb hn=>hg.block b hb fun e=>hn e.symm;have a4:∀b,b≠d.sb->(w5.setCell ⟨d.sb,4,none⟩ v').heap[b]? = w5.heap[b]? :=fun b hb=>Below.heap_setCell _ _ _ _ (fun e=>hb e);have a3:(w5.setCell ⟨d.sb,4,none⟩ v').heap.size=w5.heap.size:=by simp
 have a2:∀b,({ d with pv:=v',P:=d.P++[c] }:SD).own b->d.own b\/w.heap.size<=b:=fun b e=>by
  rcases e with e | e | e
  ·exact .inl (.inl e)
  ·exact .inl (.inr (.inl e))
  ·rcases ho with ho | ⟨g,ho,hge⟩
   ·exact .inl (.inr (.inr (ho ▸ e)))
   ·have e2:v'.ownBlock=some b:=e;rw[ho] at e2;have:=U6 e2;exact .inr (by omega)
 have a1:∀b,d.far N w b->(w5.setCell ⟨d.sb,4,none⟩ v').heap[b]? = w.heap[b]? /\({ d with pv:=v',P:=d.P++[c] }:SD).far N (w5.setCell ⟨d.sb,4,none⟩ v') b:=fun b hf=>by
  refine⟨?_,hf.1,?_,fun e=>?_⟩
  ·rw[a4 b fun e=>hf.2.2 (.inr (.inl e)),hb b hf.2.1 fun e=>hf.2.2 (.inr (.inr e))]
  ·rw[a3];exact R8 hf.2.1 hg.size
  ·rcases a2 b e with e | e
   ·exact hf.2.2 e
   ·have:=hf.2.1;omega
 have a5:∀g,v'.ownBlock=some g->¬d.x.all g/\g≠d.sb:=fun g hgv=>by
  rcases ho with ho | ⟨g',ho,hge⟩
  ·exact h.px g (ho ▸ hgv)
  ·rw[ho] at hgv;have e:=U6 hgv;exact⟨fun e2=>by have:=h.xf.lt e2;omega,by omega⟩
 have a6:∀c x,aI (d.far N w) w c x->aI (({ d with pv:=v',P:=d.P++[c] }:SD).far N (w5.setCell ⟨d.sb,4,none⟩ v')) (w5.setCell ⟨d.sb,4,none⟩ v') c x:=fun c x hx=>hx.mono (fun p hp=>X0 (w:=w) (a1 _ hp).1) fun b hb=>(a1 b hb).2;refine⟨⟨?_,?_,h.sx,?_,a5,by rw[a3];exact U2 h.nw hg.size⟩,?_⟩
 ·have h6:aF d.sb 88 d.box w5:=by
   have:=h.box;unfold aF at *;rw[hb _ a7 fun e=>(h.px _ e).2 rfl];exact this
  exact h6.set 4 v'
 ·refine h.xf.other (by rw[a3];exact hg.size) fun b hb'=>?_;rw[a4 b fun e=>h.sx (e ▸ hb'),hb b (h.xf.lt hb') fun e=>(h.px b e).1 hb']
 ·refine⟨vs++[u],by simp[hvl],?_,fun i c' x hc' hx=>?_⟩
  ·have h6:=cM (w':=w5.setCell ⟨d.sb,4,none⟩ v') h5 fun g hgv=>a4 g (a5 g hgv).2;simpa using h6
  ·have a0:(d.P++[c])[i]? = some c':=hc';by_cases hi:i<d.P.length
   ·rw[Y0 hi] at a0;rw[Y0 (by omega)] at hx;exact a6 _ _ (hvn i c' x a0 hx)
   ·have a8:i=d.P.length:=by
     have:=(R9.1 a0).1;simp at this;omega
    subst a8;rw[Y2 (Y1 _),Nat.sub_self] at a0;rw[<-hvl,Y2 (Y1 _),Nat.sub_self] at hx;cases a0;cases hx
    exact a6 _ _ hu
 ·refine⟨hg.os,hg.tape,hg.output,by rw[a3];exact hg.size,fun b hbl hn=>?_,a2⟩;rw[a4 b fun e=>hn (.inr (.inl e)),hb b hbl fun e=>hn (.inr (.inr e))]
theorem oB(S:Nat->Prop)(A:List Int)(av:Value)(w:World)(hS:∀b,S b->b<w.heap.size)(ha:aI S w A av)(hA:aO 1000 A)(hl:A.length<=60):
  Calls Tryz.prog 73 #[av] w fun e w'=> ∃v,e=.returned v/\aI (fun b=>w.heap.size<=b/\b<w'.heap.size) w' (bT A) v/\aA w w':=by
 obtain⟨i0,hi,a5,a1,a6⟩:=info_parts dM;have HA:=hid ha;have HL:=hid hA;obtain⟨ap,ac,rfl,a8⟩:=ha.shape;clear ha hA;go_enter Tryz.func73,Tryz.ntmps73;go_wp2_with (at_make;refine wpList_make_full _ rfl _ _ 128 rfl w.heap.size 3 i0 (.int .i64 0) 1 Tryz.underlying128 hi a5 a1 .i64 .i64 (A.length:Int) (A.length:Int) A.length rfl rfl rfl rfl (by rw[a6];omega) (by unfold maxLen;omega) (Y1 _) ?_;intro w1 h1 h2;have K1:=hid (oT h2);have F1:=hid (eM.start (f:=fun x=> .int .i64 (-x)) (A:=A) (gL (v:= .int .i64 0) rfl h1));clear h1 h2)
 go_loopg [11] A.length (fun gk iv wr=> ∃j:Nat,j+gk=A.length/\iv=.int .i64 j/\aA w wr/\eM (fun x=> .int .i64 (-x)) A j w.heap.size 3 wr);case atStart=>exact⟨0,by omega,rfl,K1.out,F1.out⟩
 case round=>
  obtain⟨j,hj,rfl,hk,hf⟩:=hrel;have K2:=hid hk;have F2:=hid hf;clear hk hf;by_cases hlt:j<A.length
  ·obtain⟨cb,co,rfl,a4,a0⟩:=(HA.out.keep hS K2.out).nth hlt;have a7:=a0 j _ (Q9 hlt);have hx:=HL.out A[j] (U5 hlt);have HX:=hid (Q9 hlt);have b3:=R8 (hS cb a4) K2.out.size;obtain⟨⟨v0,b0⟩,b2,a3⟩:=F2.out.cell hlt;generalize A[j]=z at a7 hx HX;have a9 : -1000<=z:=by have:=hx.2;omega
   have a2:z<=1000:=by have:=hx.2;omega
   have b1:(j:Int)<(A.length:Int):=by omega
   clear a0 hx;have F3:=hid (F2.out.next HX.out);have K3:=hid (show aA w (wr.setCell ⟨w.heap.size,j,none⟩ (.int .i64 (-z))) from Below.trans K2.out (aQ wr w.heap.size j _));go_wp2_with fail;go_roundg (A.length-(j+1));case rel=>exact⟨j+1,by omega,by go_num,K3.out,F3.out⟩
   case measure=>omega
  ·obtain rfl:j=A.length:=by omega
   go_wp2_with fail;go_ret;refine⟨.slice (some ⟨w.heap.size,0,none⟩) A.length A.length,rfl,⟨_,A.length,by unfold bT;rw[A0],by simp[bT];omega,fun _=>⟨w.heap.size,0,rfl,⟨Y1 _,F2.out.lt⟩,fun i x hx=>?_⟩⟩,K2.out⟩;rw[Z6];unfold bT at hx;rw[Z2] at hx;cases e:A[i]? with
   | none=>rw[e] at hx;cases hx
   | some y=>
    rw[e] at hx;cases hx;exact F2.out.all i y e
theorem aMs(S:Nat->Prop)(A:List Int)(av:Value)(w:World)(hS:∀b,S b->b<w.heap.size)(ha:aI S w A av)(hA:aO 1000 A)(hl:A.length<=1000):
  Calls Tryz.prog 70 #[av] w fun e w'=> ∃v,e=.returned v/\bC (fun b=>w.heap.size<=b/\b<w'.heap.size) w' (A.map fun x=>decide (0<x)) v/\aA w w':=by
 obtain⟨i0,hi,a5,a2,a6⟩:=info_parts aPx;have HA:=hid ha;have HL:=hid hA;obtain⟨ap,ac,rfl,a8⟩:=ha.shape;clear ha hA;go_enter Tryz.func70,Tryz.ntmps70;go_wp2_with (at_make;refine wpList_make_full _ rfl _ _ 50 rfl w.heap.size 4 i0 (.bool false) 1 Tryz.underlying50 hi a5 a2 .i64 .i64 (A.length:Int) (A.length:Int) A.length rfl rfl rfl rfl (by rw[a6];omega) (by unfold maxLen;omega) (Y1 _) ?_;intro w1 h1 h2;have K1:=hid (oT h2);have F1:=hid (eM.start (f:=fun x=> .bool (decide (0<x))) (A:=A) (gL (v:= .bool false) rfl h1));clear h1 h2)
 go_loopg [11] A.length (fun gk iv wr=> ∃j:Nat,j+gk=A.length/\iv=.int .i64 j/\aA w wr/\eM (fun x=> .bool (decide (0<x))) A j w.heap.size 4 wr);case atStart=>exact⟨0,by omega,rfl,K1.out,F1.out⟩
 case round=>
  obtain⟨j,hj,rfl,hk,hf⟩:=hrel;have K2:=hid hk;have F2:=hid hf;clear hk hf;by_cases hlt:j<A.length
  ·obtain⟨cb,co,rfl,a4,a0⟩:=(HA.out.keep hS K2.out).nth hlt;have a7:=a0 j _ (Q9 hlt);have hx:=HL.out A[j] (U5 hlt);have HX:=hid (Q9 hlt);have b3:=R8 (hS cb a4) K2.out.size;obtain⟨⟨v0,b0⟩,b2,a3⟩:=F2.out.cell hlt;generalize A[j]=z at a7 hx HX;have b1:(j:Int)<(A.length:Int):=by omega
   clear a0 hx;have F3:=hid (F2.out.next HX.out);have K3:=hid (show aA w (wr.setCell ⟨w.heap.size,j,none⟩ (.bool (decide (0<z)))) from Below.trans K2.out (aQ wr w.heap.size j _));generalize a1:decide (0<z)=bz at F3 K3;have a9:decide (z > 0)=bz:=a1;go_wp2_with fail;go_roundg (A.length-(j+1));case rel=>exact⟨j+1,by omega,by go_num,K3.out,F3.out⟩
   case measure=>omega
  ·obtain rfl:j=A.length:=by omega
   go_wp2_with fail;go_ret;refine⟨.slice (some ⟨w.heap.size,0,none⟩) A.length A.length,rfl,⟨_,A.length,by rw[A0],by simp;omega,fun _=>⟨w.heap.size,0,rfl,⟨Y1 _,F2.out.lt⟩,fun i x hx=>?_⟩⟩,K2.out⟩;rw[Z6];rw[Z2] at hx;cases e:A[i]? with
   | none=>rw[e] at hx;cases hx
   | some y=>
    rw[e] at hx;cases hx;exact F2.out.all i y e
theorem rD(S:Nat->Prop)(l:List Int)(lv:Value)(k:Nat)(w:World)(hS:∀b,S b->b<w.heap.size)(hv:aI S w l lv)(hL:aO 1000 l)(hl:l.length<=1000)(hk:1<=k/\k<=1000)(h1:∀(i:Nat) x,i<k-1->l[i]? = some x->x.natAbs=i+1)(h2:k-1<=l.length)(h3:∀x,l[k-1]? = some x->x.natAbs≠k):
  Calls Tryz.prog 72 #[lv] w fun e w'=>e=.returned (.int .i64 k)/\w'=w:=by
 have HA:=hid hv;have HL:=hid hL;have H1:=hid h1;have H3:=hid h3;obtain⟨ap,ac,rfl,a4⟩:=hv.shape;clear hv hL h1 h3;go_enter Tryz.func72,Tryz.ntmps72;go_wp2_with fail;go_loopg [2,7] l.length (fun gk rv iv wr=> ∃j:Nat,j+gk=l.length/\j<=k-1/\rv=.int .i64 0/\iv=.int .i64 j/\wr=w);case atStart=>exact⟨0,by omega,by omega,rfl,rfl,rfl⟩
 case round=>
  obtain⟨j,hj,b0,rfl,rfl,hw⟩:=hrel;subst hw;by_cases hlt:j<l.length
  ·obtain⟨cb,co,rfl,a1,a0⟩:=HA.out.nth hlt;have a3:=a0 j _ (Q9 hlt);have hx:=HL.out l[j] (U5 hlt);have HX:=hid (Q9 hlt);have a9:=hS cb a1;generalize l[j]=z at a3 hx HX;have a6:=hx.1;have a7:=hx.2;have a5:(j:Int)<(l.length:Int):=by omega
   have HG:=hid (show (j<k-1->z.natAbs=j+1)/\(j=k-1->z.natAbs≠k) from⟨fun h=>H1.out j z h HX.out,fun h=>H3.out z (h ▸ HX.out)⟩);clear a0 hx;by_cases hlk:j<k-1
   ·have a2:=HG.out.1 hlk;have hm:max z (-z)=(j:Int)+1:=by omega
    go_wp2_with fail;go_roundg (l.length-(j+1));case rel=>exact⟨j+1,by omega,by omega,rfl,by go_num,rfl⟩
    case measure=>omega
   ·obtain rfl:j=k-1:=by omega
    have a2:=HG.out.2 rfl;have hm:max z (-z)≠((k-1:Nat):Int)+1:=by omega
    go_wp2_with fail;go_ret;exact⟨aD (by omega),rfl⟩
  ·obtain rfl:j=l.length:=by omega
   have a8:(l.length:Int)+1=k:=by omega
   go_wp2_with fail;go_ret;exact⟨aD (by omega),rfl⟩
theorem lS{v v':Value}{w:World}(h:v'.ownBlock=v.ownBlock\/v'.ownBlock=some w.heap.size):v'.ownBlock=v.ownBlock\/∃g,v'.ownBlock=some g/\w.heap.size<=g:=h.imp id fun h=>⟨_,h,Y1 _⟩
theorem pB{b:Nat}{T:TypeId}{v:Value}{w:World}(h:aE b T v w):∀j u,[v][j]? = some u->w.cell? ((⟨b,0,none⟩:Addr).add j)=some u:=by
 intro j u hu;cases j with
 | zero=>
  have:v=u:=by simpa using hu
  subst this;have a0:(⟨b,0,none⟩:Addr).add 0=⟨b,0,none⟩:=by unfold Addr.add;split<;>simp_all
  rw[a0];exact h.facts.1
 | succ j=>simp at hu
theorem mA{P:Program}{md:Region.Mode}{ops:Array Oper}{Q:Exit->Act->World->Prop}{S:World->Prop}{fuel:Nat}{listed:Array Bool}{a:Act}{W:World}(R:World->Prop)(hR:R W)(h:∀W',R W'->wpAnyH P md ops Q S fuel listed a W'):wpAnyH P md ops Q S fuel listed a W:=h W hR
noncomputable def both(n:Nat)(F:List (List Int))(g:Nat)(A:List Int)(k s:Nat)(P:List (List Int)):aOn:=
 match cF n F g (A++[-(k:Int)]) s P with
 | ⟨.closed,s1,P1⟩=>cF n F g (A++[(k:Int)]) s1 P1
 | r=>r
theorem mB{n:Nat}{F:List (List Int)}{g:Nat}{A:List Int}{k s:Nat}{P:List (List Int)}(h:(cF n F g (A++[-(k:Int)]) s P).o ≠ .closed):both n F g A k s P=cF n F g (A++[-(k:Int)]) s P:=by
 unfold both;generalize cF n F g (A++[-(k:Int)]) s P=r at h |-
 obtain⟨o,s1,P1⟩:=r;cases o<;>first | rfl | exact absurd rfl h
theorem kN{n:Nat}{F:List (List Int)}{g:Nat}{A:List Int}{k s s1:Nat}{P P1:List (List Int)}(h:cF n F g (A++[-(k:Int)]) s P=⟨.closed,s1,P1⟩):both n F g A k s P=cF n F g (A++[(k:Int)]) s1 P1:=by
 unfold both;rw[h]
theorem aBr{n:Nat}{F:List (List Int)}{g:Nat}{A:List Int}{s:Nat}{P:List (List Int)}{k:Nat}(hs:s≠0)(h:¬bO F A)(hl:jC n F A=some k):
  ((both n F g A k (s-1) P).o ≠ .closed->cF n F (g+1) A s P=both n F g A k (s-1) P)/\((both n F g A k (s-1) P).o=.closed->cF n F (g+1) A s P=⟨.closed,(both n F g A k (s-1) P).s,(both n F g A k (s-1) P).P++[bT A]⟩):=by
 cases e1:cF n F g (A++[-(k:Int)]) (s-1) P with
 | mk o1 s1 P1=>
  cases o1 with
  | out=>rw[mB (by rw[e1];simp)];exact⟨fun hc=>eR hs h hl hc,fun hc=>by rw[e1] at hc;cases hc⟩
  | model m=>rw[mB (by rw[e1];simp)];exact⟨fun hc=>eR hs h hl hc,fun hc=>by rw[e1] at hc;cases hc⟩
  | closed=>
   rw[kN e1];refine⟨fun hc=>eK hs h hl e1 hc,fun hc=>?_⟩;cases e2:cF n F g (A++[(k:Int)]) s1 P1 with
   | mk o2 s2 P2=>
    rw[e2] at hc;cases hc;exact pG hs h hl e1 e2
def aCk(d:SD)(B N:Nat)(K:List Int)(F:List (List Int))(r:aOn)(w:World)(e:Ending)(w':World):Prop:=
 ∃d':SD,d'.sb=d.sb/\d'.x.n=d.x.n/\d'.x.bx=d.x.bx/\aG d.own d'.own w w'/\
  ((r.o=.out/\e=.returned (.tuple #[.bool false,.int .i64 8]))\/(∃m,r.o=.model m/\e=.returned (.tuple #[.bool false,.int .i64 0])/\SrM d' B N K F w'/\bC (fun b=>N<=b/\b<w'.heap.size) w' m d'.mv)\/(r.o=.closed/\e=.returned (.tuple #[.bool true,.int .i64 0])/\SrM d' B N K F w'/\d'.s=r.s/\d'.P=r.P))
def uH(F:List (List Int))(n g:Nat):Prop:=∀(d:SD) (B N:Nat) (K:List Int) (S:Nat->Prop) (A:List Int) (av:Value) (w:World),SrM d B N K F w->d.x.n=n->A.length+g=61->aI S w A av->(∀b,S b->b<w.heap.size/\¬d.own b)->aO n A->d.P.length+d.s<=40000->
 Calls Tryz.prog 34 #[.pointer (some ⟨d.sb,0,none⟩),av] w fun e w'=>aCk d B N K F (cF n F g A d.s d.P) w e w'
theorem aNl(F:List (List Int))(n g:Nat)(hst:uH F n g)(d:SD)(B N:Nat)(K:List Int)(S:Nat->Prop)(A:List Int)(av:Value)(k:Nat)(w:World)(h:SrM d B N K F w)(hxn:d.x.n=n)(hg:A.length+1+g=61)(ha:aI S w A av)(hS:∀b,S b->b<w.heap.size/\¬d.own b)(hA:aO n A)(hk:1<=k/\k<=n)(hn:n<=400)(hP:d.P.length+d.s<=40000):
  Calls Tryz.prog 71 #[.pointer (some ⟨d.sb,0,none⟩),av,.int .i64 (k:Int)] w fun e w'=>aCk d B N K F (both n F g A k d.s d.P) w e w':=by
 obtain⟨i0,hi,c9,c8,d2⟩:=info_parts dM;have e3:∀w:World,(Instr.index 99 (.agg #[.int .i64 (-1),.int .i64 1]) (.int .i64 0)).run Tryz.prog w=.ok (.int .i64 (-1)) w:=fun _=>by kernel_rfl
 have e6:∀w:World,(Instr.index 99 (.agg #[.int .i64 (-1),.int .i64 1]) (.int .i64 1)).run Tryz.prog w=.ok (.int .i64 1) w:=fun _=>by kernel_rfl
 have d4:=hid hst;have HX:=hid h;have HA:=hid ha;have c4:=hid hA;have b8:=hid hS;have d7:=hid hP;have d5:=hid hxn;have e5:=hk.1;have e4:=hk.2;have b4:Lit n (k:Int):=⟨by omega,by omega⟩;have a6:=hid b4;obtain⟨ap,ac,rfl,d8⟩:=ha.shape;clear hst h ha hA hS hP hxn hk b4;go_enter Tryz.func71,Tryz.ntmps71;go_wp2_with fail;go_loopg [11] 2 (fun gk iv wr=> ∃(i:Nat) (d1:SD),i+gk=2/\iv=.int .i64 (i:Int)/\SrM d1 B N K F wr/\aG d.own d1.own w wr/\(d1.sb=d.sb/\d1.x.n=d.x.n/\d1.x.bx=d.x.bx)/\((i=0/\d1=d)\/(i=1/\cF n F g (A++[-(k:Int)]) d.s d.P=⟨.closed,d1.s,d1.P⟩)\/(i=2/\both n F g A k d.s d.P=⟨.closed,d1.s,d1.P⟩)));case atStart=>exact⟨0,d,rfl,rfl,HX.out,aG.refl _ _,⟨rfl,rfl,rfl⟩,.inl ⟨rfl,rfl⟩⟩
 case round=>
  obtain⟨i,d1,c3,rfl,d0,d9,a9,b3⟩:=hrel;have X1:=hid d0;have T1:=hid d9;have a5:=hid a9;have c7:d1.sb=d.sb:=a9.1;have b9:=hid c7;clear d0 d9 a9 c7;have N1:=hid (HA.out.turn T1.out b8.out);have e0:=hid (show ∀b,S b->b<wr.heap.size/\¬d1.own b from fun b hb=>⟨R8 (b8.out b hb).1 T1.out.size,fun e=>(T1.out.new b e).elim (b8.out b hb).2 fun e=>by have:=(b8.out b hb).1;omega⟩);have b6:=hid (mD S A ap ac wr (fun b hb=>(e0.out b hb).1) N1.out (by omega));rcases b3 with ⟨rfl,hd⟩ | ⟨rfl,hs1⟩ | ⟨rfl,hb⟩
  ·have b0:=hid hd;clear hd;have d3:gk=2:=by omega
   clear c3;go_wp2_with fail;refine b6.out.mono ?_;rintro e w2 ⟨v2,rfl,a2,k2⟩;obtain⟨p2,c2,c5⟩:=a2.ints.len;subst c5;have a4:=hid a2;have K2:=hid k2;clear a2 k2 b6;have e2:=K2.out.size;go_wp2_with (at_builtin;refine wpList_append_own_at _ rfl _ _ 27 rfl wr.heap.size 3 i0 (.int .i64 0) 1 8 Tryz.underlying27 hi c9 c8 d2 rfl (by decide) (.slice p2 A.length c2) A.length (A.map (Value.int .i64)) rfl (a4.out.alloc _) ⟨w2.heap.size,0,none⟩ 1 1 [.int .i64 (-(k:Int))] rfl rfl dP cG (by unfold maxLen;omega) (by omega) (by have:=aC w2 (.cells #[.int .i64 (-(k:Int))] 3);omega) ?_;intro v5 w5 h1 h2 _ h4;have P5:=hid (fJ K2.out.size a4.out h1 h2);obtain⟨g5,a0,rfl⟩:=aS h1 (Q2 _);clear h1 h2 h4)
   have K5:=hid (Below.trans K2.out P5.out.2);have c1:=hid (show aO n (A++[-(k:Int)]) from fun x hx=>by
    rcases U0.1 hx with hx | hx
    ·exact c4.out x hx
    ·rw[T0.1 hx];exact a6.out.neg)
   have c0:=hid (show aI (fun b=>(Value.slice (some ⟨g5,0,none⟩) (A.length+1) a0).ownBlock=some b) w5 (A++[-(k:Int)]) (.slice (some ⟨g5,0,none⟩) (A.length+1) a0) from P5.out.1.numsO);have a1:=hid (d4.out d1 B N K (fun b=>(Value.slice (some ⟨g5,0,none⟩) (A.length+1) a0).ownBlock=some b) (A++[-(k:Int)]) (.slice (some ⟨g5,0,none⟩) (A.length+1) a0) w5 (X1.out.keep K5.out) (a5.out.2.1.trans d5.out) (by simp;omega) c0.out (fun b hb=>by
    have h1:=bN P5.out.1 hb;exact⟨h1.2,fun e=>by have:=X1.out.lt e;omega⟩) c1.out (by rw[b0.out];exact d7.out))
   rw[b9.out] at a1;go_wp2_with fail
   with_reducible refine a1.out.mono ?_
   rintro e w6 ⟨d6,b5,b2,b7,b1,c6⟩;have a3:=hid (show d6.sb=d.sb/\d6.x.n=d.x.n/\d6.x.bx=d.x.bx from⟨b5.trans b9.out,b2.trans a5.out.2.1,b7.trans a5.out.2.2⟩);have T6:=hid (T1.out.trans ((aG.keep K5.out).trans b1));clear b5 b2 b7 b1 a1;rcases c6 with ⟨h1,rfl⟩ | ⟨m,h1,rfl,h2,h3⟩ | ⟨h1,rfl,h2,h3,h4⟩
   ·have HB:=hid (mB (n:=n) (F:=F) (g:=g) (A:=A) (k:=k) (s:=d.s) (P:=d.P) (by rw[<-b0.out,h1];simp));have H1:=hid h1;clear h1;go_wp2_with fail;refine bodyPost_ret (v:= .tuple #[.bool false,.int .i64 8]) ?_ rfl ?_
    ·simp[results,Tryz.results71,go_sem]
    ·exact⟨d6,a3.out.1,a3.out.2.1,a3.out.2.2,T6.out,.inl ⟨by rw[HB.out,<-b0.out];exact H1.out,rfl⟩⟩
   ·have HB:=hid (mB (n:=n) (F:=F) (g:=g) (A:=A) (k:=k) (s:=d.s) (P:=d.P) (by rw[<-b0.out,h1];simp));have H1:=hid (And.intro h1 (And.intro h2 h3));clear h1 h2 h3;go_wp2_with fail;refine bodyPost_ret (v:= .tuple #[.bool false,.int .i64 0]) ?_ rfl ?_
    ·simp[results,Tryz.results71,go_sem]
    ·exact⟨d6,a3.out.1,a3.out.2.1,a3.out.2.2,T6.out,.inr (.inl ⟨m,by rw[HB.out,<-b0.out];exact H1.out.1,rfl,H1.out.2.1,H1.out.2.2⟩)⟩
   ·have a7:=hid (show cF n F g (A++[-(k:Int)]) d.s d.P=⟨.closed,d6.s,d6.P⟩ by rw[h3,h4,<-h1,b0.out]);have X6:=hid h2;clear h1 h2 h3 h4;go_wp2_with fail;go_roundg 1;case rel=>exact⟨1,d6,by omega,by go_num,X6.out,T6.out,a3.out,.inr (.inl ⟨rfl,a7.out⟩)⟩
    case measure=>omega
  ·have a8:=hid hs1;have e1:=hid (show d1.P.length+d1.s<=40000 from by
    have h1:=(iQ (n:=n) (F:=F) g _ _ _ _ _ (by simp;omega) (fun x hx=>by
     rcases U0.1 hx with hx | hx
     ·exact c4.out x hx
     ·rw[T0.1 hx];exact a6.out.neg) hs1).few
    have:=d7.out;omega)
   clear hs1;have d3:gk=1:=by omega
   clear c3;go_wp2_with fail;refine b6.out.mono ?_;rintro e w2 ⟨v2,rfl,a2,k2⟩;obtain⟨p2,c2,c5⟩:=a2.ints.len;subst c5;have a4:=hid a2;have K2:=hid k2;clear a2 k2 b6;have e2:=K2.out.size;go_wp2_with (at_builtin;refine wpList_append_own_at _ rfl _ _ 27 rfl wr.heap.size 3 i0 (.int .i64 0) 1 8 Tryz.underlying27 hi c9 c8 d2 rfl (by decide) (.slice p2 A.length c2) A.length (A.map (Value.int .i64)) rfl (a4.out.alloc _) ⟨w2.heap.size,0,none⟩ 1 1 [.int .i64 ((k:Int))] rfl rfl dP cG (by unfold maxLen;omega) (by omega) (by have:=aC w2 (.cells #[.int .i64 ((k:Int))] 3);omega) ?_;intro v5 w5 h1 h2 _ h4;have P5:=hid (fJ K2.out.size a4.out h1 h2);obtain⟨g5,a0,rfl⟩:=aS h1 (Q2 _);clear h1 h2 h4)
   have K5:=hid (Below.trans K2.out P5.out.2);have c1:=hid (show aO n (A++[(k:Int)]) from fun x hx=>by
    rcases U0.1 hx with hx | hx
    ·exact c4.out x hx
    ·rw[T0.1 hx];exact a6.out)
   have c0:=hid (show aI (fun b=>(Value.slice (some ⟨g5,0,none⟩) (A.length+1) a0).ownBlock=some b) w5 (A++[(k:Int)]) (.slice (some ⟨g5,0,none⟩) (A.length+1) a0) from P5.out.1.numsO);have a1:=hid (d4.out d1 B N K (fun b=>(Value.slice (some ⟨g5,0,none⟩) (A.length+1) a0).ownBlock=some b) (A++[(k:Int)]) (.slice (some ⟨g5,0,none⟩) (A.length+1) a0) w5 (X1.out.keep K5.out) (a5.out.2.1.trans d5.out) (by simp;omega) c0.out (fun b hb=>by
    have h1:=bN P5.out.1 hb;exact⟨h1.2,fun e=>by have:=X1.out.lt e;omega⟩) c1.out e1.out)
   rw[b9.out] at a1;go_wp2_with fail
   with_reducible refine a1.out.mono ?_
   rintro e w6 ⟨d6,b5,b2,b7,b1,c6⟩;have a3:=hid (show d6.sb=d.sb/\d6.x.n=d.x.n/\d6.x.bx=d.x.bx from⟨b5.trans b9.out,b2.trans a5.out.2.1,b7.trans a5.out.2.2⟩);have T6:=hid (T1.out.trans ((aG.keep K5.out).trans b1));clear b5 b2 b7 b1 a1;rcases c6 with ⟨h1,rfl⟩ | ⟨m,h1,rfl,h2,h3⟩ | ⟨h1,rfl,h2,h3,h4⟩
   ·have HB:=hid (kN a8.out);have H1:=hid h1;clear h1;go_wp2_with fail;refine bodyPost_ret (v:= .tuple #[.bool false,.int .i64 8]) ?_ rfl ?_
    ·simp[results,Tryz.results71,go_sem]
    ·exact⟨d6,a3.out.1,a3.out.2.1,a3.out.2.2,T6.out,.inl ⟨by rw[HB.out];exact H1.out,rfl⟩⟩
   ·have HB:=hid (kN a8.out);have H1:=hid (And.intro h1 (And.intro h2 h3));clear h1 h2 h3;go_wp2_with fail;refine bodyPost_ret (v:= .tuple #[.bool false,.int .i64 0]) ?_ rfl ?_
    ·simp[results,Tryz.results71,go_sem]
    ·exact⟨d6,a3.out.1,a3.out.2.1,a3.out.2.2,T6.out,.inr (.inl ⟨m,by rw[HB.out];exact H1.out.1,rfl,H1.out.2.1,H1.out.2.2⟩)⟩
   ·have a7:=hid (show cF n F g (A++[(k:Int)]) d1.s d1.P=⟨.closed,d6.s,d6.P⟩ by rw[h3,h4,<-h1]);have X6:=hid h2;clear h1 h2 h3 h4;go_wp2_with fail;go_roundg 0;case rel=>exact⟨2,d6,by omega,by go_num,X6.out,T6.out,a3.out,.inr (.inr ⟨rfl,(kN a8.out).trans a7.out⟩)⟩
    case measure=>omega
  ·have HB:=hid hb;have d3:gk=0:=by omega
   clear hb c3 b6;go_wp2_with fail;refine bodyPost_ret (v:= .tuple #[.bool true,.int .i64 0]) ?_ rfl ?_
   ·simp[results,Tryz.results71,go_sem]
   ·exact⟨d1,a5.out.1,a5.out.2.1,a5.out.2.2,T1.out,.inr (.inr ⟨by rw[HB.out],rfl,X1.out,by rw[HB.out],by rw[HB.out]⟩)⟩
end
end Go.Proofs.YthjlcjdlelkkdaaGreatDoor.Cn
