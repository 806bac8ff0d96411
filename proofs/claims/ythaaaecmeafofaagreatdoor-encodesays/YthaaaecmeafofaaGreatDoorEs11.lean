/- Steps of the proof: EncChoice, CnfBase, CnfSpec, FolSpec, CnfMem, FolMem, MapB, FolTake, FolWatch, FolMove, FolAsk, FolAskWalk, FolSettle, FolHold, CnfFunc, CnfCheck, CnfHolds, FolLay, FolAdd, FolClone. -/
import Derived.Test.YthaaaecmeafofaaGreatDoorRows
import Derived.BigQuiet
import Derived.BigRegion
import Derived.Deep.Cut
import Derived.Deep.CutRange
import Derived.Deep.LoopGhost
import Derived.Deep.MidRow
import Derived.Deep.RegionLaw
import Derived.Deep.RegionHeld3
import Derived.Laws.RangeAny
import Derived.Laws.EntriesVeiled
import Derived.Laws.AppendOwnNone
import Derived.Lib.OthersKept
import Derived.Lib.QuietBelow
import Derived.Maps.AppendAt
import Derived.ProofKit
import Derived.RegionTactic
import Derived.Sort.Grow
import Derived.WalkKit
import Derived.WalkLawsBesides
import Derived.WalkMore
import Derived.WalkSmall
import Derived.Maps.Own
import Derived.Maps.OwnSet
import Derived.Shelf.Abstract
import Derived.OwnWalk
import Derived.Lib.OwnBridge
import Derived.Lib.SliceRun
set_option maxHeartbeats 16000000
set_option maxRecDepth 100000
namespace Go.Proofs.YthaaaecmeafofaaGreatDoor.Cn
structure CT where
 nf:List Nat
 ins:List Nat
 on:Nat->Nat->Bool
structure CT.Ok (c:CT):Prop where
 up:c.ins.Pairwise (· < ·)
 lt : ∀ i∈c.ins,i<c.nf.length
def CT.order (c:CT):List Nat:=c.ins++(List.range c.nf.length).filter fun i=> !c.ins.contains i
def CT.base (c:CT) (i:Nat):Nat:=c.nf.length+(c.nf.take i).sum
def CT.many (c:CT):Nat:=c.nf.length+c.nf.sum
def CT.takes (c:CT) (m:List Bool) (i:Nat):Bool:=m.getD (c.order.idxOf i) false != c.ins.contains i
def CT.flags (c:CT) (m:List Bool) (i:Nat):List Bool:=(List.range (c.nf.getD i 0)).map fun k=>m.getD (c.base i+k) false != c.on i k
def CT.set (c:CT) (m:List Bool):List (Nat × List Bool):=(List.range c.nf.length).filterMap fun i=>if c.takes m i then some (i,c.flags m i) else none
structure CT.IsSet (c:CT) (l:List (Nat × List Bool)):Prop where
 up:l.Pairwise fun a b=>a.1<b.1
 lt : ∀ a∈l,a.1<c.nf.length
 fl : ∀ a∈l,a.2.length=c.nf.getD a.1 0
def tD (l:List (Nat × List Bool)) (i:Nat):Bool:=l.any fun a=>a.1==i
def nD (l:List (Nat × List Bool)) (c:CT) (i k:Nat):Bool:=match l.find? fun a=>a.1==i with
 | some a=>a.2.getD k false != c.on i k
 | none=>false
def CT.mod (c:CT) (l:List (Nat × List Bool)):List Bool:=(c.order.map fun i=>tD l i != c.ins.contains i)++(List.range c.nf.length).flatMap fun i=>(List.range (c.nf.getD i 0)).map fun k=>nD l c i k
theorem CT.order_mem {c:CT} (h:c.Ok) (i:Nat):i∈c.order↔i<c.nf.length:=by
 unfold CT.order
 rw [List.mem_append,List.mem_filter,List.mem_range]
 constructor
 ·rintro (h1 | h1)
  ·exact h.lt i h1
  ·exact h1.1
 ·intro h1
  by_cases h2:i∈c.ins
  ·exact .inl h2
  ·exact .inr ⟨h1,by simp [h2]⟩
theorem rO {l:List Nat} (h:l.Pairwise (· < ·)):l.Nodup:=by
 rw [List.nodup_iff_pairwise_ne]
 exact h.imp fun hab=>Nat.ne_of_lt hab
theorem CT.order_nodup {c:CT} (h:c.Ok):c.order.Nodup:=by
 unfold CT.order
 rw [List.nodup_append]
 refine ⟨rO h.up,rO (List.Pairwise.filter _ (List.pairwise_lt_range ..)),fun a ha b hb e=> ?_⟩
 subst e
 have:=(List.mem_filter.1 hb).2
 simp [ha] at this
theorem CT.order_len {c:CT} (h:c.Ok):c.order.length=c.nf.length:=by
 have h1:c.order.Perm (List.range c.nf.length):=(List.perm_ext_iff_of_nodup (CT.order_nodup h) List.nodup_range).2 fun i=>by rw [CT.order_mem h,List.mem_range]
 rw [h1.length_eq,List.length_range]
theorem vI {l:List Nat} {i:Nat} (h:i∈l):l[l.idxOf i]? = some i:=by
 have h1:=List.idxOf_lt_length_iff.2 h
 rw [List.getElem?_eq_getElem h1,List.getElem_idxOf]
theorem kN {l:List Nat} (hn:l.Nodup) {v i:Nat} (h:l[v]? = some i):l.idxOf i=v:=by
 obtain ⟨hv,e⟩:=List.getElem?_eq_some_iff.1 h
 have hm:i∈l:=List.mem_of_getElem? h
 have h1:=List.idxOf_lt_length_iff.2 hm
 have h2:l[l.idxOf i]=l[v]:=by rw [List.getElem_idxOf,e]
 rw [List.nodup_iff_pairwise_ne,List.pairwise_iff_getElem] at hn
 rcases Nat.lt_trichotomy (l.idxOf i) v with h3 | h3 | h3
 ·exact absurd h2 (hn _ _ h1 hv h3)
 ·exact h3
 ·exact absurd h2.symm (hn _ _ hv h1 h3)
theorem aAi {nf:List Nat} {g:Nat->List Bool} (hg : ∀ i<nf.length,(g i).length=nf.getD i 0) : ∀ i,i<=nf.length->((List.range i).flatMap g).length=(nf.take i).sum
 | 0,_=>by simp
 | i+1,h=>by
  rw [List.range_succ,List.flatMap_append,List.length_append,aAi hg i (by omega),List.take_succ_eq_append_getElem (by omega),List.sum_append]
  simp [hg i (by omega),List.getD_eq_getElem?_getD,List.getElem?_eq_getElem (show i<nf.length by omega)]
theorem aLd {nf:List Nat} {g:Nat->List Bool} (hg : ∀ i<nf.length,(g i).length=nf.getD i 0) {i k:Nat} (hi:i<nf.length) (hk:k<nf.getD i 0):((List.range nf.length).flatMap g).getD ((nf.take i).sum+k) false=(g i).getD k false:=by
 have hsp:List.range nf.length=List.range i++(i :: List.range' (i+1) (nf.length-i-1)):=by
  rw [List.range_eq_range',List.range_eq_range',← List.range'_succ,show nf.length-i-1+1=nf.length-i by omega]
  have:= @List.range'_append_1 0 i (nf.length-i)
  rw [Nat.zero_add,show i+(nf.length-i)=nf.length by omega] at this
  exact this.symm
 have hl:=aAi hg i (by omega)
 rw [hsp,List.flatMap_append,List.flatMap_cons,List.getD_eq_getElem?_getD,List.getD_eq_getElem?_getD,List.getElem?_append_right (by omega),hl,Nat.add_sub_cancel_left,List.getElem?_append_left (by rw [hg i hi];exact hk)]
theorem oS : ∀ {nf:List Nat} {v:Nat},v<nf.sum->∃ i k,i<nf.length/\k<nf.getD i 0/\v=(nf.take i).sum+k
 | [],v,h=>by simp at h
 | a :: nf,v,h=>by
  by_cases hv:v<a
  ·exact ⟨0,v,by simp,by simpa using hv,by simp⟩
  ·obtain ⟨i,k,h1,h2,h3⟩:=oS (nf:=nf) (v:=v-a) (by simp at h;omega)
   exact ⟨i+1,k,by simp;omega,by simpa using h2,by simp;omega⟩
theorem CT.mod_take {c:CT} (_:c.Ok) (l:List (Nat × List Bool)) {v i:Nat} (hv:c.order[v]? = some i):(c.mod l).getD v false=(tD l i != c.ins.contains i):=by
 have hl:=(List.getElem?_eq_some_iff.1 hv).1
 unfold CT.mod
 rw [List.getD_eq_getElem?_getD,List.getElem?_append_left (by simpa using hl),List.getElem?_map,hv]
 rfl
theorem CT.mod_flag {c:CT} (h:c.Ok) (l:List (Nat × List Bool)) {i k:Nat} (hi:i<c.nf.length) (hk:k<c.nf.getD i 0):(c.mod l).getD (c.base i+k) false=nD l c i k:=by
 unfold CT.mod CT.base
 have ho:(c.order.map fun i=>tD l i != c.ins.contains i).length=c.nf.length:=by rw [List.length_map,CT.order_len h]
 have hf:=aLd (nf:=c.nf) (g:=fun i=>(List.range (c.nf.getD i 0)).map fun k=>nD l c i k) (fun i _=>by simp) hi hk
 rw [List.getD_eq_getElem?_getD,List.getElem?_append_right (by rw [ho];omega),ho,Nat.add_assoc,Nat.add_sub_cancel_left,← List.getD_eq_getElem?_getD,hf,List.getD_eq_getElem?_getD,List.getElem?_map,List.getElem?_range hk]
 rfl
theorem CT.mod_len {c:CT} (h:c.Ok) (l:List (Nat × List Bool)):(c.mod l).length=c.many:=by
 unfold CT.mod CT.many
 have hf:=aAi (nf:=c.nf) (g:=fun i=>(List.range (c.nf.getD i 0)).map fun k=>nD l c i k) (fun i _=>by simp) c.nf.length (Nat.le_refl _)
 rw [List.length_append,List.length_map,CT.order_len h,hf,List.take_length]
theorem aCx : ∀ {l:List (Nat × List Bool)} {a:Nat × List Bool},(l.Pairwise fun a b=>a.1<b.1)->a∈l->l.find? (fun b=>b.1==a.1)=some a
 | [],_,_,h=>by simp at h
 | b :: l,a,hp,h=>by
  obtain ⟨h1,h2⟩:=List.pairwise_cons.1 hp
  rcases List.mem_cons.1 h with rfl | h
  ·simp
  ·have:=h1 a h
   rw [List.find?_cons_of_neg (by simp;omega)]
   exact aCx h2 h
theorem aKg {l l':List (Nat × List Bool)} (hp:l.Pairwise fun a b=>a.1<b.1) (hp':l'.Pairwise fun a b=>a.1<b.1) (h : ∀ a,a∈l↔a∈l'):l=l':=by
 induction l generalizing l' with
 | nil=>
  cases l' with
  | nil=>rfl
  | cons b l'=>exact absurd ((h b).2 List.mem_cons_self) (by simp)
 | cons a l ih=>
  cases l' with
  | nil=>exact absurd ((h a).1 List.mem_cons_self) (by simp)
  | cons b l'=>
   obtain ⟨h1,h2⟩:=List.pairwise_cons.1 hp
   obtain ⟨h3,h4⟩:=List.pairwise_cons.1 hp'
   have hab:a=b:=by
    rcases List.mem_cons.1 ((h a).1 List.mem_cons_self) with e | e
    ·exact e
    ·rcases List.mem_cons.1 ((h b).2 List.mem_cons_self) with e' | e'
     ·exact e'.symm
     ·have:=h3 a e;have:=h1 b e';omega
   subst hab
   rw [ih h2 h4 fun x=>⟨fun hx=> ?_,fun hx=> ?_⟩]
   ·rcases List.mem_cons.1 ((h x).1 (List.mem_cons_of_mem _ hx)) with e | e
    ·subst e;exact absurd (h1 x hx) (Nat.lt_irrefl _)
    ·exact e
   ·rcases List.mem_cons.1 ((h x).2 (List.mem_cons_of_mem _ hx)) with e | e
    ·subst e;exact absurd (h3 x hx) (Nat.lt_irrefl _)
    ·exact e
theorem CT.mem_set {c:CT} {m:List Bool} {a:Nat × List Bool}:a∈c.set m↔a.1<c.nf.length/\c.takes m a.1=true/\a.2=c.flags m a.1:=by
 unfold CT.set
 rw [List.mem_filterMap]
 constructor
 ·rintro ⟨i,hi,h⟩
  split at h
  ·rename_i ht
   have h:=Option.some.inj h
   subst h
   exact ⟨List.mem_range.1 hi,ht,rfl⟩
  ·cases h
 ·rintro ⟨h1,h2,h3⟩
  exact ⟨a.1,List.mem_range.2 h1,by rw [if_pos h2,← h3]⟩
theorem CT.set_up (c:CT) (m:List Bool):(c.set m).Pairwise fun a b=>a.1<b.1:=by
 unfold CT.set
 rw [List.pairwise_filterMap]
 refine (List.pairwise_lt_range (n:=c.nf.length)).imp fun {i j} hij a ha b hb=> ?_
 split at ha<;>split at hb<;>cases ha<;>cases hb
 exact hij
theorem qR {l:List (Nat × List Bool)} {i:Nat}:tD l i=true ↔ ∃ a∈l,a.1=i:=by
 unfold tD
 rw [List.any_eq_true]
 simp
theorem CT.mod_takes {c:CT} (h:c.Ok) {l:List (Nat × List Bool)} {i:Nat} (hi:i<c.nf.length):c.takes (c.mod l) i=tD l i:=by
 unfold CT.takes
 rw [CT.mod_take h l (vI ((CT.order_mem h i).2 hi))]
 cases tD l i<;>cases c.ins.contains i<;>rfl
theorem CT.mod_flags {c:CT} (h:c.Ok) {l:List (Nat × List Bool)} (hl:c.IsSet l) {a:Nat × List Bool} (ha:a∈l):c.flags (c.mod l) a.1=a.2:=by
 unfold CT.flags
 refine List.ext_getElem (by simp [hl.fl a ha]) fun k h1 h2=> ?_
 have hk:k<c.nf.getD a.1 0:=by simpa using h1
 rw [List.getElem_map,List.getElem_range,CT.mod_flag h l (hl.lt a ha) hk]
 unfold nD
 rw [aCx hl.up ha]
 simp only [List.getD_eq_getElem?_getD,List.getElem?_eq_getElem h2,Option.getD_some]
 cases a.2[k]<;>cases c.on a.1 k<;>rfl
theorem CT.set_mod {c:CT} (h:c.Ok) {l:List (Nat × List Bool)} (hl:c.IsSet l):c.set (c.mod l)=l:=by
 refine aKg (c.set_up _) hl.up fun a=> ?_
 rw [CT.mem_set]
 constructor
 ·rintro ⟨h1,h2,h3⟩
  rw [CT.mod_takes h h1] at h2
  obtain ⟨b,hb,e⟩:=qR.1 h2
  have h4:=CT.mod_flags h hl hb
  have:a=b:=Prod.ext e.symm (by rw [h3,← e,h4])
  rw [this];exact hb
 ·intro ha
  exact ⟨hl.lt a ha,by rw [CT.mod_takes h (hl.lt a ha)];exact qR.2 ⟨a,ha,rfl⟩,(CT.mod_flags h hl ha).symm⟩
theorem CT.set_inj {c:CT} (h:c.Ok) {m m':List Bool} (e:c.set m=c.set m'):(∀ v<c.nf.length,m.getD v false=m'.getD v false)/\∀ i<c.nf.length,c.takes m i=true->∀ k<c.nf.getD i 0,m.getD (c.base i+k) false=m'.getD (c.base i+k) false:=by
 have ht : ∀ i<c.nf.length,c.takes m i=c.takes m' i:=fun i hi=>by
  cases h1:c.takes m i with
  | true=>
   have:(i,c.flags m i)∈c.set m':=e ▸ CT.mem_set.2 ⟨hi,h1,rfl⟩
   exact (CT.mem_set.1 this).2.1.symm
  | false=>
   cases h2:c.takes m' i with
   | false=>rfl
   | true=>
    have:(i,c.flags m' i)∈c.set m:=e ▸ CT.mem_set.2 ⟨hi,h2,rfl⟩
    have h3:c.takes m i=true:=(CT.mem_set.1 this).2.1
    rw [h1] at h3;cases h3
 refine ⟨fun v hv=> ?_,fun i hi hti k hk=> ?_⟩
 ·have hvo:v<c.order.length:=by rw [CT.order_len h];exact hv
  have hg:c.order[v]? = some c.order[v]:=List.getElem?_eq_getElem hvo
  have hx:=kN (CT.order_nodup h) hg
  have:=ht c.order[v] ((CT.order_mem h _).1 (List.getElem_mem hvo))
  unfold CT.takes at this
  rw [hx] at this
  revert this
  cases m.getD v false<;>cases m'.getD v false<;>cases c.ins.contains c.order[v]<;>simp
 ·have:(i,c.flags m i)∈c.set m':=e ▸ CT.mem_set.2 ⟨hi,hti,rfl⟩
  have h3:c.flags m i=c.flags m' i:=(CT.mem_set.1 this).2.2
  have h4:(c.flags m i)[k]? = (c.flags m' i)[k]? :=by rw [h3]
  unfold CT.flags at h4
  simp only [List.getElem?_map,List.getElem?_range hk,Option.map_some] at h4
  have h4:=Option.some.inj h4
  revert h4
  cases m.getD (c.base i+k) false<;>cases m'.getD (c.base i+k) false<;>cases c.on i k<;>simp
theorem CT.mod_least {c:CT} (h:c.Ok) {l:List (Nat × List Bool)} (hl:c.IsSet l) {v:Nat} (hv:v<c.many) (ht:(c.mod l).getD v false=true):c.set ((c.mod l).set v false)≠l:=by
 intro e
 have hvl:v<(c.mod l).length:=by rw [CT.mod_len h];exact hv
 have hz:((c.mod l).set v false).getD v false=false:=by simp [List.getD_eq_getElem?_getD,hvl]
 obtain ⟨h1,h2⟩:=CT.set_inj h ((CT.set_mod h hl).trans e.symm)
 by_cases hvN:v<c.nf.length
 ·have:=h1 v hvN
  rw [ht,hz] at this;cases this
 ·obtain ⟨i,k,hi,hk,hvk⟩:=oS (nf:=c.nf) (v:=v-c.nf.length) (by unfold CT.many at hv;omega)
  have hve:v=c.base i+k:=by unfold CT.base;omega
  subst hve
  have hfl:=CT.mod_flag h l hi hk
  rw [ht] at hfl
  have hhas:tD l i=true:=by
   unfold nD at hfl
   cases hf:l.find? fun a=>a.1==i with
   | none=>rw [hf] at hfl;cases hfl
   | some a=>
    exact qR.2 ⟨a,List.mem_of_find?_eq_some hf,by simpa using List.find?_some hf⟩
  have:=h2 i hi (by rw [CT.mod_takes h hi];exact hhas) k hk
  rw [ht,hz] at this;cases this
end Go.Proofs.YthaaaecmeafofaaGreatDoor.Cn
namespace Go.Proofs.YthaaaecmeafofaaGreatDoor.Cn
open Go.RowKit Go.Lib
theorem hid {p:Prop} (h:p):Hid p:=h
theorem aI {a b:Bool} (h:a=b):Ending.returned (.bool a)=.returned (.bool b):=by rw [h]
theorem aD {k:IntKind} {a b:Int} (h:a=b):Ending.returned (.int k a)=.returned (.int k b):=by rw [h]
def aA (w w':World):Prop:=Below w.heap.size w w'
theorem aA.refl (w:World):aA w w:=Below.refl _ _
theorem aA.trans {a b c:World} (h:aA a b) (k:aA b c):aA a c:=Below.trans h (Below.mono k h.size)
theorem aA.alloc (w:World) (o:Obj):aA w (w.alloc o):=(Below.refl _ _).alloc (Nat.le_refl _) _
theorem aA.alloc' {a w:World} (h:aA a w) (o:Obj):aA a (w.alloc o):=h.trans (aA.alloc w o)
theorem aA.drew {a w:World} (h:aA a w):aA a w.drew:=Below.drew h
theorem aA.drewN {a w:World} (h:aA a w) : ∀ n,aA a (w.drewN n)
 | 0=>h
 | n+1=>by rw [World.drewN];exact aA.drew (aA.drewN h n)
theorem aA.size {w w':World} (h:aA w w'):w.heap.size<=w'.heap.size:=Below.size h
theorem aH {b:Nat} {cs:Array Value} {T:TypeId} {w:World} (h:w.heap[b]? = some (.cells cs T (0,0))) (i:Nat) (x:Value):(w.setCell ⟨b,i,none⟩ x).heap[b]? = some (.cells (cs.setIfInBounds i x) T (0,0)):=by
 simp [World.setCell,Array.getElem?_modify,h]
theorem aX (w:World) (b i:Nat) (x:Value):Below b w (w.setCell ⟨b,i,none⟩ x):=(Below.refl _ _).setCell (p:=⟨b,i,none⟩) (Nat.le_refl _) x
theorem aC (w:World) (o:Obj):(w.alloc o).heap.size=w.heap.size+1:=by simp
theorem aV {P:Program} {F:FuncId} {args:Array Value} {W:World} {Q:Ending->World->Prop} (R:World->Prop) (hR:R W) (h : ∀ W',R W'->Calls P F args W' Q):Calls P F args W Q:=h W hR
theorem bH {P:Program} {c:Code} {Q:Exit->Act->World->Prop} {a:Act} {W:World} (R:World->Prop) (hR:R W) (h : ∀ W',R W'->c.wp P Q a W'):c.wp P Q a W:=h W hR
theorem tkN {P:Program} {ops:Array Oper} {Q:Exit->Act->World->Prop} {md:Region.Mode} {S:World->Prop} (i:Nat) {oi:Oper} {v:Value} {fuel:Nat} {listed:Array Bool} {a:Act} {w:World} (hy : ∀ w,S w->(execOp a.eval oi).run P w=.ok (.value v) w)
  (h:wpAnyH P md ops Q S fuel (listed.setIfInBounds i true) (a.put oi.dst v) w) (hi:ops[i]? = some oi:=by rfl) (hs:Region.noSelect ops=true:=by kernel_rfl) (hf:Region.free md ops listed i=true:=by kernel_rfl) (hr:(Region.ready md ops listed).contains i=true:=by kernel_rfl)
  (hQ : ∀ c a w,Q (.panic c) (a.put oi.dst v) w->Q (.panic c) a w:=by exact fun _ _ _ h=>h) (hw:Region.wanted oi (yielded ops a.tmps)=true:=by rfl) (hS:S w:=by assumption):wpAnyH P md ops Q S (fuel+1) listed a w:=
 wpAnyH_take hi hs hf hr hQ (.inl ⟨hw,hy⟩) hS h
theorem acP:(∀ (a:Act) (d:Tmp) (v:Value),a.put (some d) v = { a with tmps:=a.tmps.setIfInBounds d v })/\(∀ (a:Act) (v:Value),a.put none v=a)/\(∀ {α:Type} (l:List α) (i:Nat) (v:α),l.toArray.setIfInBounds i v=(l.set i v).toArray)/\(∀ {α:Type} (x:α) (xs:List α) (v:α),(x :: xs).set 0 v=v :: xs)/\(∀ {α:Type} (x:α) (xs:List α) (n:Nat) (v:α),(x :: xs).set (n+1) v=x :: xs.set n v)/\(∀ {α:Type} (l:List α) (i:Nat) (h:i<l.toArray.size),l.toArray[i]=l[i]'(by simpa using h))/\(∀ {α:Type} (x:α) (xs:List α) (h:0<(x :: xs).length),(x :: xs)[0]=x)/\(∀ {α:Type} (x:α) (xs:List α) (n:Nat) (h:n+1<(x :: xs).length),(x :: xs)[n+1]=xs[n]'(by simpa using h)):=by
 refine ⟨fun _ _ _=>rfl,fun _ _=>rfl,fun _ _ _=>by simp,fun _ _ _=>rfl,fun _ _ _ _=>rfl,fun _ _ _=>by simp,fun _ _ _=>rfl,fun _ _ _ _=>rfl⟩
theorem bD {S:Nat->Prop} {B:Nat} {w w':World} (hS : ∀ b,S b->b<B) (k:Below B w w') : ∀ p:Addr,S p.block->w'.cell? p=w.cell? p:=
 fun p hp=>k.cell (p:=p) (hS _ hp)
theorem bQ {B e sz n:Nat} {v:Value} {xs:List Value} {w:World} (h:w.ownsRow B e sz v n xs) (hn:0<n) : ∃ g cap,v=.slice (some ⟨g,0,none⟩) n cap:=by
 obtain ⟨-,⟨-,h0⟩ | ⟨g,cap,cur,e1,-⟩⟩:=h
 ·omega
 ·exact ⟨g,cap,e1⟩
theorem eQ {B e sz n:Nat} {v:Value} {xs:List Value} {w w':World} (h:w.ownsRow B e sz v n xs) (hb : ∀ g,v.ownBlock=some g->w'.heap[g]? = w.heap[g]?):w'.ownsRow B e sz v n xs:=by
 obtain ⟨h1,h2⟩:=h
 refine ⟨h1,h2.imp id ?_⟩
 rintro ⟨g,cap,cur,rfl,e2,e3,e4⟩
 exact ⟨g,cap,cur,rfl,e2,by rw [hb g rfl];exact e3,e4⟩
theorem fX {B e sz n:Nat} {v:Value} {xs:List Value} {w:World} (h:w.ownsRow B e sz v n xs) {g:Nat} (hg:v.ownBlock=some g):B<=g/\g<w.heap.size:=by
 obtain ⟨-,⟨rfl,-⟩ | ⟨g',cap,cur,rfl,e2,e3,-⟩⟩:=h
 ·cases hg
 ·cases hg;exact ⟨e2,(Array.getElem?_eq_some_iff.1 e3).1⟩
def aG (b:Nat) (T:TypeId) (cs:Array Value) (w:World):Prop:=w.heap[b]? = some (.cells cs T (0,0))
theorem aG.facts {b:Nat} {T:TypeId} {cs:Array Value} {w:World} (h:aG b T cs w):(∀ o,w.cell? ⟨b,o,none⟩=cs[o]?)/\(∀ o,w.frozen? ⟨b,o,none⟩=false)/\b<w.heap.size:=by
 unfold aG at h
 refine ⟨fun o=>by simp [World.cell?,h],fun o=>by simp [World.frozen?,h],(Array.getElem?_eq_some_iff.1 h).1⟩
theorem aG.new (w:World) (T:TypeId) (cs:Array Value):aG w.heap.size T cs (w.alloc (.cells cs T)):=by
 show (w.heap.push _)[w.heap.size]? = _
 rw [Array.getElem?_push,if_pos rfl]
theorem aG.set {b:Nat} {T:TypeId} {cs:Array Value} {w:World} (h:aG b T cs w) (o:Nat) (x:Value):aG b T (cs.setIfInBounds o x) (w.setCell ⟨b,o,none⟩ x):=by
 have:=aH h o x
 unfold aG
 rw [this]
theorem fV:(Tryz.prog.info? 3).map (fun i=>(i.zero,i.size,i.bytes))=some (some (.int .i64 0),1,8):=by kernel_rfl
def eA (v:Value) (zs:List Int) (w:World):Prop:=(zs = []/\v=.slice none 0 0)∨∃ g cap,v=.slice (some ⟨g,0,none⟩) zs.length cap/\g<w.heap.size/\∀ (j:Nat) x,zs[j]? = some x->w.cell? ⟨g,j,none⟩=some (.int .i64 x)
theorem eA.len {v:Value} {zs:List Int} {w:World} (h:eA v zs w) : ∃ p cap,v=.slice p zs.length cap:=by
 rcases h with ⟨rfl,h⟩ | ⟨g,cap,h,-⟩
 ·exact ⟨none,0,h⟩
 ·exact ⟨_,cap,h⟩
def bG (B:Nat) (v:Value) (zs:List Int) (w:World):Prop:=w.ownsRow B 3 1 v zs.length (zs.map (Value.int .i64))
theorem bG.ints {B:Nat} {v:Value} {zs:List Int} {w:World} (h:bG B v zs w):eA v zs w:=by
 obtain ⟨hlen,⟨rfl,h0⟩ | ⟨g,cap,cur,rfl,hbase,hb,hn1,hn2,hn3,hn4⟩⟩:=h
 ·exact Or.inl ⟨List.length_eq_zero_iff.1 h0,rfl⟩
 ·refine Or.inr ⟨g,cap,rfl,(Array.getElem?_eq_some_iff.1 hb).1,fun j x hx=> ?_⟩
  have hj:j<zs.length:=(List.getElem?_eq_some_iff.1 hx).1
  have h1:=congrArg (·[j]?) hn4
  simp only [Nat.mul_one,List.getElem?_take,List.getElem?_map,hx,Option.map_some] at h1
  rw [if_pos hj] at h1
  simp only [World.cell?,hb]
  simpa using h1
def aN (S:Nat->Prop) (w:World) (zs:List Int) (v:Value):Prop:=
 ∃ (p:Option Addr) (cap:Nat),v=.slice p zs.length cap/\zs.length<=9223372036854775807/\(0<zs.length->∃ b off,p=some ⟨b,off,none⟩/\S b/\∀ (j:Nat) (x:Int),zs[j]? = some x->w.cell? ⟨b,off+j,none⟩=some (.int .i64 x))
section
variable {S S':Nat->Prop} {w w':World}
theorem aN.mono (hw : ∀ p:Addr,S p.block->w'.cell? p=w.cell? p) (hS : ∀ b,S b->S' b) {zs:List Int} {v:Value} (h:aN S w zs v):aN S' w' zs v:=by
 obtain ⟨p,cap,h1,h2,h3⟩:=h
 refine ⟨p,cap,h1,h2,fun h=> ?_⟩
 obtain ⟨b,off,h4,h5,h6⟩:=h3 h
 exact ⟨b,off,h4,hS _ h5,fun j x hx=>(hw ⟨b,off+j,none⟩ h5).trans (h6 j x hx)⟩
theorem aN.keep {B:Nat} (hS : ∀ b,S b->b<B) (k:Below B w w') {zs:List Int} {v:Value} (h:aN S w zs v):aN S w' zs v:=h.mono (bD hS k) fun _ h=>h
end
theorem bR {P:Program} {ops:Array Oper} {o:Oper} {a:Act} {w:World} {K:Act->World->Prop} {Q:Exit->Act->World->Prop} {E:Prop}
  (hg:o.guard=none) (s x:Operand) (t:TypeId) (hop:o.op=Op.call { callee:=Callee.builtin Builtin.append,args:=#[s,x],argTypes:=#[t,t] })
  (base:Nat) (e:TypeId) (i:TypeInfo) (z:Value) (size bytes:Nat) (ht:P.underlying t=some (.slice e)) (hi:P.info? e=some i) (hz:i.zero=some z)
  (hsize:i.size=size) (hby:i.bytes=bytes) (hzs:z.cells.size=size) (hsz:0<size)
  (v:Value) (n:Nat) (xs:List Value) (hs:a.eval s=v) (hown:w.ownsRow base e size v n xs)
  (ad:Addr) (m c:Nat) (news:List Value) (hx:a.eval x=.slice (some ad) m c) (hl:news.length=m*size) (hnews : ∀ j u,news[j]? = some u->w.cell? (ad.add j)=some u) (h1 : ∀ u∈news,u.oneCell'=true)
  (h63:n+m<=maxLen) (hbytes:(n+m)*bytes<=140737488355328) (hbase:base<=w.heap.size)
  (hK : ∀ v' w',w'.ownsRow base e size v' (n+m) (xs++news)->w.grownBy w' v.ownBlock->(v'.ownBlock=v.ownBlock∨v'.ownBlock=some w.heap.size)->K (a.put o.dst v') w') :
  if Region.wanted o (yielded ops a.tmps)=true then Oper.wp P o a w K Q else E:=by
 have hw:Region.wanted o (yielded ops a.tmps)=true:=by simp [Region.wanted,hg]
 rw [if_pos hw]
 obtain ⟨v',w',hr,h2,h3,-,h5⟩:=run_append_own_at (P:=P) w base t o.type e i z size bytes ht hi hz hsize hby hzs hsz v n xs hown ad m c news hl hnews h1 h63 hbytes hbase
 unfold Oper.wp
 simp [execOp,hop,resolve,invoke,builtin,hs,hx,hr,Result.andThen]
 exact hK v' w' h2 h3 h5
end Go.Proofs.YthaaaecmeafofaaGreatDoor.Cn
namespace Go.Proofs.YthaaaecmeafofaaGreatDoor.Cn
inductive Der (F:List (List Int)) (A:List Int):Int->Prop
 | told {x:Int}:x∈A->Der F A x
 | unit {c:List Int} {x:Int}:c∈F->x∈c->(∀ y∈c,y≠x->Der F A (-y))->Der F A x
def pY (F:List (List Int)) (A:List Int):Prop:=
 (∃ x,Der F A x/\Der F A (-x))∨(∃ c∈F,∀ y∈c,Der F A (-y))
theorem Der.more {F F':List (List Int)} {A A':List Int} (hF : ∀ c∈F,c∈F') (hA : ∀ x∈A,Der F' A' x) {x:Int} (h:Der F A x):Der F' A' x:=by
 induction h with
 | told h=>exact hA _ h
 | unit hc hx _ ih=>exact .unit (hF _ hc) hx ih
def Lit (n:Nat) (x:Int):Prop:=x≠0/\x.natAbs<=n
def cK (n:Nat) (c:List Int):Prop:= ∀ x∈c,Lit n x
theorem Lit.neg {n:Nat} {x:Int} (h:Lit n x):Lit n (-x):=by
 unfold Lit at h ⊢;omega
theorem Der.lit {n:Nat} {F:List (List Int)} {A:List Int} (hF : ∀ c∈F,cK n c) (hA:cK n A) {x:Int} (h:Der F A x):Lit n x:=by
 cases h with
 | told h=>exact hA _ h
 | unit hc hx _=>exact hF _ hc _ hx
def inM (m:List Bool) (x:Int):Bool:=(m.getD (x.natAbs-1) false)==decide (0<x)
theorem dY (m:List Bool) {x:Int} (h:x≠0):inM m (-x) = !inM m x:=by
 unfold inM
 rw [Int.natAbs_neg]
 rcases Int.lt_or_gt_of_ne h with h | h
 ·have h1:decide (0<x)=false:=by simp;omega
  have h2:decide (0 < -x)=true:=by simp;omega
  rw [h1,h2];cases m.getD (x.natAbs-1) false<;>rfl
 ·have h1:decide (0<x)=true:=by simp;omega
  have h2:decide (0 < -x)=false:=by simp;omega
  rw [h1,h2];cases m.getD (x.natAbs-1) false<;>rfl
theorem der_holds {n:Nat} {F:List (List Int)} {A:List Int} {m:List Bool} (hF : ∀ c∈F,cK n c) (hM : ∀ c∈F,∃ x∈c,inM m x=true) (hA : ∀ x∈A,inM m x=true) {x:Int} (h:Der F A x):inM m x=true:=by
 induction h with
 | told h=>exact hA _ h
 | @unit c x hc hx _ ih=>
  obtain ⟨y,hy,hm⟩:=hM c hc
  by_cases e:y=x
  ·exact e ▸ hm
  ·have:=ih y hy e
   rw [dY m (hF c hc y hy).1,hm] at this
   exact absurd this (by decide)
theorem aAb {n:Nat} {F:List (List Int)} {A:List Int} {m:List Bool} (hF : ∀ c∈F,cK n c) (hA':cK n A) (hM : ∀ c∈F,∃ x∈c,inM m x=true) (hA : ∀ x∈A,inM m x=true) : ¬ pY F A:=by
 rintro (⟨x,h1,h2⟩ | ⟨c,hc,h⟩)
 ·have a:=der_holds hF hM hA h1
  have b:=der_holds hF hM hA h2
  rw [dY m (h1.lit hF hA').1,a] at b
  exact absurd b (by decide)
 ·obtain ⟨y,hy,hm⟩:=hM c hc
  have b:=der_holds hF hM hA (h y hy)
  rw [dY m (hF c hc y hy).1,hm] at b
  exact absurd b (by decide)
def w1 (c:List Int):Int:=c.getD 1 0
end Go.Proofs.YthaaaecmeafofaaGreatDoor.Cn
namespace Go.Proofs.YthaaaecmeafofaaGreatDoor.Cn
open Go.RowKit
def iE (S:Nat->Prop) (w:World) (F:List (List Int)) (v:Value):Prop:=
 (F = []/\∃ p cap,v=.slice p 0 cap)∨∃ (b off cap:Nat),v=.slice (some ⟨b,off,none⟩) F.length cap/\(S b/\F.length<=cap)/\F.length<=9223372036854775807/\
  ∀ (j:Nat) (c:List Int),F[j]? = some c->∃ cv:Value,w.cell? ⟨b,off+j,none⟩=some cv/\aN S w c cv
theorem iE.mono {S S':Nat->Prop} {w w':World} (hw : ∀ p:Addr,S p.block->w'.cell? p=w.cell? p) (hS : ∀ b,S b->S' b) {F:List (List Int)} {v:Value} (h:iE S w F v):iE S' w' F v:=by
 rcases h with h | ⟨b,off,cap,h1,h2,h3,h4⟩
 ·exact Or.inl h
 ·refine Or.inr ⟨b,off,cap,h1,⟨hS _ h2.1,h2.2⟩,h3,fun j c hc=> ?_⟩
  obtain ⟨cv,h5,h6⟩:=h4 j c hc
  exact ⟨cv,(hw ⟨b,off+j,none⟩ h2.1).trans h5,h6.mono hw hS⟩
theorem iE.keep {S:Nat->Prop} {B:Nat} {w w':World} (hS : ∀ b,S b->b<B) (k:Below B w w') {F:List (List Int)} {v:Value} (h:iE S w F v):iE S w' F v:=h.mono (bD hS k) fun _ h=>h
theorem iE.len {S:Nat->Prop} {w:World} {F:List (List Int)} {v:Value} (h:iE S w F v) : ∃ p cap,v=.slice p F.length cap/\F.length<=9223372036854775807:=by
 rcases h with ⟨rfl,p,cap,rfl⟩ | ⟨b,off,cap,rfl,-,h,-⟩
 ·exact ⟨p,cap,rfl,by simp⟩
 ·exact ⟨_,cap,rfl,h⟩
theorem aN.shape {S:Nat->Prop} {w:World} {zs:List Int} {v:Value} (h:aN S w zs v) : ∃ p cap,v=.slice p zs.length cap/\zs.length<=9223372036854775807:=by
 obtain ⟨p,cap,h1,h2,-⟩:=h
 exact ⟨p,cap,h1,h2⟩
theorem iE.get {S:Nat->Prop} {w:World} {F:List (List Int)} {v:Value} (h:iE S w F v) {k:Nat} (hk:k<F.length) : ∃ b off cap cp cc,v=.slice (some ⟨b,off,none⟩) F.length cap/\S b/\F.length<=9223372036854775807/\
  w.cell? ⟨b,off+k,none⟩=some (.slice cp F[k].length cc)/\aN S w F[k] (.slice cp F[k].length cc)/\F[k].length<=9223372036854775807:=by
 rcases h with ⟨rfl,-⟩ | ⟨b,off,cap,rfl,h2,h3,h4⟩
 ·simp at hk
 ·obtain ⟨cv,h5,h6⟩:=h4 k _ (List.getElem?_eq_getElem hk)
  obtain ⟨cp,cc,rfl,h7⟩:=h6.shape
  exact ⟨b,off,cap,cp,cc,rfl,h2.1,h3,h5,h6,h7⟩
def nZ (B:Nat) (S:Nat->Prop) (v:Value) (cs:List (List Int)) (w:World):Prop:=
 ∃ vs:List Value,vs.length=cs.length/\w.ownsRow B 153 1 v cs.length vs/\∀ (i:Nat) c x,cs[i]? = some c->vs[i]? = some x->aN S w c x
theorem nZ.nil (B:Nat) (S:Nat->Prop) (w:World):nZ B S (.slice none 0 0) [] w:=⟨[],rfl,World.ownsRow_nil _ _ _ _,by simp⟩
theorem nZ.mono {B:Nat} {S S':Nat->Prop} {v:Value} {cs:List (List Int)} {w w':World} (h:nZ B S v cs w) (hv : ∀ g,v.ownBlock=some g->w'.heap[g]? = w.heap[g]?) (hS : ∀ b,S b->w'.heap[b]? = w.heap[b]? /\S' b):nZ B S' v cs w':=by
 obtain ⟨vs,h1,h2,h3⟩:=h
 exact ⟨vs,h1,eQ h2 hv,fun i c x hi hx=>(h3 i c x hi hx).mono (fun p hp=>World.cell?_of_block (w:=w) (hS _ hp).1) (fun b hb=>(hS b hb).2)⟩
theorem nZ.in {B:Nat} {S:Nat->Prop} {v:Value} {cs:List (List Int)} {w:World} (h:nZ B S v cs w) {g:Nat} (hg:v.ownBlock=some g):B<=g/\g<w.heap.size:=by
 obtain ⟨vs,h1,h2,h3⟩:=h;exact fX h2 hg
theorem nZ.cls {B:Nat} {S:Nat->Prop} {v:Value} {cs:List (List Int)} {w:World} (h:nZ B S v cs w):iE (fun b=>S b∨v.ownBlock=some b) w cs v:=by
 obtain ⟨vs,h1,⟨h2,⟨rfl,h0⟩ | ⟨g,cap,cur,rfl,e2,e3,e4,e5,e6,e7⟩⟩,h3⟩:=h
 ·exact Or.inl ⟨List.length_eq_zero_iff.1 h0,none,0,rfl⟩
 ·refine Or.inr ⟨g,0,cap,rfl,⟨Or.inr rfl,e4⟩,by unfold maxLen at e5;omega,fun j c hc=> ?_⟩
  have hj:j<cs.length:=(List.getElem?_eq_some_iff.1 hc).1
  refine ⟨vs[j],?_,(h3 j c _ hc (List.getElem?_eq_getElem (by omega))).mono (fun _ _=>rfl) fun b hb=>Or.inl hb⟩
  have hf : ∃ x,x=vs[j]/\vs[j]? = some x:=⟨_,rfl,List.getElem?_eq_getElem (by omega)⟩
  obtain ⟨x,hx,hf⟩:=hf
  rw [← hx]
  clear hx
  rw [← e7,List.getElem?_take,if_pos (by omega)] at hf
  simp only [World.cell?,e3,Nat.zero_add]
  simpa using hf
theorem nZ.shape {B:Nat} {S:Nat->Prop} {v:Value} {cs:List (List Int)} {w:World} (h:nZ B S v cs w) : ∃ p cap,v=.slice p cs.length cap:=by
 obtain ⟨p,cap,h,-⟩:=h.cls.len;exact ⟨p,cap,h⟩
end Go.Proofs.YthaaaecmeafofaaGreatDoor.Cn
namespace Go.Proofs.YthaaaecmeafofaaGreatDoor.Cn
open Go.RowKit Go.Lib
structure aO (O O':Nat->Prop) (w w':World):Prop where
 os:w'.os=w.os
 tape:w'.tape=w.tape
 output:w'.output=w.output
 size:w.heap.size<=w'.heap.size
 block : ∀ b,b<w.heap.size->¬ O b->w'.heap[b]? = w.heap[b]?
 new : ∀ b,O' b->O b∨w.heap.size<=b
theorem aO.refl (O:Nat->Prop) (w:World):aO O O w w:=⟨rfl,rfl,rfl,Nat.le_refl _,fun _ _ _=>rfl,fun _ h=> .inl h⟩
theorem aO.trans {O O1 O2:Nat->Prop} {a b c:World} (h:aO O O1 a b) (k:aO O1 O2 b c):aO O O2 a c where
 os:=k.os.trans h.os
 tape:=k.tape.trans h.tape
 output:=k.output.trans h.output
 size:=Nat.le_trans h.size k.size
 block p hp ho:=by
  rw [k.block p (Nat.lt_of_lt_of_le hp h.size) (fun e=>(h.new p e).elim ho fun e=>by omega),h.block p hp ho]
 new p hp:=by
  rcases k.new p hp with e | e
  ·exact h.new p e
  ·exact .inr (Nat.le_trans h.size e)
theorem aO.less {O O' U:Nat->Prop} {w w':World} (h:aO O O' w w') (hu : ∀ b,U b->O' b):aO O U w w':=
 ⟨h.os,h.tape,h.output,h.size,h.block,fun b hb=>h.new b (hu b hb)⟩
theorem aO.keep {O:Nat->Prop} {w w':World} (k:aA w w'):aO O O w w':=⟨k.os,k.tape,k.output,k.size,fun b hb _=>k.block b hb,fun _ h=> .inl h⟩
theorem aO.below {O O':Nat->Prop} {w w':World} (h:aO O O' w w') {B:Nat} (hB:B<=w.heap.size) (ho : ∀ b,b<B->¬ O b):Below B w w':=
 ⟨h.os,h.tape,h.output,h.size,fun k hk=>h.block k (Nat.lt_of_lt_of_le hk hB) (ho k hk)⟩
theorem aO.set (O:Nat->Prop) (w:World) (b o:Nat) (x:Value) (hb:O b):aO O O w (w.setCell ⟨b,o,none⟩ x):=by
 have k:Below b w (w.setCell ⟨b,o,none⟩ x):=aX w b o x
 exact ⟨k.os,k.tape,k.output,k.size,fun c _ hn=>Below.heap_setCell _ _ _ _ (fun e=>hn (e ▸ hb)),fun _ h=> .inl h⟩
theorem aO.cell {O O':Nat->Prop} {w w':World} (h:aO O O' w w') (p:Addr) (hp:p.block<w.heap.size) (ho : ¬ O p.block):w'.cell? p=w.cell? p:=World.cell?_of_block (w:=w) (h.block p.block hp ho)
theorem aO.grown {O:Nat->Prop} {w w':World} {v v':Value} (h:w.grownBy w' v.ownBlock) (hv : ∀ g,v.ownBlock=some g->O g) (hv':v'.ownBlock=v.ownBlock∨∃ g,v'.ownBlock=some g/\w.heap.size<=g):aO O (fun b=>O b∨v'.ownBlock=some b) w w':=
 ⟨h.os,h.tape,h.output,h.size,fun b hb hn=>h.block b hb fun e=>hn (hv b e.symm),fun b hb=>by
  rcases hb with hb | hb
  ·exact .inl hb
  ·rcases hv' with e | ⟨g,e,hg⟩
   ·exact .inl (hv b (by rw [← e];exact hb))
   ·rw [e] at hb;have:=Option.some.inj hb;exact .inr (by omega)⟩
theorem aG.turn {c:Nat} {T:TypeId} {cs:Array Value} {w w':World} {O O':Nat->Prop} (h:aG c T cs w) (k:aO O O' w w') (hc : ¬ O c):aG c T cs w':=by
 have hl:=h.facts.2.2
 unfold aG at *;rw [k.block c hl hc];exact h
theorem aN.turn {S:Nat->Prop} {w w':World} {O O':Nat->Prop} {zs:List Int} {v:Value} (h:aN S w zs v) (k:aO O O' w w') (hS : ∀ b,S b->b<w.heap.size/\¬ O b):aN S w' zs v:=
 h.mono (fun p hp=>k.cell p (hS _ hp).1 (hS _ hp).2) fun _ h=>h
def SmI (x:Int):Prop:=x.natAbs<=1000
theorem aLu {x:Int} (h:SmI x):(Lit.int .i64 x).wf=true:=by
 unfold SmI at h
 have e1:IntKind.i64.min = -9223372036854775808:=by decide
 have e2:IntKind.i64.max=9223372036854775807:=by decide
 simp [Lit.wf]
 omega
theorem xT:Maps.Keyed Tryz.prog 3:=Maps.int_keyed Tryz.underlying3
theorem xS {x:Int} (h:SmI x):keyOf Tryz.prog 3 (.int .i64 x)=some (.int .i64 x):=Maps.keyOf_int_mk Tryz.underlying3 (aLu h)
def kF (g n:Nat) (f:Int->Bool) (w:World):Prop:= ∃ D:DataW Unit,w.ownsMap Tryz.prog 3 (plainElem Tryz.prog 4) g n D/\∀ x,D.atKey (.int .i64 x) (.lit (.bool false))=.lit (.bool (f x))
theorem kF.kept {g n:Nat} {f:Int->Bool} {w w':World} {row:Option Nat} (h:kF g n f w) (hg:w.grownBy w' row) (hne:some g≠row):kF g n f w':=by
 obtain ⟨D,h1,h2⟩:=h
 exact ⟨D,h1.kept hg hne,h2⟩
theorem kF.keep {g n:Nat} {f:Int->Bool} {w w':World} (h:kF g n f w) (k:aA w w'):kF g n f w':=h.kept (row:=none) ⟨k.os,k.tape,k.output,k.size,fun b hb _=>k.block b hb⟩ (by simp)
theorem tM (w:World):kF w.heap.size 0 (fun _=>false) (w.alloc (.map #[] 0)):=⟨.map [],World.ownsMap_made w _ _ _,fun x=>by simp [DataW.atKey]⟩
theorem yH {v:Value} {z:DataW Unit × List MemPlace} (h:plainElem Tryz.prog 4 v=some z) : ∃ c,v=.bool c/\z=(.lit (.bool c),[]):=by
 unfold plainElem at h
 rw [Tryz.underlying4] at h
 cases v<;>simp at h
 exact ⟨_,rfl,h.symm⟩
theorem kF.look {g n:Nat} {f:Int->Bool} {w:World} {t:TypeId} (h:kF g n f w) (ht:Tryz.prog.underlying t=some (.map 3 4)) {x:Int} (hx:SmI x):(Instr.lookup t (.map (some g)) (.int .i64 x) false).run Tryz.prog w=.ok (.bool (f x)) w:=by
 obtain ⟨D,h1,h2⟩:=h
 obtain ⟨v,ps,hrun,hv⟩:=h1.lookup xT ht (z:= .bool false) (by kernel_rfl) (plainElem_bool Tryz.underlying4 false) (xS hx)
 rw [h2 x] at hv
 obtain ⟨c,rfl,hc⟩:=yH hv
 have e:f x=c:=by simpa using congrArg Prod.fst hc
 rw [hrun,e]
theorem kF.put {g n:Nat} {f:Int->Bool} {w:World} {t:TypeId} (h:kF g n f w) (ht:Tryz.prog.underlying t=some (.map 3 4)) {x:Int} (hx:SmI x) (hl:n<1000000) (b:Bool) : ∃ w',(Instr.mapUpdate t (.map (some g)) (.int .i64 x) (.bool b)).run Tryz.prog w=.ok () w'/\kF g (n+1) (fun y=>if y=x then b else f y) w'/\w.grownBy w' (some g):=by
 obtain ⟨D,h1,h2⟩:=h
 obtain ⟨w',hrun,hown,hgr⟩:=h1.update xT ht (by unfold maxLen;omega) (xS hx) (plainElem_bool Tryz.underlying4 b)
 refine ⟨w',hrun,⟨_,hown,fun y=> ?_⟩,hgr⟩
 by_cases e:y=x
 ·subst e
  rw [Maps.atKey_put_same h1.isMap (by simp [WideAt.IsKeyLit])];simp
 ·rw [Maps.atKey_put_other (by simpa using e),h2 y];simp [e]
theorem bY {w w':World} {row:Option Nat} {o:Obj} (h:(w.alloc o).grownBy w' row):w.grownBy w' row:=
 ⟨h.os,h.tape,h.output,Nat.le_trans (by rw [aC];omega) h.size,fun k hk hn=>(h.block k (by rw [aC];omega) hn).trans (by
  show (w.heap.push _)[k]? = _
  rw [Array.getElem?_push,if_neg (by omega)])⟩
theorem dT (w:World) (c o:Nat) (x:Value) {b:Nat} (h:b≠c):(w.setCell ⟨c,o,none⟩ x).heap[b]? = w.heap[b]? :=Below.heap_setCell _ _ _ _ (fun e=>h e)
theorem lJ (w:World) (c o:Nat) (x:Value) {b o':Nat} (h:b≠c):(w.setCell ⟨c,o,none⟩ x).cell? ⟨b,o',none⟩=w.cell? ⟨b,o',none⟩:=World.cell?_of_block (w:=w) (dT w c o x h)
theorem gV (w:World) (c o:Nat) (x:Value):(w.setCell ⟨c,o,none⟩ x).heap.size=w.heap.size:=by
 have k:Below c w (w.setCell ⟨c,o,none⟩ x):=aX w c o x
 simp
theorem pW {v v':Value} {w:World} {o:Obj} (h:v'.ownBlock=v.ownBlock∨v'.ownBlock=some (w.alloc o).heap.size):v'.ownBlock=v.ownBlock∨∃ g,v'.ownBlock=some g/\w.heap.size<=g:=by
 rcases h with h | h
 ·exact .inl h
 ·exact .inr ⟨_,h,by rw [aC];omega⟩
theorem lU {w:World} {T:TypeId} {v:Value} : ∀ j u,[v][j]? = some u->(w.alloc (.cells #[v] T)).cell? ((⟨w.heap.size,0,none⟩:Addr).add j)=some u:=by
 intro j u h
 cases j with
 | zero=>
  have:v=u:=by simpa using h
  subst this
  simp [Addr.add]
 | succ j=>simp at h
theorem aEo {p:Option Addr} {n c:Nat} (u:Value) (h:u ∈ [Value.slice p n c]):u.oneCell'=true:=by rw [List.mem_singleton.1 h];rfl
theorem aN.nth {S:Nat->Prop} {w:World} {zs:List Int} {p:Option Addr} {n cap:Nat} (h:aN S w zs (.slice p n cap)) {k:Nat} (hk:k<zs.length) : ∃ b off,p=some ⟨b,off,none⟩/\S b/\∀ (j:Nat) (x:Int),zs[j]? = some x->w.cell? ⟨b,off+j,none⟩=some (.int .i64 x):=by
 obtain ⟨p',cap',h1,h2,h3⟩:=h
 cases h1
 exact h3 (by omega)
theorem aN.cellD {S:Nat->Prop} {w:World} {zs:List Int} {p:Option Addr} {n cap:Nat} (h:aN S w zs (.slice p n cap)) {k:Nat} (hk:k<zs.length) : ∃ b off,p=some ⟨b,off,none⟩/\S b/\w.cell? ⟨b,off+k,none⟩=some (.int .i64 zs[k]):=by
 obtain ⟨b,off,h1,h2,h3⟩:=h.nth hk
 exact ⟨b,off,h1,h2,h3 k _ (List.getElem?_eq_getElem hk)⟩
theorem aHi (v:Value) (hv:v.cells=#[v]) (n:Nat):(madeCells v.cells (n*1)).toList=List.replicate n v:=by
 rw [hv,Nat.mul_one]
 apply List.ext_getElem
 ·simp [madeCells]
 ·intro i h1 h2
  simp [madeCells,Nat.mod_one]
theorem nL {w w':World} {B T n:Nat} {v:Value} (hv:v.cells=#[v]) (h:w'.ownsRow B T 1 (.slice (some ⟨w.heap.size,0,none⟩) n n) n (madeCells v.cells (n*1)).toList):aG w.heap.size T (List.replicate n v).toArray w':=by
 obtain ⟨h1,⟨h2,-⟩ | ⟨g,cap,cur,h2,e2,e3,e4,e5,e6,e7⟩⟩:=h
 ·cases h2
 ·cases h2
  unfold aG
  rw [e3]
  rw [aHi v hv,List.take_of_length_le (by simp;omega)] at e7
  rw [← e7]
theorem aLf:(Tryz.prog.info? 153).map (fun i=>(i.zero,i.size,i.bytes))=some (some (.slice none 0 0),1,24):=by kernel_rfl
def InR (x:Int):Prop:= -9223372036854775808<=x/\x<=9223372036854775807
def tF (x vars:Int):Bool:=if x<0 then decide (-(x+1)<vars) else (decide (0<x)&&decide (x<=vars))
def nJ (zs:List Int) (vars:Int):Int:=if zs.all (tF · vars)=true then 0 else 5
def fT (c:List Int) (vars:Int):Int:=if 60<c.length then 2 else nJ c vars
def dR (vars:Int):List (List Int)->Int
 | []=>0
 | c :: r=>if fT c vars=0 then dR vars r else fT c vars
def xD (vars:Int) (F:List (List Int)):Int:=if vars<0 then 3 else if 400<vars then 3 else if 4000<F.length then 2 else dR vars F
theorem xV (x:Int) (n:Nat):tF x n=true↔Lit n x:=by
 unfold tF Lit
 split
 ·rw [decide_eq_true_iff];omega
 ·rw [Bool.and_eq_true,decide_eq_true_iff,decide_eq_true_iff];omega
theorem aAp {zs:List Int} {n:Nat}:nJ zs n=0↔cK n zs:=by
 unfold nJ cK
 split
 ·rename_i h
  simp only [true_iff]
  intro x hx
  exact (xV x n).1 (List.all_eq_true.1 h x hx)
 ·rename_i h
  constructor
  ·intro h2;cases h2
  ·intro h2
   exact absurd (List.all_eq_true.2 fun x hx=>(xV x n).2 (h2 x hx)) h
theorem mY {c:List Int} {n:Nat}:fT c n=0↔c.length<=60/\cK n c:=by
 unfold fT
 split
 ·constructor
  ·intro h;cases h
  ·intro h;omega
 ·rw [aAp]
  exact ⟨fun h=>⟨by omega,h⟩,fun h=>h.2⟩
theorem lY {n:Nat} : ∀ {F:List (List Int)},dR n F=0 ↔ ∀ c∈F,c.length<=60/\cK n c
 | []=>by simp [dR]
 | c :: r=>by
  rw [dR]
  by_cases h:fT c n=0
  ·rw [if_pos h,lY]
   have:=mY.1 h
   simp only [List.mem_cons,forall_eq_or_imp]
   exact ⟨fun h=>⟨this,h⟩,fun h=>h.2⟩
  ·rw [if_neg h]
   constructor
   ·intro h2;exact absurd h2 h
   ·intro h2;exact absurd (mY.2 (h2 c List.mem_cons_self)) h
theorem aAj {n:Nat} {F:List (List Int)} (h1:n<=400) (h2:F.length<=4000) (h3 : ∀ c∈F,c.length<=60/\cK n c):xD n F=0:=by
 unfold xD
 rw [if_neg (by omega),if_neg (by omega),if_neg (by omega)]
 exact lY.2 h3
theorem tE (x vars:Int) (w:World) (hx:InR x):Calls Tryz.prog 170 #[.int .i64 x,.int .i64 vars] w fun e w'=>e=.returned (.bool (tF x vars))/\w'=w:=by
 obtain ⟨h1,h2⟩:=hx
 have HL:=hid (show tF x vars=if x<0 then decide (-(x+1)<vars) else (decide (0<x)&&decide (x<=vars)) from rfl)
 by_cases h:x<0
 ·have HL2:=hid (HL.out.trans (if_pos h))
  go_enter Tryz.func170,Tryz.ntmps170
  go_wp2_with fail
  all_goals
   go_ret
   exact ⟨aI (by rw [HL2.out]),rfl⟩
 ·have HL2:=hid (HL.out.trans (if_neg h))
  by_cases h3:0<x
  ·go_enter Tryz.func170,Tryz.ntmps170
   go_wp2_with fail
   all_goals
    go_ret
    exact ⟨aI (by rw [HL2.out,decide_eq_true h3,Bool.true_and];try rfl),rfl⟩
  ·go_enter Tryz.func170,Tryz.ntmps170
   go_wp2_with fail
   all_goals
    go_ret
    exact ⟨aI (by rw [HL2.out,decide_eq_false (by omega),Bool.false_and];try rfl),rfl⟩
theorem mW (S:Nat->Prop) (zs:List Int) (v:Value) (vars:Int) (w:World) (hS : ∀ b,S b->b<w.heap.size) (hz:aN S w zs v) (hr : ∀ x∈zs,InR x) :
  Calls Tryz.prog 143 #[v,.int .i64 vars] w fun e w'=>e=.returned (.int .i64 (nJ zs vars))/\w'=w:=by
 have HZ:=hid hz
 have HR:=hid hr
 obtain ⟨p,cp,rfl,hmax⟩:=hz.shape
 clear hz hr
 go_enter Tryz.func143,Tryz.ntmps143
 go_wp2_with fail
 go_loopg [9] zs.length (fun gk i wr=> ∃ j:Nat,j+gk=zs.length/\i=.int .i64 j/\(zs.take j).all (tF · vars)=true/\wr=w)
 case atStart=>exact ⟨0,by simp,rfl,by simp,rfl⟩
 case round=>
  obtain ⟨j,hj,rfl,hno,hw⟩:=hrel
  subst hw
  have HNO:=hid hno
  clear hno
  by_cases hlt:j<zs.length
  ·obtain ⟨b,off,rfl,hb,hcell⟩:=HZ.out.cellD hlt
   have HCALL:=hid (tE zs[j] vars wr (HR.out _ (List.getElem_mem hlt)))
   have HST:Hid ((zs.take (j+1)).all (tF · vars)=tF zs[j] vars):=by
    show _=_
    rw [List.take_succ_eq_append_getElem hlt,List.all_append,HNO.out];simp
   have HUP:Hid (tF zs[j] vars=false->nJ zs vars=5):=fun h=>by
    unfold nJ
    rw [if_neg]
    intro h2
    have:=List.all_eq_true.1 h2 _ (List.getElem_mem hlt)
    rw [h] at this;cases this
   have hbl:=hS b hb
   generalize zs[j]=x at HCALL HST HUP hcell
   generalize tF x vars=β at HCALL HST HUP
   clear HNO
   go_wp2_with fail
   refine HCALL.out.mono ?_
   rintro e w1 ⟨rfl,hw1⟩
   rw [hw1]
   clear hw1 HCALL
   cases β
   ·go_wp2_with fail
    go_ret
    exact ⟨aD (HUP.out trivial).symm,rfl⟩
   ·go_wp2_with fail
    go_roundg (zs.length-(j+1))
    case rel=>exact ⟨j+1,by omega,by go_num,HST.out,rfl⟩
    case measure=>omega
  ·obtain rfl:j=zs.length:=by omega
   go_wp2_with fail
   go_ret
   have:=HNO.out
   rw [List.take_length] at this
   exact ⟨aD (by unfold nJ;rw [if_pos this]),rfl⟩
theorem pL (S:Nat->Prop) (c:List Int) (v:Value) (vars:Int) (w:World) (hS : ∀ b,S b->b<w.heap.size) (hz:aN S w c v) (hr : ∀ x∈c,InR x) :
  Calls Tryz.prog 100 #[v,.int .i64 vars] w fun e w'=>e=.returned (.int .i64 (fT c vars))/\w'=w:=by
 have HC:=hid (mW S c v vars w hS hz hr)
 have HE:=hid (show fT c vars=if 60<c.length then 2 else nJ c vars from rfl)
 obtain ⟨p,cp,rfl,hmax⟩:=hz.shape
 clear hz hr
 by_cases h:60<c.length
 ·have h':(60:Int)<c.length:=by omega
  go_enter Tryz.func100,Tryz.ntmps100
  go_wp2_with fail
  go_ret
  exact ⟨aD (HE.out.trans (if_pos h)).symm,rfl⟩
 ·have h' : ¬ (60:Int)<c.length:=by omega
  go_enter Tryz.func100,Tryz.ntmps100
  go_wp2_with fail
  refine HC.out.mono ?_
  rintro e w1 ⟨rfl,hw1⟩
  rw [hw1]
  clear hw1
  have HE2:=hid (HE.out.trans (if_neg h))
  generalize nJ c vars=r at HE2 ⊢
  go_wp2_with fail
  go_ret
  exact ⟨aD HE2.out.symm,rfl⟩
structure uU (S:Nat->Prop) (w:World) (vars:Int) (F:List (List Int)) (p:Option Addr) (cap:Nat):Prop where
 row:iE S w F (.slice p F.length cap)
 num : ∀ c∈F,∀ x∈c,InR x
theorem uU.keep {S:Nat->Prop} {B:Nat} {w w':World} {vars:Int} {F:List (List Int)} {p:Option Addr} {cap:Nat} (h:uU S w vars F p cap) (hS : ∀ b,S b->b<B) (k:Below B w w'):uU S w' vars F p cap:=⟨h.row.keep hS k,h.num⟩
theorem sW {vars:Int} {F:List (List Int)} {j:Nat} (h:j<F.length):dR vars (F.drop j)=if fT F[j] vars=0 then dR vars (F.drop (j+1)) else fT F[j] vars:=by
 rw [List.drop_eq_getElem_cons h,dR]
theorem tB (S:Nat->Prop) (vars:Int) (F:List (List Int)) (p:Option Addr) (cap:Nat) (w:World) (hS : ∀ b,S b->b<w.heap.size) (hf:uU S w vars F p cap) :
  Calls Tryz.prog 41 #[.agg #[.int .i64 vars,.slice p F.length cap]] w fun e w'=>e=.returned (.int .i64 (xD vars F))/\w'=w.alloc (.cells #[.int .i64 vars,.slice p F.length cap] 79):=by
 have HF:=hid hf
 obtain ⟨_,_,hpp,hmax⟩:=hf.row.len
 clear hpp
 have HE:=hid (show xD vars F=if vars<0 then 3 else if 400<vars then 3 else if 4000<F.length then 2 else dR vars F from rfl)
 clear hf
 have B0:=aG.new w 79 #[.int .i64 vars,.slice p F.length cap]
 have K0:=hid (aA.alloc w (.cells #[.int .i64 vars,.slice p F.length cap] 79))
 obtain ⟨hc0,-,hl0⟩:=B0.facts
 by_cases h1:vars<0
 ·go_enter Tryz.func41,Tryz.ntmps41
  go_wp2_with fail
  go_ret
  exact ⟨aD (HE.out.trans (if_pos h1)).symm,rfl⟩
 ·by_cases h2:400<vars
  ·go_enter Tryz.func41,Tryz.ntmps41
   go_wp2_with fail
   go_ret
   exact ⟨aD (HE.out.trans ((if_neg (by omega)).trans (if_pos h2))).symm,rfl⟩
  ·by_cases h3:4000<F.length
   ·have h3':(4000:Int)<F.length:=by omega
    go_enter Tryz.func41,Tryz.ntmps41
    go_wp2_with fail
    go_ret
    exact ⟨aD (HE.out.trans ((if_neg (by omega)).trans ((if_neg (by omega)).trans (if_pos h3)))).symm,rfl⟩
   ·have h3' : ¬ (4000:Int)<F.length:=by omega
    have HE2:=hid (HE.out.trans ((if_neg h1).trans ((if_neg h2).trans (if_neg h3))))
    go_enter Tryz.func41,Tryz.ntmps41
    go_wp2_with fail
    generalize hWe:w.alloc (.cells #[.int .i64 vars,.slice p F.length cap] 79)=W at hc0 hl0 K0 ⊢
    have HW:=hid hWe
    clear hWe
    go_loopg [21] F.length (fun gk i wr=> ∃ j:Nat,j+gk=F.length/\i=.int .i64 j/\dR vars (F.drop j)=dR vars F/\wr=W)
    case atStart=>exact ⟨0,by simp,rfl,by simp,rfl⟩
    case round=>
     obtain ⟨j,hj,rfl,hno,hw⟩:=hrel
     subst hw
     have HNO:=hid hno
     clear hno
     by_cases hlt:j<F.length
     ·obtain ⟨b,off,cap',cp',cc',hv,hb,-,hcell,hnum,-⟩:=((HF.out.keep hS K0.out).row).get hlt
      cases hv
      have HCALL:=hid (pL S F[j] _ vars wr (fun b hb=>Nat.lt_of_lt_of_le (hS b hb) K0.out.size) hnum (HF.out.num _ (List.getElem_mem hlt)))
      have HST:=hid (HNO.out.symm.trans (sW (vars:=vars) hlt))
      have hbl:=Nat.lt_of_lt_of_le (hS b hb) K0.out.size
      clear hnum
      generalize F[j]=c at HCALL HST hcell
      generalize fT c vars=r at HCALL HST
      have hc1:=hc0 0
      have hc2:=hc0 1
      go_wp2_with fail
      refine HCALL.out.mono ?_
      rintro e w1 ⟨rfl,hw1⟩
      rw [hw1]
      clear hw1 HCALL
      by_cases hr:r=0
      ·have hr':(r != 0)=false:=by simp [hr]
       have HST2:=hid (HST.out.trans (if_pos hr))
       clear hr
       go_wp2_with fail
       go_roundg (F.length-(j+1))
       case rel=>exact ⟨j+1,by omega,by go_num,HST2.out.symm,rfl⟩
       case measure=>omega
      ·have hr':(r != 0)=true:=by simp [hr]
       have HST2:=hid (HST.out.trans (if_neg hr))
       clear hr
       go_wp2_with fail
       go_ret
       exact ⟨aD (by rw [HE2.out,HST2.out]),HW.out.symm⟩
     ·obtain rfl:j=F.length:=by omega
      go_wp2_with fail
      go_ret
      have:=HNO.out
      rw [List.drop_length,dR] at this
      exact ⟨aD (by rw [HE2.out,← this]),HW.out.symm⟩
end Go.Proofs.YthaaaecmeafofaaGreatDoor.Cn
namespace Go.Proofs.YthaaaecmeafofaaGreatDoor.Cn
open Go.RowKit Go.Lib Go.Sort
theorem uF {S:Nat->Prop} {w:World} {zs:List Int} {ad:Addr} {n cap:Nat} (h:aN S w zs (.slice (some ad) n cap)) (o:Obj) (hS : ∀ b,S b->b<w.heap.size) : ∀ j u,(zs.map (Value.int .i64))[j]? = some u->(w.alloc o).cell? (ad.add j)=some u:=by
 intro j u hu
 rw [List.getElem?_map,Option.map_eq_some_iff] at hu
 obtain ⟨z,hz,rfl⟩:=hu
 obtain ⟨b,off,hp,hb,hc⟩:=h.nth (List.getElem?_eq_some_iff.1 hz).1
 have had:=Option.some.inj hp
 subst had
 rw [Addr.add_mid]
 exact ((aA.alloc w o).cell (p:=⟨b,off+j,none⟩) (hS b hb)).trans (hc j z hz)
theorem zU (S:Nat->Prop) (zs:List Int) (p:Option Addr) (cap:Nat) (w:World) (hS : ∀ b,S b->b<w.heap.size) (hz:aN S w zs (.slice p zs.length cap)) (hb:zs.length*8<=140737488355328) :
  Calls Tryz.prog 74 #[.slice p zs.length cap] w fun e w'=> ∃ v,e=.returned v/\bG w.heap.size v zs w'/\aA w w':=by
 obtain ⟨i0,hi,hz0,hz1,hz2⟩:=info_parts fV
 have q22 : ∀ (w:World) (a:Option Addr) (n c n' c':Nat),(binOp .eql 37 (.slice a n c) (.slice none n' c')).run Tryz.prog w=.ok (.bool a.isNone) w:=fun w a n c n' c'=>Lib.run_eql_slice_nil w _ _ a n c n' c' Tryz.underlying37
 have HZ:=hid hz
 cases p with
 | none=>
  have h0:zs = []:=List.length_eq_zero_iff.1 (Decidable.byContradiction fun hne=>by
   obtain ⟨b,off,hp,-⟩:=hz.nth (k:=0) (by omega)
   cases hp)
  subst h0
  clear hz
  go_enter Tryz.func74,Tryz.ntmps74
  go_wp2_with fail
  go_ret
  exact ⟨_,rfl,World.ownsRow_nil _ _ _ _,aA.refl _⟩
 | some ad=>
  obtain ⟨vs,hvs⟩ : ∃ vs,vs=zs.map (Value.int .i64):=⟨_,rfl⟩
  have HVL:=hid (show vs.length=zs.length by rw [hvs];simp)
  have HNW:=hid (show ∀ j u,vs[j]? = some u->(w.alloc (.cells #[] 3)).cell? (ad.add j)=some u by rw [hvs];exact uF HZ.out _ hS)
  have HONE:=hid (show ∀ u∈vs,u.oneCell'=true by rw [hvs];intro u hu;obtain ⟨z,-,rfl⟩:=List.mem_map.1 hu;rfl)
  have HVS:=hid hvs
  clear hvs
  clear hz
  go_enter Tryz.func74,Tryz.ntmps74
  go_wp2_with (at_builtin;refine wpList_append_own_at _ rfl _ _ 37 rfl w.heap.size 3 i0 (.int .i64 0) 1 8 Tryz.underlying37 hi hz0 hz1 hz2 rfl (by decide) (.slice (some ⟨w.heap.size,0,none⟩) 0 0) 0 [] rfl (World.ownsRow_made w #[] 0 (Nat.le_refl _) (Nat.zero_le _) rfl) ad zs.length cap vs rfl (by rw [HVL.out,Nat.mul_one]) HNW.out HONE.out (by unfold maxLen;omega) (by omega) (by rw [aC];omega) ?_;intro v5 w5 h1 h2 _ _)
  have k5:aA w w5:=Below.grown ((Below.refl w.heap.size w).alloc (Nat.le_refl _) _) h2 (by rw [aC];omega) (fun g hg=>by cases hg;exact Nat.le_refl _)
  go_ret
  refine ⟨_,rfl,?_,k5⟩
  rw [Nat.zero_add,List.nil_append] at h1
  rw [HVS.out] at h1
  exact h1
end Go.Proofs.YthaaaecmeafofaaGreatDoor.Cn
