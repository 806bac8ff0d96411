/- Steps of the proof: EncChoice, CnfBase, CnfSpec. -/
import Derived.Test.YthaaaecmeafofaaGreatDoorRows
import Derived.BigQuiet
import Derived.BigRegion
import Derived.Deep.Cut
import Derived.Deep.CutRange
import Derived.Deep.LoopGhost
import Derived.Deep.MidRow
import Derived.Deep.RegionLaw
import Derived.Deep.RegionHeld3
import Derived.Laws.RangeAny
import Derived.Laws.EntriesVeiled
import Derived.Laws.AppendOwnNone
import Derived.Lib.OthersKept
import Derived.Lib.QuietBelow
import Derived.Maps.AppendAt
import Derived.ProofKit
import Derived.RegionTactic
import Derived.Sort.Grow
import Derived.WalkKit
import Derived.WalkLawsBesides
import Derived.WalkMore
import Derived.WalkSmall
set_option maxHeartbeats 16000000
set_option maxRecDepth 100000
namespace Go.Proofs.YthaaaecmeafofaaGreatDoor.Cn
structure CT where
 nf:List Nat
 ins:List Nat
 on:Nat->Nat->Bool
structure CT.Ok (c:CT):Prop where
 up:c.ins.Pairwise (· < ·)
 lt : ∀ i∈c.ins,i<c.nf.length
def CT.order (c:CT):List Nat:=c.ins++(List.range c.nf.length).filter fun i=> !c.ins.contains i
def CT.base (c:CT) (i:Nat):Nat:=c.nf.length+(c.nf.take i).sum
def CT.many (c:CT):Nat:=c.nf.length+c.nf.sum
def CT.takes (c:CT) (m:List Bool) (i:Nat):Bool:=m.getD (c.order.idxOf i) false != c.ins.contains i
def CT.flags (c:CT) (m:List Bool) (i:Nat):List Bool:=(List.range (c.nf.getD i 0)).map fun k=>m.getD (c.base i+k) false != c.on i k
def CT.set (c:CT) (m:List Bool):List (Nat × List Bool):=(List.range c.nf.length).filterMap fun i=>if c.takes m i then some (i,c.flags m i) else none
structure CT.IsSet (c:CT) (l:List (Nat × List Bool)):Prop where
 up:l.Pairwise fun a b=>a.1<b.1
 lt : ∀ a∈l,a.1<c.nf.length
 fl : ∀ a∈l,a.2.length=c.nf.getD a.1 0
def uC (l:List (Nat × List Bool)) (i:Nat):Bool:=l.any fun a=>a.1==i
def oK (l:List (Nat × List Bool)) (c:CT) (i k:Nat):Bool:=match l.find? fun a=>a.1==i with
 | some a=>a.2.getD k false != c.on i k
 | none=>false
def CT.mod (c:CT) (l:List (Nat × List Bool)):List Bool:=(c.order.map fun i=>uC l i != c.ins.contains i)++(List.range c.nf.length).flatMap fun i=>(List.range (c.nf.getD i 0)).map fun k=>oK l c i k
theorem CT.order_mem {c:CT} (h:c.Ok) (i:Nat):i∈c.order↔i<c.nf.length:=by
 unfold CT.order
 rw [List.mem_append,List.mem_filter,List.mem_range]
 constructor
 ·rintro (h1 | h1)
  ·exact h.lt i h1
  ·exact h1.1
 ·intro h1
  by_cases h2:i∈c.ins
  ·exact .inl h2
  ·exact .inr ⟨h1,by simp [h2]⟩
theorem vA {l:List Nat} (h:l.Pairwise (· < ·)):l.Nodup:=by
 rw [List.nodup_iff_pairwise_ne]
 exact h.imp fun hab=>Nat.ne_of_lt hab
theorem CT.order_nodup {c:CT} (h:c.Ok):c.order.Nodup:=by
 unfold CT.order
 rw [List.nodup_append]
 refine ⟨vA h.up,vA (List.Pairwise.filter _ (List.pairwise_lt_range ..)),fun a ha b hb e=> ?_⟩
 subst e
 have:=(List.mem_filter.1 hb).2
 simp [ha] at this
theorem CT.order_len {c:CT} (h:c.Ok):c.order.length=c.nf.length:=by
 have h1:c.order.Perm (List.range c.nf.length):=(List.perm_ext_iff_of_nodup (CT.order_nodup h) List.nodup_range).2 fun i=>by rw [CT.order_mem h,List.mem_range]
 rw [h1.length_eq,List.length_range]
theorem yY {l:List Nat} {i:Nat} (h:i∈l):l[l.idxOf i]? = some i:=by
 have h1:=List.idxOf_lt_length_iff.2 h
 rw [List.getElem?_eq_getElem h1,List.getElem_idxOf]
theorem pA {l:List Nat} (hn:l.Nodup) {v i:Nat} (h:l[v]? = some i):l.idxOf i=v:=by
 obtain ⟨hv,e⟩:=List.getElem?_eq_some_iff.1 h
 have hm:i∈l:=List.mem_of_getElem? h
 have h1:=List.idxOf_lt_length_iff.2 hm
 have h2:l[l.idxOf i]=l[v]:=by rw [List.getElem_idxOf,e]
 rw [List.nodup_iff_pairwise_ne,List.pairwise_iff_getElem] at hn
 rcases Nat.lt_trichotomy (l.idxOf i) v with h3 | h3 | h3
 ·exact absurd h2 (hn _ _ h1 hv h3)
 ·exact h3
 ·exact absurd h2.symm (hn _ _ hv h1 h3)
theorem aFe {nf:List Nat} {g:Nat->List Bool} (hg : ∀ i<nf.length,(g i).length=nf.getD i 0) : ∀ i,i<=nf.length->((List.range i).flatMap g).length=(nf.take i).sum
 | 0,_=>by simp
 | i+1,h=>by
  rw [List.range_succ,List.flatMap_append,List.length_append,aFe hg i (by omega),List.take_succ_eq_append_getElem (by omega),List.sum_append]
  simp [hg i (by omega),List.getD_eq_getElem?_getD,List.getElem?_eq_getElem (show i<nf.length by omega)]
theorem aRw {nf:List Nat} {g:Nat->List Bool} (hg : ∀ i<nf.length,(g i).length=nf.getD i 0) {i k:Nat} (hi:i<nf.length) (hk:k<nf.getD i 0):((List.range nf.length).flatMap g).getD ((nf.take i).sum+k) false=(g i).getD k false:=by
 have hsp:List.range nf.length=List.range i++(i :: List.range' (i+1) (nf.length-i-1)):=by
  rw [List.range_eq_range',List.range_eq_range',← List.range'_succ,show nf.length-i-1+1=nf.length-i by omega]
  have:= @List.range'_append_1 0 i (nf.length-i)
  rw [Nat.zero_add,show i+(nf.length-i)=nf.length by omega] at this
  exact this.symm
 have hl:=aFe hg i (by omega)
 rw [hsp,List.flatMap_append,List.flatMap_cons,List.getD_eq_getElem?_getD,List.getD_eq_getElem?_getD,List.getElem?_append_right (by omega),hl,Nat.add_sub_cancel_left,List.getElem?_append_left (by rw [hg i hi];exact hk)]
theorem oF : ∀ {nf:List Nat} {v:Nat},v<nf.sum->∃ i k,i<nf.length/\k<nf.getD i 0/\v=(nf.take i).sum+k
 | [],v,h=>by simp at h
 | a :: nf,v,h=>by
  by_cases hv:v<a
  ·exact ⟨0,v,by simp,by simpa using hv,by simp⟩
  ·obtain ⟨i,k,h1,h2,h3⟩:=oF (nf:=nf) (v:=v-a) (by simp at h;omega)
   exact ⟨i+1,k,by simp;omega,by simpa using h2,by simp;omega⟩
theorem CT.mod_take {c:CT} (_:c.Ok) (l:List (Nat × List Bool)) {v i:Nat} (hv:c.order[v]? = some i):(c.mod l).getD v false=(uC l i != c.ins.contains i):=by
 have hl:=(List.getElem?_eq_some_iff.1 hv).1
 unfold CT.mod
 rw [List.getD_eq_getElem?_getD,List.getElem?_append_left (by simpa using hl),List.getElem?_map,hv]
 rfl
theorem CT.mod_flag {c:CT} (h:c.Ok) (l:List (Nat × List Bool)) {i k:Nat} (hi:i<c.nf.length) (hk:k<c.nf.getD i 0):(c.mod l).getD (c.base i+k) false=oK l c i k:=by
 unfold CT.mod CT.base
 have ho:(c.order.map fun i=>uC l i != c.ins.contains i).length=c.nf.length:=by rw [List.length_map,CT.order_len h]
 have hf:=aRw (nf:=c.nf) (g:=fun i=>(List.range (c.nf.getD i 0)).map fun k=>oK l c i k) (fun i _=>by simp) hi hk
 rw [List.getD_eq_getElem?_getD,List.getElem?_append_right (by rw [ho];omega),ho,Nat.add_assoc,Nat.add_sub_cancel_left,← List.getD_eq_getElem?_getD,hf,List.getD_eq_getElem?_getD,List.getElem?_map,List.getElem?_range hk]
 rfl
theorem CT.mod_len {c:CT} (h:c.Ok) (l:List (Nat × List Bool)):(c.mod l).length=c.many:=by
 unfold CT.mod CT.many
 have hf:=aFe (nf:=c.nf) (g:=fun i=>(List.range (c.nf.getD i 0)).map fun k=>oK l c i k) (fun i _=>by simp) c.nf.length (Nat.le_refl _)
 rw [List.length_append,List.length_map,CT.order_len h,hf,List.take_length]
theorem aIo : ∀ {l:List (Nat × List Bool)} {a:Nat × List Bool},(l.Pairwise fun a b=>a.1<b.1)->a∈l->l.find? (fun b=>b.1==a.1)=some a
 | [],_,_,h=>by simp at h
 | b :: l,a,hp,h=>by
  obtain ⟨h1,h2⟩:=List.pairwise_cons.1 hp
  rcases List.mem_cons.1 h with rfl | h
  ·simp
  ·have:=h1 a h
   rw [List.find?_cons_of_neg (by simp;omega)]
   exact aIo h2 h
theorem aQz {l l':List (Nat × List Bool)} (hp:l.Pairwise fun a b=>a.1<b.1) (hp':l'.Pairwise fun a b=>a.1<b.1) (h : ∀ a,a∈l↔a∈l'):l=l':=by
 induction l generalizing l' with
 | nil=>
  cases l' with
  | nil=>rfl
  | cons b l'=>exact absurd ((h b).2 List.mem_cons_self) (by simp)
 | cons a l ih=>
  cases l' with
  | nil=>exact absurd ((h a).1 List.mem_cons_self) (by simp)
  | cons b l'=>
   obtain ⟨h1,h2⟩:=List.pairwise_cons.1 hp
   obtain ⟨h3,h4⟩:=List.pairwise_cons.1 hp'
   have hab:a=b:=by
    rcases List.mem_cons.1 ((h a).1 List.mem_cons_self) with e | e
    ·exact e
    ·rcases List.mem_cons.1 ((h b).2 List.mem_cons_self) with e' | e'
     ·exact e'.symm
     ·have:=h3 a e;have:=h1 b e';omega
   subst hab
   rw [ih h2 h4 fun x=>⟨fun hx=> ?_,fun hx=> ?_⟩]
   ·rcases List.mem_cons.1 ((h x).1 (List.mem_cons_of_mem _ hx)) with e | e
    ·subst e;exact absurd (h1 x hx) (Nat.lt_irrefl _)
    ·exact e
   ·rcases List.mem_cons.1 ((h x).2 (List.mem_cons_of_mem _ hx)) with e | e
    ·subst e;exact absurd (h3 x hx) (Nat.lt_irrefl _)
    ·exact e
theorem CT.mem_set {c:CT} {m:List Bool} {a:Nat × List Bool}:a∈c.set m↔a.1<c.nf.length/\c.takes m a.1=true/\a.2=c.flags m a.1:=by
 unfold CT.set
 rw [List.mem_filterMap]
 constructor
 ·rintro ⟨i,hi,h⟩
  split at h
  ·rename_i ht
   have h:=Option.some.inj h
   subst h
   exact ⟨List.mem_range.1 hi,ht,rfl⟩
  ·cases h
 ·rintro ⟨h1,h2,h3⟩
  exact ⟨a.1,List.mem_range.2 h1,by rw [if_pos h2,← h3]⟩
theorem CT.set_up (c:CT) (m:List Bool):(c.set m).Pairwise fun a b=>a.1<b.1:=by
 unfold CT.set
 rw [List.pairwise_filterMap]
 refine (List.pairwise_lt_range (n:=c.nf.length)).imp fun {i j} hij a ha b hb=> ?_
 split at ha<;>split at hb<;>cases ha<;>cases hb
 exact hij
theorem CT.set_is (c:CT) (m:List Bool):c.IsSet (c.set m):=by
 refine ⟨c.set_up m,fun a ha=>(CT.mem_set.1 ha).1,fun a ha=> ?_⟩
 rw [(CT.mem_set.1 ha).2.2]
 simp [CT.flags]
theorem qA {l:List (Nat × List Bool)} {i:Nat}:uC l i=true ↔ ∃ a∈l,a.1=i:=by
 unfold uC
 rw [List.any_eq_true]
 simp
theorem CT.mod_takes {c:CT} (h:c.Ok) {l:List (Nat × List Bool)} {i:Nat} (hi:i<c.nf.length):c.takes (c.mod l) i=uC l i:=by
 unfold CT.takes
 rw [CT.mod_take h l (yY ((CT.order_mem h i).2 hi))]
 cases uC l i<;>cases c.ins.contains i<;>rfl
theorem CT.mod_flags {c:CT} (h:c.Ok) {l:List (Nat × List Bool)} (hl:c.IsSet l) {a:Nat × List Bool} (ha:a∈l):c.flags (c.mod l) a.1=a.2:=by
 unfold CT.flags
 refine List.ext_getElem (by simp [hl.fl a ha]) fun k h1 h2=> ?_
 have hk:k<c.nf.getD a.1 0:=by simpa using h1
 rw [List.getElem_map,List.getElem_range,CT.mod_flag h l (hl.lt a ha) hk]
 unfold oK
 rw [aIo hl.up ha]
 simp only [List.getD_eq_getElem?_getD,List.getElem?_eq_getElem h2,Option.getD_some]
 cases a.2[k]<;>cases c.on a.1 k<;>rfl
theorem CT.set_mod {c:CT} (h:c.Ok) {l:List (Nat × List Bool)} (hl:c.IsSet l):c.set (c.mod l)=l:=by
 refine aQz (c.set_up _) hl.up fun a=> ?_
 rw [CT.mem_set]
 constructor
 ·rintro ⟨h1,h2,h3⟩
  rw [CT.mod_takes h h1] at h2
  obtain ⟨b,hb,e⟩:=qA.1 h2
  have h4:=CT.mod_flags h hl hb
  have:a=b:=Prod.ext e.symm (by rw [h3,← e,h4])
  rw [this];exact hb
 ·intro ha
  exact ⟨hl.lt a ha,by rw [CT.mod_takes h (hl.lt a ha)];exact qA.2 ⟨a,ha,rfl⟩,(CT.mod_flags h hl ha).symm⟩
theorem CT.set_inj {c:CT} (h:c.Ok) {m m':List Bool} (e:c.set m=c.set m'):(∀ v<c.nf.length,m.getD v false=m'.getD v false)/\∀ i<c.nf.length,c.takes m i=true->∀ k<c.nf.getD i 0,m.getD (c.base i+k) false=m'.getD (c.base i+k) false:=by
 have ht : ∀ i<c.nf.length,c.takes m i=c.takes m' i:=fun i hi=>by
  cases h1:c.takes m i with
  | true=>
   have:(i,c.flags m i)∈c.set m':=e ▸ CT.mem_set.2 ⟨hi,h1,rfl⟩
   exact (CT.mem_set.1 this).2.1.symm
  | false=>
   cases h2:c.takes m' i with
   | false=>rfl
   | true=>
    have:(i,c.flags m' i)∈c.set m:=e ▸ CT.mem_set.2 ⟨hi,h2,rfl⟩
    have h3:c.takes m i=true:=(CT.mem_set.1 this).2.1
    rw [h1] at h3;cases h3
 refine ⟨fun v hv=> ?_,fun i hi hti k hk=> ?_⟩
 ·have hvo:v<c.order.length:=by rw [CT.order_len h];exact hv
  have hg:c.order[v]? = some c.order[v]:=List.getElem?_eq_getElem hvo
  have hx:=pA (CT.order_nodup h) hg
  have:=ht c.order[v] ((CT.order_mem h _).1 (List.getElem_mem hvo))
  unfold CT.takes at this
  rw [hx] at this
  revert this
  cases m.getD v false<;>cases m'.getD v false<;>cases c.ins.contains c.order[v]<;>simp
 ·have:(i,c.flags m i)∈c.set m':=e ▸ CT.mem_set.2 ⟨hi,hti,rfl⟩
  have h3:c.flags m i=c.flags m' i:=(CT.mem_set.1 this).2.2
  have h4:(c.flags m i)[k]? = (c.flags m' i)[k]? :=by rw [h3]
  unfold CT.flags at h4
  simp only [List.getElem?_map,List.getElem?_range hk,Option.map_some] at h4
  have h4:=Option.some.inj h4
  revert h4
  cases m.getD (c.base i+k) false<;>cases m'.getD (c.base i+k) false<;>cases c.on i k<;>simp
end Go.Proofs.YthaaaecmeafofaaGreatDoor.Cn
namespace Go.Proofs.YthaaaecmeafofaaGreatDoor.Cn
open Go.RowKit Go.Lib
theorem hid {p:Prop} (h:p):Hid p:=h
theorem aK {a b:Bool} (h:a=b):Ending.returned (.bool a)=.returned (.bool b):=by rw [h]
theorem aJ {k:IntKind} {a b:Int} (h:a=b):Ending.returned (.int k a)=.returned (.int k b):=by rw [h]
def aA (w w':World):Prop:=Below w.heap.size w w'
theorem aA.refl (w:World):aA w w:=Below.refl _ _
theorem aA.trans {a b c:World} (h:aA a b) (k:aA b c):aA a c:=Below.trans h (Below.mono k h.size)
theorem aA.alloc (w:World) (o:Obj):aA w (w.alloc o):=(Below.refl _ _).alloc (Nat.le_refl _) _
theorem aA.alloc' {a w:World} (h:aA a w) (o:Obj):aA a (w.alloc o):=h.trans (aA.alloc w o)
theorem aA.drew {a w:World} (h:aA a w):aA a w.drew:=Below.drew h
theorem aA.drewN {a w:World} (h:aA a w) : ∀ n,aA a (w.drewN n)
 | 0=>h
 | n+1=>by rw [World.drewN];exact aA.drew (aA.drewN h n)
theorem aA.size {w w':World} (h:aA w w'):w.heap.size<=w'.heap.size:=Below.size h
theorem aA.cells {W w1:World} (hb:aA W w1):(∀ b o,b<W.heap.size->w1.cell? ⟨b,o,none⟩=W.cell? ⟨b,o,none⟩)/\(∀ b o,b<W.heap.size->w1.frozen? ⟨b,o,none⟩=W.frozen? ⟨b,o,none⟩):=
 ⟨fun b o h=>Below.cell hb (p:=⟨b,o,none⟩) h,fun b o h=>Below.frozen hb (p:=⟨b,o,none⟩) h⟩
theorem aG {b:Nat} {cs:Array Value} {T:TypeId} {w:World} (h:w.heap[b]? = some (.cells cs T (0,0))) (i:Nat) (x:Value):(w.setCell ⟨b,i,none⟩ x).heap[b]? = some (.cells (cs.setIfInBounds i x) T (0,0)):=by
 simp [World.setCell,Array.getElem?_modify,h]
theorem aM (w:World) (b i:Nat) (x:Value):Below b w (w.setCell ⟨b,i,none⟩ x):=(Below.refl _ _).setCell (p:=⟨b,i,none⟩) (Nat.le_refl _) x
def aE (c:Nat) (T:TypeId) (v:Value) (w:World):Prop:=w.heap[c]? = some (.cells #[v] T (0,0))
theorem aE.facts {c:Nat} {T:TypeId} {v:Value} {w:World} (h:aE c T v w):w.cell? ⟨c,0,none⟩=some v/\w.frozen? ⟨c,0,none⟩=false/\c<w.heap.size:=by
 unfold aE at h
 refine ⟨by simp [World.cell?,h],by simp [World.frozen?,h],(Array.getElem?_eq_some_iff.1 h).1⟩
theorem aE.set {c:Nat} {T:TypeId} {v:Value} {w:World} (h:aE c T v w) (x:Value):aE c T x (w.setCell ⟨c,0,none⟩ x):=by
 have:=aG h 0 x
 unfold aE
 rw [this];rfl
theorem aE.keep {c B:Nat} {T:TypeId} {v:Value} {w w':World} (h:aE c T v w) (k:Below B w w') (hB:c<B):aE c T v w':=by
 unfold aE at *;rw [k.block c hB];exact h
theorem aE.new (w:World) (T:TypeId) (v:Value):aE w.heap.size T v (w.alloc (.cells #[v] T)):=by
 show (w.heap.push _)[w.heap.size]? = _
 rw [Array.getElem?_push,if_pos rfl]
theorem aC (w:World) (o:Obj):(w.alloc o).heap.size=w.heap.size+1:=by simp
theorem aX {P:Program} {F:FuncId} {args:Array Value} {W:World} {Q:Ending->World->Prop} (R:World->Prop) (hR:R W) (h : ∀ W',R W'->Calls P F args W' Q):Calls P F args W Q:=h W hR
theorem bF {P:Program} {c:Code} {Q:Exit->Act->World->Prop} {a:Act} {W:World} (R:World->Prop) (hR:R W) (h : ∀ W',R W'->c.wp P Q a W'):c.wp P Q a W:=h W hR
theorem tkN {P:Program} {ops:Array Oper} {Q:Exit->Act->World->Prop} {md:Region.Mode} {S:World->Prop} (i:Nat) {oi:Oper} {v:Value} {fuel:Nat} {listed:Array Bool} {a:Act} {w:World} (hy : ∀ w,S w->(execOp a.eval oi).run P w=.ok (.value v) w)
  (h:wpAnyH P md ops Q S fuel (listed.setIfInBounds i true) (a.put oi.dst v) w) (hi:ops[i]? = some oi:=by rfl) (hs:Region.noSelect ops=true:=by kernel_rfl) (hf:Region.free md ops listed i=true:=by kernel_rfl) (hr:(Region.ready md ops listed).contains i=true:=by kernel_rfl)
  (hQ : ∀ c a w,Q (.panic c) (a.put oi.dst v) w->Q (.panic c) a w:=by exact fun _ _ _ h=>h) (hw:Region.wanted oi (yielded ops a.tmps)=true:=by rfl) (hS:S w:=by assumption):wpAnyH P md ops Q S (fuel+1) listed a w:=
 wpAnyH_take hi hs hf hr hQ (.inl ⟨hw,hy⟩) hS h
theorem acP:(∀ (a:Act) (d:Tmp) (v:Value),a.put (some d) v = { a with tmps:=a.tmps.setIfInBounds d v })/\(∀ (a:Act) (v:Value),a.put none v=a)/\(∀ {α:Type} (l:List α) (i:Nat) (v:α),l.toArray.setIfInBounds i v=(l.set i v).toArray)/\(∀ {α:Type} (x:α) (xs:List α) (v:α),(x :: xs).set 0 v=v :: xs)/\(∀ {α:Type} (x:α) (xs:List α) (n:Nat) (v:α),(x :: xs).set (n+1) v=x :: xs.set n v)/\(∀ {α:Type} (l:List α) (i:Nat) (h:i<l.toArray.size),l.toArray[i]=l[i]'(by simpa using h))/\(∀ {α:Type} (x:α) (xs:List α) (h:0<(x :: xs).length),(x :: xs)[0]=x)/\(∀ {α:Type} (x:α) (xs:List α) (n:Nat) (h:n+1<(x :: xs).length),(x :: xs)[n+1]=xs[n]'(by simpa using h)):=by
 refine ⟨fun _ _ _=>rfl,fun _ _=>rfl,fun _ _ _=>by simp,fun _ _ _=>rfl,fun _ _ _ _=>rfl,fun _ _ _=>by simp,fun _ _ _=>rfl,fun _ _ _ _=>rfl⟩
theorem bG {S:Nat->Prop} {B:Nat} {w w':World} (hS : ∀ b,S b->b<B) (k:Below B w w') : ∀ p:Addr,S p.block->w'.cell? p=w.cell? p:=
 fun p hp=>k.cell (p:=p) (hS _ hp)
theorem cV {B e sz n:Nat} {v:Value} {xs:List Value} {w:World} (h:w.ownsRow B e sz v n xs) {g:Nat} (hg:v.ownBlock=some g):B<=g/\g<w.heap.size:=by
 obtain ⟨-,⟨rfl,-⟩ | ⟨g',cap,cur,rfl,e2,e3,-⟩⟩:=h
 ·cases hg
 ·cases hg
  exact ⟨e2,(Array.getElem?_eq_some_iff.1 e3).1⟩
theorem bK {B e sz n:Nat} {v:Value} {xs:List Value} {w w':World} (h:w.ownsRow B e sz v n xs) (k:aA w w'):w'.ownsRow B e sz v n xs:=by
 obtain ⟨h1,h2⟩:=h
 refine ⟨h1,h2.imp id ?_⟩
 rintro ⟨g,cap,cur,e1,e2,e3,e4,e5,e6,e7⟩
 exact ⟨g,cap,cur,e1,e2,by rw [k.block g (Array.getElem?_eq_some_iff.1 e3).1];exact e3,e4,e5,e6,e7⟩
theorem aW {B e sz n:Nat} {v:Value} {xs:List Value} {w:World} (h:w.ownsRow B e sz v n xs) (hn:0<n) : ∃ g cap,v=.slice (some ⟨g,0,none⟩) n cap:=by
 obtain ⟨-,⟨-,h0⟩ | ⟨g,cap,cur,e1,-⟩⟩:=h
 ·omega
 ·exact ⟨g,cap,e1⟩
theorem cM {B e sz n:Nat} {v:Value} {xs:List Value} {w w':World} (h:w.ownsRow B e sz v n xs) (hb : ∀ g,v.ownBlock=some g->w'.heap[g]? = w.heap[g]?):w'.ownsRow B e sz v n xs:=by
 obtain ⟨h1,h2⟩:=h
 refine ⟨h1,h2.imp id ?_⟩
 rintro ⟨g,cap,cur,rfl,e2,e3,e4⟩
 exact ⟨g,cap,cur,rfl,e2,by rw [hb g rfl];exact e3,e4⟩
theorem bQ {B e sz n:Nat} {v:Value} {xs:List Value} {w:World} (h:w.ownsRow B e sz v n xs) {g:Nat} (hg:v.ownBlock=some g):B<=g/\g<w.heap.size:=by
 obtain ⟨-,⟨rfl,-⟩ | ⟨g',cap,cur,rfl,e2,e3,-⟩⟩:=h
 ·cases hg
 ·cases hg;exact ⟨e2,(Array.getElem?_eq_some_iff.1 e3).1⟩
def aD (b:Nat) (T:TypeId) (cs:Array Value) (w:World):Prop:=w.heap[b]? = some (.cells cs T (0,0))
theorem aD.facts {b:Nat} {T:TypeId} {cs:Array Value} {w:World} (h:aD b T cs w):(∀ o,w.cell? ⟨b,o,none⟩=cs[o]?)/\(∀ o,w.frozen? ⟨b,o,none⟩=false)/\b<w.heap.size:=by
 unfold aD at h
 refine ⟨fun o=>by simp [World.cell?,h],fun o=>by simp [World.frozen?,h],(Array.getElem?_eq_some_iff.1 h).1⟩
theorem aD.new (w:World) (T:TypeId) (cs:Array Value):aD w.heap.size T cs (w.alloc (.cells cs T)):=by
 show (w.heap.push _)[w.heap.size]? = _
 rw [Array.getElem?_push,if_pos rfl]
theorem aD.keep {b B:Nat} {T:TypeId} {cs:Array Value} {w w':World} (h:aD b T cs w) (k:Below B w w') (hB:b<B):aD b T cs w':=by
 unfold aD at *;rw [k.block b hB];exact h
theorem aD.set {b:Nat} {T:TypeId} {cs:Array Value} {w:World} (h:aD b T cs w) (o:Nat) (x:Value):aD b T (cs.setIfInBounds o x) (w.setCell ⟨b,o,none⟩ x):=by
 have:=aG h o x
 unfold aD
 rw [this]
theorem pZ {w w':World} {row:Option Nat} (h:w.drew.grownBy w' row):w.grownBy w' row:=⟨h.os,h.tape,h.output,h.size,h.block⟩
theorem dG:(Tryz.prog.info? 3).map (fun i=>(i.zero,i.size,i.bytes))=some (some (.int .i64 0),1,8):=by kernel_rfl
def eZ (v:Value) (zs:List Int) (w:World):Prop:=(zs = []/\v=.slice none 0 0)∨∃ g cap,v=.slice (some ⟨g,0,none⟩) zs.length cap/\g<w.heap.size/\∀ (j:Nat) x,zs[j]? = some x->w.cell? ⟨g,j,none⟩=some (.int .i64 x)
theorem eZ.len {v:Value} {zs:List Int} {w:World} (h:eZ v zs w) : ∃ p cap,v=.slice p zs.length cap:=by
 rcases h with ⟨rfl,h⟩ | ⟨g,cap,h,-⟩
 ·exact ⟨none,0,h⟩
 ·exact ⟨_,cap,h⟩
def aU (B:Nat) (v:Value) (zs:List Int) (w:World):Prop:=w.ownsRow B 3 1 v zs.length (zs.map (Value.int .i64))
theorem dB {s:Int} (u:Value) (h:u ∈ [Value.int .i64 s]):u.oneCell'=true:=by rw [List.mem_singleton.1 h];rfl
theorem aU.ints {B:Nat} {v:Value} {zs:List Int} {w:World} (h:aU B v zs w):eZ v zs w:=by
 obtain ⟨hlen,⟨rfl,h0⟩ | ⟨g,cap,cur,rfl,hbase,hb,hn1,hn2,hn3,hn4⟩⟩:=h
 ·exact Or.inl ⟨List.length_eq_zero_iff.1 h0,rfl⟩
 ·refine Or.inr ⟨g,cap,rfl,(Array.getElem?_eq_some_iff.1 hb).1,fun j x hx=> ?_⟩
  have hj:j<zs.length:=(List.getElem?_eq_some_iff.1 hx).1
  have h1:=congrArg (·[j]?) hn4
  simp only [Nat.mul_one,List.getElem?_take,List.getElem?_map,hx,Option.map_some] at h1
  rw [if_pos hj] at h1
  simp only [World.cell?,hb]
  simpa using h1
theorem gN {B:Nat} {v v':Value} {zs:List Int} {x:Int} {w w':World} {o:Obj} (hB:B<=w.heap.size) (hw:aU B v zs w) (h1:w'.ownsRow B 3 1 v' (zs.length+1) (zs.map (Value.int .i64) ++ [.int .i64 x])) (h2:(w.alloc o).grownBy w' v.ownBlock) :
  aU B v' (zs ++ [x]) w'/\Below B w w':=by
 refine ⟨?_,?_⟩
 ·unfold aU
  rw [List.length_append,List.map_append]
  exact h1
 ·exact Below.grown ((Below.refl B w).alloc hB o) h2 (by have:=aC w o;omega) (fun g hg=>(cV hw hg).1)
def aZ (S:Nat->Prop) (w:World) (bs:List Bool) (v:Value):Prop:=
 ∃ (p:Option Addr) (cap:Nat),v=.slice p bs.length cap/\bs.length<=9223372036854775807/\(0<bs.length->∃ b off,p=some ⟨b,off,none⟩/\S b/\∀ (j:Nat) (x:Bool),bs[j]? = some x->w.cell? ⟨b,off+j,none⟩=some (.bool x))
def aH (S:Nat->Prop) (w:World) (zs:List Int) (v:Value):Prop:=
 ∃ (p:Option Addr) (cap:Nat),v=.slice p zs.length cap/\zs.length<=9223372036854775807/\(0<zs.length->∃ b off,p=some ⟨b,off,none⟩/\S b/\∀ (j:Nat) (x:Int),zs[j]? = some x->w.cell? ⟨b,off+j,none⟩=some (.int .i64 x))
section
variable {S S':Nat->Prop} {w w':World}
theorem aH.mono (hw : ∀ p:Addr,S p.block->w'.cell? p=w.cell? p) (hS : ∀ b,S b->S' b) {zs:List Int} {v:Value} (h:aH S w zs v):aH S' w' zs v:=by
 obtain ⟨p,cap,h1,h2,h3⟩:=h
 refine ⟨p,cap,h1,h2,fun h=> ?_⟩
 obtain ⟨b,off,h4,h5,h6⟩:=h3 h
 exact ⟨b,off,h4,hS _ h5,fun j x hx=>(hw ⟨b,off+j,none⟩ h5).trans (h6 j x hx)⟩
theorem aZ.mono (hw : ∀ p:Addr,S p.block->w'.cell? p=w.cell? p) (hS : ∀ b,S b->S' b) {bs:List Bool} {v:Value} (h:aZ S w bs v):aZ S' w' bs v:=by
 obtain ⟨p,cap,h1,h2,h3⟩:=h
 refine ⟨p,cap,h1,h2,fun h=> ?_⟩
 obtain ⟨b,off,h4,h5,h6⟩:=h3 h
 exact ⟨b,off,h4,hS _ h5,fun j x hx=>(hw ⟨b,off+j,none⟩ h5).trans (h6 j x hx)⟩
theorem aH.keep {B:Nat} (hS : ∀ b,S b->b<B) (k:Below B w w') {zs:List Int} {v:Value} (h:aH S w zs v):aH S w' zs v:=h.mono (bG hS k) fun _ h=>h
end
theorem aY {P:Program} {ops:Array Oper} {o:Oper} {a:Act} {w:World} {K:Act->World->Prop} {Q:Exit->Act->World->Prop} {E:Prop}
  (hg:o.guard=none) (s x:Operand) (t:TypeId) (hop:o.op=Op.call { callee:=Callee.builtin Builtin.append,args:=#[s,x],argTypes:=#[t,t] })
  (base:Nat) (e:TypeId) (i:TypeInfo) (z:Value) (size bytes:Nat) (ht:P.underlying t=some (.slice e)) (hi:P.info? e=some i) (hz:i.zero=some z)
  (hsize:i.size=size) (hby:i.bytes=bytes) (hzs:z.cells.size=size) (hsz:0<size)
  (v:Value) (n:Nat) (xs:List Value) (hs:a.eval s=v) (hown:w.ownsRow base e size v n xs)
  (ad:Addr) (m c:Nat) (news:List Value) (hx:a.eval x=.slice (some ad) m c) (hl:news.length=m*size) (hnews : ∀ j u,news[j]? = some u->w.cell? (ad.add j)=some u) (h1 : ∀ u∈news,u.oneCell'=true)
  (h63:n+m<=maxLen) (hbytes:(n+m)*bytes<=140737488355328) (hbase:base<=w.heap.size)
  (hK : ∀ v' w',w'.ownsRow base e size v' (n+m) (xs++news)->w.grownBy w' v.ownBlock->(v'.ownBlock=v.ownBlock∨v'.ownBlock=some w.heap.size)->K (a.put o.dst v') w') :
  if Region.wanted o (yielded ops a.tmps)=true then Oper.wp P o a w K Q else E:=by
 have hw:Region.wanted o (yielded ops a.tmps)=true:=by simp [Region.wanted,hg]
 rw [if_pos hw]
 obtain ⟨v',w',hr,h2,h3,-,h5⟩:=run_append_own_at (P:=P) w base t o.type e i z size bytes ht hi hz hsize hby hzs hsz v n xs hown ad m c news hl hnews h1 h63 hbytes hbase
 unfold Oper.wp
 simp [execOp,hop,resolve,invoke,builtin,hs,hx,hr,Result.andThen]
 exact hK v' w' h2 h3 h5
end Go.Proofs.YthaaaecmeafofaaGreatDoor.Cn
namespace Go.Proofs.YthaaaecmeafofaaGreatDoor.Cn
inductive Der (F:List (List Int)) (A:List Int):Int->Prop
 | told {x:Int}:x∈A->Der F A x
 | unit {c:List Int} {x:Int}:c∈F->x∈c->(∀ y∈c,y≠x->Der F A (-y))->Der F A x
def bJ (F:List (List Int)) (A:List Int):Prop:=
 (∃ x,Der F A x/\Der F A (-x))∨(∃ c∈F,∀ y∈c,Der F A (-y))
theorem Der.more {F F':List (List Int)} {A A':List Int} (hF : ∀ c∈F,c∈F') (hA : ∀ x∈A,Der F' A' x) {x:Int} (h:Der F A x):Der F' A' x:=by
 induction h with
 | told h=>exact hA _ h
 | unit hc hx _ ih=>exact .unit (hF _ hc) hx ih
theorem bJ.more {F F':List (List Int)} {A A':List Int} (hF : ∀ c∈F,c∈F') (hA : ∀ x∈A,Der F' A' x) (h:bJ F A):bJ F' A':=by
 rcases h with ⟨x,h1,h2⟩ | ⟨c,hc,h⟩
 ·exact .inl ⟨x,h1.more hF hA,h2.more hF hA⟩
 ·exact .inr ⟨c,hF _ hc,fun y hy=>(h y hy).more hF hA⟩
def Lit (n:Nat) (x:Int):Prop:=x≠0/\x.natAbs<=n
def aL (n:Nat) (c:List Int):Prop:= ∀ x∈c,Lit n x
theorem Lit.neg {n:Nat} {x:Int} (h:Lit n x):Lit n (-x):=by
 unfold Lit at h ⊢;omega
theorem Der.lit {n:Nat} {F:List (List Int)} {A:List Int} (hF : ∀ c∈F,aL n c) (hA:aL n A) {x:Int} (h:Der F A x):Lit n x:=by
 cases h with
 | told h=>exact hA _ h
 | unit hc hx _=>exact hF _ hc _ hx
def inM (m:List Bool) (x:Int):Bool:=(m.getD (x.natAbs-1) false)==decide (0<x)
theorem cU (m:List Bool) {x:Int} (h:x≠0):inM m (-x) = !inM m x:=by
 unfold inM
 rw [Int.natAbs_neg]
 rcases Int.lt_or_gt_of_ne h with h | h
 ·have h1:decide (0<x)=false:=by simp;omega
  have h2:decide (0 < -x)=true:=by simp;omega
  rw [h1,h2];cases m.getD (x.natAbs-1) false<;>rfl
 ·have h1:decide (0<x)=true:=by simp;omega
  have h2:decide (0 < -x)=false:=by simp;omega
  rw [h1,h2];cases m.getD (x.natAbs-1) false<;>rfl
theorem der_holds {n:Nat} {F:List (List Int)} {A:List Int} {m:List Bool} (hF : ∀ c∈F,aL n c) (hM : ∀ c∈F,∃ x∈c,inM m x=true) (hA : ∀ x∈A,inM m x=true) {x:Int} (h:Der F A x):inM m x=true:=by
 induction h with
 | told h=>exact hA _ h
 | @unit c x hc hx _ ih=>
  obtain ⟨y,hy,hm⟩:=hM c hc
  by_cases e:y=x
  ·exact e ▸ hm
  ·have:=ih y hy e
   rw [cU m (hF c hc y hy).1,hm] at this
   exact absurd this (by decide)
theorem lQ {n:Nat} {F:List (List Int)} {A:List Int} {m:List Bool} (hF : ∀ c∈F,aL n c) (hA':aL n A) (hM : ∀ c∈F,∃ x∈c,inM m x=true) (hA : ∀ x∈A,inM m x=true) : ¬ bJ F A:=by
 rintro (⟨x,h1,h2⟩ | ⟨c,hc,h⟩)
 ·have a:=der_holds hF hM hA h1
  have b:=der_holds hF hM hA h2
  rw [cU m (h1.lit hF hA').1,a] at b
  exact absurd b (by decide)
 ·obtain ⟨y,hy,hm⟩:=hM c hc
  have b:=der_holds hF hM hA (h y hy)
  rw [cU m (hF c hc y hy).1,hm] at b
  exact absurd b (by decide)
def kn (K:List Int) (x:Int):Int:=K.getD x.natAbs 0
def oR (K:List Int) (c:List Int):Prop:=
 (∃ y∈c,kn K y ≠ -y)/\∀ x∈c,(∀ y∈c,y≠x->kn K y = -y)->kn K x=x
structure aAp (n:Nat) (F:List (List Int)) (A:List Int) (K L:List Int):Prop where
 len:K.length=n+1
 own : ∀ i<K.length,K.getD i 0=0∨(K.getD i 0).natAbs=i
 iff : ∀ x,x∈L↔(x≠0/\kn K x=x)
 cnt:L.length+K.count 0=n+1
 der : ∀ x∈L,Der F A x
theorem aAp.lits {n:Nat} {F:List (List Int)} {A K L:List Int} (h:aAp n F A K L) {x:Int} (hx:x∈L):Lit n x:=by
 have h1:=(h.iff x).1 hx
 refine ⟨h1.1,?_⟩
 have:x.natAbs<K.length:=by
  rcases Nat.lt_or_ge x.natAbs K.length with h2 | h2
  ·exact h2
  ·have:=h1.2;simp [kn,List.getD_eq_getElem?_getD,List.getElem?_eq_none h2] at this;exact absurd this.symm h1.1
 have:=h.len;omega
theorem aNa {K:List Int} {f:Int} (hf:f.natAbs<K.length) (x:Int):kn (K.set f.natAbs f) x=if x.natAbs=f.natAbs then f else kn K x:=by
 unfold kn
 by_cases h:x.natAbs=f.natAbs
 ·simp [h,List.getD_eq_getElem?_getD,hf]
 ·simp [List.getD_eq_getElem?_getD,h,Ne.symm h]
def Inv (F:List (List Int)) (K L:List Int) (n:Nat) (T:List Int->Prop):Prop:=
 ∀ c∈F,T c∨oR K c∨∃ j,n<=j/\∃ x,L[j]? = some x/\-x∈c
theorem aJp {n:Nat} {F:List (List Int)} {A K L:List Int} (hF : ∀ c∈F,aL n c) (h:aAp n F A K L) (ha : ∀ a∈A,a∈L) (hi:Inv F K L L.length (fun _=>False)) :
  (∀ x,x∈L↔Der F A x)/\¬ bJ F A:=by
 have hcl : ∀ c∈F,oR K c:=by
  intro c hc
  rcases hi c hc with h1 | h1 | ⟨j,hj,x,hx,_⟩
  ·exact h1.elim
  ·exact h1
  ·rw [List.getElem?_eq_none hj] at hx;exact absurd hx (by simp)
 have hkn : ∀ y,y≠0->-y∈L->kn K y = -y:=by
  intro y _ hm
  have:=((h.iff _).1 hm).2
  simpa [kn,Int.natAbs_neg] using this
 have hd : ∀ x,Der F A x->x∈L:=by
  intro x hx
  induction hx with
  | told hx=>exact ha _ hx
  | @unit c x hc hx _ ih=>
   have hxl:=hF c hc x hx
   exact (h.iff x).2 ⟨hxl.1,(hcl c hc).2 x hx (fun y hy hne=>hkn y (hF c hc y hy).1 (ih y hy hne))⟩
 refine ⟨fun x=>⟨h.der x,hd x⟩,?_⟩
 rintro (⟨x,h1,h2⟩ | ⟨c,hc,hall⟩)
 ·have a:=(h.iff x).1 (hd x h1)
  have b:=hkn x a.1 (hd _ h2)
  have:=a.1;have:=a.2;omega
 ·obtain ⟨y,hy,hne⟩:=(hcl c hc).1
  exact hne (hkn y (hF c hc y hy).1 (hd _ (hall y hy)))
def dW (K:List Int):List Int:=K.filter (fun x=> !(x==0))
theorem aBy {n:Nat} {F:List (List Int)} {A K L:List Int} (h:aAp n F A K L) (x:Int):x∈dW K↔x∈L:=by
 unfold dW
 rw [List.mem_filter,h.iff x]
 constructor
 ·rintro ⟨hm,hx⟩
  have hx:x≠0:=by simpa using hx
  refine ⟨hx,?_⟩
  obtain ⟨i,hi,e⟩:=List.getElem_of_mem hm
  have h1:K.getD i 0=x:=by simp [List.getD_eq_getElem?_getD,hi,e]
  rcases h.own i hi with h2 | h2
  ·rw [h1] at h2;exact absurd h2 hx
  ·rw [h1] at h2;unfold kn;rw [h2,h1]
 ·rintro ⟨hx,hk⟩
  refine ⟨?_,by simpa using hx⟩
  have hlt:x.natAbs<K.length:=by
   rcases Nat.lt_or_ge x.natAbs K.length with h2 | h2
   ·exact h2
   ·simp [kn,List.getD_eq_getElem?_getD,List.getElem?_eq_none h2] at hk;exact absurd hk.symm hx
  have h1:K[x.natAbs]=x:=by simpa [kn,List.getD_eq_getElem?_getD,hlt] using hk
  exact h1 ▸ List.getElem_mem hlt
theorem aJv (K:List Int):(dW K).length<=K.length:=List.length_filter_le ..
end Go.Proofs.YthaaaecmeafofaaGreatDoor.Cn
