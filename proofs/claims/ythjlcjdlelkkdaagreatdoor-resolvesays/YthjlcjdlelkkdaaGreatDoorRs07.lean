/- Steps of the proof. -/
import Derived.BigQuiet
import Derived.BigRegion
import Derived.Deep.Cut
import Derived.Deep.CutRange
import Derived.Deep.LoopGhost
import Derived.Deep.MidRow
import Derived.Deep.RegionLaw
import Derived.Deep.RegionHeld3
import Derived.Laws.RangeAny
import Derived.Laws.EntriesVeiled
import Derived.Laws.AppendOwnNone
import Derived.Lib.OthersKept
import Derived.Lib.QuietBelow
import Derived.Maps.AppendAt
import Derived.ProofKit
import Derived.RegionTactic
import Derived.Sort.Grow
import Derived.WalkKit
import Derived.WalkLawsBesides
import Derived.WalkMore
import Derived.WalkSmall
import Derived.Maps.Own
import Derived.Maps.OwnSet
import Derived.Test.YthjlcjdlelkkdaaGreatDoorRs00
set_option maxHeartbeats 16000000
set_option maxRecDepth 100000
namespace Go.Proofs.YthjlcjdlelkkdaaGreatDoor.Cn
section
structure CT where
 nf:List Nat
 ins:List Nat
 on:Nat->Nat->Bool
structure CT.Ok (c:CT):Prop where
 up:c.ins.Pairwise (· < ·)
 lt:∀i∈c.ins,i<c.nf.length
def CT.order(c:CT):List Nat:=c.ins++(List.range c.nf.length).filter fun i=> !c.ins.contains i
def CT.base(c:CT)(i:Nat):Nat:=c.nf.length+(c.nf.take i).sum
def CT.many(c:CT):Nat:=c.nf.length+c.nf.sum
def CT.takes(c:CT)(m:List Bool)(i:Nat):Bool:=m.getD (c.order.idxOf i) false != c.ins.contains i
def CT.flags(c:CT)(m:List Bool)(i:Nat):List Bool:=(List.range (c.nf.getD i 0)).map fun k=>m.getD (c.base i+k) false != c.on i k
def CT.set(c:CT)(m:List Bool):List (Nat × List Bool):=(List.range c.nf.length).filterMap fun i=>if c.takes m i then some (i,c.flags m i) else none
theorem CT.order_mem{c:CT}(h:c.Ok)(i:Nat):i∈c.order↔i<c.nf.length:=by
 unfold CT.order;rw[U0,List.mem_filter,List.mem_range];constructor
 ·rintro (h1 | h1)
  ·exact h.lt i h1
  ·exact h1.1
 ·intro h1;by_cases h2:i∈c.ins
  ·exact .inl h2
  ·exact .inr ⟨h1,by simp[h2]⟩
theorem wE{l:List Nat}(h:l.Pairwise (· < ·)):l.Nodup:=by
 rw[List.nodup_iff_pairwise_ne];exact h.imp fun hab=>Nat.ne_of_lt hab
theorem CT.order_nodup{c:CT}(h:c.Ok):c.order.Nodup:=by
 unfold CT.order;rw[List.nodup_append];refine⟨wE h.up,wE (List.Pairwise.filter _ (List.pairwise_lt_range ..)),fun a ha b hb e=>?_⟩;subst e;have:=(List.mem_filter.1 hb).2;simp[ha] at this
theorem CT.order_len{c:CT}(h:c.Ok):c.order.length=c.nf.length:=by
 have h1:c.order.Perm (List.range c.nf.length):=(List.perm_ext_iff_of_nodup (CT.order_nodup h) List.nodup_range).2 fun i=>by rw[CT.order_mem h,List.mem_range]
 rw[h1.length_eq,List.length_range]
theorem sF{l:List Nat}(hn:l.Nodup){v i:Nat}(h:l[v]? = some i):l.idxOf i=v:=by
 obtain⟨hv,e⟩:=R9.1 h;have hm:i∈l:=Z1 h;have h1:=List.idxOf_lt_length_iff.2 hm;have h2:l[l.idxOf i]=l[v]:=by rw[List.getElem_idxOf,e]
 rw[List.nodup_iff_pairwise_ne,List.pairwise_iff_getElem] at hn;rcases Nat.lt_trichotomy (l.idxOf i) v with h3 | h3 | h3
 ·exact absurd h2 (hn _ _ h1 hv h3)
 ·exact h3
 ·exact absurd h2.symm (hn _ _ hv h1 h3)
theorem CT.mem_set{c:CT}{m:List Bool}{a:Nat × List Bool}:a∈c.set m↔a.1<c.nf.length/\c.takes m a.1=true/\a.2=c.flags m a.1:=by
 unfold CT.set;rw[List.mem_filterMap];constructor
 ·rintro⟨i,hi,h⟩;split at h
  ·rename_i ht;have h:=U6 h;subst h;exact⟨List.mem_range.1 hi,ht,rfl⟩
  ·cases h
 ·rintro⟨h1,h2,h3⟩;exact⟨a.1,List.mem_range.2 h1,by rw[if_pos h2,<-h3]⟩
theorem CT.set_up(c:CT)(m:List Bool):(c.set m).Pairwise fun a b=>a.1<b.1:=by
 unfold CT.set;rw[List.pairwise_filterMap];refine (List.pairwise_lt_range (n:=c.nf.length)).imp fun {i j} hij a ha b hb=>?_;split at ha<;>split at hb<;>cases ha<;>cases hb
 exact hij
end
section
open Go.RowKit Go.Lib
theorem hid{p:Prop}(h:p):Hid p:=h
theorem aK{a b:Bool}(h:a=b):Ending.returned (.bool a)=.returned (.bool b):=by rw[h]
theorem aD{k:IntKind}{a b:Int}(h:a=b):Ending.returned (.int k a)=.returned (.int k b):=by rw[h]
def aA(w w':World):Prop:=Below w.heap.size w w'
theorem aA.refl(w:World):aA w w:=Below.refl _ _
theorem aA.trans{a b c:World}(h:aA a b)(k:aA b c):aA a c:=Below.trans h (Below.mono k h.size)
theorem aA.alloc(w:World)(o:Obj):aA w (w.alloc o):=(Below.refl _ _).alloc (Y1 _) _
theorem aA.alloc'{a w:World}(h:aA a w)(o:Obj):aA a (w.alloc o):=h.trans (aA.alloc w o)
theorem aA.drew{a w:World}(h:aA a w):aA a w.drew:=Below.drew h
theorem aA.drewN{a w:World}(h:aA a w):∀n,aA a (w.drewN n)
 | 0=>h
 | n+1=>by rw[World.drewN];exact aA.drew (aA.drewN h n)
theorem aA.size{w w':World}(h:aA w w'):w.heap.size<=w'.heap.size:=Below.size h
theorem aA.cells{W w1:World}(hb:aA W w1):(∀b o,b<W.heap.size->w1.cell? ⟨b,o,none⟩=W.cell? ⟨b,o,none⟩)/\(∀b o,b<W.heap.size->w1.frozen? ⟨b,o,none⟩=W.frozen? ⟨b,o,none⟩):=
 ⟨fun b o h=>Below.cell hb (p:=⟨b,o,none⟩) h,fun b o h=>Below.frozen hb (p:=⟨b,o,none⟩) h⟩
theorem aJ{b:Nat}{cs:Array Value}{T:TypeId}{w:World}(h:w.heap[b]? = some (.cells cs T (0,0)))(i:Nat)(x:Value):(w.setCell ⟨b,i,none⟩ x).heap[b]? = some (.cells (cs.setIfInBounds i x) T (0,0)):=by
 simp[World.setCell,Array.getElem?_modify,h]
theorem aQ(w:World)(b i:Nat)(x:Value):Below b w (w.setCell ⟨b,i,none⟩ x):=(Below.refl _ _).setCell (p:=⟨b,i,none⟩) (Y1 _) x
def aE(c:Nat)(T:TypeId)(v:Value)(w:World):Prop:=w.heap[c]? = some (.cells #[v] T (0,0))
theorem aE.facts{c:Nat}{T:TypeId}{v:Value}{w:World}(h:aE c T v w):w.cell? ⟨c,0,none⟩=some v/\w.frozen? ⟨c,0,none⟩=false/\c<w.heap.size:=by
 unfold aE at h;refine⟨by simp[World.cell?,h],by simp[World.frozen?,h],(U9.1 h).1⟩
theorem aE.set{c:Nat}{T:TypeId}{v:Value}{w:World}(h:aE c T v w)(x:Value):aE c T x (w.setCell ⟨c,0,none⟩ x):=by
 have:=aJ h 0 x;unfold aE;rw[this];rfl
theorem aE.keep{c B:Nat}{T:TypeId}{v:Value}{w w':World}(h:aE c T v w)(k:Below B w w')(hB:c<B):aE c T v w':=by
 unfold aE at *;rw[k.block c hB];exact h
theorem aE.new(w:World)(T:TypeId)(v:Value):aE w.heap.size T v (w.alloc (.cells #[v] T)):=by
 show (w.heap.push _)[w.heap.size]? = _;rw[Array.getElem?_push,if_pos rfl]
theorem aC(w:World)(o:Obj):(w.alloc o).heap.size=w.heap.size+1:=by simp
theorem bK{P:Program}{F:FuncId}{args:Array Value}{W:World}{Q:Ending->World->Prop}(R:World->Prop)(hR:R W)(h:∀W',R W'->Calls P F args W' Q):Calls P F args W Q:=h W hR
theorem bE{P:Program}{c:Code}{Q:Exit->Act->World->Prop}{a:Act}{W:World}(R:World->Prop)(hR:R W)(h:∀W',R W'->c.wp P Q a W'):c.wp P Q a W:=h W hR
theorem tkN{P:Program}{ops:Array Oper}{Q:Exit->Act->World->Prop}{md:Region.Mode}{S:World->Prop}(i:Nat){oi:Oper}{v:Value}{fuel:Nat}{listed:Array Bool}{a:Act}{w:World}(hy:∀w,S w->(execOp a.eval oi).run P w=.ok (.value v) w)
  (h:wpAnyH P md ops Q S fuel (listed.setIfInBounds i true) (a.put oi.dst v) w) (hi:ops[i]? = some oi:=by rfl) (hs:Region.noSelect ops=true:=by kernel_rfl) (hf:Region.free md ops listed i=true:=by kernel_rfl) (hr:(Region.ready md ops listed).contains i=true:=by kernel_rfl)
  (hQ:∀c a w,Q (.panic c) (a.put oi.dst v) w->Q (.panic c) a w:=by exact fun _ _ _ h=>h) (hw:Region.wanted oi (yielded ops a.tmps)=true:=by rfl) (hS:S w:=by assumption):wpAnyH P md ops Q S (fuel+1) listed a w:=
 wpAnyH_take hi hs hf hr hQ (.inl ⟨hw,hy⟩) hS h
theorem acP:(∀(a:Act) (d:Tmp) (v:Value),a.put (some d) v = { a with tmps:=a.tmps.setIfInBounds d v })/\(∀(a:Act) (v:Value),a.put none v=a)/\(∀ {α:Type} (l:List α) (i:Nat) (v:α),l.toArray.setIfInBounds i v=(l.set i v).toArray)/\(∀ {α:Type} (x:α) (xs:List α) (v:α),(x :: xs).set 0 v=v :: xs)/\(∀ {α:Type} (x:α) (xs:List α) (n:Nat) (v:α),(x :: xs).set (n+1) v=x :: xs.set n v)/\(∀ {α:Type} (l:List α) (i:Nat) (h:i<l.toArray.size),l.toArray[i]=l[i]'(by simpa using h))/\(∀ {α:Type} (x:α) (xs:List α) (h:0<(x :: xs).length),(x :: xs)[0]=x)/\(∀ {α:Type} (x:α) (xs:List α) (n:Nat) (h:n+1<(x :: xs).length),(x :: xs)[n+1]=xs[n]'(by simpa using h)):=by
 refine⟨fun _ _ _=>rfl,fun _ _=>rfl,fun _ _ _=>by simp,fun _ _ _=>rfl,fun _ _ _ _=>rfl,fun _ _ _=>by simp,fun _ _ _=>rfl,fun _ _ _ _=>rfl⟩
theorem bQ{S:Nat->Prop}{B:Nat}{w w':World}(hS:∀b,S b->b<B)(k:Below B w w'):∀p:Addr,S p.block->w'.cell? p=w.cell? p:=
 fun p hp=>k.cell (p:=p) (hS _ hp)
theorem dN{B e sz n:Nat}{v:Value}{xs:List Value}{w:World}(h:w.ownsRow B e sz v n xs){g:Nat}(hg:v.ownBlock=some g):B<=g/\g<w.heap.size:=by
 obtain⟨-,⟨rfl,-⟩ | ⟨g',cap,a0,rfl,e2,e3,-⟩⟩:=h
 ·cases hg
 ·cases hg;exact⟨e2,(U9.1 e3).1⟩
theorem aX{B e sz n:Nat}{v:Value}{xs:List Value}{w w':World}(h:w.ownsRow B e sz v n xs)(k:aA w w'):w'.ownsRow B e sz v n xs:=by
 obtain⟨h1,h2⟩:=h;refine⟨h1,h2.imp id ?_⟩;rintro⟨g,cap,a0,e1,e2,e3,e4,e5,e6,e7⟩;exact⟨g,cap,a0,e1,e2,by rw[k.block g (U9.1 e3).1];exact e3,e4,e5,e6,e7⟩
theorem aS{B e sz n:Nat}{v:Value}{xs:List Value}{w:World}(h:w.ownsRow B e sz v n xs)(hn:0<n):∃g cap,v=.slice (some ⟨g,0,none⟩) n cap:=by
 obtain⟨-,⟨-,h0⟩ | ⟨g,cap,a0,e1,-⟩⟩:=h
 ·omega
 ·exact⟨g,cap,e1⟩
theorem cM{B e sz n:Nat}{v:Value}{xs:List Value}{w w':World}(h:w.ownsRow B e sz v n xs)(hb:∀g,v.ownBlock=some g->w'.heap[g]? = w.heap[g]?):w'.ownsRow B e sz v n xs:=by
 obtain⟨h1,h2⟩:=h;refine⟨h1,h2.imp id ?_⟩;rintro⟨g,cap,a0,rfl,e2,e3,e4⟩;exact⟨g,cap,a0,rfl,e2,by rw[hb g rfl];exact e3,e4⟩
theorem bN{B e sz n:Nat}{v:Value}{xs:List Value}{w:World}(h:w.ownsRow B e sz v n xs){g:Nat}(hg:v.ownBlock=some g):B<=g/\g<w.heap.size:=by
 obtain⟨-,⟨rfl,-⟩ | ⟨g',cap,a0,rfl,e2,e3,-⟩⟩:=h
 ·cases hg
 ·cases hg;exact⟨e2,(U9.1 e3).1⟩
def aF(b:Nat)(T:TypeId)(cs:Array Value)(w:World):Prop:=w.heap[b]? = some (.cells cs T (0,0))
theorem aF.facts{b:Nat}{T:TypeId}{cs:Array Value}{w:World}(h:aF b T cs w):(∀o,w.cell? ⟨b,o,none⟩=cs[o]?)/\(∀o,w.frozen? ⟨b,o,none⟩=false)/\b<w.heap.size:=by
 unfold aF at h;refine⟨fun o=>by simp[World.cell?,h],fun o=>by simp[World.frozen?,h],(U9.1 h).1⟩
theorem aF.new(w:World)(T:TypeId)(cs:Array Value):aF w.heap.size T cs (w.alloc (.cells cs T)):=by
 show (w.heap.push _)[w.heap.size]? = _;rw[Array.getElem?_push,if_pos rfl]
theorem aF.keep{b B:Nat}{T:TypeId}{cs:Array Value}{w w':World}(h:aF b T cs w)(k:Below B w w')(hB:b<B):aF b T cs w':=by
 unfold aF at *;rw[k.block b hB];exact h
theorem aF.set{b:Nat}{T:TypeId}{cs:Array Value}{w:World}(h:aF b T cs w)(o:Nat)(x:Value):aF b T (cs.setIfInBounds o x) (w.setCell ⟨b,o,none⟩ x):=by
 have:=aJ h o x;unfold aF;rw[this]
theorem qV{w w':World}{row:Option Nat}(h:w.drew.grownBy w' row):w.grownBy w' row:=⟨h.os,h.tape,h.output,h.size,h.block⟩
theorem dM:(Tryz.prog.info? 3).map (fun i=>(i.zero,i.size,i.bytes))=some (some (.int .i64 0),1,8):=by kernel_rfl
def fD(v:Value)(zs:List Int)(w:World):Prop:=(zs = []/\v=.slice none 0 0)\/∃g cap,v=.slice (some ⟨g,0,none⟩) zs.length cap/\g<w.heap.size/\∀(j:Nat) x,zs[j]? = some x->w.cell? ⟨g,j,none⟩=some (.int .i64 x)
theorem fD.len{v:Value}{zs:List Int}{w:World}(h:fD v zs w):∃p cap,v=.slice p zs.length cap:=by
 rcases h with ⟨rfl,h⟩ | ⟨g,cap,h,-⟩
 ·exact⟨none,0,h⟩
 ·exact⟨_,cap,h⟩
def aT(B:Nat)(v:Value)(zs:List Int)(w:World):Prop:=w.ownsRow B 3 1 v zs.length (zs.map (Value.int .i64))
theorem cG{s:Int}(u:Value)(h:u ∈ [Value.int .i64 s]):u.oneCell'=true:=by rw[T0.1 h];rfl
theorem aT.ints{B:Nat}{v:Value}{zs:List Int}{w:World}(h:aT B v zs w):fD v zs w:=by
 obtain⟨a2,⟨rfl,h0⟩ | ⟨g,cap,a5,rfl,a0,hb,a3,a6,a4,a1⟩⟩:=h
 ·exact Or.inl ⟨Y4.1 h0,rfl⟩
 ·refine Or.inr ⟨g,cap,rfl,(U9.1 hb).1,fun j x hx=>?_⟩;have hj:j<zs.length:=(R9.1 hx).1;have h1:=Q0 (·[j]?) a1;simp only[Nat.mul_one,List.getElem?_take,List.getElem?_map,hx,Option.map_some] at h1;rw[if_pos hj] at h1;simp only[World.cell?,hb];simpa using h1
theorem fJ{B:Nat}{v v':Value}{zs:List Int}{x:Int}{w w':World}{o:Obj}(hB:B<=w.heap.size)(hw:aT B v zs w)(h1:w'.ownsRow B 3 1 v' (zs.length+1) (zs.map (Value.int .i64)++[.int .i64 x]))(h2:(w.alloc o).grownBy w' v.ownBlock):
  aT B v' (zs++[x]) w'/\Below B w w':=by
 refine⟨?_,?_⟩
 ·unfold aT;rw[X9,Z9];exact h1
 ·exact Below.grown ((Below.refl B w).alloc hB o) h2 (by have:=aC w o;omega) (fun g hg=>(dN hw hg).1)
def bC(S:Nat->Prop)(w:World)(bs:List Bool)(v:Value):Prop:=
 ∃(p:Option Addr) (cap:Nat),v=.slice p bs.length cap/\bs.length<=9223372036854775807/\(0<bs.length->∃b off,p=some ⟨b,off,none⟩/\S b/\∀(j:Nat) (x:Bool),bs[j]? = some x->w.cell? ⟨b,off+j,none⟩=some (.bool x))
def aI(S:Nat->Prop)(w:World)(zs:List Int)(v:Value):Prop:=
 ∃(p:Option Addr) (cap:Nat),v=.slice p zs.length cap/\zs.length<=9223372036854775807/\(0<zs.length->∃b off,p=some ⟨b,off,none⟩/\S b/\∀(j:Nat) (x:Int),zs[j]? = some x->w.cell? ⟨b,off+j,none⟩=some (.int .i64 x))
section
variable {S S':Nat->Prop} {w w':World}
theorem aI.mono(hw:∀p:Addr,S p.block->w'.cell? p=w.cell? p)(hS:∀b,S b->S' b){zs:List Int}{v:Value}(h:aI S w zs v):aI S' w' zs v:=by
 obtain⟨p,cap,h1,h2,h3⟩:=h;refine⟨p,cap,h1,h2,fun h=>?_⟩;obtain⟨b,off,h4,h5,h6⟩:=h3 h;exact⟨b,off,h4,hS _ h5,fun j x hx=>(hw ⟨b,off+j,none⟩ h5).trans (h6 j x hx)⟩
theorem bC.mono(hw:∀p:Addr,S p.block->w'.cell? p=w.cell? p)(hS:∀b,S b->S' b){bs:List Bool}{v:Value}(h:bC S w bs v):bC S' w' bs v:=by
 obtain⟨p,cap,h1,h2,h3⟩:=h;refine⟨p,cap,h1,h2,fun h=>?_⟩;obtain⟨b,off,h4,h5,h6⟩:=h3 h;exact⟨b,off,h4,hS _ h5,fun j x hx=>(hw ⟨b,off+j,none⟩ h5).trans (h6 j x hx)⟩
theorem aI.keep{B:Nat}(hS:∀b,S b->b<B)(k:Below B w w'){zs:List Int}{v:Value}(h:aI S w zs v):aI S w' zs v:=h.mono (bQ hS k) fun _ h=>h
end
theorem aW{P:Program}{ops:Array Oper}{o:Oper}{a:Act}{w:World}{K:Act->World->Prop}{Q:Exit->Act->World->Prop}{E:Prop}
  (hg:o.guard=none) (s x:Operand) (t:TypeId) (hop:o.op=Op.call { callee:=Callee.builtin Builtin.append,args:=#[s,x],argTypes:=#[t,t] })
  (base:Nat) (e:TypeId) (i:TypeInfo) (z:Value) (size bytes:Nat) (ht:P.underlying t=some (.slice e)) (hi:P.info? e=some i) (hz:i.zero=some z)
  (hsize:i.size=size) (hby:i.bytes=bytes) (hzs:z.cells.size=size) (hsz:0<size)
  (v:Value) (n:Nat) (xs:List Value) (hs:a.eval s=v) (hown:w.ownsRow base e size v n xs)
  (ad:Addr) (m c:Nat) (news:List Value) (hx:a.eval x=.slice (some ad) m c) (hl:news.length=m*size) (hnews:∀j u,news[j]? = some u->w.cell? (ad.add j)=some u) (h1:∀u∈news,u.oneCell'=true)
  (h63:n+m<=maxLen) (hbytes:(n+m)*bytes<=140737488355328) (hbase:base<=w.heap.size)
  (hK:∀v' w',w'.ownsRow base e size v' (n+m) (xs++news)->w.grownBy w' v.ownBlock->(v'.ownBlock=v.ownBlock\/v'.ownBlock=some w.heap.size)->K (a.put o.dst v') w'):
  if Region.wanted o (yielded ops a.tmps)=true then Oper.wp P o a w K Q else E:=by
 have hw:Region.wanted o (yielded ops a.tmps)=true:=by simp[Region.wanted,hg]
 rw[if_pos hw];obtain⟨v',w',hr,h2,h3,-,h5⟩:=run_append_own_at (P:=P) w base t o.type e i z size bytes ht hi hz hsize hby hzs hsz v n xs hown ad m c news hl hnews h1 h63 hbytes hbase;unfold Oper.wp;simp[execOp,hop,resolve,invoke,builtin,hs,hx,hr,Result.andThen];exact hK v' w' h2 h3 h5
end
section
inductive Der (F:List (List Int)) (A:List Int):Int->Prop
 | told {x:Int}:x∈A->Der F A x
 | unit {c:List Int} {x:Int}:c∈F->x∈c->(∀y∈c,y≠x->Der F A (-y))->Der F A x
def bO(F:List (List Int))(A:List Int):Prop:=
 (∃x,Der F A x/\Der F A (-x))\/(∃c∈F,∀y∈c,Der F A (-y))
theorem Der.more{F F':List (List Int)}{A A':List Int}(hF:∀c∈F,c∈F')(hA:∀x∈A,Der F' A' x){x:Int}(h:Der F A x):Der F' A' x:=by
 induction h with
 | told h=>exact hA _ h
 | unit hc hx _ ih=>exact .unit (hF _ hc) hx ih
theorem bO.more{F F':List (List Int)}{A A':List Int}(hF:∀c∈F,c∈F')(hA:∀x∈A,Der F' A' x)(h:bO F A):bO F' A':=by
 rcases h with ⟨x,h1,h2⟩ | ⟨c,hc,h⟩
 ·exact .inl ⟨x,h1.more hF hA,h2.more hF hA⟩
 ·exact .inr ⟨c,hF _ hc,fun y hy=>(h y hy).more hF hA⟩
def Lit(n:Nat)(x:Int):Prop:=x≠0/\x.natAbs<=n
def aO(n:Nat)(c:List Int):Prop:=∀x∈c,Lit n x
theorem Lit.neg{n:Nat}{x:Int}(h:Lit n x):Lit n (-x):=by
 unfold Lit at h |-;omega
theorem Der.lit{n:Nat}{F:List (List Int)}{A:List Int}(hF:∀c∈F,aO n c)(hA:aO n A){x:Int}(h:Der F A x):Lit n x:=by
 cases h with
 | told h=>exact hA _ h
 | unit hc hx _=>exact hF _ hc _ hx
def inM(m:List Bool)(x:Int):Bool:=(m.getD (x.natAbs-1) false)==decide (0<x)
theorem dL(m:List Bool){x:Int}(h:x≠0):inM m (-x) = !inM m x:=by
 unfold inM;rw[Int.natAbs_neg];rcases Int.lt_or_gt_of_ne h with h | h
 ·have h1:decide (0<x)=false:=by simp;omega
  have h2:decide (0 < -x)=true:=by simp;omega
  rw[h1,h2];cases m.getD (x.natAbs-1) false<;>rfl
 ·have h1:decide (0<x)=true:=by simp;omega
  have h2:decide (0 < -x)=false:=by simp;omega
  rw[h1,h2];cases m.getD (x.natAbs-1) false<;>rfl
theorem der_holds{n:Nat}{F:List (List Int)}{A:List Int}{m:List Bool}(hF:∀c∈F,aO n c)(hM:∀c∈F,∃x∈c,inM m x=true)(hA:∀x∈A,inM m x=true){x:Int}(h:Der F A x):inM m x=true:=by
 induction h with
 | told h=>exact hA _ h
 | @unit c x hc hx _ ih=>
  obtain⟨y,hy,hm⟩:=hM c hc;by_cases e:y=x
  ·exact e ▸ hm
  ·have:=ih y hy e;rw[dL m (hF c hc y hy).1,hm] at this;exact absurd this (by decide)
theorem mH{n:Nat}{F:List (List Int)}{A:List Int}{m:List Bool}(hF:∀c∈F,aO n c)(hA':aO n A)(hM:∀c∈F,∃x∈c,inM m x=true)(hA:∀x∈A,inM m x=true):¬bO F A:=by
 rintro (⟨x,h1,h2⟩ | ⟨c,hc,h⟩)
 ·have a:=der_holds hF hM hA h1;have b:=der_holds hF hM hA h2;rw[dL m (h1.lit hF hA').1,a] at b;exact absurd b (by decide)
 ·obtain⟨y,hy,hm⟩:=hM c hc;have b:=der_holds hF hM hA (h y hy);rw[dL m (hF c hc y hy).1,hm] at b;exact absurd b (by decide)
def kn(K:List Int)(x:Int):Int:=K.getD x.natAbs 0
def pT(K:List Int)(c:List Int):Prop:=
 (∃y∈c,kn K y ≠ -y)/\∀x∈c,(∀y∈c,y≠x->kn K y = -y)->kn K x=x
structure aCh (n:Nat) (F:List (List Int)) (A:List Int) (K L:List Int):Prop where
 len:K.length=n+1
 own:∀i<K.length,K.getD i 0=0\/(K.getD i 0).natAbs=i
 iff:∀x,x∈L↔(x≠0/\kn K x=x)
 cnt:L.length+K.count 0=n+1
 der:∀x∈L,Der F A x
theorem aCh.lits{n:Nat}{F:List (List Int)}{A K L:List Int}(h:aCh n F A K L){x:Int}(hx:x∈L):Lit n x:=by
 have h1:=(h.iff x).1 hx;refine⟨h1.1,?_⟩;have:x.natAbs<K.length:=by
  rcases Nat.lt_or_ge x.natAbs K.length with h2 | h2
  ·exact h2
  ·have:=h1.2;simp[kn,List.getD_eq_getElem?_getD,List.getElem?_eq_none h2] at this;exact absurd this.symm h1.1
 have:=h.len;omega
theorem aQd{K:List Int}{f:Int}(hf:f.natAbs<K.length)(x:Int):kn (K.set f.natAbs f) x=if x.natAbs=f.natAbs then f else kn K x:=by
 unfold kn;by_cases h:x.natAbs=f.natAbs
 ·simp[h,List.getD_eq_getElem?_getD,hf]
 ·simp[List.getD_eq_getElem?_getD,h,Ne.symm h]
def Inv(F:List (List Int))(K L:List Int)(n:Nat)(T:List Int->Prop):Prop:=
 ∀c∈F,T c\/pT K c\/∃j,n<=j/\∃x,L[j]? = some x/\-x∈c
theorem aMi{n:Nat}{F:List (List Int)}{A K L:List Int}(hF:∀c∈F,aO n c)(h:aCh n F A K L)(ha:∀a∈A,a∈L)(hi:Inv F K L L.length (fun _=>False)):
  (∀x,x∈L↔Der F A x)/\¬bO F A:=by
 have a2:∀c∈F,pT K c:=by
  intro c hc;rcases hi c hc with h1 | h1 | ⟨j,hj,x,hx,_⟩
  ·exact h1.elim
  ·exact h1
  ·rw[A9 hj] at hx;exact absurd hx (by simp)
 have a1:∀y,y≠0->-y∈L->kn K y = -y:=by
  intro y _ hm;have:=((h.iff _).1 hm).2;simpa[kn,Int.natAbs_neg] using this
 have hd:∀x,Der F A x->x∈L:=by
  intro x hx
  induction hx with
  | told hx=>exact ha _ hx
  | @unit c x hc hx _ ih=>
   have a3:=hF c hc x hx;exact (h.iff x).2 ⟨a3.1,(a2 c hc).2 x hx (fun y hy a0=>a1 y (hF c hc y hy).1 (ih y hy a0))⟩
 refine⟨fun x=>⟨h.der x,hd x⟩,?_⟩;rintro (⟨x,h1,h2⟩ | ⟨c,hc,hall⟩)
 ·have a:=(h.iff x).1 (hd x h1);have b:=a1 x a.1 (hd _ h2);have:=a.1;have:=a.2;omega
 ·obtain⟨y,hy,a0⟩:=(a2 c hc).1;exact a0 (a1 y (hF c hc y hy).1 (hd _ (hall y hy)))
def eJ(K:List Int):List Int:=K.filter (fun x=> !(x==0))
theorem aDr{n:Nat}{F:List (List Int)}{A K L:List Int}(h:aCh n F A K L)(x:Int):x∈eJ K↔x∈L:=by
 unfold eJ;rw[List.mem_filter,h.iff x];constructor
 ·rintro⟨hm,hx⟩;have hx:x≠0:=by simpa using hx
  refine⟨hx,?_⟩;obtain⟨i,hi,e⟩:=List.getElem_of_mem hm;have h1:K.getD i 0=x:=by simp[List.getD_eq_getElem?_getD,hi,e]
  rcases h.own i hi with h2 | h2
  ·rw[h1] at h2;exact absurd h2 hx
  ·rw[h1] at h2;unfold kn;rw[h2,h1]
 ·rintro⟨hx,hk⟩;refine⟨?_,by simpa using hx⟩;have a0:x.natAbs<K.length:=by
   rcases Nat.lt_or_ge x.natAbs K.length with h2 | h2
   ·exact h2
   ·simp[kn,List.getD_eq_getElem?_getD,List.getElem?_eq_none h2] at hk;exact absurd hk.symm hx
  have h1:K[x.natAbs]=x:=by simpa[kn,List.getD_eq_getElem?_getD,a0] using hk
  exact h1 ▸ U5 a0
theorem aMn(K:List Int):(eJ K).length<=K.length:=List.length_filter_le ..
theorem aAx(K:List Int)(x:Int):kn K (-x)=kn K x:=by simp[kn,Int.natAbs_neg]
def Ext(K K':List Int):Prop:=∀x,kn K x≠0->kn K' x=kn K x
theorem Ext.refl(K:List Int):Ext K K:=fun _ _=>rfl
theorem Ext.trans{K K1 K2:List Int}(h:Ext K K1)(k:Ext K1 K2):Ext K K2:=fun x hx=>(k x (by rw[h x hx];exact hx)).trans (h x hx)
theorem Ext.pos{K K':List Int}(h:Ext K K'){x:Int}(hx:x≠0)(e:kn K x=x):kn K' x=x:=(h x (by rw[e];exact hx)).trans e
theorem Ext.neg{K K':List Int}(h:Ext K K'){x:Int}(hx:x≠0)(e:kn K x = -x):kn K' x = -x:=(h x (by rw[e];omega)).trans e
structure Tb (n:Nat) (K:List Int):Prop where
 len:K.length=n+1
 own:∀i<K.length,K.getD i 0=0\/(K.getD i 0).natAbs=i
theorem Tb.cases{n:Nat}{K:List Int}(h:Tb n K)(x:Int):kn K x=0\/kn K x=x\/kn K x = -x:=by
 rcases Nat.lt_or_ge x.natAbs K.length with h2 | h2
 ·rcases h.own _ h2 with h3 | h3
  ·exact .inl h3
  ·have h4:(kn K x).natAbs=x.natAbs:=h3;rcases Int.natAbs_eq_natAbs_iff.1 h4 with h5 | h5
   ·exact .inr (.inl h5)
   ·exact .inr (.inr h5)
 ·left;simp[kn,List.getD_eq_getElem?_getD,List.getElem?_eq_none h2]
theorem aUk(n:Nat):Tb n (List.replicate (n+1) 0):=by
 refine⟨by simp,fun i _=>.inl ?_⟩;simp[List.getD_eq_getElem?_getD,List.getElem?_replicate];split<;>simp
theorem aTo(m:Nat)(x:Int):kn (List.replicate m 0) x=0:=by
 simp[kn,List.getD_eq_getElem?_getD,List.getElem?_replicate];split<;>simp
def tkK(K:List Int)(x:Int):List Int:=if kn K x=0 then K.set x.natAbs x else K
def tkL(K L:List Int)(x:Int):List Int:=if kn K x=0 then L++[x] else L
theorem aBu{n:Nat}{K:List Int}(h:Tb n K){x:Int}(hx:Lit n x)(y:Int):kn (tkK K x) y=if kn K x=0/\y.natAbs=x.natAbs then x else kn K y:=by
 have a0:x.natAbs<K.length:=by have:=h.len;have:=hx.2;omega
 unfold tkK;by_cases h0:kn K x=0
 ·rw[if_pos h0,aQd a0];by_cases e:y.natAbs=x.natAbs<;>simp[e,h0]
 ·rw[if_neg h0];simp[h0]
theorem rR{n:Nat}{K:List Int}(h:Tb n K){x:Int}(hx:Lit n x):Ext K (tkK K x):=by
 intro y hy;rw[aBu h hx];by_cases e:kn K x=0/\y.natAbs=x.natAbs
 ·have:kn K y=kn K x:=by simp[kn,e.2]
  rw[this,e.1] at hy;exact absurd rfl hy
 ·rw[if_neg e]
theorem aGb{n:Nat}{K:List Int}(h:Tb n K){x:Int}(hx:Lit n x):kn (tkK K x) x=x\/(kn K x = -x/\kn (tkK K x) x = -x):=by
 rw[aBu h hx];rcases h.cases x with e | e | e
 ·left;simp[e]
 ·left;have:=hx.1;rw[if_neg (by rw[e];simp[this])];exact e
 ·right;have:=hx.1;rw[if_neg (by rw[e];omega)];exact⟨e,e⟩
theorem aWf{n:Nat}{K:List Int}(h:Tb n K){x:Int}(hx:Lit n x):Tb n (tkK K x):=by
 have a0:x.natAbs<K.length:=by have:=h.len;have:=hx.2;omega
 unfold tkK;by_cases h0:kn K x=0
 ·rw[if_pos h0];refine⟨by simp[h.len],fun i hi=>?_⟩;rw[List.length_set] at hi;by_cases e:x.natAbs=i
  ·right;subst e;simp[List.getD_eq_getElem?_getD,a0]
  ·have:=h.own i hi;simpa[List.getD_eq_getElem?_getD,List.getElem?_set,e] using this
 ·rw[if_neg h0];exact h
structure SK (n:Nat) (F:List (List Int)) (A K0 K L:List Int):Prop where
 tb:Tb n K
 der:∀x,x≠0->kn K x=x->Der F A x
 ext:Ext K0 K
 fd:∀x∈L,Lit n x/\kn K x=x
 cnt:L.length+K.count 0<=n+1
theorem SK.le{n:Nat}{F:List (List Int)}{A K0 K L:List Int}(h:SK n F A K0 K L):L.length<=n+1:=by have:=h.cnt;omega
theorem SK.derN{n:Nat}{F:List (List Int)}{A K0 K L:List Int}(h:SK n F A K0 K L){y:Int}(hy:y≠0)(e:kn K y = -y):Der F A (-y):=h.der (-y) (by omega) (by rw[aAx];exact e)
theorem SK.take{n:Nat}{F:List (List Int)}{A K0 K L:List Int}(h:SK n F A K0 K L){x:Int}(hx:Lit n x)(hd:Der F A x):
  SK n F A K0 (tkK K x) (tkL K L x)/\(kn (tkK K x) x≠x->bO F A):=by
 have a0:x.natAbs<K.length:=by have:=h.tb.len;have:=hx.2;omega
 have hE:=rR h.tb hx;refine⟨⟨aWf h.tb hx,fun y hy e=>?_,h.ext.trans hE,fun y hy=>?_,?_⟩,fun hne=>?_⟩
 ·rw[aBu h.tb hx] at e;split at e
  ·rw[<-e];exact hd
  ·exact h.der y hy e
 ·unfold tkL at hy;split at hy
  ·rename_i h0;rcases U0.1 hy with hy | hy
   ·exact⟨(h.fd y hy).1,hE.pos (h.fd y hy).1.1 (h.fd y hy).2⟩
   ·rw[T0.1 hy];exact⟨hx,(aGb h.tb hx).resolve_right (fun e=>by have:=hx.1;have:=e.1;omega)⟩
  ·exact⟨(h.fd y hy).1,hE.pos (h.fd y hy).1.1 (h.fd y hy).2⟩
 ·unfold tkK tkL;have:=h.cnt;split
  ·rename_i h0;have h4:K[x.natAbs]=0:=by simpa[kn,List.getD_eq_getElem?_getD,a0] using h0
   have h5:=List.count_set (a:=x) (b:=(0:Int)) a0;have h6:0<K.count 0:=List.count_pos_iff.2 (h4 ▸ U5 a0);rw[h5,X9,List.length_singleton];simp only[h4,beq_self_eq_true,if_true];have h7:(x==(0:Int))=false:=by simpa using hx.1
   rw[h7];simp;omega
  ·exact this
 ·have e:=(aGb h.tb hx).resolve_left hne;exact .inl ⟨x,hd,h.derN hx.1 e.1⟩
def w0(c:List Int):Int:=c.getD 0 0
def w1(c:List Int):Int:=c.getD 1 0
structure Two (n:Nat) (c:List Int):Prop where
 len:2<=c.length
 lits:aO n c
 nodup:c.Nodup
theorem Two.mem0{n:Nat}{c:List Int}(h:Two n c):w0 c∈c:=by
 have:=h.len;unfold w0;rw[R0,Q9 (by omega:0<c.length)];exact U5 _
theorem Two.mem1{n:Nat}{c:List Int}(h:Two n c):w1 c∈c:=by
 have:=h.len;unfold w1;rw[R0,Q9 (by omega:1<c.length)];exact U5 _
theorem mN{c:List Int}(h:c.Nodup){i j:Nat}(hi:i<c.length)(hj:j<c.length)(hne:i≠j):c.getD i 0≠c.getD j 0:=by
 rw[R0,Q9 hi,R0,Q9 hj];intro e;rw[List.nodup_iff_pairwise_ne,List.pairwise_iff_getElem] at h;rcases Nat.lt_or_gt_of_ne hne with h1 | h1
 ·exact h i j hi hj h1 e
 ·exact h j i hj hi h1 e.symm
theorem Two.ne{n:Nat}{c:List Int}(h:Two n c):w0 c≠w1 c:=mN h.nodup (by have:=h.len;omega) (by have:=h.len;omega) (by omega)
def Wok(K c:List Int)(Q:Int->Prop):Prop:=
 (kn K (w0 c) = -(w0 c)->kn K (w1 c)=w1 c\/Q (w0 c))/\(kn K (w1 c) = -(w1 c)->kn K (w0 c)=w0 c\/Q (w1 c))
theorem Wok.mono{K c:List Int}{Q Q':Int->Prop}(h:Wok K c Q)(hq:∀z,(z=w0 c\/z=w1 c)->Q z->Q' z):Wok K c Q':=
 ⟨fun e=>(h.1 e).imp id (hq _ (.inl rfl)),fun e=>(h.2 e).imp id (hq _ (.inr rfl))⟩
theorem Wok.take{n:Nat}{K c:List Int}{Q Q':Int->Prop}{x:Int}(hK:Tb n K)(hx:Lit n x)(hc:Two n c)(h:Wok K c Q)(hq:∀z,Q z->Q' z)(hn:kn K x=0->Q' (-x)):Wok (tkK K x) c Q':=by
 have hE:=rR hK hx;have l0:=hc.lits _ hc.mem0;have l1:=hc.lits _ hc.mem1;have a0:∀a b:Int,Lit n a->Lit n b->(kn K a = -a->kn K b=b\/Q a)->kn (tkK K x) a = -a->kn (tkK K x) b=b\/Q' a:=by
  intro a b ha hb a1 e;rw[aBu hK hx] at e;by_cases e2:kn K x=0/\a.natAbs=x.natAbs
  ·rw[if_pos e2] at e;right;have:=hn e2.1;rwa [show -x=a by omega] at this
  ·rw[if_neg e2] at e;rcases a1 e with h1 | h1
   ·exact .inl (hE.pos hb.1 h1)
   ·exact .inr (hq _ h1)
 exact⟨a0 _ _ l0 l1 h.1,a0 _ _ l1 l0 h.2⟩
theorem Wok.closed{n:Nat}{K c:List Int}(hc:Two n c)(h:Wok K c (fun _=>False)):pT K c:=by
 have l0:=(hc.lits _ hc.mem0).1;have l1:=(hc.lits _ hc.mem1).1;have h0:kn K (w0 c) = -(w0 c)->kn K (w1 c)=w1 c:=fun e=>(h.1 e).resolve_right id;have h1:kn K (w1 c) = -(w1 c)->kn K (w0 c)=w0 c:=fun e=>(h.2 e).resolve_right id;have a0:¬(kn K (w0 c) = -(w0 c)/\kn K (w1 c) = -(w1 c)):=by
  rintro⟨a,b⟩;have:=h0 a;omega
 refine⟨?_,fun x hx hall=>?_⟩
 ·by_cases e:kn K (w0 c) = -(w0 c)
  ·exact⟨w1 c,hc.mem1,fun e2=>a0 ⟨e,e2⟩⟩
  ·exact⟨w0 c,hc.mem0,e⟩
 ·by_cases e0:w0 c=x
  ·have:=hall (w1 c) hc.mem1 (by rw[<-e0];exact Ne.symm hc.ne);rw[<-e0];exact h1 this
  ·by_cases e1:w1 c=x
   ·have:=hall (w0 c) hc.mem0 e0;rw[<-e1];exact h0 this
   ·exact absurd ⟨hall _ hc.mem0 e0,hall _ hc.mem1 e1⟩ a0
def aAi(K0 c d:List Int):Prop:=(∀y∈d,y∈c)/\∀y∈c,y∈d\/kn K0 y = -y
structure Rep (F G:List (List Int)) (K0:List Int) (C:List (List Int)):Prop where
 fwd:∀c∈F,(∃y∈c,kn K0 y=y)\/∃d∈C,aAi K0 c d
 back:∀d∈C,∃c∈G,aAi K0 c d
theorem aAi.same{K0 c d d':List Int}(h:aAi K0 c d)(hs:∀y,y∈d'↔y∈d):aAi K0 c d':=
 ⟨fun y hy=>h.1 y ((hs y).1 hy),fun y hy=>(h.2 y hy).imp (hs y).2 id⟩
theorem aAi.ext{n:Nat}{K0 K1 c d:List Int}(hc:aO n c)(h:aAi K0 c d)(he:Ext K0 K1):aAi K1 c d:=
 ⟨h.1,fun y hy=>(h.2 y hy).imp id (he.neg (hc y hy).1)⟩
theorem hZ{C:List (List Int)}{p:Nat}{c:List Int}(h:C[p]? = some c):c∈C:=Z1 h
theorem Rep.set{F G:List (List Int)}{K0:List Int}{C:List (List Int)}{p:Nat}{c c':List Int}(h:Rep F G K0 C)(hp:C[p]? = some c)(hs:∀y,y∈c'↔y∈c):Rep F G K0 (C.set p c'):=by
 have a0:p<C.length:=(R9.1 hp).1;refine⟨fun d hd=>(h.fwd d hd).imp id ?_,fun d hd=>?_⟩
 ·rintro⟨e,he,hr⟩;obtain⟨q,hq⟩:=List.getElem?_of_mem he;by_cases hqp:p=q
  ·subst hqp;rw[hp] at hq;cases hq;exact⟨c',Z1 (Z4 a0),hr.same hs⟩
  ·exact⟨e,Z1 (by rw[Q8 hqp];exact hq),hr⟩
 ·rcases List.mem_or_eq_of_mem_set hd with hd | rfl
  ·exact h.back d hd
  ·obtain⟨f,hf,hr⟩:=h.back c (hZ hp);exact⟨f,hf,hr.same hs⟩
theorem Rep.unit{n:Nat}{F G:List (List Int)}{A K0 K L:List Int}{C:List (List Int)}(hF:∀c∈G,aO n c)(h:Rep F G K0 C)(hk:SK n G A K0 K L){d:List Int}(hd:d∈C){x:Int}(hx:x∈d)(hall:∀y∈d,y≠x->kn K y = -y):Der G A x:=by
 obtain⟨c,hc,h1,h2⟩:=h.back d hd;refine .unit hc (h1 x hx) fun y hy hne=>?_;have a0:=(hF c hc y hy).1;rcases h2 y hy with h3 | h3
 ·exact hk.derN a0 (hall y h3 hne)
 ·exact hk.derN a0 (hk.ext.neg a0 h3)
theorem aGt{n:Nat}{K0 K c d:List Int}(hc:aO n c)(hr:aAi K0 c d)(he:Ext K0 K)(h:pT K d):pT K c:=by
 obtain⟨⟨y,hy,a0⟩,h2⟩:=h;refine⟨⟨y,hr.1 y hy,a0⟩,fun x hx hall=>?_⟩;rcases hr.2 x hx with h3 | h3
 ·exact h2 x h3 fun z hz hzx=>hall z (hr.1 z hz) hzx
 ·have h4:=he.neg (hc x hx).1 h3;by_cases e:y=x
  ·exact absurd (e ▸ h4) (e ▸ a0)
  ·exact absurd (hall y (hr.1 y hy) e) a0
theorem aDd{n:Nat}{K c:List Int}(hc:aO n c){y:Int}(hy:y∈c)(e:kn K y=y):pT K c:=by
 have a0:=(hc y hy).1;refine⟨⟨y,hy,by omega⟩,fun x hx hall=>?_⟩;by_cases e2:y=x
 ·rw[<-e2];exact e
 ·have:=hall y hy e2;omega
structure WSt (n:Nat) (C:List (List Int)) (W:List (List Nat)):Prop where
 len:W.length=2*n+1
 two:∀c∈C,Two n c
 nodup:∀i,(W.getD i []).Nodup
 iff:∀z,Lit n z->∀p,p∈W.getD ((n:Int)+z).toNat [] ↔ ∃c,C[p]? = some c/\(w0 c=z\/w1 c=z)
def aLf(L:List Int)(k:Nat)(z:Int):Prop:=∃j,k<=j/\L[j]? = some (-z)
theorem aLf.more{L:List Int}{k:Nat}{z:Int}(h:aLf L k z)(K:List Int)(x:Int):aLf (tkL K L x) k z:=by
 obtain⟨j,hj,e⟩:=h;refine⟨j,hj,?_⟩;have a0:j<L.length:=(R9.1 e).1;unfold tkL;split
 ·rw[Y0 a0];exact e
 ·exact e
theorem aEz{K L:List Int}{k:Nat}{x:Int}(hk:k<=L.length)(h:kn K x=0):aLf (tkL K L x) k (-x):=by
 unfold tkL;rw[if_pos h];exact⟨L.length,hk,by simp⟩
theorem aLa(K L:List Int)(x:Int):L.length<=(tkL K L x).length:=by
 unfold tkL;split<;>simp
theorem dU(W:List (List Nat))(i j:Nat)(r:List Nat)(hi:i<W.length):(W.set i r).getD j []=if j=i then r else W.getD j []:=by
 by_cases h:j=i
 ·subst h;simp[List.getD_eq_getElem?_getD,hi]
 ·simp[List.getD_eq_getElem?_getD,h,Ne.symm h]
def cN(n:Nat)(W:List (List Nat))(z:Int)(p:Nat):List (List Nat):=W.set ((n:Int)+z).toNat (W.getD ((n:Int)+z).toNat []++[p])
def gV(K:List Int)(C:List (List Int)):Prop:=∀c∈C,Wok K c (fun _=>False)
theorem gV.set{K:List Int}{C:List (List Int)}{p:Nat}{c':List Int}(h:gV K C)(h':Wok K c' (fun _=>False)):gV K (C.set p c'):=by
 intro d hd;rcases List.mem_or_eq_of_mem_set hd with hd | rfl
 ·exact h d hd
 ·exact h'
structure pR (n:Nat) (F G:List (List Int)) (A K0 K L:List Int) (k:Nat) (lit:Int) (kept rest:List Nat) (C:List (List Int)) (W:List (List Nat)):Prop where
 sk:SK n G A K0 K L
 kl:k<=L.length
 hl:Lit n lit
 no:kn K lit = -lit
 wl:W.length=2*n+1
 ws:WSt n C (W.set ((n:Int)+lit).toNat (kept++rest))
 base:gV K0 C
 rep:Rep F G K0 C
 watch:∀p c,C[p]? = some c->Wok K c (fun z=>aLf L k z\/(z=lit/\p∈rest))
structure aLc (n:Nat) (F G:List (List Int)) (A K0 K L:List Int) (lit:Int) (row:List Nat) (C:List (List Int)) (W:List (List Nat)):Prop where
 fails:bO G A
 sk:SK n G A K0 K L
 hl:Lit n lit
 wl:W.length=2*n+1
 ws:WSt n C (W.set ((n:Int)+lit).toNat row)
 base:gV K0 C
 rep:Rep F G K0 C
def swp(c:List Int)(i j:Nat):List Int:=(c.set i (c.getD j 0)).set j (c.getD i 0)
theorem lA(c:List Int)(i j:Nat):(swp c i j).length=c.length:=by simp[swp]
theorem eY(c:List Int){i j:Nat}(hi:i<c.length)(hj:j<c.length)(k:Nat):(swp c i j).getD k 0=if k=j then c.getD i 0 else if k=i then c.getD j 0 else c.getD k 0:=by
 unfold swp;by_cases h1:k=j
 ·subst h1;simp[List.getD_eq_getElem?_getD,hj]
 ·by_cases h2:k=i
  ·subst h2;simp[List.getD_eq_getElem?_getD,h1,Ne.symm h1,hi]
  ·simp[List.getD_eq_getElem?_getD,h1,h2,Ne.symm h1,Ne.symm h2]
theorem nX{c:List Int}{y:Int}:y∈c ↔ ∃k,k<c.length/\c.getD k 0=y:=by
 constructor
 ·intro h;obtain⟨k,hk,e⟩:=List.getElem_of_mem h;exact⟨k,hk,by rw[R0,Q9 hk];exact e⟩
 ·rintro⟨k,hk,e⟩;rw[R0,Q9 hk] at e;exact e ▸ U5 hk
theorem aBs(c:List Int){i j:Nat}(hi:i<c.length)(hj:j<c.length)(y:Int):y∈swp c i j↔y∈c:=by
 rw[nX,nX,lA];constructor
 ·rintro⟨k,hk,e⟩;rw[eY c hi hj] at e;split at e
  ·exact⟨i,hi,e⟩
  ·split at e
   ·exact⟨j,hj,e⟩
   ·exact⟨k,hk,e⟩
 ·rintro⟨k,hk,e⟩;by_cases h1:k=i
  ·subst h1;exact⟨j,hj,by rw[eY c hi hj,if_pos rfl];exact e⟩
  ·by_cases h2:k=j
   ·subst h2;refine⟨i,hi,?_⟩;rw[eY c hi hj,if_neg (Ne.symm h1),if_pos rfl];exact e
   ·exact⟨k,hk,by rw[eY c hi hj,if_neg h2,if_neg h1];exact e⟩
theorem yD{c:List Int}(h:∀i j,i<c.length->j<c.length->c.getD i 0=c.getD j 0->i=j):c.Nodup:=by
 rw[List.nodup_iff_pairwise_ne,List.pairwise_iff_getElem];intro i j hi hj a0 e;have:=h i j hi hj (by rw[R0,Q9 hi,R0,Q9 hj];exact e);omega
theorem aNx{c:List Int}(h:c.Nodup){i j:Nat}(hi:i<c.length)(hj:j<c.length):(swp c i j).Nodup:=by
 refine yD fun a b ha hb e=>?_;rw[lA] at ha hb;rw[eY c hi hj,eY c hi hj] at e;have inj:∀x y,x<c.length->y<c.length->c.getD x 0=c.getD y 0->x=y:=fun x y hx hy e=>Decidable.byContradiction fun hne=>mN h hx hy hne e;by_cases a1:a=j<;>by_cases b1:b=j
 ·omega
 ·rw[if_pos a1,if_neg b1] at e;by_cases b2:b=i
  ·rw[if_pos b2] at e;have:=inj _ _ hi hj e;omega
  ·rw[if_neg b2] at e;have:=inj _ _ hi hb e;omega
 ·rw[if_neg a1,if_pos b1] at e;by_cases a2:a=i
  ·rw[if_pos a2] at e;have:=inj _ _ hj hi e;omega
  ·rw[if_neg a2] at e;have:=inj _ _ ha hi e;omega
 ·rw[if_neg a1,if_neg b1] at e;by_cases a2:a=i<;>by_cases b2:b=i
  ·omega
  ·rw[if_pos a2,if_neg b2] at e;have:=inj _ _ hj hb e;omega
  ·rw[if_neg a2,if_pos b2] at e;have:=inj _ _ ha hj e;omega
  ·rw[if_neg a2,if_neg b2] at e;exact inj _ _ ha hb e
theorem aKy{n:Nat}{c:List Int}(h:Two n c){i j:Nat}(hi:i<c.length)(hj:j<c.length):Two n (swp c i j):=
 ⟨by rw[lA];exact h.len,fun y hy=>h.lits y ((aBs c hi hj y).1 hy),aNx h.nodup hi hj⟩
def mv0(lit:Int)(c:List Int):List Int:=if c.getD 0 0=lit then swp c 0 1 else c
theorem aAz(lit:Int)(c:List Int):(mv0 lit c).length=c.length:=by unfold mv0;split<;>simp[lA]
theorem rE{n:Nat}{c:List Int}{lit:Int}(h:Two n c)(hw:w0 c=lit\/w1 c=lit):
  Two n (mv0 lit c)/\(∀y,y∈mv0 lit c↔y∈c)/\w1 (mv0 lit c)=lit/\((w0 c=lit/\w0 (mv0 lit c)=w1 c)\/(w1 c=lit/\w0 (mv0 lit c)=w0 c)):=by
 have hl:=h.len;unfold mv0;by_cases e:c.getD 0 0=lit
 ·rw[if_pos e];refine⟨aKy h (by omega) (by omega),aBs c (by omega) (by omega),?_,.inl ⟨e,?_⟩⟩
  ·unfold w1;rw[eY c (by omega) (by omega),if_pos rfl];exact e
  ·unfold w0 w1;rw[eY c (by omega) (by omega),if_neg (by omega),if_pos rfl]
 ·rw[if_neg e];have:w1 c=lit:=hw.resolve_left e;exact⟨h,fun _=>Iff.rfl,this,.inr ⟨this,rfl⟩⟩
theorem Wok.of_mv0{n:Nat}{c K:List Int}{lit:Int}{Q:Int->Prop}(h:Two n c)(hw:w0 c=lit\/w1 c=lit):Wok K (mv0 lit c) Q↔Wok K c Q:=by
 obtain⟨-,-,h1,h2⟩:=rE h hw;unfold Wok;rw[h1];rcases h2 with ⟨a,b⟩ | ⟨a,b⟩
 ·rw[b,a];exact And.comm
 ·rw[b,a]
theorem aCe{n:Nat}{W:List (List Nat)}{lit:Int}{row:List Nat}(hl:Lit n lit)(hW:W.length=2*n+1):(W.set ((n:Int)+lit).toNat row).getD ((n:Int)+lit).toNat []=row:=by
 rw[dU _ _ _ _ (by have:=hl.2;omega),if_pos rfl]
theorem sU{n:Nat}{W:List (List Nat)}{lit z:Int}{row:List Nat}(hl:Lit n lit)(hz:Lit n z)(hW:W.length=2*n+1)(hne:z≠lit):(W.set ((n:Int)+lit).toNat row).getD ((n:Int)+z).toNat []=W.getD ((n:Int)+z).toNat []:=by
 rw[dU _ _ _ _ (by have:=hl.2;omega),if_neg (by have:=hl.2;have:=hz.2;omega)]
theorem aSk{n:Nat}{C:List (List Int)}{W:List (List Nat)}{lit z o:Int}{kept rest:List Nat}{p:Nat}{c c':List Int}(hl:Lit n lit)(hW:W.length=2*n+1)(h:WSt n C (W.set ((n:Int)+lit).toNat (kept++p :: rest)))(hp:C[p]? = some c)
  (hc:(w0 c=lit/\w1 c=o)\/(w1 c=lit/\w0 c=o)) (h2:Two n c') (e0:w0 c'=o) (e1:w1 c'=z) (hzl:z≠lit) (hol:o≠lit) (hzc:z≠w0 c/\z≠w1 c):
  WSt n (C.set p c') ((cN n W z p).set ((n:Int)+lit).toNat (kept++rest))/\(cN n W z p).length=2*n+1:=by
 have a7:p<C.length:=(R9.1 hp).1;have hz:Lit n z:=e1 ▸ h2.lits _ h2.mem1;have a1:(cN n W z p).length=2*n+1:=by simp[cN,hW]
 have a2:∀y,Lit n y->y≠lit->W.getD ((n:Int)+y).toNat []=(W.set ((n:Int)+lit).toNat (kept++p :: rest)).getD ((n:Int)+y).toNat []:=fun y hy hne=>(sU hl hy hW hne).symm;have a6:(W.set ((n:Int)+lit).toNat (kept++p :: rest)).getD ((n:Int)+lit).toNat []=kept++p :: rest:=aCe hl hW;have a0:=h.nodup ((n:Int)+lit).toNat;rw[a6] at a0;have b0:p ∉ kept++rest:=by
  rw[List.nodup_append] at a0;obtain⟨_,h4,h5⟩:=a0;rw[List.nodup_cons] at h4;intro hm;rcases U0.1 hm with hm | hm
  ·exact h5 p hm p Y9 rfl
  ·exact h4.1 hm
 have a3:(kept++rest).Nodup:=by
  rw[List.nodup_append] at a0 |-
  obtain⟨h3,h4,h5⟩:=a0;exact⟨h3,(List.nodup_cons.1 h4).2,fun a ha b hb=>h5 a ha b (Z3 _ hb)⟩
 have a9:p ∉ W.getD ((n:Int)+z).toNat []:=by
  rw[a2 z hz hzl,h.iff z hz];rintro⟨d,hd,he⟩;rw[hp] at hd;cases hd;rcases he with he | he
  ·exact hzc.1 he.symm
  ·exact hzc.2 he.symm
 have a5:((n:Int)+z).toNat<W.length:=by have:=hz.2;omega
 have a4:∀y,Lit n y->((cN n W z p).set ((n:Int)+lit).toNat (kept++rest)).getD ((n:Int)+y).toNat []=if y=lit then kept++rest else if y=z then W.getD ((n:Int)+z).toNat []++[p] else W.getD ((n:Int)+y).toNat []:=by
  intro y hy;by_cases e:y=lit
  ·rw[if_pos e,e];exact aCe hl a1
  ·rw[if_neg e,sU hl hy a1 e];unfold cN;rw[dU _ _ _ _ a5];by_cases e2:y=z
   ·rw[if_pos e2,if_pos (by rw[e2])]
   ·rw[if_neg e2,if_neg (by have:=hy.2;have:=hz.2;omega)]
 refine⟨⟨by simp[a1],fun d hd=>?_,fun i=>?_,fun y hy q=>?_⟩,a1⟩
 ·rcases List.mem_or_eq_of_mem_set hd with hd | rfl
  ·exact h.two d hd
  ·exact h2
 ·rw[dU _ _ _ _ (by rw[a1];have:=hl.2;omega)];split
  ·exact a3
  ·rename_i hil;unfold cN;rw[dU _ _ _ _ a5];have hi:=h.nodup i;rw[dU _ _ _ _ (by rw[hW];have:=hl.2;omega),if_neg hil] at hi;split
   ·rename_i hiz;rw[<-hiz];rw[List.nodup_append];refine⟨hi,by simp,fun a ha b hb e=>?_⟩;rw[T0.1 hb] at e;rw[e,hiz] at ha;exact a9 ha
   ·exact hi
 ·rw[a4 y hy];have old:=h.iff y hy q;by_cases hqp:p=q
  ·subst hqp;rw[Z4 a7];have a8:(∃d,some c'=some d/\(w0 d=y\/w1 d=y))↔(o=y\/z=y):=by
    constructor
    ·rintro⟨d,hd,he⟩;cases hd;rwa [e0,e1] at he
    ·intro he;exact⟨c',rfl,by rwa [e0,e1]⟩
   rw[a8];by_cases e:y=lit
   ·rw[if_pos e];constructor
    ·intro hm;exact absurd hm b0
    ·rintro (he | he)
     ·exact absurd (he.trans e) hol
     ·exact absurd (he.trans e) hzl
   ·rw[if_neg e];by_cases e2:y=z
    ·rw[if_pos e2];exact⟨fun _=>.inr e2.symm,fun _=>Y5 _ (by simp)⟩
    ·rw[if_neg e2,a2 y hy e,old];constructor
     ·rintro⟨d,hd,he⟩;rw[hp] at hd;cases hd;rcases hc with ⟨a,b⟩ | ⟨a,b⟩
      ·rw[a,b] at he;exact .inl (he.resolve_left fun e3=>e e3.symm)
      ·rw[a,b] at he;exact .inl (he.resolve_right fun e3=>e e3.symm)
     ·rintro (he | he)
      ·refine⟨c,hp,?_⟩;rcases hc with ⟨a,b⟩ | ⟨a,b⟩
       ·exact .inr (b.trans he)
       ·exact .inl (b.trans he)
      ·exact absurd he.symm e2
  ·rw[Q8 hqp];by_cases e:y=lit
   ·subst e;rw[if_pos rfl,<-old,a6];constructor
    ·intro hm;rcases U0.1 hm with hm | hm
     ·exact Y6 _ hm
     ·exact Y5 _ (Z3 _ hm)
    ·intro hm;rcases U0.1 hm with hm | hm
     ·exact Y6 _ hm
     ·rcases Q3.1 hm with hm | hm
      ·exact absurd hm.symm hqp
      ·exact Y5 _ hm
   ·rw[if_neg e,<-old,<-a2 y hy e];by_cases e2:y=z
    ·rw[if_pos e2,U0,T0,e2];exact⟨fun h3=>h3.resolve_right fun e3=>hqp e3.symm,.inl⟩
    ·rw[if_neg e2]
theorem aSl{n:Nat}{C:List (List Int)}{W:List (List Nat)}{p:Nat}{c c':List Int}(h:WSt n C W)(hp:C[p]? = some c)(h2:Two n c')(hs:∀z,(w0 c'=z\/w1 c'=z)↔(w0 c=z\/w1 c=z)):WSt n (C.set p c') W:=by
 have a0:p<C.length:=(R9.1 hp).1;refine⟨h.len,fun d hd=>?_,h.nodup,fun z hz q=>?_⟩
 ·rcases List.mem_or_eq_of_mem_set hd with hd | rfl
  ·exact h.two d hd
  ·exact h2
 ·rw[h.iff z hz q];by_cases hqp:p=q
  ·subst hqp;rw[Z4 a0,hp];constructor
   ·rintro⟨d,hd,he⟩;cases hd;exact⟨c',rfl,(hs z).2 he⟩
   ·rintro⟨d,hd,he⟩;cases hd;exact⟨c,rfl,(hs z).1 he⟩
  ·rw[Q8 hqp]
inductive Mv (K:List Int) (lit:Int) (c:List Int):List Int->Bool->Prop
 | stay:(kn K (w0 (mv0 lit c))=w0 (mv0 lit c)\/∀k,2<=k->k<c.length->kn K ((mv0 lit c).getD k 0) = -((mv0 lit c).getD k 0))->Mv K lit c (mv0 lit c) false
 | gone {k:Nat}:2<=k->k<c.length->kn K ((mv0 lit c).getD k 0) ≠ -((mv0 lit c).getD k 0)->Mv K lit c (swp (mv0 lit c) 1 k) true
theorem pR.at{n:Nat}{F G:List (List Int)}{A K0 K L:List Int}{k:Nat}{lit:Int}{kept rest:List Nat}{p:Nat}{C:List (List Int)}{W:List (List Nat)}(h:pR n F G A K0 K L k lit kept (p :: rest) C W):∃c,C[p]? = some c/\Two n c/\(w0 c=lit\/w1 c=lit):=by
 have h1:p∈(W.set ((n:Int)+lit).toNat (kept++p :: rest)).getD ((n:Int)+lit).toNat []:=by
  rw[aCe h.hl h.wl];exact Y5 _ Y9
 obtain⟨c,hc,hw⟩:=(h.ws.iff lit h.hl p).1 h1;exact⟨c,hc,h.ws.two c (hZ hc),hw⟩
theorem pR.move{n:Nat}{F G:List (List Int)}{A K0 K L:List Int}{k:Nat}{lit:Int}{kept rest:List Nat}{p:Nat}{C:List (List Int)}{W:List (List Nat)}{c c':List Int}(h:pR n F G A K0 K L k lit kept (p :: rest) C W)(hp:C[p]? = some c)(hm:Mv K lit c c' true):
  pR n F G A K0 K L k lit kept rest (C.set p c') (cN n W (w1 c') p)/\Lit n (w1 c')/\w1 c'≠lit:=by
 obtain⟨d,hd,h2,hw⟩:=h.at;rw[hp] at hd;cases hd;obtain⟨m2,mm,m1,mo⟩:=rE h2 hw;cases hm with
 | @gone j hj hjl hne=>
  have b1:(mv0 lit c).length=c.length:=aAz lit c;have b0:=h2.len;have e0:w0 (swp (mv0 lit c) 1 j)=w0 (mv0 lit c):=by
   unfold w0;rw[eY _ (by omega) (by omega),if_neg (by omega),if_neg (by omega)]
  have e1:w1 (swp (mv0 lit c) 1 j)=(mv0 lit c).getD j 0:=by
   unfold w1;rw[eY _ (by omega) (by omega),if_neg (by omega),if_pos rfl]
  have a4:(mv0 lit c).getD j 0≠w0 (mv0 lit c):=mN m2.nodup (by omega) (by omega) (by omega);have a6:(mv0 lit c).getD j 0≠w1 (mv0 lit c):=mN m2.nodup (by omega) (by omega) (by omega);have s2:Two n (swp (mv0 lit c) 1 j):=aKy m2 (by omega) (by omega);have sm:∀y,y∈swp (mv0 lit c) 1 j↔y∈c:=fun y=>(aBs _ (by omega) (by omega) y).trans (mm y);have a3:w0 (mv0 lit c)≠lit:=by have:=m2.ne;rwa [m1] at this
  have a1:(mv0 lit c).getD j 0≠lit:=by rwa [m1] at a6
  rw[e1];generalize hz:(mv0 lit c).getD j 0=z at *;generalize ho:w0 (mv0 lit c)=o at *;have a5:Lit n z:=e1 ▸ s2.lits _ s2.mem1;have b2:Lit n o:=e0 ▸ s2.lits _ s2.mem0;have a2:(w0 c=lit/\w1 c=o)\/(w1 c=lit/\w0 c=o):=by
   rcases mo with ⟨a,b⟩ | ⟨a,b⟩
   ·exact .inl ⟨a,b.symm⟩
   ·exact .inr ⟨a,b.symm⟩
  have a8:z≠w0 c/\z≠w1 c:=by
   rcases a2 with ⟨a,b⟩ | ⟨a,b⟩
   ·rw[a,b];exact⟨a1,a4⟩
   ·rw[a,b];exact⟨a4,a1⟩
  obtain⟨ws,wl⟩:=aSk h.hl h.wl h.ws hp a2 s2 e0 e1 a1 a3 a8;have a7:=h.hl.1;have a9:=h.no
  -- what the clause watched before
  have a0:∀(K':List Int) (Q:Int->Prop),Wok K' c Q->kn K' o = -o->kn K' lit=lit\/Q o:=by
   intro K' Q hq e;rcases a2 with ⟨a,b⟩ | ⟨a,b⟩
   ·have:=hq.2;rw[a,b] at this;exact this e
   ·have:=hq.1;rw[a,b] at this;exact this e
  refine⟨⟨h.sk,h.kl,h.hl,h.no,wl,ws,h.base.set ?_,h.rep.set hp sm,fun q d hq=>?_⟩,a5,a1⟩
  ·refine⟨fun e=>?_,fun e=>?_⟩
   ·rw[e0] at e;have:=(a0 K0 _ (h.base c (hZ hp)) e).resolve_right id;have:=h.sk.ext.pos a7 this;omega
   ·rw[e1] at e;exact absurd (h.sk.ext.neg a5.1 e) hne
  ·by_cases hqp:p=q
   ·subst hqp;rw[Z4 (R9.1 hp).1] at hq;cases hq;refine⟨fun e=>?_,fun e=>?_⟩
    ·rw[e0] at e |-
     rcases a0 K _ (h.watch p c hp) e with h3 | h3 | h3
     ·omega
     ·exact .inr (.inl h3)
     ·exact absurd h3.1 a3
    ·rw[e1] at e;exact absurd e hne
   ·rw[Q8 hqp] at hq;refine (h.watch q d hq).mono fun z _ hz=>hz.imp id ?_;rintro⟨a,b⟩;exact⟨a,(Q3.1 b).resolve_left fun e=>hqp e.symm⟩
theorem pR.stay{n:Nat}{F G:List (List Int)}{A K0 K L:List Int}{k:Nat}{lit:Int}{kept rest:List Nat}{p:Nat}{C:List (List Int)}{W:List (List Nat)}{c c':List Int}(hG:∀c∈G,aO n c)(h:pR n F G A K0 K L k lit kept (p :: rest) C W)(hp:C[p]? = some c)(hm:Mv K lit c c' false):
  Lit n (w0 c')/\Two n c'/\(kn (tkK K (w0 c')) (w0 c')=w0 c'->pR n F G A K0 (tkK K (w0 c')) (tkL K L (w0 c')) k lit (kept++[p]) rest (C.set p c') W)/\
   (kn (tkK K (w0 c')) (w0 c')≠w0 c'->aLc n F G A K0 (tkK K (w0 c')) (tkL K L (w0 c')) lit (kept++[p]++rest) (C.set p c') W):=by
 obtain⟨d,hd,h2,hw⟩:=h.at;rw[hp] at hd;cases hd;obtain⟨m2,mm,m1,mo⟩:=rE h2 hw;have a5:=(R9.1 hp).1;cases hm with
 | stay hst=>
  have a7:∀K' Q,Wok K' (mv0 lit c) Q↔Wok K' c Q:=fun K' Q=>Wok.of_mv0 h2 hw;have a6:∀z,(w0 (mv0 lit c)=z\/w1 (mv0 lit c)=z)↔(w0 c=z\/w1 c=z):=by
   intro z;rw[m1];rcases mo with ⟨a,b⟩ | ⟨a,b⟩
   ·rw[b,a];exact Or.comm
   ·rw[b,a]
  have a2:Lit n (w0 (mv0 lit c)):=m2.lits _ m2.mem0;have a1:=h.rep.set hp mm;have a4:Der G A (w0 (mv0 lit c)):=by
   rcases hst with e | hall
   ·exact h.sk.der _ a2.1 e
   ·refine a1.unit hG h.sk (Z1 (Z4 a5)) m2.mem0 fun y hy hne=>?_;obtain⟨j,hj,e⟩:=nX.1 hy;by_cases j0:j=0
    ·exact absurd (by rw[<-e,j0];rfl) hne
    ·by_cases j1:j=1
     ·have:y=lit:=by rw[<-e,j1];exact m1
      rw[this];exact h.no
     ·rw[aAz] at hj;have:=hall j (by omega) hj;rwa [e] at this
  obtain⟨sk,hf⟩:=h.sk.take a2 a4;have a0:gV K0 (C.set p (mv0 lit c)):=h.base.set ((a7 K0 _).2 (h.base c (hZ hp)));have a3:WSt n (C.set p (mv0 lit c)) (W.set ((n:Int)+lit).toNat (kept++[p]++rest)):=by
   rw[show kept++[p]++rest=kept++p :: rest by simp];exact aSl h.ws hp m2 a6
  have hE:=rR h.sk.tb a2;refine⟨a2,m2,fun e=>⟨sk,U2 h.kl (aLa _ _ _),h.hl,hE.neg h.hl.1 h.no,h.wl,a3,a0,a1,fun q d hq=>?_⟩,fun e=>⟨hf e,sk,h.hl,h.wl,a3,a0,a1⟩⟩;by_cases hqp:p=q
  ·subst hqp;rw[Z4 a5] at hq;cases hq;have a8:=a2.1;refine⟨fun e2=>?_,fun _=>.inl e⟩;rw[e] at e2;omega
  ·rw[Q8 hqp] at hq;refine Wok.take h.sk.tb a2 (h.ws.two d (hZ hq)) (h.watch q d hq) (fun z hz=>?_) fun e0=>.inl (aEz h.kl e0);rcases hz with hz | ⟨a,b⟩
   ·exact .inl (hz.more _ _)
   ·exact .inr ⟨a,(Q3.1 b).resolve_left fun e=>hqp e.symm⟩
structure jP (n:Nat) (F G:List (List Int)) (A K0 K L:List Int) (k:Nat) (C:List (List Int)) (W:List (List Nat)):Prop where
 sk:SK n G A K0 K L
 kl:k<=L.length
 ws:WSt n C W
 base:gV K0 C
 rep:Rep F G K0 C
 watch:∀c∈C,Wok K c (aLf L k)
structure aCi (n:Nat) (F G:List (List Int)) (A K0 K L:List Int) (C:List (List Int)) (W:List (List Nat)):Prop where
 fails:bO G A
 sk:SK n G A K0 K L
 ws:WSt n C W
 base:gV K0 C
 rep:Rep F G K0 C
theorem jP.ask{n:Nat}{F G:List (List Int)}{A K0 K L:List Int}{k:Nat}{C:List (List Int)}{W:List (List Nat)}{x:Int}(h:jP n F G A K0 K L k C W)(hx:L[k]? = some x):
  Lit n (-x)/\pR n F G A K0 K L (k+1) (-x) [] (W.getD ((n:Int) + -x).toNat []) C W:=by
 have a2:=h.sk.fd x (Z1 hx);have a3:=(R9.1 hx).1;have hl:Lit n (-x):=a2.1.neg;have hi:((n:Int) + -x).toNat<W.length:=by rw[h.ws.len];have:=hl.2;omega
 have a0:W.set ((n:Int) + -x).toNat ([]++W.getD ((n:Int) + -x).toNat [])=W:=by
  rw[List.nil_append,R0,Q9 hi,Q7,List.set_getElem_self]
 refine⟨hl,h.sk,a3,hl,by rw[aAx,Int.neg_neg];exact a2.2,h.ws.len,by rw[a0];exact h.ws,h.base,h.rep,fun p c hp=>?_⟩;refine (h.watch c (hZ hp)).mono fun z hz hpd=>?_;obtain⟨j,hj,e⟩:=hpd;by_cases hjk:j=k
 ·subst hjk;rw[hx] at e;have a1:z = -x:=by have:=U6 e;omega
  refine .inr ⟨a1,?_⟩;rw[h.ws.iff _ hl];exact⟨c,hp,by rcases hz with hz | hz<;>rw[<-a1,hz]<;>simp⟩
 ·exact .inl ⟨j,by omega,e⟩
theorem pR.done{n:Nat}{F G:List (List Int)}{A K0 K L:List Int}{k:Nat}{lit:Int}{kept:List Nat}{C:List (List Int)}{W:List (List Nat)}(h:pR n F G A K0 K L k lit kept [] C W):jP n F G A K0 K L k C (W.set ((n:Int)+lit).toNat kept):=by
 refine⟨h.sk,h.kl,by have:=h.ws;rwa [List.append_nil] at this,h.base,h.rep,fun c hc=>?_⟩;obtain⟨p,hp⟩:=List.getElem?_of_mem hc;exact (h.watch p c hp).mono fun z _ hz=>hz.elim id fun e=>by simp at e
theorem aLc.done{n:Nat}{F G:List (List Int)}{A K0 K L:List Int}{lit:Int}{row:List Nat}{C:List (List Int)}{W:List (List Nat)}(h:aLc n F G A K0 K L lit row C W):aCi n F G A K0 K L C (W.set ((n:Int)+lit).toNat row):=
 ⟨h.fails,h.sk,h.ws,h.base,h.rep⟩
theorem jP.take{n:Nat}{F G:List (List Int)}{A K0 K L:List Int}{k:Nat}{C:List (List Int)}{W:List (List Nat)}{x:Int}(h:jP n F G A K0 K L k C W)(hx:Lit n x)(hd:Der G A x):
  (kn (tkK K x) x=x->jP n F G A K0 (tkK K x) (tkL K L x) k C W)/\(kn (tkK K x) x≠x->aCi n F G A K0 (tkK K x) (tkL K L x) C W):=by
 obtain⟨sk,hf⟩:=h.sk.take hx hd;refine⟨fun _=>⟨sk,U2 h.kl (aLa _ _ _),h.ws,h.base,h.rep,fun c hc=>?_⟩,fun e=>⟨hf e,sk,h.ws,h.base,h.rep⟩⟩;exact Wok.take h.sk.tb hx (h.ws.two c hc) (h.watch c hc) (fun z hz=>hz.more _ _) fun e0=>aEz h.kl e0
theorem jP.done{n:Nat}{F G:List (List Int)}{A K0 K L:List Int}{C:List (List Int)}{W:List (List Nat)}(h:jP n F G A K0 K L L.length C W):gV K C:=
 fun c hc=>(h.watch c hc).mono fun z _ hz=>by
  obtain⟨j,hj,e⟩:=hz;rw[A9 hj] at e;cases e
structure XI (n:Nat) (F:List (List Int)) (fl:Bool) (K:List Int) (C:List (List Int)) (W:List (List Nat)):Prop where
 tb:Tb n K
 ws:WSt n C W
 ok:fl=false->(∀x,x≠0->kn K x=x->Der F [] x)/\gV K C/\Rep F F K C
 no:fl=true->bO F []
theorem aUm(n:Nat):XI n [] false (List.replicate (n+1) 0) [] (List.replicate (2*n+1) []):=by
 have hg:∀i,(List.replicate (2*n+1) ([]:List Nat)).getD i [] = []:=fun i=>by
  simp[List.getD_eq_getElem?_getD,List.getElem?_replicate];split<;>simp
 refine⟨aUk n,⟨by simp,by simp,fun i=>by rw[hg];simp,fun z _ p=>by rw[hg];simp⟩,fun _=>⟨fun x hx e=>?_,by simp[gV],by simp,by simp⟩,by simp⟩;rw[aTo] at e;exact absurd e.symm hx
theorem aFz{n:Nat}{K:List Int}(h:Tb n K):K.count 0<=n+1:=by have:=List.count_le_length (a:=(0:Int)) (l:=K);have:=h.len;omega
theorem XI.start{n:Nat}{F:List (List Int)}{K:List Int}{C:List (List Int)}{W:List (List Nat)}(h:XI n F false K C W)(A:List Int):jP n F F A K K [] 0 C W:=by
 obtain⟨h1,h2,h3⟩:=h.ok rfl;refine⟨⟨h.tb,fun x hx e=>(h1 x hx e).more (fun _ h=>h) (by simp),Ext.refl K,by simp,by simpa using aFz h.tb⟩,Nat.zero_le _,h.ws,h2,h3,fun c hc=>(h2 c hc).mono fun _ _ e=>e.elim⟩
theorem XI.again{n:Nat}{F:List (List Int)}{K:List Int}{C C':List (List Int)}{W W':List (List Nat)}(h:XI n F false K C W)(hw:WSt n C' W')(hb:gV K C')(hr:Rep F F K C'):XI n F false K C' W':=
 ⟨h.tb,hw,fun _=>⟨(h.ok rfl).1,hb,hr⟩,by simp⟩
theorem oU{n:Nat}{K:List Int}(h:Tb n K)(x:Int):x∈eJ K↔(x≠0/\kn K x=x):=by
 unfold eJ;rw[List.mem_filter];constructor
 ·rintro⟨hm,hx⟩;have hx:x≠0:=by simpa using hx
  refine⟨hx,?_⟩;obtain⟨i,hi,e⟩:=List.getElem_of_mem hm;have h1:K.getD i 0=x:=by simp[List.getD_eq_getElem?_getD,hi,e]
  rcases h.own i hi with h2 | h2
  ·rw[h1] at h2;exact absurd h2 hx
  ·rw[h1] at h2;unfold kn;rw[h2,h1]
 ·rintro⟨hx,hk⟩;refine⟨?_,by simpa using hx⟩;have a0:x.natAbs<K.length:=by
   rcases Nat.lt_or_ge x.natAbs K.length with h2 | h2
   ·exact h2
   ·simp[kn,List.getD_eq_getElem?_getD,List.getElem?_eq_none h2] at hk;exact absurd hk.symm hx
  have h1:K[x.natAbs]=x:=by simpa[kn,List.getD_eq_getElem?_getD,a0] using hk
  exact h1 ▸ U5 a0
theorem aMm(K:List Int):(eJ K).length+K.count 0=K.length:=by
 induction K with
 | nil=>rfl
 | cons a K ih=>
  unfold eJ at ih |-
  by_cases e:a=0
  ·subst e;simp at ih |-;omega
  ·simp[e] at ih |-;omega
theorem jP.good{n:Nat}{F G:List (List Int)}{A K0 K L:List Int}{k:Nat}{C:List (List Int)}{W:List (List Nat)}(h:jP n F G A K0 K L k C W):aCh n G A K (eJ K):=
 ⟨h.sk.tb.len,h.sk.tb.own,oU h.sk.tb,by rw[aMm,h.sk.tb.len],fun x hx=>h.sk.der x ((oU h.sk.tb x).1 hx).1 ((oU h.sk.tb x).1 hx).2⟩
theorem aId{n:Nat}{F G:List (List Int)}{K0 K:List Int}{C:List (List Int)}(hF:∀c∈F,aO n c)(h2:∀c∈C,Two n c)(hb:gV K C)(hr:Rep F G K0 C)(he:Ext K0 K):∀c∈F,pT K c:=by
 intro c hc;rcases hr.fwd c hc with ⟨y,hy,e⟩ | ⟨d,hd,hrc⟩
 ·exact aDd (hF c hc) hy (he.pos (hF c hc y hy).1 e)
 ·exact aGt (hF c hc) hrc he (Wok.closed (h2 d hd) (hb d hd))
theorem jP.end{n:Nat}{F:List (List Int)}{A K0 K L:List Int}{C:List (List Int)}{W:List (List Nat)}(hF:∀c∈F,aO n c)(h:jP n F F A K0 K L L.length C W)(ha:∀a∈A,a≠0/\kn K a=a):
  aCh n F A K (eJ K)/\(∀x,x∈eJ K↔Der F A x)/\¬bO F A:=by
 have g:=h.good;have a0:=aId hF h.ws.two h.done h.rep h.sk.ext;exact⟨g,aMi hF g (fun a hm=>(oU h.sk.tb a).2 (ha a hm)) fun c hc=>.inr (.inl (a0 c hc))⟩
def lft(K:List Int):List Int->List Int->Option (List Int)
 | acc,[]=>some acc
 | acc,x :: c=>if kn K x=x then none else if kn K x=0/\x ∉ acc then lft K (acc++[x]) c else lft K acc c
theorem rA{n:Nat}{K:List Int}(hK:Tb n K):∀ {c acc:List Int},aO n c->acc.Nodup->(∀y∈acc,kn K y=0)->
  (lft K acc c=none->∃y∈c,kn K y=y)/\∀l,lft K acc c=some l->l.Nodup/\(∀y∈acc,y∈l)/\(∀y∈l,kn K y=0/\(y∈acc\/y∈c))/\(∀y∈c,y∈l\/kn K y = -y)/\l.length<=acc.length+c.length
 | [],acc,_,hn,ha=>⟨by simp[lft],fun l hl=>by
   simp only[lft,Option.some.injEq] at hl;subst hl;exact⟨hn,fun _ h=>h,fun y hy=>⟨ha y hy,.inl hy⟩,by simp,by simp⟩⟩
 | x :: c,acc,hc,hn,ha=>by
  have hx:=hc x Y9;have a0:aO n c:=fun y hy=>hc y (Z3 _ hy);unfold lft;by_cases e:kn K x=x
  ·rw[if_pos e];exact⟨fun _=>⟨x,Y9,e⟩,by simp⟩
  ·rw[if_neg e];by_cases e2:kn K x=0/\x ∉ acc
   ·rw[if_pos e2];have a1:(acc++[x]).Nodup:=by
     rw[List.nodup_append];refine⟨hn,by simp,fun a ha b hb e3=>?_⟩;rw[T0.1 hb] at e3;exact e2.2 (e3 ▸ ha)
    obtain⟨i1,i2⟩:=rA hK a0 a1 (fun y hy=>by
     rcases U0.1 hy with hy | hy
     ·exact ha y hy
     ·rw[T0.1 hy];exact e2.1)
    refine⟨fun h=>?_,fun l hl=>?_⟩
    ·obtain⟨y,hy,h3⟩:=i1 h;exact⟨y,Z3 _ hy,h3⟩
    ·obtain⟨a,b,d,f,g⟩:=i2 l hl;refine⟨a,fun y hy=>b y (Y6 _ hy),fun y hy=>⟨(d y hy).1,?_⟩,fun y hy=>?_,by simp at g |-;omega⟩
     ·rcases (d y hy).2 with h3 | h3
      ·rcases U0.1 h3 with h3 | h3
       ·exact .inl h3
       ·rw[T0.1 h3];exact .inr Y9
      ·exact .inr (Z3 _ h3)
     ·rcases Q3.1 hy with rfl | hy
      ·exact .inl (b _ (Y5 _ (by simp)))
      ·exact f y hy
   ·rw[if_neg e2];obtain⟨i1,i2⟩:=rA hK a0 hn ha;refine⟨fun h=>?_,fun l hl=>?_⟩
    ·obtain⟨y,hy,h3⟩:=i1 h;exact⟨y,Z3 _ hy,h3⟩
    ·obtain⟨a,b,d,f,g⟩:=i2 l hl;refine⟨a,b,fun y hy=>⟨(d y hy).1,(d y hy).2.imp id (Z3 _)⟩,fun y hy=>?_,by simp at g |-;omega⟩;rcases Q3.1 hy with rfl | hy
     ·rcases hK.cases y with h3 | h3 | h3
      ·exact .inl (b y (Decidable.byContradiction fun h4=>e2 ⟨h3,h4⟩))
      ·exact absurd h3 e
      ·exact .inr h3
     ·exact f y hy
theorem aQh{n:Nat}{K c:List Int}(hK:Tb n K)(hc:aO n c)(h:lft K [] c=none):∃y∈c,kn K y=y:=(rA hK hc (by simp) (by simp)).1 h
theorem nU{n:Nat}{K c l:List Int}(hK:Tb n K)(hc:aO n c)(h:lft K [] c=some l):l.Nodup/\(∀y∈l,kn K y=0/\y∈c)/\(∀y∈c,y∈l\/kn K y = -y)/\l.length<=c.length:=by
 obtain⟨a,-,d,f,g⟩:=(rA hK hc (by simp) (by simp)).2 l h;exact⟨a,fun y hy=>⟨(d y hy).1,(d y hy).2.resolve_left (by simp)⟩,f,by simpa using g⟩
theorem kE{F:List (List Int)}{c:List Int}:∀d∈F,d∈F++[c]:=fun _ h=>Y6 _ h
theorem Rep.more{F G:List (List Int)}{K:List Int}{C:List (List Int)}{c:List Int}(h:Rep F G K C):Rep F (G++[c]) K C:=
 ⟨h.fwd,fun d hd=>by obtain⟨e,he,hr⟩:=h.back d hd;exact⟨e,kE e he,hr⟩⟩
theorem Rep.also{F G:List (List Int)}{K:List Int}{C:List (List Int)}{c:List Int}(h:Rep F G K C){y:Int}(hy:y∈c)(e:kn K y=y):Rep (F++[c]) G K C:=
 ⟨fun d hd=>by
  rcases U0.1 hd with hd | hd
  ·exact h.fwd d hd
  ·rw[T0.1 hd];exact .inl ⟨y,hy,e⟩,h.back⟩
theorem Rep.ext{n:Nat}{F G:List (List Int)}{K K':List Int}{C:List (List Int)}(hF:∀c∈F,aO n c)(hG:∀c∈G,aO n c)(h:Rep F G K C)(he:Ext K K'):Rep F G K' C:=
 ⟨fun c hc=>(h.fwd c hc).imp (fun ⟨y,hy,e⟩=>⟨y,hy,he.pos (hF c hc y hy).1 e⟩) (fun ⟨d,hd,hr⟩=>⟨d,hd,hr.ext (hF c hc) he⟩),fun d hd=>by
  obtain⟨c,hc,hr⟩:=h.back d hd;exact⟨c,hc,hr.ext (hG c hc) he⟩⟩
theorem mG{F:List (List Int)}{c:List Int}(h:bO F []):bO (F++[c]) []:=h.more kE (by simp)
theorem XI.skip{n:Nat}{F:List (List Int)}{fl:Bool}{K c:List Int}{C:List (List Int)}{W:List (List Nat)}(h:XI n F fl K C W)(hc:aO n c)(hl:lft K [] c=none):XI n (F++[c]) fl K C W:=by
 obtain⟨y,hy,e⟩:=aQh h.tb hc hl;refine⟨h.tb,h.ws,fun hf=>?_,fun hf=>mG (h.no hf)⟩;obtain⟨h1,h2,h3⟩:=h.ok hf;exact⟨fun x hx e=>(h1 x hx e).more kE (by simp),h2,h3.more.also hy e⟩
theorem XI.empty{n:Nat}{F:List (List Int)}{fl:Bool}{K c:List Int}{C:List (List Int)}{W:List (List Nat)}(h:XI n F fl K C W)(hc:aO n c)(hl:lft K [] c=some []):XI n (F++[c]) true K C W:=by
 refine⟨h.tb,h.ws,by simp,fun _=>?_⟩;cases fl with
 | true=>exact mG (h.no rfl)
 | false=>
  obtain⟨-,-,h3,-⟩:=nU h.tb hc hl;refine .inr ⟨c,by simp,fun y hy=>?_⟩;have e:=(h3 y hy).resolve_left (by simp);have a0:=(hc y hy).1;exact ((h.ok rfl).1 (-y) (by omega) (by rw[aAx];exact e)).more kE (by simp)
theorem XI.failed{n:Nat}{F:List (List Int)}{K c:List Int}{C:List (List Int)}{W:List (List Nat)}(h:XI n F true K C W):XI n (F++[c]) true K C W:=
 ⟨h.tb,h.ws,by simp,fun _=>mG (h.no rfl)⟩
theorem XI.one{n:Nat}{F:List (List Int)}{K c:List Int}{C:List (List Int)}{W:List (List Nat)}{x:Int}(h:XI n F false K C W)(hc:aO n c)(hl:lft K [] c=some [x]):
  jP n F (F++[c]) [] K K [] 0 C W/\Lit n x/\Der (F++[c]) [] x:=by
 obtain⟨h1,h2,h3⟩:=h.ok rfl;obtain⟨-,l2,l3,-⟩:=nU h.tb hc hl;have a0:=(l2 x (by simp)).2;have hd:∀y,y≠0->kn K y=y->Der (F++[c]) [] y:=fun y hy e=>(h1 y hy e).more kE (by simp);refine⟨⟨⟨h.tb,hd,Ext.refl K,by simp,by simpa using aFz h.tb⟩,Nat.zero_le _,h.ws,h2,h3.more,fun c hc=>(h2 c hc).mono fun _ _ e=>e.elim⟩,hc x a0,.unit (by simp) a0 fun y hy hne=>?_⟩;have e:=(l3 y hy).resolve_left (by simpa using hne);have a1:=(hc y hy).1;exact hd (-y) (by omega) (by rw[aAx];exact e)
theorem XI.oneDone{n:Nat}{F:List (List Int)}{K K' L c:List Int}{C C':List (List Int)}{W W':List (List Nat)}{x:Int}(h:XI n F false K C W)(hF:∀c∈F,aO n c)(hc:aO n c)(hl:lft K [] c=some [x])(hd:jP n F (F++[c]) [] K K' L L.length C' W')(hx:kn K' x=x):XI n (F++[c]) false K' C' W':=by
 obtain⟨-,l2,-,-⟩:=nU h.tb hc hl;have hG:∀d∈F++[c],aO n d:=fun d hd=>by
  rcases U0.1 hd with hd | hd
  ·exact hF d hd
  ·rw[T0.1 hd];exact hc
 exact⟨hd.sk.tb,hd.ws,fun _=>⟨hd.sk.der,hd.done,(hd.rep.ext hF hG hd.sk.ext).also (l2 x (by simp)).2 hx⟩,by simp⟩
theorem XI.oneFails{n:Nat}{F:List (List Int)}{K K' L c:List Int}{C':List (List Int)}{W':List (List Nat)}(hd:aCi n F (F++[c]) [] K K' L C' W'):XI n (F++[c]) true K' C' W':=
 ⟨hd.sk.tb,hd.ws,by simp,fun _=>hd.fails⟩
theorem XI.lay{n:Nat}{F:List (List Int)}{fl:Bool}{K c l:List Int}{C:List (List Int)}{W:List (List Nat)}(h:XI n F fl K C W)(hc:aO n c)(hl:lft K [] c=some l)(h2:2<=l.length):
  XI n (F++[c]) fl K (C++[l]) (cN n (cN n W (w0 l) C.length) (w1 l) C.length):=by
 obtain⟨l1,l2,l3,-⟩:=nU h.tb hc hl;have ht:Two n l:=⟨h2,fun y hy=>hc y (l2 y hy).2,l1⟩;have z0:=ht.lits _ ht.mem0;have z1:=ht.lits _ ht.mem1;have a9:=ht.ne;have a5:((n:Int)+w0 l).toNat<W.length:=by rw[h.ws.len];have:=z0.2;omega
 have a6:(cN n W (w0 l) C.length).length=2*n+1:=by simp[cN,h.ws.len]
 have a3:((n:Int)+w1 l).toNat<(cN n W (w0 l) C.length).length:=by rw[a6];have:=z1.2;omega
 have a1:((n:Int)+w0 l).toNat≠((n:Int)+w1 l).toNat:=by have:=z0.2;have:=z1.2;omega
 have a0:∀i,(cN n (cN n W (w0 l) C.length) (w1 l) C.length).getD i []=if i=((n:Int)+w1 l).toNat\/i=((n:Int)+w0 l).toNat then W.getD i []++[C.length] else W.getD i []:=by
  intro i;unfold cN at a3 |-
  rw[dU _ _ _ _ a3];by_cases e1:i=((n:Int)+w1 l).toNat
  ·rw[if_pos e1,if_pos (.inl e1),dU _ _ _ _ a5,if_neg (Ne.symm a1),e1]
  ·rw[if_neg e1,dU _ _ _ _ a5];by_cases e0:i=((n:Int)+w0 l).toNat
   ·rw[if_pos e0,if_pos (.inr e0),e0]
   ·rw[if_neg e0,if_neg (by rintro (h | h)<;>contradiction)]
 have a7:∀i,∀p∈W.getD i [],(∃z,Lit n z/\i=((n:Int)+z).toNat)->p<C.length:=by
  rintro i p hp ⟨z,hz,rfl⟩;obtain⟨d,hd,-⟩:=(h.ws.iff z hz p).1 hp;exact (R9.1 hd).1
 refine⟨h.tb,⟨by simp[cN,h.ws.len],fun d hd=>?_,fun i=>?_,fun z hz p=>?_⟩,fun hf=>?_,fun hf=>mG (h.no hf)⟩
 ·rcases U0.1 hd with hd | hd
  ·exact h.ws.two d hd
  ·rw[T0.1 hd];exact ht
 ·rw[a0];split
  ·rename_i hi;rw[List.nodup_append];refine⟨h.ws.nodup i,by simp,fun a ha b hb e=>?_⟩;rw[T0.1 hb] at e;have:=a7 i a ha (hi.elim (fun hi=>⟨_,z1,hi⟩) fun hi=>⟨_,z0,hi⟩);omega
  ·exact h.ws.nodup i
 ·rw[a0];have a4:(((n:Int)+z).toNat=((n:Int)+w1 l).toNat\/((n:Int)+z).toNat=((n:Int)+w0 l).toNat)↔(w0 l=z\/w1 l=z):=by
   have:=hz.2;have:=z0.2;have:=z1.2;constructor
   ·rintro (e | e)
    ·right;omega
    ·left;omega
   ·rintro (e | e)
    ·right;rw[e]
    ·left;rw[e]
  have old:=h.ws.iff z hz p;have new:(∃c,(C++[l])[p]? = some c/\(w0 c=z\/w1 c=z))↔(∃c,C[p]? = some c/\(w0 c=z\/w1 c=z))\/(p=C.length/\(w0 l=z\/w1 l=z)):=by
   constructor
   ·rintro⟨d,hd,he⟩;by_cases hpl:p<C.length
    ·rw[Y0 hpl] at hd;exact .inl ⟨d,hd,he⟩
    ·have a2:p=C.length:=by
      have:=(R9.1 hd).1;simp at this;omega
     rw[a2,Y2 (Y1 _),Nat.sub_self] at hd;cases hd;exact .inr ⟨a2,he⟩
   ·rintro (⟨d,hd,he⟩ | ⟨rfl,he⟩)
    ·exact⟨d,by rw[Y0 (R9.1 hd).1];exact hd,he⟩
    ·exact⟨l,by simp,he⟩
  rw[new,<-old];by_cases e:w0 l=z\/w1 l=z
  ·rw[if_pos (a4.2 e),U0,T0];constructor
   ·rintro (h3 | h3)
    ·exact .inl h3
    ·exact .inr ⟨h3,e⟩
   ·rintro (h3 | h3)
    ·exact .inl h3
    ·exact .inr h3.1
  ·rw[if_neg (fun h3=>e (a4.1 h3))];exact⟨.inl,fun h3=>h3.resolve_right fun h4=>e h4.2⟩
 ·obtain⟨h1,a8,h3⟩:=h.ok hf;refine⟨fun x hx e=>(h1 x hx e).more kE (by simp),fun d hd=>?_,fun d hd=>?_,fun d hd=>?_⟩
  ·rcases U0.1 hd with hd | hd
   ·exact a8 d hd
   ·rw[T0.1 hd];refine⟨fun e=>?_,fun e=>?_⟩
    ·rw[(l2 _ ht.mem0).1] at e;have:=z0.1;omega
    ·rw[(l2 _ ht.mem1).1] at e;have:=z1.1;omega
  ·rcases U0.1 hd with hd | hd
   ·exact (h3.fwd d hd).imp id fun ⟨e,he,hr⟩=>⟨e,Y6 _ he,hr⟩
   ·rw[T0.1 hd];exact .inr ⟨l,by simp,fun y hy=>(l2 y hy).2,l3⟩
  ·rcases U0.1 hd with hd | hd
   ·obtain⟨e,he,hr⟩:=h3.back d hd;exact⟨e,kE e he,hr⟩
   ·rw[T0.1 hd];exact⟨c,by simp,fun y hy=>(l2 y hy).2,l3⟩
end
section
open Go.RowKit
def eU(S:Nat->Prop)(w:World)(F:List (List Int))(v:Value):Prop:=
 (F = []/\∃p cap,v=.slice p 0 cap)\/∃(b off cap:Nat),v=.slice (some ⟨b,off,none⟩) F.length cap/\(S b/\F.length<=cap)/\F.length<=9223372036854775807/\
  ∀(j:Nat) (c:List Int),F[j]? = some c->∃cv:Value,w.cell? ⟨b,off+j,none⟩=some cv/\aI S w c cv
theorem eU.mono{S S':Nat->Prop}{w w':World}(hw:∀p:Addr,S p.block->w'.cell? p=w.cell? p)(hS:∀b,S b->S' b){F:List (List Int)}{v:Value}(h:eU S w F v):eU S' w' F v:=by
 rcases h with h | ⟨b,off,cap,h1,h2,h3,h4⟩
 ·exact Or.inl h
 ·refine Or.inr ⟨b,off,cap,h1,⟨hS _ h2.1,h2.2⟩,h3,fun j c hc=>?_⟩;obtain⟨cv,h5,h6⟩:=h4 j c hc;exact⟨cv,(hw ⟨b,off+j,none⟩ h2.1).trans h5,h6.mono hw hS⟩
theorem eU.keep{S:Nat->Prop}{B:Nat}{w w':World}(hS:∀b,S b->b<B)(k:Below B w w'){F:List (List Int)}{v:Value}(h:eU S w F v):eU S w' F v:=h.mono (bQ hS k) fun _ h=>h
theorem eU.len{S:Nat->Prop}{w:World}{F:List (List Int)}{v:Value}(h:eU S w F v):∃p cap,v=.slice p F.length cap/\F.length<=9223372036854775807:=by
 rcases h with ⟨rfl,p,cap,rfl⟩ | ⟨b,off,cap,rfl,-,h,-⟩
 ·exact⟨p,cap,rfl,by simp⟩
 ·exact⟨_,cap,rfl,h⟩
theorem aI.shape{S:Nat->Prop}{w:World}{zs:List Int}{v:Value}(h:aI S w zs v):∃p cap,v=.slice p zs.length cap/\zs.length<=9223372036854775807:=by
 obtain⟨p,cap,h1,h2,-⟩:=h;exact⟨p,cap,h1,h2⟩
theorem eU.get{S:Nat->Prop}{w:World}{F:List (List Int)}{v:Value}(h:eU S w F v){k:Nat}(hk:k<F.length):∃b off cap cp cc,v=.slice (some ⟨b,off,none⟩) F.length cap/\S b/\F.length<=9223372036854775807/\
  w.cell? ⟨b,off+k,none⟩=some (.slice cp F[k].length cc)/\aI S w F[k] (.slice cp F[k].length cc)/\F[k].length<=9223372036854775807:=by
 rcases h with ⟨rfl,-⟩ | ⟨b,off,cap,rfl,h2,h3,h4⟩
 ·simp at hk
 ·obtain⟨cv,h5,h6⟩:=h4 k _ (Q9 hk);obtain⟨cp,cc,rfl,h7⟩:=h6.shape;exact⟨b,off,cap,cp,cc,rfl,h2.1,h3,h5,h6,h7⟩
def pS(B:Nat)(S:Nat->Prop)(v:Value)(cs:List (List Int))(w:World):Prop:=
 ∃vs:List Value,vs.length=cs.length/\w.ownsRow B 128 1 v cs.length vs/\∀(i:Nat) c x,cs[i]? = some c->vs[i]? = some x->aI S w c x
theorem pS.nil(B:Nat)(S:Nat->Prop)(w:World):pS B S (.slice none 0 0) [] w:=⟨[],rfl,Q1 _ _ _ _,by simp⟩
theorem pS.mono{B:Nat}{S S':Nat->Prop}{v:Value}{cs:List (List Int)}{w w':World}(h:pS B S v cs w)(hv:∀g,v.ownBlock=some g->w'.heap[g]? = w.heap[g]?)(hS:∀b,S b->w'.heap[b]? = w.heap[b]? /\S' b):pS B S' v cs w':=by
 obtain⟨vs,h1,h2,h3⟩:=h;exact⟨vs,h1,cM h2 hv,fun i c x hi hx=>(h3 i c x hi hx).mono (fun p hp=>X0 (w:=w) (hS _ hp).1) (fun b hb=>(hS b hb).2)⟩
theorem pS.in{B:Nat}{S:Nat->Prop}{v:Value}{cs:List (List Int)}{w:World}(h:pS B S v cs w){g:Nat}(hg:v.ownBlock=some g):B<=g/\g<w.heap.size:=by
 obtain⟨vs,h1,h2,h3⟩:=h;exact bN h2 hg
theorem pS.cls{B:Nat}{S:Nat->Prop}{v:Value}{cs:List (List Int)}{w:World}(h:pS B S v cs w):eU (fun b=>S b\/v.ownBlock=some b) w cs v:=by
 obtain⟨vs,h1,⟨h2,⟨rfl,h0⟩ | ⟨g,cap,a0,rfl,e2,e3,e4,e5,e6,e7⟩⟩,h3⟩:=h
 ·exact Or.inl ⟨Y4.1 h0,none,0,rfl⟩
 ·refine Or.inr ⟨g,0,cap,rfl,⟨Or.inr rfl,e4⟩,by unfold maxLen at e5;omega,fun j c hc=>?_⟩;have hj:j<cs.length:=(R9.1 hc).1;refine⟨vs[j],?_,(h3 j c _ hc (Q9 (by omega))).mono (fun _ _=>rfl) fun b hb=>Or.inl hb⟩;have hf:∃x,x=vs[j]/\vs[j]? = some x:=⟨_,rfl,Q9 (by omega)⟩;obtain⟨x,hx,hf⟩:=hf;rw[<-hx];clear hx;rw[<-e7,List.getElem?_take,if_pos (by omega)] at hf;simp only[World.cell?,e3,Nat.zero_add];simpa using hf
theorem pS.shape{B:Nat}{S:Nat->Prop}{v:Value}{cs:List (List Int)}{w:World}(h:pS B S v cs w):∃p cap,v=.slice p cs.length cap:=by
 obtain⟨p,cap,h,-⟩:=h.cls.len;exact⟨p,cap,h⟩
end
section
open Go.RowKit Go.Lib
structure aG (O O':Nat->Prop) (w w':World):Prop where
 os:w'.os=w.os
 tape:w'.tape=w.tape
 output:w'.output=w.output
 size:w.heap.size<=w'.heap.size
 block:∀b,b<w.heap.size->¬O b->w'.heap[b]? = w.heap[b]?
 new:∀b,O' b->O b\/w.heap.size<=b
theorem aG.refl(O:Nat->Prop)(w:World):aG O O w w:=⟨rfl,rfl,rfl,Y1 _,fun _ _ _=>rfl,fun _ h=>.inl h⟩
theorem aG.trans{O O1 O2:Nat->Prop}{a b c:World}(h:aG O O1 a b)(k:aG O1 O2 b c):aG O O2 a c where
 os:=k.os.trans h.os
 tape:=k.tape.trans h.tape
 output:=k.output.trans h.output
 size:=U2 h.size k.size
 block p hp ho:=by
  rw[k.block p (R8 hp h.size) (fun e=>(h.new p e).elim ho fun e=>by omega),h.block p hp ho]
 new p hp:=by
  rcases k.new p hp with e | e
  ·exact h.new p e
  ·exact .inr (U2 h.size e)
theorem aG.less{O O' U:Nat->Prop}{w w':World}(h:aG O O' w w')(hu:∀b,U b->O' b):aG O U w w':=
 ⟨h.os,h.tape,h.output,h.size,h.block,fun b hb=>h.new b (hu b hb)⟩
theorem aG.keep{O:Nat->Prop}{w w':World}(k:aA w w'):aG O O w w':=⟨k.os,k.tape,k.output,k.size,fun b hb _=>k.block b hb,fun _ h=>.inl h⟩
theorem aG.below{O O':Nat->Prop}{w w':World}(h:aG O O' w w'){B:Nat}(hB:B<=w.heap.size)(ho:∀b,b<B->¬O b):Below B w w':=
 ⟨h.os,h.tape,h.output,h.size,fun k hk=>h.block k (R8 hk hB) (ho k hk)⟩
theorem aG.set(O:Nat->Prop)(w:World)(b o:Nat)(x:Value)(hb:O b):aG O O w (w.setCell ⟨b,o,none⟩ x):=by
 have k:Below b w (w.setCell ⟨b,o,none⟩ x):=aQ w b o x;exact⟨k.os,k.tape,k.output,k.size,fun c _ hn=>Below.heap_setCell _ _ _ _ (fun e=>hn (e ▸ hb)),fun _ h=>.inl h⟩
theorem aG.cell{O O':Nat->Prop}{w w':World}(h:aG O O' w w')(p:Addr)(hp:p.block<w.heap.size)(ho:¬O p.block):w'.cell? p=w.cell? p:=X0 (w:=w) (h.block p.block hp ho)
theorem aG.grown{O:Nat->Prop}{w w':World}{v v':Value}(h:w.grownBy w' v.ownBlock)(hv:∀g,v.ownBlock=some g->O g)(hv':v'.ownBlock=v.ownBlock\/∃g,v'.ownBlock=some g/\w.heap.size<=g):aG O (fun b=>O b\/v'.ownBlock=some b) w w':=
 ⟨h.os,h.tape,h.output,h.size,fun b hb hn=>h.block b hb fun e=>hn (hv b e.symm),fun b hb=>by
  rcases hb with hb | hb
  ·exact .inl hb
  ·rcases hv' with e | ⟨g,e,hg⟩
   ·exact .inl (hv b (by rw[<-e];exact hb))
   ·rw[e] at hb;have:=U6 hb;exact .inr (by omega)⟩
theorem aE.turn{c:Nat}{T:TypeId}{v:Value}{w w':World}{O O':Nat->Prop}(h:aE c T v w)(k:aG O O' w w')(hc:¬O c):aE c T v w':=by
 have hl:=h.facts.2.2;unfold aE at *;rw[k.block c hl hc];exact h
theorem aF.turn{c:Nat}{T:TypeId}{cs:Array Value}{w w':World}{O O':Nat->Prop}(h:aF c T cs w)(k:aG O O' w w')(hc:¬O c):aF c T cs w':=by
 have hl:=h.facts.2.2;unfold aF at *;rw[k.block c hl hc];exact h
theorem aI.turn{S:Nat->Prop}{w w':World}{O O':Nat->Prop}{zs:List Int}{v:Value}(h:aI S w zs v)(k:aG O O' w w')(hS:∀b,S b->b<w.heap.size/\¬O b):aI S w' zs v:=
 h.mono (fun p hp=>k.cell p (hS _ hp).1 (hS _ hp).2) fun _ h=>h
theorem eU.turn{S:Nat->Prop}{w w':World}{O O':Nat->Prop}{F:List (List Int)}{v:Value}(h:eU S w F v)(k:aG O O' w w')(hS:∀b,S b->b<w.heap.size/\¬O b):eU S w' F v:=
 h.mono (fun p hp=>k.cell p (hS _ hp).1 (hS _ hp).2) fun _ h=>h
structure kM (B:Nat) (vs:List Value) (R:List (TypeId × List Value)) (w:World):Prop where
 len:vs.length=R.length
 row:∀(i:Nat) v r,vs[i]? = some v->R[i]? = some r->w.ownsRow B r.1 1 v r.2.length r.2
 dis:∀(i j:Nat) a b g,i≠j->vs[i]? = some a->vs[j]? = some b->a.ownBlock=some g->b.ownBlock≠some g
theorem kM.get{B:Nat}{vs:List Value}{R:List (TypeId × List Value)}{w:World}(h:kM B vs R w){i:Nat}{v:Value}(hv:vs[i]? = some v):∃r,R[i]? = some r/\w.ownsRow B r.1 1 v r.2.length r.2:=by
 have hi:i<R.length:=by rw[<-h.len];exact (R9.1 hv).1
 exact⟨R[i],Q9 hi,h.row i v R[i] hv (Q9 hi)⟩
theorem kM.in{B:Nat}{vs:List Value}{R:List (TypeId × List Value)}{w:World}(h:kM B vs R w){v:Value}(hv:v∈vs){g:Nat}(hg:v.ownBlock=some g):B<=g/\g<w.heap.size:=by
 obtain⟨i,hi⟩:=List.getElem?_of_mem hv;obtain⟨r,-,ho⟩:=h.get hi;exact bN ho hg
theorem kM.other{B:Nat}{vs:List Value}{R:List (TypeId × List Value)}{w w':World}(h:kM B vs R w)(hb:∀v∈vs,∀g,v.ownBlock=some g->w'.heap[g]? = w.heap[g]?):kM B vs R w':=
 ⟨h.len,fun i v r hv hr=>cM (h.row i v r hv hr) (hb v (Z1 hv)),h.dis⟩
theorem kM.put{B:Nat}{vs:List Value}{R:List (TypeId × List Value)}{w w':World}{i:Nat}{v v':Value}{r':TypeId × List Value}(h:kM B vs R w)(hv:vs[i]? = some v)
  (hb:∀b,b<w.heap.size->v.ownBlock≠some b->w'.heap[b]? = w.heap[b]?) (ho:v'.ownBlock=v.ownBlock\/∃g,v'.ownBlock=some g/\w.heap.size<=g) (h5:w'.ownsRow B r'.1 1 v' r'.2.length r'.2):kM B (vs.set i v') (R.set i r') w':=by
 have a0:i<vs.length:=(R9.1 hv).1;have a1:i<R.length:=by rw[<-h.len];exact a0
 have key:∀(j:Nat) (a:Value),i≠j->vs[j]? = some a->∀g,a.ownBlock=some g->v'.ownBlock≠some g:=by
  intro j a hj ha g hg e;have a2:=h.in (Z1 ha) hg;rcases ho with ho | ⟨g',ho,hge⟩
  ·exact h.dis j i a v g (Ne.symm hj) ha hv hg (by rw[<-ho];exact e)
  ·rw[ho] at e;have:=U6 e;omega
 refine⟨by simp[h.len],fun j a q ha hq=>?_,fun j k a b g hjk ha hbb hag=>?_⟩
 ·by_cases hj:i=j
  ·subst hj;rw[Z4 a0] at ha;rw[Z4 a1] at hq;cases ha;cases hq
   exact h5
  ·rw[Q8 hj] at ha hq;refine cM (h.row j a q ha hq) fun g hg=>?_;exact hb g (h.in (Z1 ha) hg).2 fun e=>h.dis j i a v g (Ne.symm hj) ha hv hg e
 ·by_cases hj:i=j
  ·subst hj;rw[Z4 a0] at ha;cases ha;rw[Q8 hjk] at hbb;intro e;exact key k b hjk hbb g e hag
  ·rw[Q8 hj] at ha;by_cases hk:i=k
   ·subst hk;rw[Z4 a0] at hbb;cases hbb;exact key j a hj ha g hag
   ·rw[Q8 hk] at hbb;exact h.dis j k a b g hjk ha hbb hag
theorem kM.snoc{B:Nat}{vs:List Value}{R:List (TypeId × List Value)}{w:World}{v:Value}{r:TypeId × List Value}(h:kM B vs R w)(hn:∀u∈vs,∀g,u.ownBlock=some g->v.ownBlock≠some g)(h5:w.ownsRow B r.1 1 v r.2.length r.2):kM B (vs++[v]) (R++[r]) w:=by
 have sp:∀(i:Nat) (a:Value),(vs++[v])[i]? = some a->(i<vs.length/\vs[i]? = some a)\/(i=vs.length/\a=v):=by
  intro i a ha;by_cases hi:i<vs.length
  ·rw[Y0 hi] at ha;exact .inl ⟨hi,ha⟩
  ·have:=(R9.1 ha).1;simp at this;have a0:i=vs.length:=by omega
   rw[a0,Y2 (Y1 _),Nat.sub_self] at ha;cases ha;exact .inr ⟨a0,rfl⟩
 refine⟨by simp[h.len],fun i a q ha hq=>?_,fun i j a b g hij ha hb hg=>?_⟩
 ·rcases sp i a ha with ⟨hi,ha⟩ | ⟨hi,rfl⟩
  ·rw[Y0 (by rw[<-h.len];exact hi)] at hq;exact h.row i a q ha hq
  ·rw[hi,h.len,Y2 (Y1 _),Nat.sub_self] at hq;cases hq;exact h5
 ·rcases sp i a ha with ⟨hi,ha2⟩ | ⟨hi,ha2⟩
  ·rcases sp j b hb with ⟨hj,hb2⟩ | ⟨hj,hb2⟩
   ·exact h.dis i j a b g hij ha2 hb2 hg
   ·rw[hb2];exact hn a (Z1 ha2) g hg
  ·rcases sp j b hb with ⟨hj,hb2⟩ | ⟨hj,hb2⟩
   ·intro e;rw[ha2] at hg;exact hn b (Z1 hb2) g e hg
   ·omega
theorem aBn{α:Type}{l:List α}{i:Nat}{a:α}(h:l[i]? = some a):l.set i a=l:=by
 obtain⟨hi,e⟩:=R9.1 h;rw[<-e,List.set_getElem_self]
def ivN(r:List Nat):List Value:=r.map fun (p:Nat)=>Value.int .i64 (p:Int)
def ivI(c:List Int):List Value:=c.map (Value.int .i64)
theorem aKc(r:List Nat):(ivN r).length=r.length:=by simp[ivN]
theorem aKb(c:List Int):(ivI c).length=c.length:=by simp[ivI]
structure XD where
 bx:Nat
 bk:Nat
 bw:Nat
 n:Nat
 fl:Bool
 av:Value
 rv:List Value
 cv:List Value
 C:List (List Int)
 W:List (List Nat)
def XD.vs(x:XD):List Value:=x.av :: (x.rv++x.cv)
def XD.rs(x:XD):List (TypeId × List Value):=(128,x.cv) :: (x.W.map (fun r=>(3,ivN r))++x.C.map (fun c=>(3,ivI c)))
def XD.own(x:XD)(b:Nat):Prop:=b=x.bx\/b=x.bw\/∃v∈x.vs,v.ownBlock=some b
def XD.box(x:XD):Array Value:=#[.int .i64 x.n,.bool x.fl,.slice (some ⟨x.bk,0,none⟩) (x.n+1) (x.n+1),x.av,.slice (some ⟨x.bw,0,none⟩) (2*x.n+1) (2*x.n+1)]
structure XM (x:XD) (B:Nat) (w:World):Prop where
 box:aF x.bx 132 x.box w
 wb:aF x.bw 27 x.rv.toArray w
 rows:kM B x.vs x.rs w
 rl:x.rv.length=2*x.n+1
 wl:x.W.length=2*x.n+1
 cl:x.cv.length=x.C.length
 low:x.bx<B/\x.bk<B/\x.bw<B/\x.bx≠x.bk/\x.bx≠x.bw/\x.bk≠x.bw/\B<=w.heap.size
theorem XM.lt{x:XD}{B:Nat}{w:World}(h:XM x B w){b:Nat}(hb:x.own b):b<w.heap.size:=by
 rcases hb with rfl | rfl | ⟨v,hv,hg⟩
 ·exact h.box.facts.2.2
 ·exact h.wb.facts.2.2
 ·exact (h.rows.in hv hg).2
theorem XM.bk{x:XD}{B:Nat}{w:World}(h:XM x B w):¬x.own x.bk:=by
 have hl:=h.low;rintro (e | e | ⟨v,hv,hg⟩)
 ·exact hl.2.2.2.1 e.symm
 ·exact hl.2.2.2.2.2.1 e
 ·have:=(h.rows.in hv hg).1;omega
theorem XM.other{x:XD}{B:Nat}{w w':World}(h:XM x B w)(hs:w.heap.size<=w'.heap.size)(hb:∀b,x.own b->w'.heap[b]? = w.heap[b]?):XM x B w':=by
 have hl:=h.low;refine⟨?_,?_,h.rows.other fun v hv g hg=>hb g (.inr (.inr ⟨v,hv,hg⟩)),h.rl,h.wl,h.cl,hl.1,hl.2.1,hl.2.2.1,hl.2.2.2.1,hl.2.2.2.2.1,hl.2.2.2.2.2.1,U2 hl.2.2.2.2.2.2 hs⟩
 ·have:=h.box;unfold aF at *;rw[hb _ (.inl rfl)];exact this
 ·have:=h.wb;unfold aF at *;rw[hb _ (.inr (.inl rfl))];exact this
theorem XM.keep{x:XD}{B:Nat}{w w':World}(h:XM x B w)(k:aA w w'):XM x B w':=h.other k.size fun b hb=>k.block b (h.lt hb)
theorem XM.turn{x:XD}{B:Nat}{w w':World}{O O':Nat->Prop}(h:XM x B w)(k:aG O O' w w')(hO:∀b,x.own b->¬O b):XM x B w':=h.other k.size fun b hb=>k.block b (h.lt hb) (hO b hb)
theorem XM.row{x:XD}{B:Nat}{w:World}(h:XM x B w){i:Nat}(hi:i<2*x.n+1):∃v,x.rv[i]? = some v/\w.cell? ⟨x.bw,i,none⟩=some v/\x.vs[i+1]? = some v/\x.rs[i+1]? = some (3,ivN (x.W.getD i []))/\w.ownsRow B 3 1 v (x.W.getD i []).length (ivN (x.W.getD i [])):=by
 have hr:i<x.rv.length:=by rw[h.rl];exact hi
 have hw:i<x.W.length:=by rw[h.wl];exact hi
 have h1:x.vs[i+1]? = some x.rv[i]:=by unfold XD.vs;rw[List.getElem?_cons_succ,Y0 hr];simp
 have h2:x.rs[i+1]? = some (3,ivN (x.W.getD i [])):=by
  unfold XD.rs;rw[List.getElem?_cons_succ,Y0 (by simpa using hw)];simp[List.getD_eq_getElem?_getD,hw]
 have h3:=h.rows.row _ _ _ h1 h2;refine⟨x.rv[i],by simp,?_,h1,h2,by simpa[aKc] using h3⟩;rw[h.wb.facts.1];simp[hr]
theorem XM.cls{x:XD}{B:Nat}{w:World}(h:XM x B w){p:Nat}{c:List Int}(hp:x.C[p]? = some c):∃v,x.cv[p]? = some v/\x.vs[2*x.n+2+p]? = some v/\x.rs[2*x.n+2+p]? = some (3,ivI c)/\w.ownsRow B 3 1 v c.length (ivI c):=by
 have a0:=(R9.1 hp).1;have a1:p<x.cv.length:=by rw[h.cl];exact a0
 have h1:x.vs[2*x.n+2+p]? = some x.cv[p]:=by
  unfold XD.vs;rw[show 2*x.n+2+p=(2*x.n+1+p)+1 by omega,List.getElem?_cons_succ,Y2 (by rw[h.rl];omega),h.rl,show 2*x.n+1+p-(2*x.n+1)=p by omega];simp
 have h2:x.rs[2*x.n+2+p]? = some (3,ivI c):=by
  unfold XD.rs;rw[show 2*x.n+2+p=(2*x.n+1+p)+1 by omega,List.getElem?_cons_succ,Y2 (by simp[h.wl])];simp only[List.length_map,h.wl,show 2*x.n+1+p-(2*x.n+1)=p by omega,List.getElem?_map,hp,Option.map_some]
 have h3:=h.rows.row _ _ _ h1 h2;exact⟨x.cv[p],by simp,h1,h2,by simpa[aKb] using h3⟩
theorem XM.arr{x:XD}{B:Nat}{w:World}(h:XM x B w):w.ownsRow B 128 1 x.av x.C.length x.cv:=by
 have:=h.rows.row 0 x.av (128,x.cv) rfl rfl;rw[<-h.cl];exact this
theorem XM.arr_cell{x:XD}{B:Nat}{w:World}(h:XM x B w){p:Nat}{v:Value}(hp:x.cv[p]? = some v):∃g cap,x.av=.slice (some ⟨g,0,none⟩) x.C.length cap/\g<w.heap.size/\w.cell? ⟨g,p,none⟩=some v:=by
 have ho:=h.arr;have a1:p<x.C.length:=by rw[<-h.cl];exact (R9.1 hp).1
 obtain⟨g,cap,e⟩:=aS ho (by omega);have hc:=ho.cells (g:=g) (by rw[e];rfl) p v hp;have a0:(⟨g,0,none⟩:Addr).add p=⟨g,p,none⟩:=by unfold Addr.add;split<;>simp_all
 rw[a0] at hc;exact⟨g,cap,e,(bN ho (by rw[e];rfl)).2,hc⟩
theorem cQ{B n:Nat}{T:TypeId}{v:Value}{xs:List Value}{w:World}(h:w.ownsRow B T 1 v n xs)(hn:0<n):∃g cap,v=.slice (some ⟨g,0,none⟩) n cap/\B<=g/\g<w.heap.size/\n<=cap/\cap<=maxLen/\(∀j u,xs[j]? = some u->w.cell? ⟨g,j,none⟩=some u)/\(∀o,w.frozen? ⟨g,o,none⟩=false)/\∀o,o<cap->(w.cell? ⟨g,o,none⟩).isSome=true:=by
 obtain⟨-,⟨-,h0⟩ | ⟨g,cap,a0,rfl,hB,hh,h1,h2,h3,h4⟩⟩:=h
 ·omega
 ·refine⟨g,cap,rfl,hB,(U9.1 hh).1,h1,h2,fun j u hu=>?_,fun o=>by simp[World.frozen?,hh],fun o ho=>?_⟩
  ·rw[<-h4,List.getElem?_take] at hu;split at hu
   ·simp only[World.cell?,hh];simpa using hu
   ·cases hu
  ·simp only[World.cell?,hh];have:o<a0.size:=by omega
   simp[this]
theorem aKn{B n:Nat}{T:TypeId}{g cap:Nat}{xs:List Value}{w:World}(h:w.ownsRow B T 1 (.slice (some ⟨g,0,none⟩) n cap) n xs)(i:Nat)(u:Value):(w.setCell ⟨g,i,none⟩ u).ownsRow B T 1 (.slice (some ⟨g,0,none⟩) n cap) n (xs.set i u):=by
 obtain⟨hl,⟨h0,-⟩ | ⟨g',a1,a0,e,hB,hh,h1,h2,h3,h4⟩⟩:=h
 ·cases h0
 ·cases e;refine⟨by simp[hl],.inr ⟨g,cap,a0.setIfInBounds i u,rfl,hB,aJ hh i u,h1,h2,by simp[h3],?_⟩⟩;rw[Array.toList_setIfInBounds,<-h4,List.take_set]
theorem aRb{B n:Nat}{T:TypeId}{g cap:Nat}{xs:List Value}{w:World}(h:w.ownsRow B T 1 (.slice (some ⟨g,0,none⟩) n cap) n xs){m:Nat}(hm:m<=n):w.ownsRow B T 1 (.slice (some ⟨g,0,none⟩) m cap) m (xs.take m):=by
 obtain⟨hl,⟨h0,-⟩ | ⟨g',a1,a0,e,hB,hh,h1,h2,h3,h4⟩⟩:=h
 ·cases h0
 ·cases e;refine⟨by simp[hl];omega,.inr ⟨g,cap,a0,rfl,hB,hh,by omega,h2,h3,?_⟩⟩;rw[<-h4,List.take_take,Nat.mul_one,Nat.mul_one,Nat.min_eq_left hm]
theorem sK{x:XD}{B:Nat}{w:World}(h:XM x B w){v:Value}(hv:v∈x.vs){g:Nat}(hg:v.ownBlock=some g):g≠x.bx/\g≠x.bw:=by
 have:=(h.rows.in hv hg).1;have hl:=h.low;exact⟨by omega,by omega⟩
theorem XM.setC{x:XD}{B:Nat}{w:World}(h:XM x B w){p g cap i:Nat}{c:List Int}(hp:x.C[p]? = some c)(hv:x.cv[p]? = some (.slice (some ⟨g,0,none⟩) c.length cap))(z:Int):
  XM { x with C:=x.C.set p (c.set i z) } B (w.setCell ⟨g,i,none⟩ (.int .i64 z))/\aG x.own ({ x with C:=x.C.set p (c.set i z) }:XD).own w (w.setCell ⟨g,i,none⟩ (.int .i64 z)):=by
 obtain⟨v,h0,h1,h2,h3⟩:=h.cls hp;rw[hv] at h0;cases h0;have a0:=Z1 h1;obtain⟨ha,hb⟩:=sK h a0 rfl;have a1:∀b,b≠g->(w.setCell ⟨g,i,none⟩ (.int .i64 z)).heap[b]? = w.heap[b]? :=fun b hb=>Below.heap_setCell _ _ _ _ (fun e=>hb e);have a2:(w.setCell ⟨g,i,none⟩ (.int .i64 z)).heap.size=w.heap.size:=by simp
 have hl:=h.low;have hO:x.own g:= .inr (.inr ⟨_,a0,rfl⟩);refine⟨⟨?_,?_,?_,h.rl,h.wl,by simp[h.cl],hl.1,hl.2.1,hl.2.2.1,hl.2.2.2.1,hl.2.2.2.2.1,hl.2.2.2.2.2.1,by rw[a2];exact hl.2.2.2.2.2.2⟩,aG.set _ _ _ _ _ hO⟩
 ·have:=h.box;unfold aF at *;rw[a1 _ (Ne.symm ha)];exact this
 ·have:=h.wb;unfold aF at *;rw[a1 _ (Ne.symm hb)];exact this
 ·have h4:=aKn h3 i (.int .i64 z);have h5:=h.rows.put (w':=w.setCell ⟨g,i,none⟩ (.int .i64 z)) (v':= .slice (some ⟨g,0,none⟩) c.length cap) (r':=(3,ivI (c.set i z))) h1 (fun b _ hn=>a1 b fun e=>hn (by rw[e];rfl)) (.inl rfl) (by simpa[ivI,List.map_set] using h4);have e1:x.vs.set (2*x.n+2+p) (.slice (some ⟨g,0,none⟩) c.length cap)=x.vs:=aBn h1;have e2:x.rs.set (2*x.n+2+p) (3,ivI (c.set i z))=({ x with C:=x.C.set p (c.set i z) }:XD).rs:=by
   unfold XD.rs;rw[show 2*x.n+2+p=(2*x.n+1+p)+1 by omega,List.set_cons_succ,List.set_append_right _ _ (by simp[h.wl])];simp[h.wl,List.map_set,show 2*x.n+1+p-(2*x.n+1)=p by omega]
  rw[e1,e2] at h5;exact h5
theorem aHz{x:XD}{i:Nat}{v':Value}{W':List (List Nat)}{b:Nat}(hb:({ x with rv:=x.rv.set i v',W:=W' }:XD).own b):x.own b\/v'.ownBlock=some b:=by
 rcases hb with hb | hb | ⟨u,hu,hg⟩
 ·exact .inl (.inl hb)
 ·exact .inl (.inr (.inl hb))
 ·simp only[XD.vs,List.mem_cons,List.mem_append] at hu;rcases hu with hu | hu | hu
  ·exact .inl (.inr (.inr ⟨u,by simp[XD.vs,hu],hg⟩))
  ·rcases List.mem_or_eq_of_mem_set hu with hu | rfl
   ·exact .inl (.inr (.inr ⟨u,by simp[XD.vs,hu],hg⟩))
   ·exact .inr hg
  ·exact .inl (.inr (.inr ⟨u,by simp[XD.vs,hu],hg⟩))
theorem XM.setW{x:XD}{B:Nat}{w w5:World}(h:XM x B w){i:Nat}(hi:i<2*x.n+1){v v':Value}{r:List Nat}(hv:x.rv[i]? = some v)(hb:∀b,b<w.heap.size->v.ownBlock≠some b->w5.heap[b]? = w.heap[b]?)(hg:w.grownBy w5 v.ownBlock)(ho:v'.ownBlock=v.ownBlock\/∃g,v'.ownBlock=some g/\w.heap.size<=g)(h5:w5.ownsRow B 3 1 v' r.length (ivN r)):
  XM { x with rv:=x.rv.set i v',W:=x.W.set i r } B (w5.setCell ⟨x.bw,i,none⟩ v')/\aG x.own ({ x with rv:=x.rv.set i v',W:=x.W.set i r }:XD).own w (w5.setCell ⟨x.bw,i,none⟩ v'):=by
 obtain⟨v0,h0,-,h1,h2,h3⟩:=h.row hi;rw[hv] at h0;cases h0;have a0:=Z1 h1;have hl:=h.low;have a7:i<x.rv.length:=by rw[h.rl];exact hi
 have a6:i<x.W.length:=by rw[h.wl];exact hi
 have a1:∀b,b<B->w5.heap[b]? = w.heap[b]? :=fun b hb2=>hb b (by omega) fun e=>by have:=(h.rows.in a0 e).1;omega
 have a3:∀b,b≠x.bw->(w5.setCell ⟨x.bw,i,none⟩ v').heap[b]? = w5.heap[b]? :=fun b hb=>Below.heap_setCell _ _ _ _ (fun e=>hb e);have a4:(w5.setCell ⟨x.bw,i,none⟩ v').heap.size=w5.heap.size:=by simp
 have a2:∀g,v'.ownBlock=some g->g≠x.bw:=fun g hg e=>by have:=(bN h5 hg).1;omega
 have hT:aG x.own (fun b=>x.own b\/v'.ownBlock=some b) w w5:=aG.grown hg (fun g hg=>.inr (.inr ⟨v,a0,hg⟩)) ho;have a5:aG (fun b=>x.own b\/v'.ownBlock=some b) (fun b=>x.own b\/v'.ownBlock=some b) w5 (w5.setCell ⟨x.bw,i,none⟩ v'):=aG.set _ _ _ _ _ (.inl (.inr (.inl rfl)));refine⟨⟨?_,?_,?_,by simp[h.rl],by simp[h.wl],h.cl,hl.1,hl.2.1,hl.2.2.1,hl.2.2.2.1,hl.2.2.2.2.1,hl.2.2.2.2.2.1,by rw[a4];exact U2 hl.2.2.2.2.2.2 hg.size⟩,(hT.trans a5).less fun b hb=>aHz hb⟩
 ·have:=h.box;unfold aF at *;rw[a3 _ hl.2.2.2.2.1,a1 _ hl.1];exact this
 ·have h6:aF x.bw 27 x.rv.toArray w5:=by have:=h.wb;unfold aF at *;rw[a1 _ hl.2.2.1];exact this
  have:=h6.set i v';rwa [show x.rv.toArray.setIfInBounds i v'=(x.rv.set i v').toArray by simp] at this
 ·have h6:=h.rows.put (w':=w5) (v':=v') (r':=(3,ivN r)) h1 hb ho (by simpa[aKc] using h5);have e1:x.vs.set (i+1) v'=({ x with rv:=x.rv.set i v',W:=x.W.set i r }:XD).vs:=by
   unfold XD.vs;rw[List.set_cons_succ,List.set_append_left _ _ a7]
  have e2:x.rs.set (i+1) (3,ivN r)=({ x with rv:=x.rv.set i v',W:=x.W.set i r }:XD).rs:=by
   unfold XD.rs;rw[List.set_cons_succ,List.set_append_left _ _ (by simpa using a6)];simp[List.map_set]
  rw[e1,e2] at h6;exact h6.other fun u hu g hg=>a3 g fun e=>by have:=(h6.in hu hg).1;omega
theorem XM.setR{x:XD}{B:Nat}{w:World}(h:XM x B w){i g cap j p:Nat}(hi:i<2*x.n+1)(hv:x.rv[i]? = some (.slice (some ⟨g,0,none⟩) (x.W.getD i []).length cap)):
  XM { x with W:=x.W.set i ((x.W.getD i []).set j p) } B (w.setCell ⟨g,j,none⟩ (.int .i64 (p:Int)))/\aG x.own ({ x with W:=x.W.set i ((x.W.getD i []).set j p) }:XD).own w (w.setCell ⟨g,j,none⟩ (.int .i64 (p:Int))):=by
 obtain⟨v,h0,-,h1,h2,h3⟩:=h.row hi;rw[hv] at h0;cases h0;have a0:=Z1 h1;obtain⟨ha,hb⟩:=sK h a0 rfl;have a1:∀b,b≠g->(w.setCell ⟨g,j,none⟩ (.int .i64 (p:Int))).heap[b]? = w.heap[b]? :=fun b hb=>Below.heap_setCell _ _ _ _ (fun e=>hb e);have a2:(w.setCell ⟨g,j,none⟩ (.int .i64 (p:Int))).heap.size=w.heap.size:=by simp
 have hl:=h.low;have a3:i<x.W.length:=by rw[h.wl];exact hi
 have hO:x.own g:= .inr (.inr ⟨_,a0,rfl⟩);refine⟨⟨?_,?_,?_,h.rl,by simp[h.wl],h.cl,hl.1,hl.2.1,hl.2.2.1,hl.2.2.2.1,hl.2.2.2.2.1,hl.2.2.2.2.2.1,by rw[a2];exact hl.2.2.2.2.2.2⟩,aG.set _ _ _ _ _ hO⟩
 ·have:=h.box;unfold aF at *;rw[a1 _ (Ne.symm ha)];exact this
 ·have:=h.wb;unfold aF at *;rw[a1 _ (Ne.symm hb)];exact this
 ·have h4:=aKn h3 j (.int .i64 (p:Int));have h5:=h.rows.put (w':=w.setCell ⟨g,j,none⟩ (.int .i64 (p:Int))) (v':= .slice (some ⟨g,0,none⟩) (x.W.getD i []).length cap) (r':=(3,ivN ((x.W.getD i []).set j p))) h1 (fun b _ hn=>a1 b fun e=>hn (by rw[e];rfl)) (.inl rfl) (by simpa[ivN,List.map_set] using h4);have e1:x.vs.set (i+1) (.slice (some ⟨g,0,none⟩) (x.W.getD i []).length cap)=x.vs:=aBn h1;have e2:x.rs.set (i+1) (3,ivN ((x.W.getD i []).set j p))=({ x with W:=x.W.set i ((x.W.getD i []).set j p) }:XD).rs:=by
   unfold XD.rs;rw[List.set_cons_succ,List.set_append_left _ _ (by simpa using a3)];simp[List.map_set]
  rw[e1,e2] at h5;exact h5
theorem XM.addC{x:XD}{B:Nat}{w w5:World}(h:XM x B w){u v':Value}{c:List Int}(hu:w.ownsRow B 3 1 u c.length (ivI c))(hn:∀b,x.own b->u.ownBlock≠some b)(hg:w.grownBy w5 x.av.ownBlock)(ho:v'.ownBlock=x.av.ownBlock\/∃g,v'.ownBlock=some g/\w.heap.size<=g)(h5:w5.ownsRow B 128 1 v' (x.C.length+1) (x.cv++[u])):
  XM { x with av:=v',cv:=x.cv++[u],C:=x.C++[c] } B (w5.setCell ⟨x.bx,3,none⟩ v')/\aG (fun b=>x.own b\/u.ownBlock=some b) ({ x with av:=v',cv:=x.cv++[u],C:=x.C++[c] }:XD).own w (w5.setCell ⟨x.bx,3,none⟩ v'):=by
 have hl:=h.low;have a1:x.av∈x.vs:=by simp[XD.vs]
 have hb:∀b,b<w.heap.size->x.av.ownBlock≠some b->w5.heap[b]? = w.heap[b]? :=fun b hb hn=>hg.block b hb fun e=>hn e.symm;have a0:∀b,b<B->w5.heap[b]? = w.heap[b]? :=fun b hb2=>hb b (by omega) fun e=>by have:=(h.rows.in a1 e).1;omega
 have a2:∀b,b≠x.bx->(w5.setCell ⟨x.bx,3,none⟩ v').heap[b]? = w5.heap[b]? :=fun b hb=>Below.heap_setCell _ _ _ _ (fun e=>hb e);have a3:(w5.setCell ⟨x.bx,3,none⟩ v').heap.size=w5.heap.size:=by simp
 have hT:aG x.own (fun b=>x.own b\/v'.ownBlock=some b) w w5:=aG.grown hg (fun g hg=>.inr (.inr ⟨x.av,a1,hg⟩)) ho;have a6:aG (fun b=>x.own b\/u.ownBlock=some b) (fun b=>(x.own b\/v'.ownBlock=some b)\/u.ownBlock=some b) w w5:=
  ⟨hT.os,hT.tape,hT.output,hT.size,fun b hb hn=>hT.block b hb fun e=>hn (.inl e),fun b hb=>by
   rcases hb with hb | hb
   ·exact (hT.new b hb).imp .inl id
   ·exact .inl (.inr hb)⟩
 have a4:aG (fun b=>(x.own b\/v'.ownBlock=some b)\/u.ownBlock=some b) (fun b=>(x.own b\/v'.ownBlock=some b)\/u.ownBlock=some b) w5 (w5.setCell ⟨x.bx,3,none⟩ v'):=aG.set _ _ _ _ _ (.inl (.inl (.inl rfl)));refine⟨⟨?_,?_,?_,h.rl,h.wl,by simp[h.cl],hl.1,hl.2.1,hl.2.2.1,hl.2.2.2.1,hl.2.2.2.2.1,hl.2.2.2.2.2.1,by rw[a3];exact U2 hl.2.2.2.2.2.2 hg.size⟩,(a6.trans a4).less fun b hb=>?_⟩
 ·have h6:aF x.bx 132 x.box w5:=by have:=h.box;unfold aF at *;rw[a0 _ hl.1];exact this
  exact h6.set 3 v'
 ·have:=h.wb;unfold aF at *;rw[a2 _ (Ne.symm hl.2.2.2.2.1),a0 _ hl.2.2.1];exact this
 ·have h6:=h.rows.put (w':=w5) (i:=0) (v:=x.av) (v':=v') (r':=(128,x.cv++[u])) rfl hb ho (by simpa[h.cl] using h5);have a5:w5.ownsRow B 3 1 u (ivI c).length (ivI c):=by
   rw[aKb];exact cM hu fun g hg=>hb g (bN hu hg).2 fun e=>hn g (.inr (.inr ⟨x.av,a1,e⟩)) hg
  have h7:=h6.snoc (v:=u) (r:=(3,ivI c)) (fun a ha g hag e=>by
   rcases List.mem_or_eq_of_mem_set ha with ha | rfl
   ·exact hn g (.inr (.inr ⟨a,ha,hag⟩)) e
   ·rcases ho with ho | ⟨g',ho,hge⟩
    ·exact hn g (.inr (.inr ⟨x.av,a1,by rw[<-ho];exact hag⟩)) e
    ·rw[ho] at hag;have:=U6 hag;have:=(bN hu e).2;omega) a5
  have e1:x.vs.set 0 v' ++ [u]=({ x with av:=v',cv:=x.cv++[u],C:=x.C++[c] }:XD).vs:=by simp[XD.vs]
  have e2:x.rs.set 0 (128,x.cv++[u])++[(3,ivI c)]=({ x with av:=v',cv:=x.cv++[u],C:=x.C++[c] }:XD).rs:=by simp[XD.rs]
  rw[e1,e2] at h7;exact h7.other fun a ha g hag=>a2 g fun e=>by have:=(h7.in ha hag).1;omega
 ·rcases hb with hb | hb | ⟨a,ha,hag⟩
  ·exact .inl (.inl (.inl hb))
  ·exact .inl (.inl (.inr (.inl hb)))
  ·simp only[XD.vs,List.mem_cons,List.mem_append,List.not_mem_nil,or_false] at ha;rcases ha with rfl | ha | ha | rfl
   ·exact .inl (.inr hag)
   ·exact .inl (.inl (.inr (.inr ⟨a,by simp[XD.vs,ha],hag⟩)))
   ·exact .inl (.inl (.inr (.inr ⟨a,by simp[XD.vs,ha],hag⟩)))
   ·exact .inr hag
theorem XM.setF{x:XD}{B:Nat}{w:World}(h:XM x B w)(f:Bool):XM { x with fl:=f } B (w.setCell ⟨x.bx,1,none⟩ (.bool f))/\aG x.own ({ x with fl:=f }:XD).own w (w.setCell ⟨x.bx,1,none⟩ (.bool f)):=by
 have hl:=h.low;have a0:∀b,b≠x.bx->(w.setCell ⟨x.bx,1,none⟩ (.bool f)).heap[b]? = w.heap[b]? :=fun b hb=>Below.heap_setCell _ _ _ _ (fun e=>hb e);have a1:(w.setCell ⟨x.bx,1,none⟩ (.bool f)).heap.size=w.heap.size:=by simp
 refine⟨⟨h.box.set 1 (.bool f),?_,h.rows.other fun v hv g hg=>a0 g (sK h hv hg).1,h.rl,h.wl,h.cl,hl.1,hl.2.1,hl.2.2.1,hl.2.2.2.1,hl.2.2.2.2.1,hl.2.2.2.2.2.1,by rw[a1];exact hl.2.2.2.2.2.2⟩,aG.set _ _ _ _ _ (.inl rfl)⟩;have:=h.wb;unfold aF at *;rw[a0 _ (Ne.symm hl.2.2.2.2.1)];exact this
theorem sJ:∀ {m:Nat} {l:List Nat},l.Nodup->(∀p∈l,p<m)->l.length<=m
 | 0,l,_,h=>by
  cases l with
  | nil=>simp
  | cons a l=>exact absurd (h a Y9) (by omega)
 | m+1,l,hn,h=>by
  by_cases hm:m∈l
  ·have h1:=sJ (m:=m) (l:=l.erase m) (hn.erase m) fun p hp=>by
    have:=h p (List.mem_of_mem_erase hp);have:p≠m:=fun e=>by subst e;exact (List.Nodup.not_mem_erase hn) hp
    omega
   rw[List.length_erase_of_mem hm] at h1;omega
  ·have:=sJ (m:=m) hn fun p hp=>by
    have:=h p hp;have:p≠m:=fun e=>hm (e ▸ hp);omega
   omega
theorem aCd{n:Nat}{C:List (List Int)}{W:List (List Nat)}(h:WSt n C W){z:Int}(hz:Lit n z):(W.getD ((n:Int)+z).toNat []).length<=C.length:=
 sJ (h.nodup _) fun p hp=>by
  obtain⟨c,hc,-⟩:=(h.iff z hz p).1 hp;exact (R9.1 hc).1
def SmI(x:Int):Prop:=x.natAbs<=1000
theorem aWd{x:Int}(h:SmI x):(Lit.int .i64 x).wf=true:=by
 unfold SmI at h;have e1:IntKind.i64.min = -9223372036854775808:=by decide
 have e2:IntKind.i64.max=9223372036854775807:=by decide
 simp[Lit.wf];omega
theorem aEg:Maps.Keyed Tryz.prog 3:=Maps.int_keyed Tryz.underlying3
theorem aEf{x:Int}(h:SmI x):keyOf Tryz.prog 3 (.int .i64 x)=some (.int .i64 x):=Maps.keyOf_int_mk Tryz.underlying3 (aWd h)
def nF(g n:Nat)(f:Int->Bool)(w:World):Prop:=∃D:DataW Unit,w.ownsMap Tryz.prog 3 (plainElem Tryz.prog 4) g n D/\∀x,D.atKey (.int .i64 x) (.lit (.bool false))=.lit (.bool (f x))
theorem nF.kept{g n:Nat}{f:Int->Bool}{w w':World}{row:Option Nat}(h:nF g n f w)(hg:w.grownBy w' row)(hne:some g≠row):nF g n f w':=by
 obtain⟨D,h1,h2⟩:=h;exact⟨D,h1.kept hg hne,h2⟩
theorem nF.keep{g n:Nat}{f:Int->Bool}{w w':World}(h:nF g n f w)(k:aA w w'):nF g n f w':=h.kept (row:=none) ⟨k.os,k.tape,k.output,k.size,fun b hb _=>k.block b hb⟩ (by simp)
theorem yL(w:World):nF w.heap.size 0 (fun _=>false) (w.alloc (.map #[] 0)):=⟨.map [],World.ownsMap_made w _ _ _,fun x=>by simp[DataW.atKey]⟩
theorem aFa{v:Value}{z:DataW Unit × List MemPlace}(h:plainElem Tryz.prog 4 v=some z):∃c,v=.bool c/\z=(.lit (.bool c),[]):=by
 unfold plainElem at h;rw[Tryz.underlying4] at h;cases v<;>simp at h
 exact⟨_,rfl,h.symm⟩
theorem nF.look{g n:Nat}{f:Int->Bool}{w:World}{t:TypeId}(h:nF g n f w)(ht:Tryz.prog.underlying t=some (.map 3 4)){x:Int}(hx:SmI x):(Instr.lookup t (.map (some g)) (.int .i64 x) false).run Tryz.prog w=.ok (.bool (f x)) w:=by
 obtain⟨D,h1,h2⟩:=h;obtain⟨v,ps,a0,hv⟩:=h1.lookup aEg ht (z:= .bool false) (by kernel_rfl) (plainElem_bool Tryz.underlying4 false) (aEf hx);rw[h2 x] at hv;obtain⟨c,rfl,hc⟩:=aFa hv;have e:f x=c:=by simpa using Q0 Prod.fst hc
 rw[a0,e]
theorem nF.put{g n:Nat}{f:Int->Bool}{w:World}{t:TypeId}(h:nF g n f w)(ht:Tryz.prog.underlying t=some (.map 3 4)){x:Int}(hx:SmI x)(hl:n<1000000)(b:Bool):∃w',(Instr.mapUpdate t (.map (some g)) (.int .i64 x) (.bool b)).run Tryz.prog w=.ok () w'/\nF g (n+1) (fun y=>if y=x then b else f y) w'/\w.grownBy w' (some g):=by
 obtain⟨D,h1,h2⟩:=h;obtain⟨w',a1,a0,a2⟩:=h1.update aEg ht (by unfold maxLen;omega) (aEf hx) (plainElem_bool Tryz.underlying4 b);refine⟨w',a1,⟨_,a0,fun y=>?_⟩,a2⟩;by_cases e:y=x
 ·subst e;rw[Maps.atKey_put_same h1.isMap (by simp[WideAt.IsKeyLit])];simp
 ·rw[Maps.atKey_put_other (by simpa using e),h2 y];simp[e]
end
end Go.Proofs.YthjlcjdlelkkdaaGreatDoor.Cn
