/- Steps of the proof: CnfBase, CnfSpec, FolSpec, CnfMem, FolMem, FolTake, FolWatch, FolMove, FolAsk, FolAskWalk, FolSettle, FolHold, Filled, FolLay, FolAdd, FolClone. -/
import Derived.Test.YthaaaecmeafofaaGreatDoorRows
import Derived.BigQuiet
import Derived.BigRegion
import Derived.Deep.Cut
import Derived.Deep.CutRange
import Derived.Deep.LoopGhost
import Derived.Deep.MidRow
import Derived.Deep.RegionLaw
import Derived.Deep.RegionHeld3
import Derived.Laws.RangeAny
import Derived.Laws.EntriesVeiled
import Derived.Laws.AppendOwnNone
import Derived.Lib.OthersKept
import Derived.Lib.QuietBelow
import Derived.Maps.AppendAt
import Derived.ProofKit
import Derived.RegionTactic
import Derived.Sort.Grow
import Derived.WalkKit
import Derived.WalkLawsBesides
import Derived.WalkMore
import Derived.WalkSmall
import Derived.Shelf.Abstract
import Derived.OwnWalk
import Derived.Lib.OwnBridge
import Derived.Lib.SliceRun
set_option maxHeartbeats 16000000
set_option maxRecDepth 100000
namespace Go.Proofs.YthaaaecmeafofaaGreatDoor.Cn
open Go.RowKit Go.Lib
def aA (w w':World):Prop:=Below w.heap.size w w'
theorem aD (w:World) (o:Obj):(w.alloc o).heap.size=w.heap.size+1:=by simp
theorem cN {B e sz n:Nat} {v:Value} {xs:List Value} {w:World} (h:w.ownsRow B e sz v n xs) (hn:0<n) : ∃ g cap,v=.slice (some ⟨g,0,none⟩) n cap:=by
 obtain ⟨-,⟨-,h0⟩ | ⟨g,cap,cur,e1,-⟩⟩:=h
 ·omega
 ·exact ⟨g,cap,e1⟩
theorem iW {B e sz n:Nat} {v:Value} {xs:List Value} {w w':World} (h:w.ownsRow B e sz v n xs) (hb : ∀ g,v.ownBlock=some g->w'.heap[g]? = w.heap[g]?):w'.ownsRow B e sz v n xs:=by
 obtain ⟨h1,h2⟩:=h
 refine ⟨h1,h2.imp id ?_⟩
 rintro ⟨g,cap,cur,rfl,e2,e3,e4⟩
 exact ⟨g,cap,cur,rfl,e2,by rw [hb g rfl];exact e3,e4⟩
def aW (b:Nat) (T:TypeId) (cs:Array Value) (w:World):Prop:=w.heap[b]? = some (.cells cs T (0,0))
section
variable {S S':Nat->Prop} {w w':World}
end
theorem eG {P:Program} {ops:Array Oper} {o:Oper} {a:Act} {w:World} {K:Act->World->Prop} {Q:Exit->Act->World->Prop} {E:Prop}
  (hg:o.guard=none) (s x:Operand) (t:TypeId) (hop:o.op=Op.call { callee:=Callee.builtin Builtin.append,args:=#[s,x],argTypes:=#[t,t] })
  (base:Nat) (e:TypeId) (i:TypeInfo) (z:Value) (size bytes:Nat) (ht:P.underlying t=some (.slice e)) (hi:P.info? e=some i) (hz:i.zero=some z)
  (hsize:i.size=size) (hby:i.bytes=bytes) (hzs:z.cells.size=size) (hsz:0<size)
  (v:Value) (n:Nat) (xs:List Value) (hs:a.eval s=v) (hown:w.ownsRow base e size v n xs)
  (ad:Addr) (m c:Nat) (news:List Value) (hx:a.eval x=.slice (some ad) m c) (hl:news.length=m*size) (hnews : ∀ j u,news[j]? = some u->w.cell? (ad.add j)=some u) (h1 : ∀ u∈news,u.oneCell'=true)
  (h63:n+m<=maxLen) (hbytes:(n+m)*bytes<=140737488355328) (hbase:base<=w.heap.size)
  (hK : ∀ v' w',w'.ownsRow base e size v' (n+m) (xs++news)->w.grownBy w' v.ownBlock->(v'.ownBlock=v.ownBlock∨v'.ownBlock=some w.heap.size)->K (a.put o.dst v') w') :
  if Region.wanted o (yielded ops a.tmps)=true then Oper.wp P o a w K Q else E:=by
 have hw:Region.wanted o (yielded ops a.tmps)=true:=by simp [Region.wanted,hg]
 rw [if_pos hw]
 obtain ⟨v',w',hr,h2,h3,-,h5⟩:=run_append_own_at (P:=P) w base t o.type e i z size bytes ht hi hz hsize hby hzs hsz v n xs hown ad m c news hl hnews h1 h63 hbytes hbase
 unfold Oper.wp
 simp [execOp,hop,resolve,invoke,builtin,hs,hx,hr,Result.andThen]
 exact hK v' w' h2 h3 h5
end Go.Proofs.YthaaaecmeafofaaGreatDoor.Cn
namespace Go.Proofs.YthaaaecmeafofaaGreatDoor.Cn
end Go.Proofs.YthaaaecmeafofaaGreatDoor.Cn
namespace Go.Proofs.YthaaaecmeafofaaGreatDoor.Cn
open Go.RowKit
end Go.Proofs.YthaaaecmeafofaaGreatDoor.Cn
namespace Go.Proofs.YthaaaecmeafofaaGreatDoor.Cn
open Go.RowKit Go.Lib
theorem jM {w w':World} {row:Option Nat} {o:Obj} (h:(w.alloc o).grownBy w' row):w.grownBy w' row:=
 ⟨h.os,h.tape,h.output,Nat.le_trans (by rw [aD];omega) h.size,fun k hk hn=>(h.block k (by rw [aD];omega) hn).trans (by
  show (w.heap.push _)[k]? = _
  rw [Array.getElem?_push,if_neg (by omega)])⟩
theorem aDa (v:Value) (hv:v.cells=#[v]) (n:Nat):(madeCells v.cells (n*1)).toList=List.replicate n v:=by
 rw [hv,Nat.mul_one]
 apply List.ext_getElem
 ·simp [madeCells]
 ·intro i h1 h2
  simp [madeCells,Nat.mod_one]
theorem jT {w w':World} {B T n:Nat} {v:Value} (hv:v.cells=#[v]) (h:w'.ownsRow B T 1 (.slice (some ⟨w.heap.size,0,none⟩) n n) n (madeCells v.cells (n*1)).toList):aW w.heap.size T (List.replicate n v).toArray w':=by
 obtain ⟨h1,⟨h2,-⟩ | ⟨g,cap,cur,h2,e2,e3,e4,e5,e6,e7⟩⟩:=h
 ·cases h2
 ·cases h2
  unfold aW
  rw [e3]
  rw [aDa v hv,List.take_of_length_le (by simp;omega)] at e7
  rw [← e7]
theorem iI {w w':World} (h:w.grownBy w' none):aA w w':=⟨h.os,h.tape,h.output,h.size,fun b hb=>h.block b hb (by simp)⟩
end Go.Proofs.YthaaaecmeafofaaGreatDoor.Cn
namespace Go.Proofs.YthaaaecmeafofaaGreatDoor.Cn
open Go.RowKit Go.Lib Go.Sort
end Go.Proofs.YthaaaecmeafofaaGreatDoor.Cn
