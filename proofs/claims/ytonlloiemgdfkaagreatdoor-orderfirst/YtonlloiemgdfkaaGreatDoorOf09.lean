/- Steps of the proof: TreeLine, TreeParse, BoxAt. -/
import Derived.Test.YtonlloiemgdfkaaGreatDoorOf08
import Derived.Deep.RegionHeld3
set_option maxHeartbeats 16000000
set_option maxRecDepth 100000
namespace Go.Proofs.YtonlloiemgdfkaaGreatDoor
open Go.RowKit
def eO (b:Nat) (cs:Array Value) (w:World):Prop:=w.heap[b]? = some (.cells cs 75 (0,0))
theorem eO.facts {b:Nat} {cs:Array Value} {w:World} (h:eO b cs w):(∀ o,w.cell? ⟨b,o,none⟩=cs[o]?)/\(∀ o,w.frozen? ⟨b,o,none⟩=false)/\b<w.heap.size:=by
 unfold eO at h
 refine ⟨fun o=>by simp [World.cell?,h],fun o=>by simp [World.frozen?,h],(Array.getElem?_eq_some_iff.1 h).1⟩
theorem eO.new (w:World) (cs:Array Value):eO w.heap.size cs (w.alloc (.cells cs 75)):=by
 show (w.heap.push _)[w.heap.size]? = _
 rw [Array.getElem?_push,if_pos rfl]
theorem eO.keep {b B:Nat} {cs:Array Value} {w w':World} (h:eO b cs w) (k:Below B w w') (hB:b<B):eO b cs w':=by
 unfold eO at h ⊢;rw [k.block b hB];exact h
theorem aAj {α:Type} {cs:Array α} (h:cs.size=14) : ∃ c0 c1 c2 c3 c4 c5 c6 c7 c8 c9 c10 c11 c12 c13,cs=#[c0,c1,c2,c3,c4,c5,c6,c7,c8,c9,c10,c11,c12,c13]:=by
 obtain ⟨l⟩:=cs
 match l,h with
 | [c0,c1,c2,c3,c4,c5,c6,c7,c8,c9,c10,c11,c12,c13],_=>exact ⟨c0,c1,c2,c3,c4,c5,c6,c7,c8,c9,c10,c11,c12,c13,rfl⟩
theorem eO.set {b:Nat} {cs:Array Value} {w:World} (h:eO b cs w) (hs:cs.size=14) (v0 v1 v2 v3 v4 v5 v6 v7 v8 v9 v10 v11 v12 v13:Value) :
  eO b #[v0,v1,v2,v3,v4,v5,v6,v7,v8,v9,v10,v11,v12,v13] ((((((((((((((w.setCell ⟨b,0,none⟩ v0).setCell ⟨b,1,none⟩ v1).setCell ⟨b,2,none⟩ v2).setCell ⟨b,3,none⟩ v3).setCell ⟨b,4,none⟩ v4).setCell ⟨b,5,none⟩ v5).setCell ⟨b,6,none⟩ v6).setCell ⟨b,7,none⟩ v7).setCell ⟨b,8,none⟩ v8).setCell ⟨b,9,none⟩ v9).setCell ⟨b,10,none⟩ v10).setCell ⟨b,11,none⟩ v11).setCell ⟨b,12,none⟩ v12).setCell ⟨b,13,none⟩ v13)/\Below b w ((((((((((((((w.setCell ⟨b,0,none⟩ v0).setCell ⟨b,1,none⟩ v1).setCell ⟨b,2,none⟩ v2).setCell ⟨b,3,none⟩ v3).setCell ⟨b,4,none⟩ v4).setCell ⟨b,5,none⟩ v5).setCell ⟨b,6,none⟩ v6).setCell ⟨b,7,none⟩ v7).setCell ⟨b,8,none⟩ v8).setCell ⟨b,9,none⟩ v9).setCell ⟨b,10,none⟩ v10).setCell ⟨b,11,none⟩ v11).setCell ⟨b,12,none⟩ v12).setCell ⟨b,13,none⟩ v13)/\((((((((((((((w.setCell ⟨b,0,none⟩ v0).setCell ⟨b,1,none⟩ v1).setCell ⟨b,2,none⟩ v2).setCell ⟨b,3,none⟩ v3).setCell ⟨b,4,none⟩ v4).setCell ⟨b,5,none⟩ v5).setCell ⟨b,6,none⟩ v6).setCell ⟨b,7,none⟩ v7).setCell ⟨b,8,none⟩ v8).setCell ⟨b,9,none⟩ v9).setCell ⟨b,10,none⟩ v10).setCell ⟨b,11,none⟩ v11).setCell ⟨b,12,none⟩ v12).setCell ⟨b,13,none⟩ v13).heap.size=w.heap.size/\∀ k,k≠b->((((((((((((((w.setCell ⟨b,0,none⟩ v0).setCell ⟨b,1,none⟩ v1).setCell ⟨b,2,none⟩ v2).setCell ⟨b,3,none⟩ v3).setCell ⟨b,4,none⟩ v4).setCell ⟨b,5,none⟩ v5).setCell ⟨b,6,none⟩ v6).setCell ⟨b,7,none⟩ v7).setCell ⟨b,8,none⟩ v8).setCell ⟨b,9,none⟩ v9).setCell ⟨b,10,none⟩ v10).setCell ⟨b,11,none⟩ v11).setCell ⟨b,12,none⟩ v12).setCell ⟨b,13,none⟩ v13).heap[k]? = w.heap[k]? :=by
 obtain ⟨c0,c1,c2,c3,c4,c5,c6,c7,c8,c9,c10,c11,c12,c13,rfl⟩:=aAj hs
 refine ⟨?_,?_,?_,?_⟩
 ·have h10:=aB (aB (aB (aB (aB (aB (aB (aB (aB (aB (aB (aB (aB (aB (h) 0 v0) 1 v1) 2 v2) 3 v3) 4 v4) 5 v5) 6 v6) 7 v7) 8 v8) 9 v9) 10 v10) 11 v11) 12 v12) 13 v13
  simp only [List.setIfInBounds_toArray,List.set_cons_zero,List.set_cons_succ] at h10
  exact h10
 ·exact (((((((((((((((Below.refl b w).setCell (p:=⟨b,0,none⟩) (Nat.le_refl _) v0).setCell (p:=⟨b,1,none⟩) (Nat.le_refl _) v1).setCell (p:=⟨b,2,none⟩) (Nat.le_refl _) v2).setCell (p:=⟨b,3,none⟩) (Nat.le_refl _) v3).setCell (p:=⟨b,4,none⟩) (Nat.le_refl _) v4).setCell (p:=⟨b,5,none⟩) (Nat.le_refl _) v5).setCell (p:=⟨b,6,none⟩) (Nat.le_refl _) v6).setCell (p:=⟨b,7,none⟩) (Nat.le_refl _) v7).setCell (p:=⟨b,8,none⟩) (Nat.le_refl _) v8).setCell (p:=⟨b,9,none⟩) (Nat.le_refl _) v9).setCell (p:=⟨b,10,none⟩) (Nat.le_refl _) v10).setCell (p:=⟨b,11,none⟩) (Nat.le_refl _) v11).setCell (p:=⟨b,12,none⟩) (Nat.le_refl _) v12).setCell (p:=⟨b,13,none⟩) (Nat.le_refl _) v13)
 ·simp [World.setCell]
 ·intro k hk
  simp [World.setCell,Array.getElem?_modify,Ne.symm hk]
theorem eG {P:Program} {fn:Func} {R:Ending->World->Prop} {a:Act} {W:World} {v:Value} (T:World->Prop) (hT:T W) (hd:a.defers = []) (h : ∀ W',T W'->(results fn a.tmps).run P W'=.ok v W'/\R (.returned v) W'):bodyPost P fn R .ret a W:=
 bodyPost_ret (h W hT).1 hd (h W hT).2
def pT:List Value:= [.string ⟨#[]⟩,.int .i64 0,.int .i64 0,.slice none 0 0,.int .i64 0,.string ⟨#[]⟩,.int .i64 0,.int .i64 0,.int .i64 0,.string ⟨#[]⟩,.bool false,.string ⟨#[]⟩,.bool false,.slice none 0 0]
theorem aCo {l:List aX} (h:l.length≠5):qY l=1:=by
 match l,h with
 | [],_=>rfl
 | [_],_=>rfl
 | [_,_],_=>rfl
 | [_,_,_],_=>rfl
 | [_,_,_,_],_=>rfl
 | [_,_,_,_,_],h=>exact absurd rfl h
 | _ :: _ :: _ :: _ :: _ :: _ :: _,_=>rfl
theorem lI (sep:List UInt8) : ∀ (k:Nat) (l:List UInt8),(Lib.splitK sep 0 k l).length<=k+1
 | 0,_=>by simp [Lib.splitK]
 | k+1,l=>by
  rw [Lib.splitK]
  split
  ·simp
  ·have:=lI sep k (l.drop ((Lib.index l sep).toNat+sep.length))
   simp only [List.length_cons];omega
theorem uB (s:ByteArray) : ∃ ws:List ByteArray,ws=Lib.splitB ⟨#[32]⟩ 0 (min 5 (s.size+1)-1) s/\ws.length<=min 5 (s.size+1)/\ws.map (·.data.toList)=Lib.splitN s.data.toList [32] 5/\∀ x∈ws,x.size<=s.size:=by
 have hsz:s.data.toList.length=s.size:=aM s
 have hd:(Lib.splitB ⟨#[32]⟩ 0 (min 5 (s.size+1)-1) s).map (·.data.toList)=Lib.splitN s.data.toList [32] 5:=by
  unfold Lib.splitN;rw [hsz];exact Lib.splitB_data ⟨#[32]⟩ 0 _ s
 refine ⟨_,rfl,?_,hd,fun x hx=> ?_⟩
 ·have:=lI [32] (min 5 (s.size+1)-1) s.data.toList
  have e:=congrArg List.length hd
  rw [List.length_map] at e
  unfold Lib.splitN at e
  rw [hsz] at e
  omega
 ·have:x.data.toList∈Lib.splitN s.data.toList [32] 5:=by rw [← hd];exact List.mem_map.2 ⟨x,hx,rfl⟩
  have h2:=jH _ _ _ this
  rw [aM,aM] at h2
  exact h2
theorem rD {ws:List ByteArray} {m j:Nat} {x:ByteArray} (h:ws[j]? = some x):(Lib.cellsOf ws m)[j]? = some (.string x):=by
 have hj:=(List.getElem?_eq_some_iff.1 h).1
 unfold Lib.cellsOf
 rw [List.getElem?_toArray,List.getElem?_append_left (by simpa using hj),List.getElem?_map,h];rfl
theorem oR (s:ByteArray) (w:World) (hM:fM w) (hs:s.size<=20000) :
  Calls Tryz.prog 214 #[.string s] w fun e w'=> ∃ v,e=.returned v/\bJ (fun b=>w.heap.size<=b/\b<w'.heap.size) w' (dD s.data.toList) v/\aA w w':=by
 rcases gV s [] with ⟨h1,h2,h3⟩ | ⟨h1,h2,h3⟩
 ·have HF:Hid (dD s.data.toList = []):=by show _=_;unfold dD;rw [if_pos h1]
  clear h1
  go_enter Tryz.func214,Tryz.ntmps214
  go_wp2_with fail
  go_ret
  exact ⟨_,rfl,Or.inl ⟨HF.out,none,0,rfl⟩,aA.refl _⟩
 ·have HF:Hid (dD s.data.toList=(Lib.split s.data.toList [44]).map fun x=>⟨x.toArray⟩):=by show _=_;unfold dD;rw [if_neg h1]
  obtain ⟨hml,mm,hmm⟩:=hM
  have hl:=Lib.splitB_all ⟨#[44]⟩ (by decide) 0 _ s rfl
  have hc:=Lib.countB_le ⟨#[44]⟩ (by decide) s.size s (Nat.le_refl _)
  have hd:(Lib.splitB ⟨#[44]⟩ 0 (Lib.countB s ⟨#[44]⟩) s).map (·.data.toList)=Lib.split s.data.toList [44]:=Lib.splitB_data ⟨#[44]⟩ 0 _ s
  have HFS:Hid (dD s.data.toList=Lib.splitB ⟨#[44]⟩ 0 (Lib.countB s ⟨#[44]⟩) s):=by
   show _=_
   rw [HF.out,← hd,List.map_map]
   conv=>rhs;rw [← List.map_id (Lib.splitB ⟨#[44]⟩ 0 (Lib.countB s ⟨#[44]⟩) s)]
   apply List.map_congr_left
   intro x _;exact bM x
  have HL:=hid hl
  have HC:=hid hc
  clear h1 hd hl hc HF
  go_enter Tryz.func214,Tryz.ntmps214
  go_wp2_with fail
  refine (Tryz.strings_Split s ⟨#[44]⟩ mm w (by omega) hmm (by decide)).mono ?_
  rintro e w1 ⟨rfl,hw1⟩
  have K1:Hid (aA w w1):=by rw [hw1];exact aA.alloc _ _
  have HS1:Hid (w1.heap.size=w.heap.size+1):=by show _=_;rw [hw1,aE]
  have HC1:Hid (∀ (j:Nat) (x:ByteArray),(Lib.splitB ⟨#[44]⟩ 0 (Lib.countB s ⟨#[44]⟩) s)[j]? = some x->w1.cell? ⟨w.heap.size,0+j,none⟩=some (.string x)):=by
   intro j x hx
   rw [hw1]
   have:=dX (w:=w) (cs:=(Lib.splitB ⟨#[44]⟩ 0 (Lib.countB s ⟨#[44]⟩) s).map Value.string) (T:=9) j (.string x) (by simp [hx])
   rwa [Addr.add_mid] at this
  clear hw1 hmm
  go_wp2_with fail
  go_ret
  refine ⟨_,rfl,Or.inr ⟨w.heap.size,0,Lib.countB s ⟨#[44]⟩+1,?_,⟨⟨Nat.le_refl _,by rw [HS1.out];omega⟩,by rw [HFS.out,HL.out];exact Nat.le_refl _⟩,?_,?_⟩,K1.out⟩
  ·rw [HFS.out,HL.out];rfl
  ·rw [HFS.out,HL.out];have:=HC.out;omega
  ·rw [HFS.out];exact HC1.out
end Go.Proofs.YtonlloiemgdfkaaGreatDoor
namespace Go.Proofs.YtonlloiemgdfkaaGreatDoor
open Go.RowKit
def xQ (l:List UInt8) (w:World) (e:Ending) (w':World):Prop:=
 ∃ cs:List Value,e=.returned (.tuple #[.agg cs.toArray,.int .i64 (dU l)])/\(dU l=0->bZ (fun b=>w.heap.size<=b/\b<w'.heap.size) w' (iA l) cs)/\(dU l≠0->cs=pT)/\aA w w'
def xV (b:Nat) (ws:List ByteArray) (w:World):Prop:=b<w.heap.size/\∀ (j:Nat) (x:ByteArray),ws[j]? = some x->w.cell? ⟨b,j,none⟩=some (.string x)
theorem xV.keep {b:Nat} {ws:List ByteArray} {w w':World} (h:xV b ws w) (k:aA w w'):xV b ws w':=⟨Nat.lt_of_lt_of_le h.1 k.size,fun j x hx=>(k.cell (p:=⟨b,j,none⟩) h.1).trans (h.2 j x hx)⟩
structure fL (w5:World) (bp bw bn:Nat) (ws:List ByteArray) (nb:Array Value) (W:World):Prop where
 keep:aA w5 W
 pbox:eO bp #[.string ⟨#[]⟩,.int .i64 0,.int .i64 0,.slice none 0 0,.int .i64 0,.string ⟨#[]⟩,.int .i64 0,.int .i64 0,.int .i64 0,.string ⟨#[]⟩,.bool false,.string ⟨#[]⟩,.bool false,.slice none 0 0] W
 words:xV bw ws W
 nbox:aJ bn nb W
theorem fL.on {w5:World} {bp bw bn:Nat} {ws:List ByteArray} {nb:Array Value} {W W':World} (h:fL w5 bp bw bn ws nb W) (k:aA W W'):fL w5 bp bw bn ws nb W':=
 ⟨h.keep.trans k,h.pbox.keep k h.pbox.facts.2.2,h.words.keep k,h.nbox.keep k h.nbox.1⟩
theorem fL.cells {w5:World} {bp bw bn:Nat} {x0 x1 x2 x3 x4:ByteArray} {nb:Array Value} {W:World} (h:fL w5 bp bw bn [x0,x1,x2,x3,x4] nb W) :
  W.cell? ⟨bw,0,none⟩=some (.string x0)/\W.cell? ⟨bw,3,none⟩=some (.string x3)/\∀ o,W.cell? ⟨bn,o,none⟩=nb[o]? :=
 ⟨h.words.2 0 _ rfl,h.words.2 3 _ rfl,h.nbox.2⟩
theorem fL.after {w5:World} {bp bw bn:Nat} {x0 x1 x2 x3 x4:ByteArray} {nb:Array Value} {w:World} (h:fL w5 bp bw bn [x0,x1,x2,x3,x4] nb w) (h1:bw≠bp) (h2:bn≠bp) (v0 v1 v2 v3 v4 v5 v6 v7 v8 v9 v10 v11 v12 v13:Value) :
  ((((((((((((((w.setCell ⟨bp,0,none⟩ v0).setCell ⟨bp,1,none⟩ v1).setCell ⟨bp,2,none⟩ v2).setCell ⟨bp,3,none⟩ v3).setCell ⟨bp,4,none⟩ v4).setCell ⟨bp,5,none⟩ v5).setCell ⟨bp,6,none⟩ v6).setCell ⟨bp,7,none⟩ v7).setCell ⟨bp,8,none⟩ v8).setCell ⟨bp,9,none⟩ v9).setCell ⟨bp,10,none⟩ v10).setCell ⟨bp,11,none⟩ v11).setCell ⟨bp,12,none⟩ v12).setCell ⟨bp,13,none⟩ v13).cell? ⟨bw,0,none⟩=some (.string x0)/\((((((((((((((w.setCell ⟨bp,0,none⟩ v0).setCell ⟨bp,1,none⟩ v1).setCell ⟨bp,2,none⟩ v2).setCell ⟨bp,3,none⟩ v3).setCell ⟨bp,4,none⟩ v4).setCell ⟨bp,5,none⟩ v5).setCell ⟨bp,6,none⟩ v6).setCell ⟨bp,7,none⟩ v7).setCell ⟨bp,8,none⟩ v8).setCell ⟨bp,9,none⟩ v9).setCell ⟨bp,10,none⟩ v10).setCell ⟨bp,11,none⟩ v11).setCell ⟨bp,12,none⟩ v12).setCell ⟨bp,13,none⟩ v13).cell? ⟨bw,3,none⟩=some (.string x3)/\∀ o,((((((((((((((w.setCell ⟨bp,0,none⟩ v0).setCell ⟨bp,1,none⟩ v1).setCell ⟨bp,2,none⟩ v2).setCell ⟨bp,3,none⟩ v3).setCell ⟨bp,4,none⟩ v4).setCell ⟨bp,5,none⟩ v5).setCell ⟨bp,6,none⟩ v6).setCell ⟨bp,7,none⟩ v7).setCell ⟨bp,8,none⟩ v8).setCell ⟨bp,9,none⟩ v9).setCell ⟨bp,10,none⟩ v10).setCell ⟨bp,11,none⟩ v11).setCell ⟨bp,12,none⟩ v12).setCell ⟨bp,13,none⟩ v13).cell? ⟨bn,o,none⟩=nb[o]? :=by
 have k:=(h.pbox.set rfl v0 v1 v2 v3 v4 v5 v6 v7 v8 v9 v10 v11 v12 v13).2.2.2
 have c:=h.cells
 generalize ((((((((((((((w.setCell ⟨bp,0,none⟩ v0).setCell ⟨bp,1,none⟩ v1).setCell ⟨bp,2,none⟩ v2).setCell ⟨bp,3,none⟩ v3).setCell ⟨bp,4,none⟩ v4).setCell ⟨bp,5,none⟩ v5).setCell ⟨bp,6,none⟩ v6).setCell ⟨bp,7,none⟩ v7).setCell ⟨bp,8,none⟩ v8).setCell ⟨bp,9,none⟩ v9).setCell ⟨bp,10,none⟩ v10).setCell ⟨bp,11,none⟩ v11).setCell ⟨bp,12,none⟩ v12).setCell ⟨bp,13,none⟩ v13)=W' at k ⊢
 exact ⟨(World.cell?_of_block (w:=w) (k bw h1)).trans c.1,(World.cell?_of_block (w:=w) (k bw h1)).trans c.2.1,fun o=>(World.cell?_of_block (w:=w) (k bn h2)).trans (c.2.2 o)⟩
def aCp (w5:World) (fs:List ByteArray) (v:Value) (W:World):Prop:=bJ (fun b=>w5.heap.size<=b/\b<W.heap.size) W fs v
theorem aDh {α:Type} {cs:List α} (h:cs.length=5) : ∃ c0 c1 c2 c3 c4,cs = [c0,c1,c2,c3,c4]:=by
 match cs,h with
 | [c0,c1,c2,c3,c4],_=>exact ⟨c0,c1,c2,c3,c4,rfl⟩
theorem qP (s:ByteArray) (w:World) (hE:Env w) (hM:fM w) (hs:s.size<=20000) :
  Calls Tryz.prog 185 #[.string s] w fun e w'=>xQ s.data.toList w e w':=by
 obtain ⟨ws,hws,hwl,hwd,hwx⟩:=uB s
 have HLE:Hid (dU s.data.toList=qY (ws.map (·.data.toList))):=by show _=_;unfold dU;rw [hwd]
 have HLP:Hid (iA s.data.toList=uT (ws.map (·.data.toList))):=by show _=_;unfold iA;rw [hwd]
 have HE:=hid hE
 have HM:=hid hM
 have HWX:=hid hwx
 clear hwd hE hM hwx
 go_enter Tryz.func185,Tryz.ntmps185
 go_wp2_with fail
 refine cJ (fun W'=>aA w W'/\eO w.heap.size #[.string ⟨#[]⟩,.int .i64 0,.int .i64 0,.slice none 0 0,.int .i64 0,.string ⟨#[]⟩,.int .i64 0,.int .i64 0,.int .i64 0,.string ⟨#[]⟩,.bool false,.string ⟨#[]⟩,.bool false,.slice none 0 0] W') ⟨aA.alloc _ _,eO.new _ _⟩ ?_
 rintro W1 ⟨k1,b1⟩
 obtain ⟨hml,mm,hmm⟩:=HM.out.keep k1
 refine (Tryz.strings_SplitN s ⟨#[32]⟩ 5 mm W1 (by omega) hmm (by decide) (by decide) (by decide)).mono ?_
 rintro e w2 ⟨rfl,hw2⟩
 rw [← hws] at hw2 ⊢
 have K2:Hid (aA w w2):=by rw [hw2];exact k1.trans (aA.alloc _ _)
 have B2:Hid (eO w.heap.size #[.string ⟨#[]⟩,.int .i64 0,.int .i64 0,.slice none 0 0,.int .i64 0,.string ⟨#[]⟩,.int .i64 0,.int .i64 0,.int .i64 0,.string ⟨#[]⟩,.bool false,.string ⟨#[]⟩,.bool false,.slice none 0 0] w2):=by rw [hw2];exact b1.keep (aA.alloc _ _) b1.facts.2.2
 have WS2:Hid (xV W1.heap.size ws w2):=by
  rw [hw2]
  refine ⟨by rw [aE];omega,fun j x hx=> ?_⟩
  have:=rD (m:=min 5 (s.size+1)) hx
  show (match (W1.heap.push _)[W1.heap.size]? with | some (Obj.cells c _ _)=>c[j]? | _=>none)=_
  rw [Array.getElem?_push,if_pos rfl];exact this
 have hw1s:w.heap.size<W1.heap.size:=b1.facts.2.2
 clear hw2 k1 b1 hmm hml hws
 generalize W1.heap.size=bw at WS2 hw1s ⊢
 by_cases h5:ws.length=5
 ·rw [h5]
  obtain ⟨x0,x1,x2,x3,x4,rfl⟩:=aDh h5
  have HW:Hid (dU s.data.toList=if cX x1.data.toList=false∨cX x2.data.toList=false then 1 else rdE x4.data.toList):=HLE.out
  have HP:Hid (iA s.data.toList=⟨⟨x0.data.toList.toArray⟩,dF x1.data.toList,dF x2.data.toList,dD x3.data.toList,(fH x4.data.toList).getD NT.zero⟩):=HLP.out
  have hx0:x0.size<=s.size:=HWX.out x0 (by simp)
  have hx1:x1.size<=s.size:=HWX.out x1 (by simp)
  have hx2:x2.size<=s.size:=HWX.out x2 (by simp)
  have hx3:x3.size<=s.size:=HWX.out x3 (by simp)
  have c1:w2.cell? ⟨bw,1,none⟩=some (.string x1):=WS2.out.2 1 _ rfl
  clear HLE HLP HWX h5 hwl
  go_wp2_with fail
  refine (dY x1 w2 (HE.out.keep K2.out) (by omega)).mono ?_
  rintro e w3 ⟨n1,rfl,hn1,k3⟩
  have K3:=hid (K2.out.trans k3)
  have B3:=hid (B2.out.keep k3 B2.out.facts.2.2)
  have WS3:=hid (WS2.out.keep k3)
  have HN1:=hid hn1
  clear c1 k3 K2 B2 WS2 hn1
  have c2:w3.cell? ⟨bw,2,none⟩=some (.string x2):=WS3.out.2 2 _ rfl
  generalize cX x1.data.toList=β1 at HW HN1 ⊢
  go_wp2_with fail
  refine (dY x2 w3 (HE.out.keep K3.out) (by omega)).mono ?_
  rintro e w4 ⟨n2,rfl,hn2,k4⟩
  have K4:=hid (K3.out.trans k4)
  have B4:=hid (B3.out.keep k4 B3.out.facts.2.2)
  have WS4:=hid (WS3.out.keep k4)
  have HN2:=hid hn2
  clear c2 k4 K3 B3 WS3 hn2
  generalize cX x2.data.toList=β2 at HW HN2 ⊢
  obtain ⟨hc4,hz4,hl4⟩:=B4.out.facts
  cases β1
  ·have HX:Hid (dU s.data.toList=1):=by show _=_;rw [HW.out];simp
   go_wp2_with fail
   refine eG (v:= .tuple #[.agg #[.string ⟨#[]⟩,.int .i64 0,.int .i64 0,.slice none 0 0,.int .i64 0,.string ⟨#[]⟩,.int .i64 0,.int .i64 0,.int .i64 0,.string ⟨#[]⟩,.bool false,.string ⟨#[]⟩,.bool false,.slice none 0 0],.int .i64 1]) (fun W'=>eO w.heap.size #[.string ⟨#[]⟩,.int .i64 0,.int .i64 0,.slice none 0 0,.int .i64 0,.string ⟨#[]⟩,.int .i64 0,.int .i64 0,.int .i64 0,.string ⟨#[]⟩,.bool false,.string ⟨#[]⟩,.bool false,.slice none 0 0] W'/\aA w W') ?_ rfl ?_
   ·have h:=B4.out.set rfl (.string ⟨#[]⟩) (.int .i64 0) (.int .i64 0) (.slice none 0 0) (.int .i64 0) (.string ⟨#[]⟩) (.int .i64 0) (.int .i64 0) (.int .i64 0) (.string ⟨#[]⟩) (.bool false) (.string ⟨#[]⟩) (.bool false) (.slice none 0 0)
    exact ⟨h.1,Below.trans K4.out h.2.1⟩
   rintro W ⟨hb,hk⟩
   obtain ⟨hcW,-,-⟩:=hb.facts
   refine ⟨by simp [results,Tryz.results185,go_sem,hcW],pT,by rw [HX.out];rfl,fun h=>absurd (HX.out.symm.trans h) (by decide),fun _=>rfl,hk⟩
  cases β2
  ·have HX:Hid (dU s.data.toList=1):=by show _=_;rw [HW.out];simp
   go_wp2_with fail
   refine eG (v:= .tuple #[.agg #[.string ⟨#[]⟩,.int .i64 0,.int .i64 0,.slice none 0 0,.int .i64 0,.string ⟨#[]⟩,.int .i64 0,.int .i64 0,.int .i64 0,.string ⟨#[]⟩,.bool false,.string ⟨#[]⟩,.bool false,.slice none 0 0],.int .i64 1]) (fun W'=>eO w.heap.size #[.string ⟨#[]⟩,.int .i64 0,.int .i64 0,.slice none 0 0,.int .i64 0,.string ⟨#[]⟩,.int .i64 0,.int .i64 0,.int .i64 0,.string ⟨#[]⟩,.bool false,.string ⟨#[]⟩,.bool false,.slice none 0 0] W'/\aA w W') ?_ rfl ?_
   ·have h:=B4.out.set rfl (.string ⟨#[]⟩) (.int .i64 0) (.int .i64 0) (.slice none 0 0) (.int .i64 0) (.string ⟨#[]⟩) (.int .i64 0) (.int .i64 0) (.int .i64 0) (.string ⟨#[]⟩) (.bool false) (.string ⟨#[]⟩) (.bool false) (.slice none 0 0)
    exact ⟨h.1,Below.trans K4.out h.2.1⟩
   rintro W ⟨hb,hk⟩
   obtain ⟨hcW,-,-⟩:=hb.facts
   refine ⟨by simp [results,Tryz.results185,go_sem,hcW],pT,by rw [HX.out];rfl,fun h=>absurd (HX.out.symm.trans h) (by decide),fun _=>rfl,hk⟩
  have HX0:Hid (dU s.data.toList=rdE x4.data.toList):=by show _=_;rw [HW.out];simp
  obtain rfl:=HN1.out rfl
  obtain rfl:=HN2.out rfl
  have c4:w4.cell? ⟨bw,4,none⟩=some (.string x4):=WS4.out.2 4 _ rfl
  clear HW HN1 HN2 hc4 hz4 hl4
  go_wp2_with fail
  refine (oM x4 w4 (HE.out.keep K4.out) (HM.out.keep K4.out)).mono ?_
  rintro e w5 ⟨cs,rfl,hgood,hbad,k5⟩
  have K5:=hid (K4.out.trans k5)
  have B5:=hid (B4.out.keep k5 B4.out.facts.2.2)
  have WS5:=hid (WS4.out.keep k5)
  have h45:w4.heap.size<=w5.heap.size:=k5.size
  have hww4:w.heap.size<w4.heap.size:=B4.out.facts.2.2
  clear c4 k5 K4 B4 WS4
  generalize hre:rdE x4.data.toList=re at HX0 hgood hbad ⊢
  by_cases hz:re=0
  ·subst hz
   obtain ⟨t,ht,hn⟩:=hgood rfl
   have HT:Hid ((fH x4.data.toList).getD NT.zero=t):=by show _=_;rw [ht];rfl
   have HNI:=hid hn
   cases htt:t with
   | node k a fl nt kids=>
   have hn':=hn
   rw [htt,aD] at hn'
   obtain ⟨kp,kc,rfl,-,-,-⟩:=hn'
   clear hn hbad hgood hre ht
   go_upto_region 11 with fail
   refine bI (fun W'=>fL w5 w.heap.size bw w5.heap.size [x0,x1,x2,x3,x4] #[.int .i64 k,.string a.n,.int .i64 a.op,.int .i64 a.v,.int .i64 a.sl,.string a.f,.bool a.on,.string fl,.bool nt,.slice kp kids.length kc] W') ⟨aA.alloc _ _,B5.out.keep (aA.alloc _ _) B5.out.facts.2.2,WS5.out.keep (aA.alloc _ _),aJ.new _ _ _⟩ ?_
   intro W6 le
   have LE:=hid le
   have LD:=hid (LE.out.on (show aA W6 W6.drew from ⟨rfl,rfl,rfl,Nat.le_refl _,fun _ _=>rfl⟩))
   have hne1:bw≠w.heap.size:=by omega
   have hne2:w5.heap.size≠w.heap.size:=by have:=B5.out.facts.2.2;omega
   have e0:W6.cell? ⟨bw,0,none⟩=some (.string x0):=le.words.2 0 _ rfl
   have e3:W6.cell? ⟨bw,3,none⟩=some (.string x3):=le.words.2 3 _ rfl
   have en:=le.nbox.2
   have eb:=le.words.1
   have el:=le.nbox.1
   have ep:=le.pbox.facts.1
   have ez:=le.pbox.facts.2.1
   have ey:=le.pbox.facts.2.2
   clear le
   go_region_held3 (fun W'=>W'.cell? ⟨bw,0,none⟩=some (.string x0)/\W'.cell? ⟨bw,3,none⟩=some (.string x3)/\∀ o,W'.cell? ⟨w5.heap.size,o,none⟩=(#[.int .i64 k,.string a.n,.int .i64 a.op,.int .i64 a.v,.int .i64 a.sl,.string a.f,.bool a.on,.string fl,.bool nt,.slice kp kids.length kc]:Array Value)[o]?) (first | with_reducible exact LE.out.cells | with_reducible exact LD.out.cells | exact LE.out.after hne1 hne2 _ _ _ _ _ _ _ _ _ _ _ _ _ _ | go_keep)
    (first
     | (go_at_call 213;refine (iM _ _ (by omega)).mono ?_;rintro e w7 ⟨rfl,k7⟩;(first | (have k8:=eD k7) | (have k8:=k7));have LF:=hid (LE.out.on k8);clear LE k7 k8;have LE:=LF;clear LF;have ep:=LE.out.pbox.facts.1;have ez:=LE.out.pbox.facts.2.1;have ey:=LE.out.pbox.facts.2.2)
     | (go_at_call 214;refine (oR x3 _ (HM.out.keep (K5.out.trans LE.out.keep)) (by omega)).mono ?_;rintro e w7 ⟨fv,rfl,hf,k7⟩;obtain ⟨fp,fc,rfl,hfl⟩:=hf.len;have FS:Hid (aCp w5 (dD x3.data.toList) (.slice fp (dD x3.data.toList).length fc) w7):=bJ.mono (fun _ _=>rfl) (fun _ hb=>⟨Nat.le_trans LE.out.keep.size hb.1,hb.2⟩) hf;have LF:=hid (LE.out.on k7);clear LE k7 hf;have LE:=LF;clear LF;have ep:=LE.out.pbox.facts.1;have ez:=LE.out.pbox.facts.2.1;have ey:=LE.out.pbox.facts.2.2))
   clear ep ez ey en eb el e0 e3 LD
   go_wp2_with fail
   refine eG (v:= .tuple #[.agg #[.string x0,.int .i64 (dF x1.data.toList),.int .i64 (dF x2.data.toList),.slice fp (dD x3.data.toList).length fc,.int .i64 k,.string a.n,.int .i64 a.op,.int .i64 a.v,.int .i64 a.sl,.string a.f,.bool a.on,.string fl,.bool nt,.slice kp kids.length kc],.int .i64 0]) (fun W'=>eO w.heap.size #[.string x0,.int .i64 (dF x1.data.toList),.int .i64 (dF x2.data.toList),.slice fp (dD x3.data.toList).length fc,.int .i64 k,.string a.n,.int .i64 a.op,.int .i64 a.v,.int .i64 a.sl,.string a.f,.bool a.on,.string fl,.bool nt,.slice kp kids.length kc] W'/\Below w.heap.size w7 W'/\W'.heap.size=w7.heap.size/\∀ k,k≠w.heap.size->W'.heap[k]? = w7.heap[k]?) (LE.out.pbox.set rfl _ _ _ _ _ _ _ _ _ _ _ _ _ _) rfl ?_
   rintro W ⟨hb,hk,hz,ho⟩
   obtain ⟨hcW,-,-⟩:=hb.facts
   have hco : ∀ p:Addr,p.block≠w.heap.size->W.cell? p=w7.cell? p:=fun p hp=>World.cell?_of_block (w:=w7) (ho _ hp)
   have hz7:=LE.out.keep.size
   refine ⟨by simp [results,Tryz.results185,go_sem,hcW],[.string x0,.int .i64 (dF x1.data.toList),.int .i64 (dF x2.data.toList),.slice fp (dD x3.data.toList).length fc,.int .i64 k,.string a.n,.int .i64 a.op,.int .i64 a.v,.int .i64 a.sl,.string a.f,.bool a.on,.string fl,.bool nt,.slice kp kids.length kc],by rw [HX0.out],fun _=> ?_,fun h=>absurd HX0.out h,Below.trans (K5.out.trans LE.out.keep) hk⟩
   rw [HP.out,HT.out,bM]
   refine ⟨_,_,rfl,?_,?_⟩
   ·exact bJ.mono (fun p hp=>hco p (by have:=hp.1;omega)) (fun b hb=>⟨by have:=hb.1;omega,by rw [hz];exact hb.2⟩) FS.out
   ·exact aD.mono (fun p hp=>(hco p (by have:=hp.1;omega)).trans (LE.out.keep.cell (p:=p) hp.2)) (fun b hb=>⟨by have:=hb.1;omega,by rw [hz];have:=hb.2;omega⟩) _ _ HNI.out
  ·have HX:Hid (dU s.data.toList=re):=HX0.out
   obtain rfl:=hbad hz
   have hz1:(re==0)=false:=by simp [hz]
   have hz2:(re != 0)=true:=by simp [hz]
   have HZ:=hid hz
   clear hz hgood hbad hre
   unfold pS
   go_upto_region 10 with fail
   refine bI (fun W'=>aA w W'/\eO w.heap.size #[.string ⟨#[]⟩,.int .i64 0,.int .i64 0,.slice none 0 0,.int .i64 0,.string ⟨#[]⟩,.int .i64 0,.int .i64 0,.int .i64 0,.string ⟨#[]⟩,.bool false,.string ⟨#[]⟩,.bool false,.slice none 0 0] W') ⟨K5.out.alloc' _,B5.out.keep (aA.alloc _ _) B5.out.facts.2.2⟩ ?_
   rintro W6 ⟨k6,b6⟩
   have K6:=hid k6
   have B6:=hid b6
   obtain ⟨hc6,hz6,hl6⟩:=b6.facts
   clear k6 b6
   go_wp2_with fail
   refine eG (v:= .tuple #[.agg #[.string ⟨#[]⟩,.int .i64 0,.int .i64 0,.slice none 0 0,.int .i64 0,.string ⟨#[]⟩,.int .i64 0,.int .i64 0,.int .i64 0,.string ⟨#[]⟩,.bool false,.string ⟨#[]⟩,.bool false,.slice none 0 0],.int .i64 re]) (fun W'=>eO w.heap.size #[.string ⟨#[]⟩,.int .i64 0,.int .i64 0,.slice none 0 0,.int .i64 0,.string ⟨#[]⟩,.int .i64 0,.int .i64 0,.int .i64 0,.string ⟨#[]⟩,.bool false,.string ⟨#[]⟩,.bool false,.slice none 0 0] W'/\aA w W') ?_ rfl ?_
   ·have h:=B6.out.set rfl (.string ⟨#[]⟩) (.int .i64 0) (.int .i64 0) (.slice none 0 0) (.int .i64 0) (.string ⟨#[]⟩) (.int .i64 0) (.int .i64 0) (.int .i64 0) (.string ⟨#[]⟩) (.bool false) (.string ⟨#[]⟩) (.bool false) (.slice none 0 0)
    exact ⟨h.1,Below.trans K6.out h.2.1⟩
   rintro W ⟨hb,hk⟩
   obtain ⟨hcW,-,-⟩:=hb.facts
   refine ⟨by simp [results,Tryz.results185,go_sem,hcW],pT,by rw [HX.out];rfl,fun h=>absurd (HX.out.symm.trans h) HZ.out,fun _=>rfl,hk⟩
 ·have h5':(ws.length:Int)<5:=by omega
  have HX:Hid (dU s.data.toList=1):=by show _=_;rw [HLE.out];exact aCo (by simpa using h5)
  obtain ⟨hc2,hz2,hl2⟩:=B2.out.facts
  go_wp2_with fail
  refine eG (v:= .tuple #[.agg #[.string ⟨#[]⟩,.int .i64 0,.int .i64 0,.slice none 0 0,.int .i64 0,.string ⟨#[]⟩,.int .i64 0,.int .i64 0,.int .i64 0,.string ⟨#[]⟩,.bool false,.string ⟨#[]⟩,.bool false,.slice none 0 0],.int .i64 1]) (fun W'=>eO w.heap.size #[.string ⟨#[]⟩,.int .i64 0,.int .i64 0,.slice none 0 0,.int .i64 0,.string ⟨#[]⟩,.int .i64 0,.int .i64 0,.int .i64 0,.string ⟨#[]⟩,.bool false,.string ⟨#[]⟩,.bool false,.slice none 0 0] W'/\aA w W') ?_ rfl ?_
  ·have h:=B2.out.set rfl (.string ⟨#[]⟩) (.int .i64 0) (.int .i64 0) (.slice none 0 0) (.int .i64 0) (.string ⟨#[]⟩) (.int .i64 0) (.int .i64 0) (.int .i64 0) (.string ⟨#[]⟩) (.bool false) (.string ⟨#[]⟩) (.bool false) (.slice none 0 0)
   exact ⟨h.1,Below.trans K2.out h.2.1⟩
  rintro W ⟨hb,hk⟩
  obtain ⟨hcW,-,-⟩:=hb.facts
  refine ⟨by simp [results,Tryz.results185,go_sem,hcW],pT,by rw [HX.out];rfl,fun h=>absurd (HX.out.symm.trans h) (by decide),fun _=>rfl,hk⟩
end Go.Proofs.YtonlloiemgdfkaaGreatDoor
namespace Go.Proofs.YtonlloiemgdfkaaGreatDoor
open Go.RowKit
def bV (B:Nat) (v:Value) (acc:List PK) (w:World):Prop:=
 ∃ csl:List (List Value),csl.length=acc.length/\(∀ cs∈csl,cs.length=14)/\w.ownsRow B 75 14 v acc.length csl.flatten/\∀ (i:Nat) t cs,acc[i]? = some t->csl[i]? = some cs->bZ (fun b=>B<=b/\b<w.heap.size/\v.ownBlock≠some b) w t cs
theorem bV.nil (B:Nat) (w:World):bV B (.slice none 0 0) [] w:=⟨[],rfl,by simp,World.ownsRow_nil _ _ _ _,by simp⟩
theorem bV.other {B:Nat} {v:Value} {acc:List PK} {w w':World} (h:bV B v acc w) (hs:w.heap.size<=w'.heap.size) (hb : ∀ b,B<=b->b<w.heap.size->w'.heap[b]? = w.heap[b]?):bV B v acc w':=by
 obtain ⟨csl,h1,h2,⟨h3,h3'⟩,h4⟩:=h
 refine ⟨csl,h1,h2,⟨h3,h3'.imp id ?_⟩,fun i t cs hi hc=>bZ.mono (fun p hp=>World.cell?_of_block (w:=w) (hb _ hp.1 hp.2.1)) (fun b hb=>⟨hb.1,Nat.lt_of_lt_of_le hb.2.1 hs,hb.2.2⟩) (h4 i t cs hi hc)⟩
 rintro ⟨g,cap,cur,e1,e2,e3,e4⟩
 exact ⟨g,cap,cur,e1,e2,by rw [hb g e2 (Array.getElem?_eq_some_iff.1 e3).1];exact e3,e4⟩
theorem bV.keep {B:Nat} {v:Value} {acc:List PK} {w w':World} (h:bV B v acc w) (k:aA w w'):bV B v acc w':=h.other k.size fun b _ hb=>k.block b hb
theorem bV.push {B B':Nat} {v v':Value} {acc:List PK} {csl:List (List Value)} {t:PK} {cs:List Value} {w w':World} {o:Obj} (h1:csl.length=acc.length) (h2 : ∀ cs∈csl,cs.length=14)
  (h4 : ∀ (i:Nat) t cs,acc[i]? = some t->csl[i]? = some cs->bZ (fun b=>B<=b/\b<w.heap.size/\v.ownBlock≠some b) w t cs)
  (hB:B<=B') (hv : ∀ g,v.ownBlock=some g->g<B') (hn:bZ (fun b=>B'<=b/\b<w.heap.size) w t cs) (hc:cs.length=14)
  (h5:w'.ownsRow B 75 14 v' (acc.length+1) (csl.flatten++cs)) (h6:(w.alloc o).grownBy w' v.ownBlock) (h7:v'.ownBlock=v.ownBlock∨v'.ownBlock=some (w.alloc o).heap.size):bV B v' (acc ++ [t]) w':=by
 have e:=aE w o
 have hsz:w.heap.size<=w'.heap.size:=by have:=h6.size;omega
 have hcell : ∀ p:Addr,p.block<w.heap.size->v.ownBlock≠some p.block->w'.cell? p=w.cell? p:=fun p hp hne=>by
  rw [World.cell?_of_block (w:=w.alloc o) (a:=p) (h6.block p.block (by omega) (fun e=>hne e.symm))]
  exact (aA.alloc w o).cell hp
 have hne : ∀ b,b<w.heap.size->v.ownBlock≠some b->v'.ownBlock≠some b:=fun b hb hn=>by
  rcases h7 with h7 | h7
  ·rw [h7];exact hn
  ·rw [h7];intro e;have:=Option.some.inj e;omega
 refine ⟨csl ++ [cs],by simp [h1],fun x hx=> ?_,by simpa using h5,fun i u x hu hx=> ?_⟩
 ·rcases List.mem_append.1 hx with hx | hx
  ·exact h2 x hx
  ·rw [List.mem_singleton.1 hx];exact hc
 ·by_cases hi:i<acc.length
  ·rw [List.getElem?_append_left hi] at hu
   rw [List.getElem?_append_left (by omega)] at hx
   exact bZ.mono (fun p hp=>hcell p hp.2.1 hp.2.2) (fun b hb=>⟨hb.1,by omega,hne b hb.2.1 hb.2.2⟩) (h4 i u x hu hx)
  ·have hi2:i=acc.length:=by
    have:=(List.getElem?_eq_some_iff.1 hu).1
    simp at this;omega
   subst hi2
   rw [List.getElem?_append_right (Nat.le_refl _),Nat.sub_self] at hu
   rw [← h1,List.getElem?_append_right (Nat.le_refl _),Nat.sub_self] at hx
   cases hu;cases hx
   have hvn : ∀ b,B'<=b->v.ownBlock≠some b:=fun b hb e=>by have:=hv b e;omega
   exact bZ.mono (fun p hp=>hcell p hp.2 (hvn _ hp.1)) (fun b hb=>⟨by omega,by omega,hne b hb.2 (hvn b hb.1)⟩) hn
theorem oH {csl:List (List Value)} (h2 : ∀ cs∈csl,cs.length=14) : ∀ (i:Nat) (cs:List Value),csl[i]? = some cs->∀ (m:Nat) (v:Value),cs[m]? = some v->csl.flatten[i*14+m]? = some v:=by
 induction csl with
 | nil=>intro i cs h;simp at h
 | cons c r ih=>
  intro i cs h m v hv
  have hc:c.length=14:=h2 c (by simp)
  cases i with
  | zero=>
   simp at h;subst h
   have hm:m<c.length:=(List.getElem?_eq_some_iff.1 hv).1
   rw [List.flatten_cons,Nat.zero_mul,Nat.zero_add,List.getElem?_append_left hm];exact hv
  | succ i=>
   rw [List.flatten_cons,List.getElem?_append_right (by omega),show (i+1)*14+m-c.length=i*14+m by omega]
   exact ih (fun x hx=>h2 x (by simp [hx])) i cs (by simpa using h) m v hv
theorem bV.final {B:Nat} {v:Value} {acc:List PK} {w:World} (h:bV B v acc w):aY (fun b=>B<=b/\b<w.heap.size) w acc v:=by
 obtain ⟨csl,h1,h2,⟨h3,⟨rfl,h0⟩ | ⟨g,cap,cur,rfl,e2,e3,e4,e5,e6,e7⟩⟩,h4⟩:=h
 ·obtain rfl:=List.length_eq_zero_iff.1 h0
  exact Or.inl ⟨rfl,none,0,rfl⟩
 ·have hg:=(Array.getElem?_eq_some_iff.1 e3).1
  refine Or.inr ⟨g,0,cap,rfl,⟨e2,hg⟩,by unfold maxLen at e5;omega,fun i hi=> ?_⟩
  refine ⟨csl[i],fun m u hu=> ?_,?_⟩
  ·have hlen:csl[i].length=14:=h2 _ (List.getElem_mem _)
   have hm:m<14:=by rw [← hlen];exact (List.getElem?_eq_some_iff.1 hu).1
   have hf:=oH h2 i csl[i] (List.getElem?_eq_getElem (by omega)) m u hu
   rw [← e7,List.getElem?_take,if_pos (by omega)] at hf
   simp only [World.cell?,e3,Nat.zero_add]
   simpa using hf
  ·exact bZ.mono (fun _ _=>rfl) (fun b hb=>⟨hb.1,hb.2.1⟩) (h4 i _ _ (List.getElem?_eq_getElem hi) (List.getElem?_eq_getElem (by omega)))
def uV (v:Value):Prop:= ∀ (p:Option Addr) (n c:Nat),v=.slice p n c->n<=c
theorem gC:uV (.slice none 0 0):=fun p n c e=>by cases e;exact Nat.le_refl _
theorem bV.cap {B:Nat} {v:Value} {acc:List PK} {w:World} (h:bV B v acc w):uV v:=by
 obtain ⟨csl,-,-,⟨-,⟨rfl,-⟩ | ⟨g,cap,cur,rfl,-,-,h4,-⟩⟩,-⟩:=h
 ·exact gC
 ·exact fun p n c e=>by cases e;exact h4
theorem bV.own {B:Nat} {v:Value} {acc:List PK} {w:World} (h:bV B v acc w) : ∀ g,v.ownBlock=some g->B<=g/\g<w.heap.size:=fun g hg=>by
 obtain ⟨csl,-,-,o1,-⟩:=h
 exact cR o1 hg
theorem bV.shape {B:Nat} {v:Value} {acc:List PK} {w:World} (h:bV B v acc w) : ∃ p cap,v=.slice p acc.length cap:=by
 obtain ⟨p,cap,h,-⟩:=h.final.len
 exact ⟨p,cap,h⟩
theorem aAr:(Tryz.prog.info? 75).map (fun i=>(i.zero,i.size,i.bytes))=some (some (.agg #[.string ⟨#[]⟩,.int .i64 0,.int .i64 0,.slice none 0 0,.int .i64 0,.string ⟨#[]⟩,.int .i64 0,.int .i64 0,.int .i64 0,.string ⟨#[]⟩,.bool false,.string ⟨#[]⟩,.bool false,.slice none 0 0]),14,176):=by kernel_rfl
end Go.Proofs.YtonlloiemgdfkaaGreatDoor
namespace Go.Proofs.YtonlloiemgdfkaaGreatDoor
open Go.RowKit
def xU (l:List UInt8) (w:World) (e:Ending) (w':World):Prop:=
 ∃ v,e=.returned (.tuple #[.agg #[v],.int .i64 ((rdT l).2.1:Nat),.int .i64 (rdT l).1])/\((rdT l).1≠0->v=.slice none 0 0)/\aY (fun b=>w.heap.size<=b/\b<w'.heap.size) w' (rdT l).2.2 v/\aA w w'/\uV v
theorem vI {l:List UInt8} {e:Int} {k:Nat} (h0 : ¬ 20000<l.length) (he:e≠0) (h:gH (l.length+1) l 0 []=(e,k,[])):rdT l=(e,k,[]):=by
 unfold rdT;rw [if_neg h0,h];simp [he]
theorem aAz {l:List UInt8} {k:Nat} {ps:List PK} (h0 : ¬ 20000<l.length) (h:gH (l.length+1) l 0 []=(0,k,ps)):rdT l=if eH ps≠0 then (eH ps,0,[]) else (0,0,ps):=by
 unfold rdT;rw [if_neg h0,h];simp
theorem nW (s:ByteArray) (w:World) (hE:Env w) (hM:fM w) :
  Calls Tryz.prog 130 #[.string s] w fun e w'=>xU s.data.toList w e w':=by
 obtain ⟨i0,hi,hz0,hz1,hz2⟩:=info_parts aAr
 have hsz:=aM s
 have HE:=hid hE
 have HM:=hid hM
 have V0:=hid (aC.new w 24 (.slice none 0 0))
 have K0:=hid (aA.alloc w (.cells #[.slice none 0 0] 24))
 clear hE hM
 by_cases hlong:20000<s.size
 ·have hl':(20000:Int)<(s.size:Int):=by omega
  have HX:Hid (rdT s.data.toList=(2,0,[])):=by show _=_;unfold rdT;rw [if_pos (by omega)]
  go_enter Tryz.func130,Tryz.ntmps130
  go_wp2_with fail
  refine eG (v:= .tuple #[.agg #[.slice none 0 0],.int .i64 0,.int .i64 2]) (fun W'=>aC w.heap.size 24 (.slice none 0 0) W'/\aA w W') ⟨V0.out,K0.out⟩ rfl ?_
  rintro W ⟨hb,hk⟩
  obtain ⟨hcW,-,-⟩:=hb.facts
  refine ⟨by simp [results,Tryz.results130,go_sem,hcW],.slice none 0 0,by rw [HX.out];rfl,fun _=>rfl,by rw [HX.out];exact Or.inl ⟨rfl,none,0,rfl⟩,hk,gC⟩
 ·have hl' : ¬ (20000:Int)<(s.size:Int):=by omega
  have hlong' : ¬ 20000<s.data.toList.length:=by omega
  go_enter Tryz.func130,Tryz.ntmps130
  go_wp2_with fail
  refine bI (fun W'=>aC w.heap.size 24 (.slice none 0 0) W'/\aA w W') ⟨V0.out,K0.out⟩ ?_
  rintro W1 ⟨v1,k1⟩
  have V1:=hid v1
  have K1:=hid k1
  clear v1 k1 V0 K0
  go_loopg [0,3] (s.size+1) (fun gk sv av wr=> ∃ (l:ByteArray) (k:Nat) (acc:List PK) (tv:Value),sv=.string l/\av=.int .i64 k/\gH (s.data.toList.length+1) s.data.toList 0 []=gH gk l.data.toList k acc/\l.size<gk/\k+gk<=s.size+1/\acc.length=k/\aC w.heap.size 24 tv wr/\bV (w.heap.size+1) tv acc wr/\aA w wr)
  case atStart=>exact ⟨s,0,[],_,rfl,rfl,by rw [hsz],by omega,by omega,rfl,V1.out,bV.nil _ _,K1.out⟩
  case round=>
   obtain ⟨l,k,acc,tv,rfl,rfl,heq,hgk,hk,rfl,hv,hrow,hkp⟩:=hrel
   have HEQ:=hid heq
   have HV:=hid hv
   have HROW:=hid hrow
   have HKP:=hid hkp
   have HMW:=hid (HM.out.keep hkp)
   have HEW:=hid (HE.out.keep hkp)
   clear heq hv hrow hkp V1 K1
   obtain ⟨mk,rfl⟩ : ∃ m,gk=m+1:=⟨gk-1,by omega⟩
   rcases gV l [] with ⟨h1,h2,h3⟩ | ⟨h1,h2,h3⟩
   · -- all is read
    have HEND:Hid (rdT s.data.toList=if eH acc≠0 then (eH acc,0,[]) else (0,0,acc)):=aAz hlong' (k:=acc.length) (by rw [HEQ.out,gH,if_pos h1])
    obtain ⟨tp,tc,rfl⟩:=HROW.out.shape
    obtain ⟨hcv,hzv,hlv⟩:=HV.out.facts
    have HFIN:=hid HROW.out.final
    have HCAP:=hid HROW.out.cap
    clear h1
    go_wp2_with fail
    refine (iZ (fun b=>w.heap.size+1<=b/\b<wr.heap.size) acc _ wr (fun _ h=>h.2) HFIN.out).mono ?_
    rintro e w2 ⟨rfl,k2⟩
    have K2:=hid (HKP.out.trans k2)
    have V2:=hid (HV.out.keep k2 HV.out.facts.2.2)
    have F2:=hid (HFIN.out.keep (fun _ h=>h.2) k2)
    have hs2:wr.heap.size<=w2.heap.size:=k2.size
    obtain ⟨hc2,hzz2,hl2⟩:=V2.out.facts
    clear k2 hcv hzv
    generalize hct:eH acc=ct at HEND ⊢
    by_cases hz:ct=0
    ·subst hz
     have HX:Hid (rdT s.data.toList=(0,0,acc)):=by show _=_;rw [HEND.out];simp
     clear HEND hct
     go_wp2_with fail
     refine eG (v:= .tuple #[.agg #[.slice tp acc.length tc],.int .i64 0,.int .i64 0]) (fun W'=>aC w.heap.size 24 (.slice tp acc.length tc) W'/\aA w W'/\W'.heap.size=w2.heap.size/\∀ b,b≠w.heap.size->W'.heap[b]? = w2.heap[b]?) ⟨V2.out.set _,Below.trans K2.out (aL _ _ _ _),bS _ _ _ _,aW _ _ _ _⟩ rfl ?_
     rintro W ⟨hb,hk',hzW,hoW⟩
     obtain ⟨hcW,-,-⟩:=hb.facts
     refine ⟨by simp [results,Tryz.results130,go_sem,hcW],.slice tp acc.length tc,by rw [HX.out];rfl,fun h=>absurd (by rw [HX.out]) h,?_,hk',HCAP.out⟩
     rw [HX.out]
     exact aY.mono (fun p hp=>World.cell?_of_block (w:=w2) (hoW _ (by have:=hp.1;omega))) (fun b hb=>⟨by have:=hb.1;omega,by rw [hzW];have:=hb.2;omega⟩) F2.out
    ·have HX:Hid (rdT s.data.toList=(ct,0,[])):=by show _=_;rw [HEND.out];simp [hz]
     have hz1':(ct==0)=false:=by simp [hz]
     have hz2':(ct != 0)=true:=by simp [hz]
     clear HEND hz hct
     go_wp2_with fail
     refine eG (v:= .tuple #[.agg #[.slice none 0 0],.int .i64 0,.int .i64 ct]) (fun W'=>aC w.heap.size 24 (.slice none 0 0) W'/\aA w W') ⟨V2.out.set _,Below.trans K2.out (aL _ _ _ _)⟩ rfl ?_
     rintro W ⟨hb,hk⟩
     obtain ⟨hcW,-,-⟩:=hb.facts
     refine ⟨by simp [results,Tryz.results130,go_sem,hcW],.slice none 0 0,by rw [HX.out];rfl,fun _=>rfl,by rw [HX.out];exact Or.inl ⟨rfl,none,0,rfl⟩,hk,gC⟩
   ·obtain ⟨hml,mm,hmm⟩:=HMW.out
    have hlsz:=aM l
    go_wp2_with fail
    refine (Tryz.strings_Cut l ⟨#[10]⟩ mm wr (by omega) hmm).mono ?_
    rintro e w2 ⟨rfl,nq,hw2⟩
    have k2:aA wr w2:=by rw [hw2];exact aA.drewN (aA.refl _) _
    have K2':=hid k2
    have K2:=hid (HKP.out.trans k2)
    have V2:=hid (HV.out.keep k2 HV.out.facts.2.2)
    have ROW2:=hid (HROW.out.keep k2)
    have HST:Hid (gH (s.data.toList.length+1) s.data.toList 0 []=if (Lib.cut l.data.toList [10]).2.2=false then (1,acc.length,[]) else if dU (Lib.cut l.data.toList [10]).1≠0 then (dU (Lib.cut l.data.toList [10]).1,acc.length,[]) else gH mk (Lib.cut l.data.toList [10]).2.1 (acc.length+1) (acc ++ [iA (Lib.cut l.data.toList [10]).1])):=by
     show _=_;rw [HEQ.out,gH,if_neg h1]
    have hback:(Lib.cut l.data.toList [10]).2.2=true->l.data.toList=(Lib.cut l.data.toList [10]).1++10 :: (Lib.cut l.data.toList [10]).2.1:=fun h=>(wD 10 (show Lib.cut l.data.toList [10]=((Lib.cut l.data.toList [10]).1,(Lib.cut l.data.toList [10]).2.1,true) by rw [← h])).1
    clear hw2 k2 hmm h1 hml
    rw [show (ByteArray.mk #[10]).data.toList = [10] from rfl]
    generalize Lib.cut l.data.toList [10]=ct at HST hback ⊢
    obtain ⟨x,r,b⟩:=ct
    simp only at HST hback ⊢
    obtain ⟨hc2,hzz2,hl2⟩:=V2.out.facts
    cases b
    ·have HX:Hid (rdT s.data.toList=(1,acc.length,[])):=vI hlong' (by decide) (by rw [HST.out];simp)
     go_wp2_with fail
     refine eG (v:= .tuple #[.agg #[.slice none 0 0],.int .i64 acc.length,.int .i64 1]) (fun W'=>aC w.heap.size 24 (.slice none 0 0) W'/\aA w W') ⟨V2.out.set _,Below.trans K2.out (aL _ _ _ _)⟩ rfl ?_
     rintro W ⟨hb,hk⟩
     obtain ⟨hcW,-,-⟩:=hb.facts
     refine ⟨by simp [results,Tryz.results130,go_sem,hcW],.slice none 0 0,by rw [HX.out],fun _=>rfl,by rw [HX.out];exact Or.inl ⟨rfl,none,0,rfl⟩,hk,gC⟩
    ·have hbl:=congrArg List.length (hback rfl)
     simp only [List.length_append,List.length_cons] at hbl
     have hxs:(⟨x.toArray⟩:ByteArray).size=x.length:=by rw [← aM]
     clear hback hc2 hzz2
     go_wp2_with fail
     refine (qP ⟨x.toArray⟩ w2 (HE.out.keep K2.out) (HM.out.keep K2.out) (by omega)).mono ?_
     rintro e w3 ⟨cs,rfl,hgood,hbad,k3⟩
     have hxd:(⟨x.toArray⟩:ByteArray).data.toList=x:=by simp
     rw [hxd] at hgood hbad ⊢
     have K3:=hid (K2.out.trans k3)
     have V3:=hid (V2.out.keep k3 V2.out.facts.2.2)
     have ROW3:=hid (ROW2.out.keep k3)
     have hs23:w2.heap.size<=w3.heap.size:=k3.size
     have hsr2:wr.heap.size<=w2.heap.size:=K2'.out.size
     have V2L:Hid (w.heap.size+1<=w2.heap.size):=V2.out.facts.2.2
     clear k3 V2 ROW2
     generalize hle:dU x=le at HST hgood hbad ⊢
     by_cases hz:le=0
     ·subst hz
      have HS2:Hid (gH (s.data.toList.length+1) s.data.toList 0 []=gH mk r (acc.length+1) (acc ++ [iA x])):=by show _=_;rw [HST.out];simp
      have hpk:=hgood rfl
      have HPK:=hid hpk
      obtain ⟨kk,a,fl,nt,kids,kp,fp,kc,fc,-,-,rfl,-,-⟩:=hpk.spelt
      generalize iA x=pk at HS2 HPK
      clear hpk hgood hbad HST hle
      rcases pk with ⟨n,v,sl,fs,nd⟩
      go_upto_region 10 with fail
      refine bI (fun W'=>aC w.heap.size 24 tv W'/\aA w W'/\aA w3 W'/\eO w3.heap.size #[.string n,.int .i64 v,.int .i64 sl,.slice fp fs.length fc,.int .i64 kk,.string a.n,.int .i64 a.op,.int .i64 a.v,.int .i64 a.sl,.string a.f,.bool a.on,.string fl,.bool nt,.slice kp kids.length kc] W'/\bV (w.heap.size+1) tv acc W') ⟨V3.out.keep (aA.alloc _ _) V3.out.facts.2.2,K3.out.alloc' _,aA.alloc _ _,eO.new _ _,ROW3.out.keep (aA.alloc _ _)⟩ ?_
      rintro W4 ⟨v4,k4,k34,b4,row4⟩
      have V4:=hid v4
      have K4:=hid k4
      have ROW4:=hid row4
      have HOWN:=hid HROW.out.own
      have P4:Hid (bZ (fun b=>w2.heap.size<=b/\b<W4.heap.size) W4 ⟨n,v,sl,fs,nd⟩ [.string n,.int .i64 v,.int .i64 sl,.slice fp fs.length fc,.int .i64 kk,.string a.n,.int .i64 a.op,.int .i64 a.v,.int .i64 a.sl,.string a.f,.bool a.on,.string fl,.bool nt,.slice kp kids.length kc]):=bZ.mono (fun p hp=>k34.cell (p:=p) hp.2) (fun b hb=>⟨hb.1,Nat.lt_of_lt_of_le hb.2 k34.size⟩) HPK.out
      obtain ⟨hc4,hz4,hl4⟩:=v4.facts
      obtain ⟨hcb,hzb,hlb⟩:=b4.facts
      obtain ⟨csl,c1,c2,c3,c4⟩:=row4
      have HC3:=hid c3
      have HC4:=hid c4
      have hlw2:w.heap.size+1<=w2.heap.size:=V2L.out
      clear v4 k4 k34 b4 c3 c4 HPK V3 K3 ROW3
      go_wp2_with (at_builtin;refine wpList_append_own_at _ rfl _ _ 22 rfl (w.heap.size+1) 75 i0 (.agg #[.string ⟨#[]⟩,.int .i64 0,.int .i64 0,.slice none 0 0,.int .i64 0,.string ⟨#[]⟩,.int .i64 0,.int .i64 0,.int .i64 0,.string ⟨#[]⟩,.bool false,.string ⟨#[]⟩,.bool false,.slice none 0 0]) 14 176 Tryz.underlying22 hi hz0 hz1 hz2 rfl (by decide) tv acc.length csl.flatten rfl (HC3.out.alloc _) ⟨W4.heap.size,0,none⟩ 1 1 [.string n,.int .i64 v,.int .i64 sl,.slice fp fs.length fc,.int .i64 kk,.string a.n,.int .i64 a.op,.int .i64 a.v,.int .i64 a.sl,.string a.f,.bool a.on,.string fl,.bool nt,.slice kp kids.length kc] rfl rfl dX (by intro u hu;simp at hu;rcases hu with rfl | rfl | rfl | rfl | rfl | rfl | rfl | rfl | rfl | rfl | rfl | rfl | rfl | rfl<;>rfl) (by unfold maxLen;omega) (by omega) (by have:=aE W4 (.cells #[.string n,.int .i64 v,.int .i64 sl,.slice fp fs.length fc,.int .i64 kk,.string a.n,.int .i64 a.op,.int .i64 a.v,.int .i64 a.sl,.string a.f,.bool a.on,.string fl,.bool nt,.slice kp kids.length kc] 75);omega) ?_)
      intro v5 w5 h1 h2 _ h4
      obtain ⟨g5,cap5,rfl⟩:=cV h1 (Nat.succ_pos _)
      have hne5:tv.ownBlock≠some w.heap.size:=fun e=>by have:=HOWN.out _ e;omega
      have V5:=hid (V4.out.grown h2 hne5)
      have row5:=hid (bV.push (B':=w2.heap.size) c1 c2 HC4.out (by omega) (fun g' hg'=>by have:=(HOWN.out g' hg').2;omega) P4.out rfl (by simpa using h1) h2 (by rw [aE];exact h4))
      have L5:Below (w.heap.size+1) W4 w5:=((Below.refl _ W4).alloc (by omega) _).grown h2 (by have:=aE W4 (.cells #[.string n,.int .i64 v,.int .i64 sl,.slice fp fs.length fc,.int .i64 kk,.string a.n,.int .i64 a.op,.int .i64 a.v,.int .i64 a.sl,.string a.f,.bool a.on,.string fl,.bool nt,.slice kp kids.length kc] 75);omega) (fun g' hg'=>(HOWN.out g' hg').1)
      have K5:Hid (aA w w5):=Below.trans K4.out (L5.mono (by omega))
      obtain ⟨hc5,hz5,hl5⟩:=V5.out.facts
      clear h1 h2 h4 L5 hc4 hz4 hcb hzb hne5 HC3 HC4
      have V6:=hid (V5.out.set (.slice (some ⟨g5,0,none⟩) (acc.length+1) cap5))
      have K6:Hid (aA w (w5.setCell ⟨w.heap.size,0,none⟩ (.slice (some ⟨g5,0,none⟩) (acc.length+1) cap5))):=Below.trans K5.out (aL _ _ _ _)
      have ROW6:=hid (row5.out.other (w':=w5.setCell ⟨w.heap.size,0,none⟩ (.slice (some ⟨g5,0,none⟩) (acc.length+1) cap5)) (by rw [bS];exact Nat.le_refl _) (fun b hb _=>aW w5 w.heap.size 0 _ b (by omega)))
      have hrs:(⟨r.toArray⟩:ByteArray).size=r.length:=by rw [← aM]
      go_wp2_with fail
      go_roundg mk
      case measure=>omega
      case rel=>exact ⟨⟨r.toArray⟩,(acc ++ [(⟨n,v,sl,fs,nd⟩:PK)]).length,acc ++ [⟨n,v,sl,fs,nd⟩],_,rfl,by rw [List.length_append];go_num,by rw [List.length_append];exact HS2.out,by omega,by rw [List.length_append];simp;omega,rfl,V6.out,ROW6.out,K6.out⟩
     ·have HX:Hid (rdT s.data.toList=(le,acc.length,[])):=vI hlong' hz (by rw [HST.out];simp [hz])
      have hz1':(le==0)=false:=by simp [hz]
      have hz2':(le != 0)=true:=by simp [hz]
      obtain rfl:=hbad hz
      clear hz hgood hbad HST hle
      unfold pT
      go_upto_region 9 with fail
      refine bI (fun W'=>aC w.heap.size 24 tv W'/\aA w W') ⟨V3.out.keep (aA.alloc _ _) V3.out.facts.2.2,K3.out.alloc' _⟩ ?_
      rintro W4 ⟨v4,k4⟩
      have V4:=hid v4
      have K4:=hid k4
      obtain ⟨hc4,hz4,hl4⟩:=v4.facts
      clear v4 k4
      go_wp2_with fail
      refine eG (v:= .tuple #[.agg #[.slice none 0 0],.int .i64 acc.length,.int .i64 le]) (fun W'=>aC w.heap.size 24 (.slice none 0 0) W'/\aA w W') ⟨V4.out.set _,Below.trans K4.out (aL _ _ _ _)⟩ rfl ?_
      rintro W ⟨hb,hk⟩
      obtain ⟨hcW,-,-⟩:=hb.facts
      refine ⟨by simp [results,Tryz.results130,go_sem,hcW],.slice none 0 0,by rw [HX.out],fun _=>rfl,by rw [HX.out];exact Or.inl ⟨rfl,none,0,rfl⟩,hk,gC⟩
end Go.Proofs.YtonlloiemgdfkaaGreatDoor
namespace Go.Proofs.YtonlloiemgdfkaaGreatDoor
open Go.RowKit
def aQ (b:Nat) (T:TypeId) (cs:Array Value) (w:World):Prop:=w.heap[b]? = some (.cells cs T (0,0))
theorem aQ.facts {b:Nat} {T:TypeId} {cs:Array Value} {w:World} (h:aQ b T cs w):(∀ o,w.cell? ⟨b,o,none⟩=cs[o]?)/\(∀ o,w.frozen? ⟨b,o,none⟩=false)/\b<w.heap.size:=by
 unfold aQ at h
 refine ⟨fun o=>by simp [World.cell?,h],fun o=>by simp [World.frozen?,h],(Array.getElem?_eq_some_iff.1 h).1⟩
theorem aQ.new (w:World) (T:TypeId) (cs:Array Value):aQ w.heap.size T cs (w.alloc (.cells cs T)):=by
 show (w.heap.push _)[w.heap.size]? = _
 rw [Array.getElem?_push,if_pos rfl]
theorem aQ.keep {b B:Nat} {T:TypeId} {cs:Array Value} {w w':World} (h:aQ b T cs w) (k:Below B w w') (hB:b<B):aQ b T cs w':=by
 unfold aQ at *;rw [k.block b hB];exact h
theorem aQ.set {b:Nat} {T:TypeId} {cs:Array Value} {w:World} (h:aQ b T cs w) (o:Nat) (x:Value):aQ b T (cs.setIfInBounds o x) (w.setCell ⟨b,o,none⟩ x):=by
 have:=aB h o x
 unfold aQ
 rw [this]
theorem aQ.apart {b c:Nat} {T:TypeId} {cs:Array Value} {w w':World} (h:aQ b T cs w) (ha:aP (One c) w w') (hb:b≠c):aQ b T cs w':=by
 have hl:=h.facts.2.2
 unfold aQ at *;rw [ha.block b hl (fun e=>hb e)];exact h
theorem aC.apart {b c:Nat} {T:TypeId} {v:Value} {w w':World} (h:aC b T v w) (ha:aP (One c) w w') (hb:b≠c):aC b T v w':=by
 have hl:=h.facts.2.2
 unfold aC at *;rw [ha.block b hl (fun e=>hb e)];exact h
theorem iE (c o:Nat) (w:World) (x:Value):aP (One c) w (w.setCell ⟨c,o,none⟩ x):=by
 have k:Below c w (w.setCell ⟨c,o,none⟩ x):=aL w c o x
 refine ⟨k.os,k.tape,k.output,k.size,fun b _ ho=> ?_,fun _ _ h=>h⟩
 exact Below.heap_setCell _ _ _ _ (fun e=>ho e)
end Go.Proofs.YtonlloiemgdfkaaGreatDoor
