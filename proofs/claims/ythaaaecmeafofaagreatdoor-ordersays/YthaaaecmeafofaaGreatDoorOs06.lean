/- Steps of the proof: NeedRead, NeedGroup. -/
import Derived.Test.YthaaaecmeafofaaGreatDoorOs05
import Derived.Deep.LoopGhost
set_option maxHeartbeats 16000000
set_option maxRecDepth 100000
namespace Go.Proofs.YthaaaecmeafofaaGreatDoor
open Go.RowKit
def qY (rb:Nat) (ws:List ByteArray) (w:World):Prop:=
 ∃ (p:Option Addr) (cap:Nat),aB rb 265 (.slice p ws.length cap) w/\ws.length<=cap/\cap<=1000000/\(ws ≠ []->∃ b o,p=some ⟨b,o,none⟩/\b<rb/\∀ (j:Nat) x,ws[j]? = some x->w.cell? ⟨b,o+j,none⟩=some (.string x))
theorem qY.lt {rb:Nat} {ws:List ByteArray} {w:World} (h:qY rb ws w):rb<w.heap.size:=by
 obtain ⟨p,cap,h1,-⟩:=h;exact h1.facts.2.2
theorem qY.keep {rb:Nat} {ws:List ByteArray} {w w':World} (h:qY rb ws w) (k:aA w w'):qY rb ws w':=by
 obtain ⟨p,cap,h1,h2,h3,h4⟩:=h
 refine ⟨p,cap,h1.keep k h1.facts.2.2,h2,h3,fun hne=> ?_⟩
 obtain ⟨b,o,e1,e2,e4⟩:=h4 hne
 exact ⟨b,o,e1,e2,fun j x hx=>(k.cell (p:=⟨b,o+j,none⟩) (Nat.lt_trans e2 h1.facts.2.2)).trans (e4 j x hx)⟩
theorem yV {rb b o cap:Nat} {x:ByteArray} {ws:List ByteArray} {w:World} {v:Value} (h1:aB rb 265 v w) (h2:ws.length<=cap) (h3:cap<=1000000) (hb:b<rb)
  (hcells : ∀ (j:Nat) y,(x :: ws)[j]? = some y->w.cell? ⟨b,o+j,none⟩=some (.string y)) (q:Addr) (hq:ws ≠ []->q=⟨b,o+1,none⟩) :
  qY rb ws (w.setCell ⟨rb,0,none⟩ (.slice (some q) ws.length cap)):=by
 refine ⟨some q,cap,h1.set _,h2,h3,fun hne'=> ?_⟩
 refine ⟨b,o+1,by rw [hq hne'],hb,fun j y hy=> ?_⟩
 rw [(dT rb w (.slice (some q) ws.length cap)).cell ⟨b,o+1+j,none⟩ (Nat.lt_trans hb h1.facts.2.2) (fun e=>by have:b=rb:=e;omega)]
 have:=hcells (j+1) y (by simpa using hy)
 rw [show o+(j+1)=o+1+j by omega] at this
 exact this
theorem aDj (rb:Nat) (ws:List ByteArray) (w:World) (h:qY rb ws w) :
  Calls Tryz.prog 225 #[.pointer (some ⟨rb,0,none⟩)] w fun e w'=>e=.returned (.string (ws.headD ⟨#[]⟩))/\qY rb ws.tail w'/\aR (One rb) w w':=by
 obtain ⟨p,cap,h1,h2,h3,h4⟩:=h
 obtain ⟨hc,hz,hlt⟩:=h1.facts
 have H1:=hid h1
 clear h1
 cases ws with
 | nil=>
  have HR:Hid (qY rb [] w):=⟨p,cap,H1.out,h2,h3,h4⟩
  clear h4 h2
  go_enter Tryz.func225,Tryz.ntmps225
  go_wp2_with fail
  go_ret
  exact ⟨rfl,HR.out,aR.refl _ _⟩
 | cons x ws=>
  obtain ⟨b,o,rfl,hb,hcells⟩:=h4 (by simp)
  have hne:b≠rb:=Nat.ne_of_lt hb
  have c0:w.cell? ⟨b,o,none⟩=some (.string x):=hcells 0 x rfl
  have HC:Hid (∀ (j:Nat) y,(x :: ws)[j]? = some y->w.cell? ⟨b,o+j,none⟩=some (.string y)):=hcells
  clear h4 hcells
  rw [List.length_cons] at h2 hc H1
  by_cases hcap:cap=1
  ·subst hcap
   obtain rfl:ws = []:=List.length_eq_zero_iff.1 (by omega)
   go_enter Tryz.func225,Tryz.ntmps225
   go_wp2_with fail
   go_ret
   exact ⟨rfl,yV (ws:= []) H1.out (Nat.le_refl _) (by decide) hb HC.out _ (fun h=>absurd rfl h),dT rb w _⟩
  ·have hc1:1<cap:=by omega
   go_enter Tryz.func225,Tryz.ntmps225
   go_wp2_with fail
   go_ret
   exact ⟨rfl,yV H1.out (by omega) (by omega) hb HC.out _ (fun _=>rfl),dT rb w _⟩
def cC (b:Nat) (cs:Array Value) (w:World):Prop:=w.heap[b]? = some (.cells cs 74 (0,0))
theorem cC.facts {b:Nat} {cs:Array Value} {w:World} (h:cC b cs w):(∀ o,w.cell? ⟨b,o,none⟩=cs[o]?)/\(∀ o,w.frozen? ⟨b,o,none⟩=false)/\b<w.heap.size:=by
 unfold cC at h
 refine ⟨fun o=>by simp [World.cell?,h],fun o=>by simp [World.frozen?,h],(Array.getElem?_eq_some_iff.1 h).1⟩
theorem cC.new (w:World) (cs:Array Value):cC w.heap.size cs (w.alloc (.cells cs 74)):=by
 show (w.heap.push _)[w.heap.size]? = _
 rw [Array.getElem?_push,if_pos rfl]
theorem cC.keep {b B:Nat} {cs:Array Value} {w w':World} (h:cC b cs w) (k:Below B w w') (hB:b<B):cC b cs w':=by
 unfold cC at *;rw [k.block b hB];exact h
theorem aEo {α:Type} {cs:Array α} (h:cs.size=10) : ∃ c0 c1 c2 c3 c4 c5 c6 c7 c8 c9,cs=#[c0,c1,c2,c3,c4,c5,c6,c7,c8,c9]:=by
 obtain ⟨l⟩:=cs
 match l,h with
 | [c0,c1,c2,c3,c4,c5,c6,c7,c8,c9],_=>exact ⟨c0,c1,c2,c3,c4,c5,c6,c7,c8,c9,rfl⟩
theorem cC.set {b:Nat} {cs:Array Value} {w:World} (h:cC b cs w) (hs:cs.size=10) (v0 v1 v2 v3 v4 v5 v6 v7 v8 v9:Value) :
  cC b #[v0,v1,v2,v3,v4,v5,v6,v7,v8,v9] ((((((((((w.setCell ⟨b,0,none⟩ v0).setCell ⟨b,1,none⟩ v1).setCell ⟨b,2,none⟩ v2).setCell ⟨b,3,none⟩ v3).setCell ⟨b,4,none⟩ v4).setCell ⟨b,5,none⟩ v5).setCell ⟨b,6,none⟩ v6).setCell ⟨b,7,none⟩ v7).setCell ⟨b,8,none⟩ v8).setCell ⟨b,9,none⟩ v9)/\Below b w ((((((((((w.setCell ⟨b,0,none⟩ v0).setCell ⟨b,1,none⟩ v1).setCell ⟨b,2,none⟩ v2).setCell ⟨b,3,none⟩ v3).setCell ⟨b,4,none⟩ v4).setCell ⟨b,5,none⟩ v5).setCell ⟨b,6,none⟩ v6).setCell ⟨b,7,none⟩ v7).setCell ⟨b,8,none⟩ v8).setCell ⟨b,9,none⟩ v9)/\((((((((((w.setCell ⟨b,0,none⟩ v0).setCell ⟨b,1,none⟩ v1).setCell ⟨b,2,none⟩ v2).setCell ⟨b,3,none⟩ v3).setCell ⟨b,4,none⟩ v4).setCell ⟨b,5,none⟩ v5).setCell ⟨b,6,none⟩ v6).setCell ⟨b,7,none⟩ v7).setCell ⟨b,8,none⟩ v8).setCell ⟨b,9,none⟩ v9).heap.size=w.heap.size/\∀ k,k≠b->((((((((((w.setCell ⟨b,0,none⟩ v0).setCell ⟨b,1,none⟩ v1).setCell ⟨b,2,none⟩ v2).setCell ⟨b,3,none⟩ v3).setCell ⟨b,4,none⟩ v4).setCell ⟨b,5,none⟩ v5).setCell ⟨b,6,none⟩ v6).setCell ⟨b,7,none⟩ v7).setCell ⟨b,8,none⟩ v8).setCell ⟨b,9,none⟩ v9).heap[k]? = w.heap[k]? :=by
 obtain ⟨c0,c1,c2,c3,c4,c5,c6,c7,c8,c9,rfl⟩:=aEo hs
 refine ⟨?_,?_,?_,?_⟩
 ·have h10:=aF (aF (aF (aF (aF (aF (aF (aF (aF (aF h 0 v0) 1 v1) 2 v2) 3 v3) 4 v4) 5 v5) 6 v6) 7 v7) 8 v8) 9 v9
  simp only [List.setIfInBounds_toArray,List.set_cons_zero,List.set_cons_succ] at h10
  exact h10
 ·exact ((((((((((Below.refl b w).setCell (p:=⟨b,0,none⟩) (Nat.le_refl _) v0).setCell (p:=⟨b,1,none⟩) (Nat.le_refl _) v1).setCell (p:=⟨b,2,none⟩) (Nat.le_refl _) v2).setCell (p:=⟨b,3,none⟩) (Nat.le_refl _) v3).setCell (p:=⟨b,4,none⟩) (Nat.le_refl _) v4).setCell (p:=⟨b,5,none⟩) (Nat.le_refl _) v5).setCell (p:=⟨b,6,none⟩) (Nat.le_refl _) v6).setCell (p:=⟨b,7,none⟩) (Nat.le_refl _) v7).setCell (p:=⟨b,8,none⟩) (Nat.le_refl _) v8).setCell (p:=⟨b,9,none⟩) (Nat.le_refl _) v9
 ·simp [World.setCell]
 ·intro k hk
  simp [World.setCell,Array.getElem?_modify,Ne.symm hk]
theorem bC {P:Program} {fn:Func} {R:Ending->World->Prop} {a:Act} {b:Nat} {cs:Array Value} {W:World} {v0 v1 v2 v3 v4 v5 v6 v7 v8 v9:Value} (x:Value) (h:cC b cs W) (hs:cs.size=10) (hd:a.defers = []) (H : ∀ W',Hid (cC b #[v0,v1,v2,v3,v4,v5,v6,v7,v8,v9] W')->Hid (Below b W W')->Hid (W'.heap.size=W.heap.size)->Hid (∀ bb,bb≠b->W'.heap[bb]? = W.heap[bb]?)->(results fn a.tmps).run P W'=.ok (.tuple #[.agg #[v0,v1,v2,v3,v4,v5,v6,v7,v8,v9],x]) W'/\R (.returned (.tuple #[.agg #[v0,v1,v2,v3,v4,v5,v6,v7,v8,v9],x])) W') :
  bodyPost P fn R .ret a ((((((((((W.setCell ⟨b,0,none⟩ v0).setCell ⟨b,1,none⟩ v1).setCell ⟨b,2,none⟩ v2).setCell ⟨b,3,none⟩ v3).setCell ⟨b,4,none⟩ v4).setCell ⟨b,5,none⟩ v5).setCell ⟨b,6,none⟩ v6).setCell ⟨b,7,none⟩ v7).setCell ⟨b,8,none⟩ v8).setCell ⟨b,9,none⟩ v9):=by
 obtain ⟨b1,b2,b3,b4⟩:=h.set hs v0 v1 v2 v3 v4 v5 v6 v7 v8 v9
 have h1:=H _ b1 b2 b3 b4
 exact bodyPost_ret h1.1 hd h1.2
def kJ:Value:= .agg #[.int .i64 0,.string ⟨#[]⟩,.int .i64 0,.int .i64 0,.int .i64 0,.string ⟨#[]⟩,.bool false,.string ⟨#[]⟩,.bool false,.slice none 0 0]
def gH (wd:bH) (w:World) (e:Ending) (w':World):Prop:=
 match eX wd with
 | none=>e=.returned (.tuple #[kJ,.bool false])/\aA w w'
 | some t=> ∃ cs:List Value,e=.returned (.tuple #[.agg cs.toArray,.bool true])/\(∀ S,aE S w' t cs)/\aA w w'
theorem aCx (wd:ByteArray) (w:World) (hE:Env w) :
  Calls Tryz.prog 253 #[.string wd] w fun e w'=>gH wd.data.toList w e w':=by
 have HE:=hid hE
 have r0:Hid (cC w.heap.size #[.int .i64 0,.string ⟨#[]⟩,.int .i64 0,.int .i64 0,.int .i64 0,.string ⟨#[]⟩,.bool false,.string ⟨#[]⟩,.bool false,.slice none 0 0] (w.alloc (.cells #[.int .i64 0,.string ⟨#[]⟩,.int .i64 0,.int .i64 0,.int .i64 0,.string ⟨#[]⟩,.bool false,.string ⟨#[]⟩,.bool false,.slice none 0 0] 74))):=cC.new _ _
 have k0:=hid (aA.alloc w (.cells #[.int .i64 0,.string ⟨#[]⟩,.int .i64 0,.int .i64 0,.int .i64 0,.string ⟨#[]⟩,.bool false,.string ⟨#[]⟩,.bool false,.slice none 0 0] 74))
 have HD:Hid (∀ e w',gH wd.data.toList w e w'=(match eX wd.data.toList with
  | none=>e=.returned (.tuple #[kJ,.bool false])/\aA w w'
  | some t=> ∃ cs:List Value,e=.returned (.tuple #[.agg cs.toArray,.bool true])/\(∀ S,aE S w' t cs)/\aA w w')):=fun _ _=>rfl
 clear hE
 go_enter Tryz.func253,Tryz.ntmps253
 go_wp2_with fail
 generalize w.alloc (.cells #[.int .i64 0,.string ⟨#[]⟩,.int .i64 0,.int .i64 0,.int .i64 0,.string ⟨#[]⟩,.bool false,.string ⟨#[]⟩,.bool false,.slice none 0 0] 74)=W0 at r0 k0 ⊢
 refine (Tryz.strings_CutPrefix _ _ _).mono ?_
 rintro e w0 ⟨rfl,hw0⟩
 rw [hw0]
 clear hw0 w0
 have HQ:Hid (eX wd.data.toList=if iX (Lib.trimPrefix wd.data.toList [33])=0 then some (.node (if Lib.hasPrefix wd.data.toList [33] then 2 else 1) (sU (Lib.trimPrefix wd.data.toList [33])) ⟨#[]⟩ false []) else none):=rfl
 have hrw:(⟨#[33]⟩:ByteArray).data.toList = [33]:=rfl
 rw [hrw]
 clear hrw
 generalize hsx:Lib.trimPrefix wd.data.toList [33]=sx at HQ ⊢
 generalize hpx:Lib.hasPrefix wd.data.toList [33]=px at HQ ⊢
 clear hsx hpx
 go_wp2_with fail
 refine (aAt ⟨sx.toArray⟩ W0 (HE.out.keep k0.out)).mono ?_
 rintro e w1 ⟨n,f,op,v,sl,on,rfl,hp,hq,k1⟩
 have K1:Hid (aA w w1):=k0.out.trans k1
 have R1:Hid (cC w.heap.size #[.int .i64 0,.string ⟨#[]⟩,.int .i64 0,.int .i64 0,.int .i64 0,.string ⟨#[]⟩,.bool false,.string ⟨#[]⟩,.bool false,.slice none 0 0] w1):=r0.out.keep k1 r0.out.facts.2.2
 have hsl:(⟨sx.toArray⟩:ByteArray).data.toList=sx:=by simp
 rw [hsl] at hp hq ⊢
 have KA:=hid (K1.out.alloc' (.cells #[.string n,.int .i64 op,.int .i64 v,.int .i64 sl,.string f,.bool on] 71))
 have RA:Hid (cC w.heap.size #[.int .i64 0,.string ⟨#[]⟩,.int .i64 0,.int .i64 0,.int .i64 0,.string ⟨#[]⟩,.bool false,.string ⟨#[]⟩,.bool false,.slice none 0 0] (w1.alloc (.cells #[.string n,.int .i64 op,.int .i64 v,.int .i64 sl,.string f,.bool on] 71))):=R1.out.keep (aA.alloc _ _) R1.out.facts.2.2
 have hl1:=R1.out.facts.2.2
 have AB:Hid (aP w1.heap.size n op v sl f on (w1.alloc (.cells #[.string n,.int .i64 op,.int .i64 v,.int .i64 sl,.string f,.bool on] 71))):=kU _ _
 go_upto_region 3 with fail
 generalize w1.alloc (.cells #[.string n,.int .i64 op,.int .i64 v,.int .i64 sl,.string f,.bool on] 71)=W1 at KA RA AB ⊢
 obtain ⟨hcR,hzR,hlR⟩:=RA.out.facts
 obtain ⟨hcA,hzA,hlA⟩:=AB.out.facts
 have hne:w.heap.size≠w1.heap.size:=by omega
 clear r0 k0 k1 hsl
 by_cases hz:iX sx=0
 ·have HA:Hid (sU sx=⟨n,op,v,sl,f,on⟩):=by
   show _=_
   obtain ⟨q1,q2,q3,q4,q5,q6⟩:=hp hz
   unfold sU
   rw [← q1,← q2,← q3,← q4,← q5,← q6,cB,cB]
  rw [hz] at HQ ⊢
  clear hp hq hz
  cases px
  ·have HR:Hid (eX wd.data.toList=some (.node 1 ⟨n,op,v,sl,f,on⟩ ⟨#[]⟩ false [])):=by show _=_;rw [HQ.out,if_pos rfl,HA.out];rfl
   clear HQ HA
   go_wp2_with fail
   clear hcR hzR hcA hzA
   refine bC (.bool true) RA.out rfl rfl ?_
   intro W BW KB SW OW
   have KW:Hid (aA w W):=Below.trans KA.out KB.out
   obtain ⟨hcW,_,_⟩:=BW.out.facts
   refine ⟨by simp [results,Tryz.results253,go_sem,hcW],?_⟩
   show gH _ w _ W
   rw [HD.out,HR.out]
   exact ⟨[.int .i64 1,.string n,.int .i64 op,.int .i64 v,.int .i64 sl,.string f,.bool on,.string ⟨#[]⟩,.bool false,.slice none 0 0],rfl,fun S=>by rw [aE];exact ⟨none,0,rfl,Nat.le_refl _,by simp,by rw [aT];trivial⟩,KW.out⟩
  ·have HR:Hid (eX wd.data.toList=some (.node 2 ⟨n,op,v,sl,f,on⟩ ⟨#[]⟩ false [])):=by show _=_;rw [HQ.out,if_pos rfl,HA.out];rfl
   clear HQ HA
   go_wp2_with fail
   clear hcR hzR hcA hzA
   refine bC (.bool true) RA.out rfl rfl ?_
   intro W BW KB SW OW
   have KW:Hid (aA w W):=Below.trans KA.out KB.out
   obtain ⟨hcW,_,_⟩:=BW.out.facts
   refine ⟨by simp [results,Tryz.results253,go_sem,hcW],?_⟩
   show gH _ w _ W
   rw [HD.out,HR.out]
   exact ⟨[.int .i64 2,.string n,.int .i64 op,.int .i64 v,.int .i64 sl,.string f,.bool on,.string ⟨#[]⟩,.bool false,.slice none 0 0],rfl,fun S=>by rw [aE];exact ⟨none,0,rfl,Nat.le_refl _,by simp,by rw [aT];trivial⟩,KW.out⟩
 ·have hz1:(iX sx != 0)=true:=by simpa using hz
  have HR:Hid (eX wd.data.toList=none):=by show _=_;rw [HQ.out,if_neg hz]
  clear hp hq hz HQ
  go_wp2_with fail
  clear hcR hzR hcA hzA
  refine bC (.bool false) RA.out rfl rfl ?_
  intro W BW KB SW OW
  have KW:Hid (aA w W):=Below.trans KA.out KB.out
  obtain ⟨hcW,_,_⟩:=BW.out.facts
  refine ⟨by simp [results,Tryz.results253,go_sem,hcW],?_⟩
  show gH _ w _ W
  rw [HD.out,HR.out]
  exact ⟨rfl,KW.out⟩
end Go.Proofs.YthaaaecmeafofaaGreatDoor
namespace Go.Proofs.YthaaaecmeafofaaGreatDoor
open Go.RowKit
def RdS (rb:Nat) (ws:List ByteArray) (w:World):Prop:=qY rb ws w/\∀ x∈ws,x.size<=20000
theorem RdS.keep {rb:Nat} {ws:List ByteArray} {w w':World} (h:RdS rb ws w) (k:aA w w'):RdS rb ws w':=⟨h.1.keep k,h.2⟩
theorem RdS.len {rb:Nat} {ws:List ByteArray} {w:World} (h:RdS rb ws w):ws.length<=1000000:=by
 obtain ⟨⟨p,cap,-,h2,h3,-⟩,-⟩:=h;omega
theorem RdS.other {rb:Nat} {ws:List ByteArray} {w w':World} (h:RdS rb ws w) (hb : ∀ b,b<=rb->w'.heap[b]? = w.heap[b]?):RdS rb ws w':=by
 obtain ⟨⟨p,cap,h1,h2,h3,h4⟩,h5⟩:=h
 refine ⟨⟨p,cap,?_,h2,h3,fun hne=> ?_⟩,h5⟩
 ·unfold aB at *;rw [hb _ (Nat.le_refl _)];exact h1
 ·obtain ⟨b,o,e1,e2,e4⟩:=h4 hne
  exact ⟨b,o,e1,e2,fun j x hx=>(World.cell?_of_block (w:=w) (a:=⟨b,o+j,none⟩) (hb b (Nat.le_of_lt e2))).trans (e4 j x hx)⟩
theorem kE (rb:Nat) (ws:List ByteArray) (w:World) (h:RdS rb ws w) :
  Calls Tryz.prog 225 #[.pointer (some ⟨rb,0,none⟩)] w fun e w'=>e=.returned (.string (ws.headD ⟨#[]⟩))/\RdS rb ws.tail w'/\(ws.headD ⟨#[]⟩).size<=20000/\aR (One rb) w w':=by
 refine (aDj rb ws w h.1).mono ?_
 rintro e w' ⟨he,hr,ha⟩
 refine ⟨he,⟨hr,fun x hx=>h.2 x (List.mem_of_mem_tail hx)⟩,?_,ha⟩
 cases ws with
 | nil=>decide
 | cons x ws=>exact h.2 x (by simp)
theorem Env.apart {rb:Nat} {w w':World} (h:Env w) (ho:Old rb) (hr:rb<w.heap.size) (ha:aR (One rb) w w'):Env w':=
 h.below (ha.below (Nat.le_of_lt hr) (fun b hb e=>by have:b=rb:=e;omega)) ho
theorem cC.apart {rb b:Nat} {cs:Array Value} {w w':World} (h:cC b cs w) (ha:aR (One rb) w w') (hne:b≠rb):cC b cs w':=by
 have hl:=h.facts.2.2
 unfold cC at *;rw [ha.block b hl hne];exact h
def bE (rb:Nat) (res:Option (NT × List bH)) (w:World) (e:Ending) (w':World):Prop:=
 match res with
 | none=>e=.returned (.tuple #[kJ,.bool false])/\aR (One rb) w w'
 | some r=> ∃ (cs:List Value) (ws:List ByteArray),e=.returned (.tuple #[.agg cs.toArray,.bool true])/\aE (fun b=>w.heap.size<=b/\b<w'.heap.size) w' r.1 cs/\RdS rb ws w'/\ws.map (·.data.toList)=r.2/\aR (One rb) w w'
def gA (g:Nat):Prop:= ∀ (rb:Nat) (wd:ByteArray) (ws:List ByteArray) (d:Int) (w:World),d+g=5->1<=d->Env w->Old rb->RdS rb ws w->wd.size<=20000->
 Calls Tryz.prog 224 #[.pointer (some ⟨rb,0,none⟩),.string wd,.int .i64 d] w fun e w'=>bE rb (aQ g wd.data.toList (ws.map (·.data.toList))) w e w'
theorem vM : ∀ (g:Nat) (ws:List bH),aQ g [] ws=none
 | 0,_=>rfl
 | g+1,ws=>by
  rw [aQ,if_neg (by decide),if_neg (by decide),if_neg (by decide)]
  have:eX []=none:=by decide
  rw [this];rfl
theorem rS (g m:Nat) (acc:List NT) (ws:List ByteArray):dL (aQ g) m acc (ws.map (·.data.toList))=dL (aQ g) m acc ((ws.headD ⟨#[]⟩).data.toList :: ws.tail.map (·.data.toList)):=by
 cases ws with
 | cons x ws=>rfl
 | nil=>
  cases m with
  | zero=>rfl
  | succ m=>
   show none=dL (aQ g) (m+1) acc ([] :: [])
   rw [dL,if_neg (by decide),vM]
theorem aHa {g:Nat} {wd:bH} {ws:List bH} {t:NT} {rest:List bH} (h:aQ g wd ws=some (t,rest)):rest.length<=ws.length:=by
 obtain ⟨h1,-⟩:=yW g wd ws t rest h
 obtain ⟨x,r,e⟩:=sN t
 have:=congrArg List.length h1
 rw [e] at this
 simp at this
 omega
def fR (B:Nat) (v:Value) (acc:List NT) (w:World):Prop:=
 ∃ csl:List (List Value),csl.length=acc.length/\(∀ cs∈csl,cs.length=10)/\w.ownsRow B 74 10 v acc.length csl.flatten/\∀ (i:Nat) t cs,acc[i]? = some t->csl[i]? = some cs->aE (fun b=>B<=b/\b<w.heap.size/\v.ownBlock≠some b) w t cs
theorem fR.nil (B:Nat) (w:World):fR B (.slice none 0 0) [] w:=⟨[],rfl,by simp,World.ownsRow_nil _ _ _ _,by simp⟩
theorem fR.other {B:Nat} {v:Value} {acc:List NT} {w w':World} (h:fR B v acc w) (hs:w.heap.size<=w'.heap.size) (hb : ∀ b,B<=b->b<w.heap.size->w'.heap[b]? = w.heap[b]?):fR B v acc w':=by
 obtain ⟨csl,h1,h2,⟨h3,h3'⟩,h4⟩:=h
 refine ⟨csl,h1,h2,⟨h3,h3'.imp id ?_⟩,fun i t cs hi hc=>aE.mono (fun p hp=>World.cell?_of_block (w:=w) (hb _ hp.1 hp.2.1)) (fun b hb=>⟨hb.1,Nat.lt_of_lt_of_le hb.2.1 hs,hb.2.2⟩) t cs (h4 i t cs hi hc)⟩
 rintro ⟨g,cap,cur,e1,e2,e3,e4⟩
 exact ⟨g,cap,cur,e1,e2,by rw [hb g e2 (Array.getElem?_eq_some_iff.1 e3).1];exact e3,e4⟩
theorem fR.push {B B':Nat} {v v':Value} {acc:List NT} {csl:List (List Value)} {t:NT} {cs:List Value} {w w':World} {o:Obj} (h1:csl.length=acc.length) (h2 : ∀ cs∈csl,cs.length=10)
  (h4 : ∀ (i:Nat) t cs,acc[i]? = some t->csl[i]? = some cs->aE (fun b=>B<=b/\b<w.heap.size/\v.ownBlock≠some b) w t cs)
  (hB:B<=B') (hv : ∀ g,v.ownBlock=some g->g<B') (hn:aE (fun b=>B'<=b/\b<w.heap.size) w t cs) (hc:cs.length=10)
  (h5:w'.ownsRow B 74 10 v' (acc.length+1) (csl.flatten++cs)) (h6:(w.alloc o).grownBy w' v.ownBlock) (h7:v'.ownBlock=v.ownBlock∨v'.ownBlock=some (w.alloc o).heap.size):fR B v' (acc ++ [t]) w':=by
 have e:=aD w o
 have hsz:w.heap.size<=w'.heap.size:=by have:=h6.size;omega
 have hcell : ∀ p:Addr,p.block<w.heap.size->v.ownBlock≠some p.block->w'.cell? p=w.cell? p:=fun p hp hne=>by
  rw [World.cell?_of_block (w:=w.alloc o) (a:=p) (h6.block p.block (by omega) (fun e=>hne e.symm))]
  exact (aA.alloc w o).cell hp
 have hne : ∀ b,b<w.heap.size->v.ownBlock≠some b->v'.ownBlock≠some b:=fun b hb hn=>by
  rcases h7 with h7 | h7
  ·rw [h7];exact hn
  ·rw [h7];intro e;have:=Option.some.inj e;omega
 refine ⟨csl ++ [cs],by simp [h1],fun x hx=> ?_,by simpa using h5,fun i u x hu hx=> ?_⟩
 ·rcases List.mem_append.1 hx with hx | hx
  ·exact h2 x hx
  ·rw [List.mem_singleton.1 hx];exact hc
 ·by_cases hi:i<acc.length
  ·rw [List.getElem?_append_left hi] at hu
   rw [List.getElem?_append_left (by omega)] at hx
   exact aE.mono (fun p hp=>hcell p hp.2.1 hp.2.2) (fun b hb=>⟨hb.1,by omega,hne b hb.2.1 hb.2.2⟩) u x (h4 i u x hu hx)
  ·have hi2:i=acc.length:=by
    have:=(List.getElem?_eq_some_iff.1 hu).1
    simp at this;omega
   subst hi2
   rw [List.getElem?_append_right (Nat.le_refl _),Nat.sub_self] at hu
   rw [← h1,List.getElem?_append_right (Nat.le_refl _),Nat.sub_self] at hx
   cases hu;cases hx
   have hvn : ∀ b,B'<=b->v.ownBlock≠some b:=fun b hb e=>by have:=hv b e;omega
   exact aE.mono (fun p hp=>hcell p hp.2 (hvn _ hp.1)) (fun b hb=>⟨by omega,by omega,hne b hb.2 (hvn b hb.1)⟩) t cs hn
theorem uL {csl:List (List Value)} (h2 : ∀ cs∈csl,cs.length=10) : ∀ (i:Nat) (cs:List Value),csl[i]? = some cs->∀ (m:Nat) (v:Value),cs[m]? = some v->csl.flatten[i*10+m]? = some v:=by
 induction csl with
 | nil=>intro i cs h;simp at h
 | cons c r ih=>
  intro i cs h m v hv
  have hc:c.length=10:=h2 c (by simp)
  cases i with
  | zero=>
   simp at h;subst h
   have hm:m<c.length:=(List.getElem?_eq_some_iff.1 hv).1
   rw [List.flatten_cons,Nat.zero_mul,Nat.zero_add,List.getElem?_append_left hm];exact hv
  | succ i=>
   rw [List.flatten_cons,List.getElem?_append_right (by omega),show (i+1)*10+m-c.length=i*10+m by omega]
   exact ih (fun x hx=>h2 x (by simp [hx])) i cs (by simpa using h) m v hv
theorem fR.final {B:Nat} {v:Value} {acc:List NT} {w:World} (h:fR B v acc w) : ∃ kp cap,v=.slice kp acc.length cap/\acc.length<=cap/\acc.length<=9223372036854775807/\aT (fun b=>B<=b/\b<w.heap.size) w acc kp 0:=by
 obtain ⟨csl,h1,h2,⟨h3,⟨rfl,h0⟩ | ⟨g,cap,cur,rfl,e2,e3,e4,e5,e6,e7⟩⟩,h4⟩:=h
 ·obtain rfl:=List.length_eq_zero_iff.1 h0
  exact ⟨none,0,rfl,Nat.le_refl _,by simp,by rw [aT];trivial⟩
 ·refine ⟨some ⟨g,0,none⟩,cap,rfl,e4,by unfold maxLen at e5;omega,?_⟩
  have hg:=(Array.getElem?_eq_some_iff.1 e3).1
  have key : ∀ (ts:List NT) (i:Nat),ts=acc.drop i->i+ts.length=acc.length->aT (fun b=>B<=b/\b<w.heap.size) w ts (some ⟨g,0,none⟩) i:=by
   intro ts
   induction ts with
   | nil=>intro i _ _;rw [aT];trivial
   | cons t ts ih=>
    intro i he hl
    rw [List.length_cons] at hl
    have hi:i<acc.length:=by omega
    rw [List.drop_eq_getElem_cons hi] at he
    injection he with he1 he2
    rw [aT]
    refine ⟨⟨⟨g,0,none⟩,csl[i],rfl,⟨e2,hg⟩,fun m u hu=> ?_,?_⟩,ih (i+1) he2 (by omega)⟩
    ·have hlen:csl[i].length=10:=h2 _ (List.getElem_mem _)
     have hm:m<10:=by rw [← hlen];exact (List.getElem?_eq_some_iff.1 hu).1
     have hf:=uL h2 i csl[i] (List.getElem?_eq_getElem (by omega)) m u hu
     have ha:((⟨g,0,none⟩:Addr).add (i*10)).add m=⟨g,i*10+m,none⟩:=by
      rw [Addr.add_mid,Addr.add_mid,Nat.zero_add]
     rw [ha]
     rw [← e7,List.getElem?_take,if_pos (by omega)] at hf
     simp only [World.cell?,e3]
     simpa using hf
    ·rw [he1]
     exact aE.mono (fun _ _=>rfl) (fun b hb=>⟨hb.1,hb.2.1⟩) _ _ (h4 i _ _ (List.getElem?_eq_getElem hi) (List.getElem?_eq_getElem (by omega)))
  exact key acc 0 (by simp) (by simp)
theorem bK {rb B:Nat} {w wr W:World} (ha:aR (One rb) w wr) (hk:Below B wr W) (hB:w.heap.size<=B):aR (One rb) w W:=
 ⟨hk.os.trans ha.os,hk.tape.trans ha.tape,hk.output.trans ha.output,Nat.le_trans ha.size hk.size,fun b hb ho=>(hk.block b (by omega)).trans (ha.block b hb ho),fun _ _ h=>h⟩
theorem eA {w:World} {cs:List Value} {T:TypeId} (j:Nat) (u:Value) (h:cs[j]? = some u):(w.alloc (.cells cs.toArray T)).cell? ((⟨w.heap.size,0,none⟩:Addr).add j)=some u:=by
 rw [Addr.add_mid,Nat.zero_add]
 have:(w.alloc (.cells cs.toArray T)).heap[w.heap.size]? = some (.cells cs.toArray T (0,0)):=by
  show (w.heap.push _)[w.heap.size]? = _
  rw [Array.getElem?_push,if_pos rfl]
 simp only [World.cell?,this]
 simpa using h
theorem cC.grown {b:Nat} {cs:Array Value} {w w':World} {o:Obj} {row:Option Nat} (h:cC b cs w) (hg:(w.alloc o).grownBy w' row) (hne:row≠some b):cC b cs w':=by
 have h1:=h.keep (aA.alloc w o) h.facts.2.2
 have hl:=h1.facts.2.2
 unfold cC at *;rw [hg.block b hl (fun e=>hne e.symm)];exact h1
theorem cC.set9 {b:Nat} {v0 v1 v2 v3 v4 v5 v6 v7 v8 v9:Value} {w:World} (h:cC b #[v0,v1,v2,v3,v4,v5,v6,v7,v8,v9] w) (x:Value):cC b #[v0,v1,v2,v3,v4,v5,v6,v7,v8,x] (w.setCell ⟨b,9,none⟩ x):=by
 have h10:=aF h 9 x
 simp only [List.setIfInBounds_toArray,List.set_cons_zero,List.set_cons_succ] at h10
 exact h10
theorem bG (w:World) (b i:Nat) (x:Value) : ∀ k,k≠b->(w.setCell ⟨b,i,none⟩ x).heap[k]? = w.heap[k]? :=fun k hk=>by
 simp [World.setCell,Array.getElem?_modify,Ne.symm hk]
theorem cO (w:World) (b i:Nat) (x:Value):(w.setCell ⟨b,i,none⟩ x).heap.size=w.heap.size:=by simp [World.setCell]
theorem aCt:(Tryz.prog.info? 74).map (fun i=>(i.zero,i.size,i.bytes))=some (some (.agg #[.int .i64 0,.string ⟨#[]⟩,.int .i64 0,.int .i64 0,.int .i64 0,.string ⟨#[]⟩,.bool false,.string ⟨#[]⟩,.bool false,.slice none 0 0]),10,120):=by kernel_rfl
end Go.Proofs.YthaaaecmeafofaaGreatDoor
namespace Go.Proofs.YthaaaecmeafofaaGreatDoor
open Go.RowKit
theorem iY (wd:ByteArray) (l:List UInt8):(wd.data.toList=l/\(wd.toList==l)=true/\(wd.toList != l)=false)∨(wd.data.toList≠l/\(wd.toList==l)=false/\(wd.toList != l)=true):=by
 rw [Lib.toList_data]
 by_cases h:wd.data.toList=l
 ·exact Or.inl ⟨h,by simp [h],by simp [h]⟩
 ·exact Or.inr ⟨h,by simp [h],by simp [h]⟩
theorem cN {B e sz n:Nat} {v:Value} {xs:List Value} {w:World} (h:w.ownsRow B e sz v n xs) (hn:0<n) : ∃ g cap,v=.slice (some ⟨g,0,none⟩) n cap:=by
 obtain ⟨-,⟨-,h0⟩ | ⟨g,cap,cur,e1,-⟩⟩:=h
 ·omega
 ·exact ⟨g,cap,e1⟩
theorem dG {rb:Nat} (w:World) (o:Obj):aR (One rb) w (w.alloc o):=bQ (aA.alloc w o)
theorem pU (g:Nat) (H:gA g) (rb:Nat) (k:Int) (n f:ByteArray) (op v sl:Int) (on:Bool) (fl:ByteArray) (nt:Bool) (ws:List ByteArray) (d:Int) (w:World) (hd:d+g=4) (hd1:1<=d) (hE:Env w) (hO:Old rb) (hr:RdS rb ws w) :
  Calls Tryz.prog 252 #[.pointer (some ⟨rb,0,none⟩),.agg #[.int .i64 k,.string n,.int .i64 op,.int .i64 v,.int .i64 sl,.string f,.bool on,.string fl,.bool nt,.slice none 0 0],.int .i64 d] w
   fun e w'=>bE rb (dB (aQ g) (.node k ⟨n,op,v,sl,f,on⟩ fl nt) (ws.map (·.data.toList))) w e w':=by
 obtain ⟨i0,hi,hz0,hz1,hz2⟩:=info_parts aCt
 have hlr:=hr.1.lt
 have hwl:=hr.len
 have HE:=hid hE
 have HO:=hid hO
 have HH:=hid H
 have HR0:=hid (hr.keep (aA.alloc w (.cells #[.int .i64 k,.string n,.int .i64 op,.int .i64 v,.int .i64 sl,.string f,.bool on,.string fl,.bool nt,.slice none 0 0] 74)))
 have e0:=aD w (.cells #[.int .i64 k,.string n,.int .i64 op,.int .i64 v,.int .i64 sl,.string f,.bool on,.string fl,.bool nt,.slice none 0 0] 74)
 have b0:=cC.new w #[.int .i64 k,.string n,.int .i64 op,.int .i64 v,.int .i64 sl,.string f,.bool on,.string fl,.bool nt,.slice none 0 0]
 have r0:=cC.new (w.alloc (.cells #[.int .i64 k,.string n,.int .i64 op,.int .i64 v,.int .i64 sl,.string f,.bool on,.string fl,.bool nt,.slice none 0 0] 74)) #[.int .i64 0,.string ⟨#[]⟩,.int .i64 0,.int .i64 0,.int .i64 0,.string ⟨#[]⟩,.bool false,.string ⟨#[]⟩,.bool false,.slice none 0 0]
 rw [e0] at r0
 have B1:=hid (b0.keep (aA.alloc (w.alloc (.cells #[.int .i64 k,.string n,.int .i64 op,.int .i64 v,.int .i64 sl,.string f,.bool on,.string fl,.bool nt,.slice none 0 0] 74)) (.cells #[.int .i64 0,.string ⟨#[]⟩,.int .i64 0,.int .i64 0,.int .i64 0,.string ⟨#[]⟩,.bool false,.string ⟨#[]⟩,.bool false,.slice none 0 0] 74)) b0.facts.2.2)
 have R1:=hid r0
 have A1:Hid (aR (One rb) w ((w.alloc (.cells #[.int .i64 k,.string n,.int .i64 op,.int .i64 v,.int .i64 sl,.string f,.bool on,.string fl,.bool nt,.slice none 0 0] 74)).alloc (.cells #[.int .i64 0,.string ⟨#[]⟩,.int .i64 0,.int .i64 0,.int .i64 0,.string ⟨#[]⟩,.bool false,.string ⟨#[]⟩,.bool false,.slice none 0 0] 74))):=(dG _ _).trans (dG _ _)
 have HR1:=hid (HR0.out.keep (aA.alloc _ (.cells #[.int .i64 0,.string ⟨#[]⟩,.int .i64 0,.int .i64 0,.int .i64 0,.string ⟨#[]⟩,.bool false,.string ⟨#[]⟩,.bool false,.slice none 0 0] 74)))
 have hs1:((w.alloc (.cells #[.int .i64 k,.string n,.int .i64 op,.int .i64 v,.int .i64 sl,.string f,.bool on,.string fl,.bool nt,.slice none 0 0] 74)).alloc (.cells #[.int .i64 0,.string ⟨#[]⟩,.int .i64 0,.int .i64 0,.int .i64 0,.string ⟨#[]⟩,.bool false,.string ⟨#[]⟩,.bool false,.slice none 0 0] 74)).heap.size=w.heap.size+2:=by rw [aD,aD]
 have HS1:=hid hs1
 clear hE hO H HR0 e0 b0 r0 hs1 hr
 go_enter Tryz.func252,Tryz.ntmps252
 go_wp2_with fail
 generalize (w.alloc (.cells #[.int .i64 k,.string n,.int .i64 op,.int .i64 v,.int .i64 sl,.string f,.bool on,.string fl,.bool nt,.slice none 0 0] 74)).alloc (.cells #[.int .i64 0,.string ⟨#[]⟩,.int .i64 0,.int .i64 0,.int .i64 0,.string ⟨#[]⟩,.bool false,.string ⟨#[]⟩,.bool false,.slice none 0 0] 74)=W1 at B1 R1 A1 HR1 HS1 ⊢
 refine (kE rb ws W1 HR1.out).mono ?_
 rintro e w2 ⟨rfl,hr2,hl2,ha2⟩
 have B2:Hid (cC w.heap.size #[.int .i64 k,.string n,.int .i64 op,.int .i64 v,.int .i64 sl,.string f,.bool on,.string fl,.bool nt,.slice none 0 0] w2):=B1.out.apart ha2 (by omega)
 have R2:Hid (cC (w.heap.size+1) #[.int .i64 0,.string ⟨#[]⟩,.int .i64 0,.int .i64 0,.int .i64 0,.string ⟨#[]⟩,.bool false,.string ⟨#[]⟩,.bool false,.slice none 0 0] w2):=R1.out.apart ha2 (by omega)
 have A2:Hid (aR (One rb) w w2):=A1.out.trans ha2
 have HX2:=hid (rS g (ws.length+1) [] ws)
 have HG2:Hid (((ws.headD ⟨#[]⟩).data.toList = []/\1<=ws.length+1)∨ws.tail.length+2<=ws.length+1):=by
  cases ws with
  | nil=>exact Or.inl ⟨rfl,by simp⟩
  | cons x ws=>exact Or.inr (by simp)
 have HR2:=hid hr2
 generalize ws.headD ⟨#[]⟩=x0 at hl2 HX2 HG2 ⊢
 generalize ws.tail=tl at HR2 HX2 HG2
 have HL2:=hid hl2
 clear B1 R1 A1 HR1 HS1 hr2 hl2 ha2
 go_wp2_with fail
 go_loopg [8] (ws.length+1) (fun gk word wr=> ∃ (acc:List NT) (wd:ByteArray) (ws':List ByteArray) (kv:Value),word=.string wd/\RdS rb ws' wr/\cC w.heap.size #[.int .i64 k,.string n,.int .i64 op,.int .i64 v,.int .i64 sl,.string f,.bool on,.string fl,.bool nt,kv] wr/\cC (w.heap.size+1) #[.int .i64 0,.string ⟨#[]⟩,.int .i64 0,.int .i64 0,.int .i64 0,.string ⟨#[]⟩,.bool false,.string ⟨#[]⟩,.bool false,.slice none 0 0] wr/\fR (w.heap.size+2) kv acc wr/\dL (aQ g) (ws.length+1) [] (ws.map (·.data.toList))=dL (aQ g) gk acc (wd.data.toList :: ws'.map (·.data.toList))/\((wd.data.toList = []/\1<=gk)∨ws'.length+2<=gk)/\acc.length+gk<=ws.length+1/\wd.size<=20000/\aR (One rb) w wr)
 case atStart=>
  exact ⟨[],_,tl,_,rfl,HR2.out,B2.out,R2.out,fR.nil _ _,HX2.out,HG2.out,by simp,HL2.out,A2.out⟩
 case round=>
  obtain ⟨acc,wd,ws',kv,rfl,hr',hb',hres',hrow,heq,hgk,hacc,hwd,ha'⟩:=hrel
  have HEQ:=hid heq
  have HGK:=hid hgk
  have HROW:=hid hrow
  have HB:=hid hb'
  have HRS:=hid hres'
  have HR:=hid hr'
  have HA:=hid ha'
  have hlw:=hr'.1.lt
  have hsw:w.heap.size+2<=wr.heap.size:=by have:=hres'.facts.2.2;omega
  obtain ⟨hcb,hzb,-⟩:=hb'.facts
  obtain ⟨hcr,hzr,-⟩:=hres'.facts
  clear heq hgk hrow hb' hres' hr' ha' B2 R2 A2 HR2 HL2 HX2 HG2
  obtain ⟨mk,rfl⟩ : ∃ m,gk=m+1:=⟨gk-1,by rcases HGK.out with h | h<;>omega⟩
  rcases iY wd [41] with ⟨hw1,hw2,hw3⟩ | ⟨hw1,hw2,hw3⟩
  ·have HRES:Hid (dB (aQ g) (.node k ⟨n,op,v,sl,f,on⟩ fl nt) (ws.map (·.data.toList))=some (.node k ⟨n,op,v,sl,f,on⟩ fl nt acc,ws'.map (·.data.toList))):=by
    show _=_
    unfold dB
    rw [List.length_map,HEQ.out,dL,if_pos hw1];rfl
   obtain ⟨kp,kc,rfl,hkc,hkm,hkids⟩:=HROW.out.final
   have HKI:=hid hkids
   clear hw1 hkids
   go_wp2_with fail
   clear hcb hzb hcr hzr
   refine bC (.bool true) HRS.out rfl rfl ?_
   intro W BW KW SW OW
   obtain ⟨hcW,_,_⟩:=BW.out.facts
   refine ⟨by simp [results,Tryz.results252,go_sem,hcW],?_⟩
   show bE _ _ w _ W
   rw [HRES.out]
   have hcell : ∀ p:Addr,w.heap.size+2<=p.block/\p.block<wr.heap.size->W.cell? p=wr.cell? p:=fun p hp=>World.cell?_of_block (w:=wr) (OW.out _ (by omega))
   refine ⟨[.int .i64 k,.string n,.int .i64 op,.int .i64 v,.int .i64 sl,.string f,.bool on,.string fl,.bool nt,.slice kp acc.length kc],ws',rfl,?_,HR.out.other (fun b hb=>OW.out b (by omega)),rfl,bK HA.out KW.out (by omega)⟩
   rw [aE]
   refine ⟨kp,kc,rfl,hkc,hkm,?_⟩
   exact aT.mono (fun p hp=>hcell p hp) (fun b hb=>⟨by omega,by rw [SW.out];exact hb.2⟩) acc kp 0 HKI.out
  ·have hE:=HE.out.apart HO.out hlr HA.out
   have hrb:rb<w.heap.size:=hlr
   have hcall:=HH.out rb wd ws' (d+1) wr (by omega) (by omega) hE HO.out HR.out hwd
   have HCALL:=hid hcall
   have HW1:Hid (wd.data.toList ≠ [41]):=hw1
   clear hcall hE hw1 hcb hzb hcr hzr
   go_wp2_with fail
   refine HCALL.out.mono ?_
   rintro e w3 hdone
   cases hq:aQ g wd.data.toList (ws'.map (·.data.toList)) with
   | none=>
    rw [hq] at hdone
    obtain ⟨rfl,ha3⟩:=hdone
    have HRES:Hid (dB (aQ g) (.node k ⟨n,op,v,sl,f,on⟩ fl nt) (ws.map (·.data.toList))=none):=by
     show _=_
     unfold dB
     rw [List.length_map,HEQ.out,dL,if_neg HW1.out,hq];rfl
    have R3:=hid ((HRS.out.apart ha3 (by omega)).keep (aA.alloc w3 (.cells #[.int .i64 0,.string ⟨#[]⟩,.int .i64 0,.int .i64 0,.int .i64 0,.string ⟨#[]⟩,.bool false,.string ⟨#[]⟩,.bool false,.slice none 0 0] 74)) (HRS.out.apart ha3 (by omega)).facts.2.2)
    have A3:Hid (aR (One rb) w (w3.alloc (.cells #[.int .i64 0,.string ⟨#[]⟩,.int .i64 0,.int .i64 0,.int .i64 0,.string ⟨#[]⟩,.bool false,.string ⟨#[]⟩,.bool false,.slice none 0 0] 74))):=(HA.out.trans ha3).trans (dG _ _)
    unfold kJ
    clear ha3 HCALL hq
    go_upto_region 5 with fail
    generalize w3.alloc (.cells #[.int .i64 0,.string ⟨#[]⟩,.int .i64 0,.int .i64 0,.int .i64 0,.string ⟨#[]⟩,.bool false,.string ⟨#[]⟩,.bool false,.slice none 0 0] 74)=W4 at R3 A3 ⊢
    obtain ⟨hcr,hzr,hlr3⟩:=R3.out.facts
    go_wp2_with fail
    clear hcr hzr
    refine bC (.bool false) R3.out rfl rfl ?_
    intro W BW KW SW OW
    obtain ⟨hcW,_,_⟩:=BW.out.facts
    refine ⟨by simp [results,Tryz.results252,go_sem,hcW],?_⟩
    show bE _ _ w _ W
    rw [HRES.out]
    exact ⟨rfl,bK A3.out KW.out (by omega)⟩
   | some r=>
    obtain ⟨t,rs⟩:=r
    rw [hq] at hdone
    obtain ⟨cs,ws3,rfl,hn3,hr3,hm3,ha3⟩:=hdone
    have hrl:=aHa hq
    have HQ:=hid hq
    have HM3:Hid (ws3.map (·.data.toList)=rs):=hm3
    have hl3:ws3.length<=ws'.length:=by
     have:=congrArg List.length HM3.out
     rw [List.length_map] at this hrl
     omega
    have HN3:=hid hn3
    cases t with
    | node k' a' fl' nt' kids'=>
    rw [aE] at hn3
    obtain ⟨kp',kc',rfl,-,-,-⟩:=hn3
    have B3:=HB.out.apart ha3 (by omega)
    have R3:=HRS.out.apart ha3 (by omega)
    have hs3:wr.heap.size<=w3.heap.size:=ha3.size
    have row3:=HROW.out.other hs3 (fun b hb hlt=>ha3.block b hlt (fun e=>by have:b=rb:=e;omega))
    have K4:=hid (aA.alloc w3 (.cells #[.int .i64 k',.string a'.n,.int .i64 a'.op,.int .i64 a'.v,.int .i64 a'.sl,.string a'.f,.bool a'.on,.string fl',.bool nt',.slice kp' kids'.length kc'] 74))
    have C4:Hid (cC w3.heap.size #[.int .i64 k',.string a'.n,.int .i64 a'.op,.int .i64 a'.v,.int .i64 a'.sl,.string a'.f,.bool a'.on,.string fl',.bool nt',.slice kp' kids'.length kc'] (w3.alloc (.cells #[.int .i64 k',.string a'.n,.int .i64 a'.op,.int .i64 a'.v,.int .i64 a'.sl,.string a'.f,.bool a'.on,.string fl',.bool nt',.slice kp' kids'.length kc'] 74))):=cC.new w3 #[.int .i64 k',.string a'.n,.int .i64 a'.op,.int .i64 a'.v,.int .i64 a'.sl,.string a'.f,.bool a'.on,.string fl',.bool nt',.slice kp' kids'.length kc']
    have B4:=hid (B3.keep K4.out B3.facts.2.2)
    have R4:=hid (R3.keep K4.out R3.facts.2.2)
    have ROW4:=hid (row3.other K4.out.size (fun b _ hlt=>K4.out.block b hlt))
    have A4:Hid (aR (One rb) w (w3.alloc (.cells #[.int .i64 k',.string a'.n,.int .i64 a'.op,.int .i64 a'.v,.int .i64 a'.sl,.string a'.f,.bool a'.on,.string fl',.bool nt',.slice kp' kids'.length kc'] 74))):=(HA.out.trans ha3).trans (dG _ _)
    have HR4:=hid (hr3.keep K4.out)
    have hown4 : ∀ g',kv.ownBlock=some g'->w.heap.size+2<=g'/\g'<wr.heap.size:=fun g' hg'=>by
     obtain ⟨csl,-,-,o1,-⟩:=HROW.out
     exact cW o1 hg'
    have HOWN:=hid hown4
    clear hm3 hr3 ha3 HCALL hq B3 R3 row3 hown4
    go_upto_region 5 with fail
    generalize w3.alloc (.cells #[.int .i64 k',.string a'.n,.int .i64 a'.op,.int .i64 a'.v,.int .i64 a'.sl,.string a'.f,.bool a'.on,.string fl',.bool nt',.slice kp' kids'.length kc'] 74)=W4 at K4 C4 B4 R4 ROW4 A4 HR4 ⊢
    obtain ⟨csl,c1,c2,c3,c4⟩:=ROW4.out
    have HC4:=hid c4
    have HC3:=hid c3
    obtain ⟨hcb,hzb,hlb⟩:=B4.out.facts
    obtain ⟨hck,hzk,hlk⟩:=C4.out.facts
    have hs4:=K4.out.size
    clear c4 c3
    go_wp2_with (at_builtin;refine wpList_append_own_at _ rfl _ _ 72 rfl (w.heap.size+2) 74 i0 (.agg #[.int .i64 0,.string ⟨#[]⟩,.int .i64 0,.int .i64 0,.int .i64 0,.string ⟨#[]⟩,.bool false,.string ⟨#[]⟩,.bool false,.slice none 0 0]) 10 120 Tryz.underlying72 hi hz0 hz1 hz2 rfl (by decide) kv acc.length csl.flatten rfl (HC3.out.alloc _) ⟨W4.heap.size,0,none⟩ 1 1 [.int .i64 k',.string a'.n,.int .i64 a'.op,.int .i64 a'.v,.int .i64 a'.sl,.string a'.f,.bool a'.on,.string fl',.bool nt',.slice kp' kids'.length kc'] rfl rfl eA (by intro u hu;simp at hu;rcases hu with rfl | rfl | rfl | rfl | rfl | rfl | rfl | rfl | rfl | rfl<;>rfl) (by unfold maxLen;omega) (by omega) (by have:=aD W4 (.cells #[.int .i64 k',.string a'.n,.int .i64 a'.op,.int .i64 a'.v,.int .i64 a'.sl,.string a'.f,.bool a'.on,.string fl',.bool nt',.slice kp' kids'.length kc'] 74);omega) ?_)
    intro v5 w5 h1 h2 _ h4
    obtain ⟨g5,cap5,rfl⟩:=cN h1 (Nat.succ_pos _)
    have hne5:kv.ownBlock≠some w.heap.size:=fun e=>by have:=HOWN.out _ e;omega
    have hne6:kv.ownBlock≠some (w.heap.size+1):=fun e=>by have:=HOWN.out _ e;omega
    have B5:=B4.out.grown h2 hne5
    have R5:=R4.out.grown h2 hne6
    have N4:aE (fun b=>wr.heap.size<=b/\b<W4.heap.size) W4 (.node k' a' fl' nt' kids') [.int .i64 k',.string a'.n,.int .i64 a'.op,.int .i64 a'.v,.int .i64 a'.sl,.string a'.f,.bool a'.on,.string fl',.bool nt',.slice kp' kids'.length kc']:=aE.mono (fun p hp=>K4.out.cell hp.2) (fun b hb=>⟨hb.1,by omega⟩) _ _ HN3.out
    have row5:=fR.push (B':=wr.heap.size) c1 c2 HC4.out (by omega) (fun g' hg'=>(HOWN.out g' hg').2) N4 rfl (by simpa using h1) h2 (by rw [aD];exact h4)
    have L5:Below (w.heap.size+2) W4 w5:=((Below.refl _ W4).alloc (by omega) _).grown h2 (by have:=aD W4 (.cells #[.int .i64 k',.string a'.n,.int .i64 a'.op,.int .i64 a'.v,.int .i64 a'.sl,.string a'.f,.bool a'.on,.string fl',.bool nt',.slice kp' kids'.length kc'] 74);omega) (fun g' hg'=>(HOWN.out g' hg').1)
    have hs5:=L5.size
    have B6:=hid (B5.set9 (.slice (some ⟨g5,0,none⟩) (acc.length+1) cap5))
    have ho6:=bG w5 w.heap.size 9 (.slice (some ⟨g5,0,none⟩) (acc.length+1) cap5)
    have R6:Hid (cC (w.heap.size+1) #[.int .i64 0,.string ⟨#[]⟩,.int .i64 0,.int .i64 0,.int .i64 0,.string ⟨#[]⟩,.bool false,.string ⟨#[]⟩,.bool false,.slice none 0 0] (w5.setCell ⟨w.heap.size,9,none⟩ (.slice (some ⟨g5,0,none⟩) (acc.length+1) cap5))):=by
     show _=_
     rw [ho6 _ (by omega)];exact R5
    have ROW6:=hid (row5.other (by rw [cO];exact Nat.le_refl _) (fun b hb _=>ho6 b (by omega)))
    have L6:Below w.heap.size W4 (w5.setCell ⟨w.heap.size,9,none⟩ (.slice (some ⟨g5,0,none⟩) (acc.length+1) cap5)):=by
     have L5':Below w.heap.size W4 w5:=Below.mono L5 (by omega)
     exact Below.setCell L5' (p:=⟨w.heap.size,9,none⟩) (Nat.le_refl _) (.slice (some ⟨g5,0,none⟩) (acc.length+1) cap5)
    have A6:=hid (bK A4.out L6 (Nat.le_refl _))
    have HR6:=hid (HR4.out.other (fun b hb=>L6.block b (by omega)))
    obtain ⟨hc5,hz5,hl5⟩:=B5.facts
    clear h1 h2 h4 B5 R5 N4 row5 L5 L6 ho6 hcb hzb hck hzk hne5 hne6 HC3 HC4
    go_wp2_with fail
    generalize w5.setCell ⟨w.heap.size,9,none⟩ (.slice (some ⟨g5,0,none⟩) (acc.length+1) cap5)=W6 at B6 R6 ROW6 A6 HR6 ⊢
    clear hc5 hz5
    refine (kE rb ws3 W6 HR6.out).mono ?_
    rintro e w7 ⟨rfl,hr7,hl7,ha7⟩
    have HX7:Hid (dL (aQ g) (ws.length+1) [] (ws.map (·.data.toList))=dL (aQ g) mk (acc ++ [.node k' a' fl' nt' kids']) ((ws3.headD ⟨#[]⟩).data.toList :: ws3.tail.map (·.data.toList))):=by
     show _=_
     rw [HEQ.out,dL,if_neg HW1.out,HQ.out,← rS,HM3.out]
    have hgk1:wd.data.toList ≠ []:=fun e=>by
     have:=HQ.out
     rw [e,vM] at this;cases this
    have hgk2:ws'.length+2<=mk+1:=by
     rcases HGK.out with h | h
     ·exact absurd h.1 hgk1
     ·exact h
    have HG7:Hid (((ws3.headD ⟨#[]⟩).data.toList = []/\1<=mk)∨ws3.tail.length+2<=mk):=by
     cases ws3 with
     | nil=>exact Or.inl ⟨rfl,by omega⟩
     | cons x l=>exact Or.inr (by simp at hl3 ⊢;omega)
    have B7:=hid (B6.out.apart ha7 (by omega))
    have R7:=hid (R6.out.apart ha7 (by omega))
    have hs6:w.heap.size+2<=W6.heap.size:=by have:=R6.out.facts.2.2;omega
    have ROW7:=hid (ROW6.out.other ha7.size (fun b hb hlt=>ha7.block b hlt (fun e=>by have:b=rb:=e;omega)))
    have A7:=hid (A6.out.trans ha7)
    have HR7:=hid hr7
    generalize ws3.headD ⟨#[]⟩=x7 at hl7 HX7 HG7 ⊢
    generalize ws3.tail=tl7 at HR7 HX7 HG7
    have HL7:=hid hl7
    clear hr7 hl7 ha7 hgk1 hgk2
    go_wp2_with fail
    go_roundg mk
    case measure=>omega
    case rel=>exact ⟨acc ++ [.node k' a' fl' nt' kids'],x7,tl7,(.slice (some ⟨g5,0,none⟩) (acc.length+1) cap5),rfl,HR7.out,B7.out,R7.out,ROW7.out,HX7.out,HG7.out,by simp;omega,HL7.out,A7.out⟩
end Go.Proofs.YthaaaecmeafofaaGreatDoor
namespace Go.Proofs.YthaaaecmeafofaaGreatDoor
open Go.RowKit
theorem gB {rb X:Nat} {t:NT} {cs:List Value} {ws:List ByteArray} {w wk w3 W:World} (hX:w.heap.size<=X) (hXk:X<wk.heap.size) (hn:aE (fun b=>wk.heap.size<=b/\b<w3.heap.size) w3 t cs) (hr:RdS rb ws w3) (hrb:rb<w.heap.size)
  (hO : ∀ b,b≠X->W.heap[b]? = w3.heap[b]?) (hS:W.heap.size=w3.heap.size):aE (fun b=>w.heap.size<=b/\b<W.heap.size) W t cs/\RdS rb ws W:=by
 refine ⟨aE.mono (fun p hp=>World.cell?_of_block (w:=w3) (hO _ (by omega))) (fun b hb=>⟨by omega,by omega⟩) t cs hn,hr.other (fun b hb=>hO b (by omega))⟩
def dM (g:Nat) (k:Int) (a:At) (fl:ByteArray) (nt:Bool) (ws:List bH):Option (NT × List bH):=if k=5/\aI fl.data.toList=false then none else iA (aQ g) (.node k a fl nt) ws
theorem pG (g:Nat) (H:gA g) (rb:Nat) (k:Int) (n f:ByteArray) (op v sl:Int) (on:Bool) (fl:ByteArray) (nt:Bool) (ws:List ByteArray) (d:Int) (w:World) (hd:d+g=4) (hd1:1<=d) (hE:Env w) (hO:Old rb) (hr:RdS rb ws w) :
  Calls Tryz.prog 251 #[.pointer (some ⟨rb,0,none⟩),.agg #[.int .i64 k,.string n,.int .i64 op,.int .i64 v,.int .i64 sl,.string f,.bool on,.string fl,.bool nt,.slice none 0 0],.int .i64 d] w
   fun e w'=>bE rb (dM g k ⟨n,op,v,sl,f,on⟩ fl nt (ws.map (·.data.toList))) w e w':=by
 have hlr:=hr.1.lt
 have HE:=hid hE
 have HO:=hid hO
 have HH:=hid H
 have HR0:=hid (hr.keep (aA.alloc w (.cells #[.int .i64 k,.string n,.int .i64 op,.int .i64 v,.int .i64 sl,.string f,.bool on,.string fl,.bool nt,.slice none 0 0] 74)))
 have e0:=aD w (.cells #[.int .i64 k,.string n,.int .i64 op,.int .i64 v,.int .i64 sl,.string f,.bool on,.string fl,.bool nt,.slice none 0 0] 74)
 have b0:=cC.new w #[.int .i64 k,.string n,.int .i64 op,.int .i64 v,.int .i64 sl,.string f,.bool on,.string fl,.bool nt,.slice none 0 0]
 have r0:=cC.new (w.alloc (.cells #[.int .i64 k,.string n,.int .i64 op,.int .i64 v,.int .i64 sl,.string f,.bool on,.string fl,.bool nt,.slice none 0 0] 74)) #[.int .i64 0,.string ⟨#[]⟩,.int .i64 0,.int .i64 0,.int .i64 0,.string ⟨#[]⟩,.bool false,.string ⟨#[]⟩,.bool false,.slice none 0 0]
 rw [e0] at r0
 have B1:=hid (b0.keep (aA.alloc (w.alloc (.cells #[.int .i64 k,.string n,.int .i64 op,.int .i64 v,.int .i64 sl,.string f,.bool on,.string fl,.bool nt,.slice none 0 0] 74)) (.cells #[.int .i64 0,.string ⟨#[]⟩,.int .i64 0,.int .i64 0,.int .i64 0,.string ⟨#[]⟩,.bool false,.string ⟨#[]⟩,.bool false,.slice none 0 0] 74)) b0.facts.2.2)
 have R1:=hid r0
 have A1:Hid (aR (One rb) w ((w.alloc (.cells #[.int .i64 k,.string n,.int .i64 op,.int .i64 v,.int .i64 sl,.string f,.bool on,.string fl,.bool nt,.slice none 0 0] 74)).alloc (.cells #[.int .i64 0,.string ⟨#[]⟩,.int .i64 0,.int .i64 0,.int .i64 0,.string ⟨#[]⟩,.bool false,.string ⟨#[]⟩,.bool false,.slice none 0 0] 74))):=(dG _ _).trans (dG _ _)
 have HR1:=hid (HR0.out.keep (aA.alloc _ (.cells #[.int .i64 0,.string ⟨#[]⟩,.int .i64 0,.int .i64 0,.int .i64 0,.string ⟨#[]⟩,.bool false,.string ⟨#[]⟩,.bool false,.slice none 0 0] 74)))
 clear hE hO H HR0 e0 b0 r0 hr
 by_cases hbad:k=5/\aI fl.data.toList=false
 ·have hk5:(k==5)=true:=by simp [hbad.1]
  have HNM:Hid (aI fl.data.toList=false):=hbad.2
  have HRES:Hid (dM g k ⟨n,op,v,sl,f,on⟩ fl nt (ws.map (·.data.toList))=none):=by show _=_;unfold dM;rw [if_pos hbad]
  clear hbad
  go_enter Tryz.func251,Tryz.ntmps251
  go_wp2_with fail
  generalize (w.alloc (.cells #[.int .i64 k,.string n,.int .i64 op,.int .i64 v,.int .i64 sl,.string f,.bool on,.string fl,.bool nt,.slice none 0 0] 74)).alloc (.cells #[.int .i64 0,.string ⟨#[]⟩,.int .i64 0,.int .i64 0,.int .i64 0,.string ⟨#[]⟩,.bool false,.string ⟨#[]⟩,.bool false,.slice none 0 0] 74)=W1 at B1 R1 A1 HR1 ⊢
  refine (cD _ _).mono ?_
  rintro e w2 ⟨rfl,hw2⟩
  rw [HNM.out,hw2]
  clear hw2 w2
  obtain ⟨hcr,hzr,hlr3⟩:=R1.out.facts
  go_wp2_with fail
  clear hcr hzr
  refine bC (.bool false) R1.out rfl rfl ?_
  intro W BW KW SW OW
  obtain ⟨hcW,_,_⟩:=BW.out.facts
  refine ⟨by simp [results,Tryz.results251,go_sem,hcW],?_⟩
  show bE _ _ w _ W
  rw [HRES.out]
  exact ⟨rfl,bK A1.out KW.out (by omega)⟩
 ·have HRES:Hid (dM g k ⟨n,op,v,sl,f,on⟩ fl nt (ws.map (·.data.toList))=iA (aQ g) (.node k ⟨n,op,v,sl,f,on⟩ fl nt) (ws.map (·.data.toList))):=by show _=_;unfold dM;rw [if_neg hbad]
  have hways:((k==5)=true/\Hid (aI fl.data.toList=true))∨(k==5)=false:=by
   by_cases e:k=5
   ·left
    refine ⟨by simp [e],?_⟩
    cases hn:aI fl.data.toList
    ·exact absurd ⟨e,hn⟩ hbad
    ·rfl
   ·right;simp [e]
  clear hbad
  go_enter Tryz.func251,Tryz.ntmps251
  go_upto_region 1 with fail
  generalize (w.alloc (.cells #[.int .i64 k,.string n,.int .i64 op,.int .i64 v,.int .i64 sl,.string f,.bool on,.string fl,.bool nt,.slice none 0 0] 74)).alloc (.cells #[.int .i64 0,.string ⟨#[]⟩,.int .i64 0,.int .i64 0,.int .i64 0,.string ⟨#[]⟩,.bool false,.string ⟨#[]⟩,.bool false,.slice none 0 0] 74)=W1 at B1 R1 A1 HR1 ⊢
  obtain ⟨hcb,hzb,hlb⟩:=B1.out.facts
  rcases hways with ⟨hk5,HNM⟩ | hk5
  ·go_wp2_with fail
   refine (cD _ _).mono ?_
   rintro e w2 ⟨rfl,hw2⟩
   rw [HNM.out,hw2]
   clear hw2 w2
   go_wp2_with fail
   refine (kE rb ws W1 HR1.out).mono ?_
   rintro e w2 ⟨rfl,hr2,hl2,ha2⟩
   have B2:=hid (B1.out.apart ha2 (by omega))
   have R2:=hid (R1.out.apart ha2 (by omega))
   have A2:=hid (A1.out.trans ha2)
   have HR2:=hid hr2
   have hlr2:=hr2.1.lt
   have HX2:Hid (iA (aQ g) (.node k ⟨n,op,v,sl,f,on⟩ fl nt) (ws.map (·.data.toList))=if (ws.headD ⟨#[]⟩).data.toList = [40] then dB (aQ g) (.node k ⟨n,op,v,sl,f,on⟩ fl nt) (ws.tail.map (·.data.toList)) else none):=by
    cases ws with
    | nil=>rfl
    | cons x ws=>rfl
   generalize ws.headD ⟨#[]⟩=x0 at hl2 HX2 ⊢
   generalize ws.tail=tl at HR2 hr2 HX2
   clear hr2 hl2 ha2 hcb hzb
   obtain ⟨hcb,hzb,hlb⟩:=B2.out.facts
   rcases iY x0 [40] with ⟨hw1,hw2,hw3⟩ | ⟨hw1,hw2,hw3⟩
   ·have HRES2:Hid (dM g k ⟨n,op,v,sl,f,on⟩ fl nt (ws.map (·.data.toList))=dB (aQ g) (.node k ⟨n,op,v,sl,f,on⟩ fl nt) (tl.map (·.data.toList))):=by show _=_;rw [HRES.out,HX2.out,if_pos hw1]
    clear hw1 HX2
    go_wp2_with fail
    refine (pU g HH.out rb k n f op v sl on fl nt tl d w2 hd hd1 (HE.out.apart HO.out hlr A2.out) HO.out HR2.out).mono ?_
    rintro e w3 hdone
    rw [← HRES2.out] at hdone
    clear hcb hzb
    cases hq:dM g k ⟨n,op,v,sl,f,on⟩ fl nt (ws.map (·.data.toList)) with
    | none=>
     rw [hq] at hdone
     obtain ⟨rfl,ha3⟩:=hdone
     have R3:=hid (R2.out.apart ha3 (by omega))
     have A3:=hid (A2.out.trans ha3)
     have HQ:=hid hq
     clear ha3 hq
     unfold kJ
     obtain ⟨hcr,hzr,hlr3⟩:=R3.out.facts
     go_wp2_with fail
     clear hcr hzr
     refine bC (.bool false) R3.out rfl rfl ?_
     intro W BW KW SW OW
     obtain ⟨hcW,_,_⟩:=BW.out.facts
     refine ⟨by simp [results,Tryz.results251,go_sem,hcW],?_⟩
     show bE _ _ w _ W
     rw [HQ.out]
     exact ⟨rfl,bK A3.out KW.out (by omega)⟩
    | some r=>
     obtain ⟨t,rs⟩:=r
     rw [hq] at hdone
     obtain ⟨cs,ws3,rfl,hn3,hr3,hm3,ha3⟩:=hdone
     have R3:=hid (R2.out.apart ha3 (by omega))
     have A3:=hid (A2.out.trans ha3)
     have HQ:=hid hq
     have HN3:=hid hn3
     have HR3:=hid hr3
     have HM3:=hid hm3
     have hl2k:=R2.out.facts.2.2
     clear ha3 hq hr3 hm3
     cases t with
     | node k' a' fl' nt' kids'=>
     rw [aE] at hn3
     obtain ⟨kp',kc',rfl,-,-,-⟩:=hn3
     obtain ⟨hcr,hzr,hlr3⟩:=R3.out.facts
     go_wp2_with fail
     clear hcr hzr
     refine bC (.bool true) R3.out rfl rfl ?_
     intro W BW KW SW OW
     obtain ⟨hcW,_,_⟩:=BW.out.facts
     refine ⟨by simp [results,Tryz.results251,go_sem,hcW],?_⟩
     show bE _ _ w _ W
     rw [HQ.out]
     obtain ⟨d1,d2⟩:=gB (X:=w.heap.size+1) (w:=w) (by omega) hl2k HN3.out HR3.out hlr OW.out SW.out
     exact ⟨_,ws3,rfl,d1,d2,HM3.out,bK A3.out KW.out (by omega)⟩
   ·have HRES2:Hid (dM g k ⟨n,op,v,sl,f,on⟩ fl nt (ws.map (·.data.toList))=none):=by show _=_;rw [HRES.out,HX2.out,if_neg hw1]
    clear hw1 HX2 hcb hzb
    obtain ⟨hcr,hzr,hlr3⟩:=R2.out.facts
    go_wp2_with fail
    clear hcr hzr
    refine bC (.bool false) R2.out rfl rfl ?_
    intro W BW KW SW OW
    obtain ⟨hcW,_,_⟩:=BW.out.facts
    refine ⟨by simp [results,Tryz.results251,go_sem,hcW],?_⟩
    show bE _ _ w _ W
    rw [HRES2.out]
    exact ⟨rfl,bK A2.out KW.out (by omega)⟩
  ·go_wp2_with fail
   refine (kE rb ws W1 HR1.out).mono ?_
   rintro e w2 ⟨rfl,hr2,hl2,ha2⟩
   have B2:=hid (B1.out.apart ha2 (by omega))
   have R2:=hid (R1.out.apart ha2 (by omega))
   have A2:=hid (A1.out.trans ha2)
   have HR2:=hid hr2
   have hlr2:=hr2.1.lt
   have HX2:Hid (iA (aQ g) (.node k ⟨n,op,v,sl,f,on⟩ fl nt) (ws.map (·.data.toList))=if (ws.headD ⟨#[]⟩).data.toList = [40] then dB (aQ g) (.node k ⟨n,op,v,sl,f,on⟩ fl nt) (ws.tail.map (·.data.toList)) else none):=by
    cases ws with
    | nil=>rfl
    | cons x ws=>rfl
   generalize ws.headD ⟨#[]⟩=x0 at hl2 HX2 ⊢
   generalize ws.tail=tl at HR2 hr2 HX2
   clear hr2 hl2 ha2 hcb hzb
   obtain ⟨hcb,hzb,hlb⟩:=B2.out.facts
   rcases iY x0 [40] with ⟨hw1,hw2,hw3⟩ | ⟨hw1,hw2,hw3⟩
   ·have HRES2:Hid (dM g k ⟨n,op,v,sl,f,on⟩ fl nt (ws.map (·.data.toList))=dB (aQ g) (.node k ⟨n,op,v,sl,f,on⟩ fl nt) (tl.map (·.data.toList))):=by show _=_;rw [HRES.out,HX2.out,if_pos hw1]
    clear hw1 HX2
    go_wp2_with fail
    refine (pU g HH.out rb k n f op v sl on fl nt tl d w2 hd hd1 (HE.out.apart HO.out hlr A2.out) HO.out HR2.out).mono ?_
    rintro e w3 hdone
    rw [← HRES2.out] at hdone
    clear hcb hzb
    cases hq:dM g k ⟨n,op,v,sl,f,on⟩ fl nt (ws.map (·.data.toList)) with
    | none=>
     rw [hq] at hdone
     obtain ⟨rfl,ha3⟩:=hdone
     have R3:=hid (R2.out.apart ha3 (by omega))
     have A3:=hid (A2.out.trans ha3)
     have HQ:=hid hq
     clear ha3 hq
     unfold kJ
     obtain ⟨hcr,hzr,hlr3⟩:=R3.out.facts
     go_wp2_with fail
     clear hcr hzr
     refine bC (.bool false) R3.out rfl rfl ?_
     intro W BW KW SW OW
     obtain ⟨hcW,_,_⟩:=BW.out.facts
     refine ⟨by simp [results,Tryz.results251,go_sem,hcW],?_⟩
     show bE _ _ w _ W
     rw [HQ.out]
     exact ⟨rfl,bK A3.out KW.out (by omega)⟩
    | some r=>
     obtain ⟨t,rs⟩:=r
     rw [hq] at hdone
     obtain ⟨cs,ws3,rfl,hn3,hr3,hm3,ha3⟩:=hdone
     have R3:=hid (R2.out.apart ha3 (by omega))
     have A3:=hid (A2.out.trans ha3)
     have HQ:=hid hq
     have HN3:=hid hn3
     have HR3:=hid hr3
     have HM3:=hid hm3
     have hl2k:=R2.out.facts.2.2
     clear ha3 hq hr3 hm3
     cases t with
     | node k' a' fl' nt' kids'=>
     rw [aE] at hn3
     obtain ⟨kp',kc',rfl,-,-,-⟩:=hn3
     obtain ⟨hcr,hzr,hlr3⟩:=R3.out.facts
     go_wp2_with fail
     clear hcr hzr
     refine bC (.bool true) R3.out rfl rfl ?_
     intro W BW KW SW OW
     obtain ⟨hcW,_,_⟩:=BW.out.facts
     refine ⟨by simp [results,Tryz.results251,go_sem,hcW],?_⟩
     show bE _ _ w _ W
     rw [HQ.out]
     obtain ⟨d1,d2⟩:=gB (X:=w.heap.size+1) (w:=w) (by omega) hl2k HN3.out HR3.out hlr OW.out SW.out
     exact ⟨_,ws3,rfl,d1,d2,HM3.out,bK A3.out KW.out (by omega)⟩
   ·have HRES2:Hid (dM g k ⟨n,op,v,sl,f,on⟩ fl nt (ws.map (·.data.toList))=none):=by show _=_;rw [HRES.out,HX2.out,if_neg hw1]
    clear hw1 HX2 hcb hzb
    obtain ⟨hcr,hzr,hlr3⟩:=R2.out.facts
    go_wp2_with fail
    clear hcr hzr
    refine bC (.bool false) R2.out rfl rfl ?_
    intro W BW KW SW OW
    obtain ⟨hcW,_,_⟩:=BW.out.facts
    refine ⟨by simp [results,Tryz.results251,go_sem,hcW],?_⟩
    show bE _ _ w _ W
    rw [HRES2.out]
    exact ⟨rfl,bK A2.out KW.out (by omega)⟩
end Go.Proofs.YthaaaecmeafofaaGreatDoor
