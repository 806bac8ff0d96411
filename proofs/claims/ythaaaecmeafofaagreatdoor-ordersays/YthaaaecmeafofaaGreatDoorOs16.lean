/- Steps of the proof: OrdUp, OrdCome, OrdUpW, OrdNum. -/
import Derived.Test.YthaaaecmeafofaaGreatDoorOs13
import Derived.Test.YthaaaecmeafofaaGreatDoorOs15
set_option maxHeartbeats 16000000
set_option maxRecDepth 100000
namespace Go.Proofs.YthaaaecmeafofaaGreatDoor
open Go.RowKit Go.Sort Go.Lib
def gY (S:Nat->Prop) (w:World) (L:List (List Bool)) (v:Value):Prop:=
 ∃ (p:Option Addr) (cap:Nat),v=.slice p L.length cap/\L.length<=9223372036854775807/\(0<L.length->∃ b off,p=some ⟨b,off,none⟩/\S b/\∀ (j:Nat) (zs:List Bool),L[j]? = some zs->∃ rv,w.cell? ⟨b,off+j,none⟩=some rv/\aN S w zs rv)
theorem gY.mono {S S':Nat->Prop} {w w':World} (hw : ∀ p:Addr,S p.block->w'.cell? p=w.cell? p) (hS : ∀ b,S b->S' b) {L:List (List Bool)} {v:Value} (h:gY S w L v):gY S' w' L v:=by
 obtain ⟨p,cap,h1,h2,h3⟩:=h
 refine ⟨p,cap,h1,h2,fun h=> ?_⟩
 obtain ⟨b,off,h4,h5,h6⟩:=h3 h
 refine ⟨b,off,h4,hS _ h5,fun j zs hz=> ?_⟩
 obtain ⟨rv,h7,h8⟩:=h6 j zs hz
 exact ⟨rv,(hw ⟨b,_,none⟩ h5).trans h7,h8.mono hw hS⟩
theorem gY.keep {S:Nat->Prop} {w w':World} {B:Nat} (hS : ∀ b,S b->b<B) (k:Below B w w') {L:List (List Bool)} {v:Value} (h:gY S w L v):gY S w' L v:=h.mono (bO hS k) fun _ h=>h
theorem gY.len {S:Nat->Prop} {w:World} {L:List (List Bool)} {v:Value} (h:gY S w L v) : ∃ p cap,v=.slice p L.length cap/\L.length<=9223372036854775807:=by
 obtain ⟨p,cap,h1,h2,-⟩:=h;exact ⟨p,cap,h1,h2⟩
def bS (C:List (List Bool)) (k i:Nat):Bool:=(C.getD k []).getD i false
def SqB (C:List (List Bool)) (n:Nat):Prop:=C.length=n/\∀ r∈C,r.length=n
theorem gY.at {S:Nat->Prop} {w:World} {C:List (List Bool)} {p:Option Addr} {n cap m:Nat} (h:gY S w C (.slice p m cap)) (hq:SqB C n) {k i:Nat} (hk:k<n) (hi:i<n) : ∃ b off rb roff rc,p=some ⟨b,off,none⟩/\S b/\w.cell? ⟨b,off+k,none⟩=some (.slice (some ⟨rb,roff,none⟩) n rc)/\S rb/\w.cell? ⟨rb,roff+i,none⟩=some (.bool (bS C k i)):=by
 obtain ⟨p',cap',e,-,h3⟩:=h
 cases e
 have hkl:k<C.length:=by rw [hq.1];exact hk
 obtain ⟨b,off,rfl,h5,h6⟩:=h3 (by omega)
 obtain ⟨rv,h7,h8⟩:=h6 k _ (List.getElem?_eq_getElem hkl)
 have hrl:C[k].length=n:=hq.2 _ (List.getElem_mem hkl)
 obtain ⟨rp,rc,rfl,-,h9⟩:=h8
 obtain ⟨rb,roff,rfl,h10,h11⟩:=h9 (by omega)
 rw [hrl] at h7
 refine ⟨b,off,rb,roff,rc,rfl,h5,h7,h10,?_⟩
 have hil:i<C[k].length:=by omega
 rw [h11 i _ (List.getElem?_eq_getElem hil)]
 unfold bS
 simp [List.getD_eq_getElem?_getD,hkl,hil]
theorem iO.cell {B:Nat} {v:Value} {l:List Bool} {w:World} (h:iO B v l w) {j:Nat} (hj:j<l.length) : ∃ g cap,v=.slice (some ⟨g,0,none⟩) l.length cap/\B<=g/\g<w.heap.size/\w.cell? ⟨g,j,none⟩=some (.bool (l.getD j false))/\w.frozen? ⟨g,j,none⟩=false:=by
 obtain ⟨-,⟨rfl,h0⟩ | ⟨g,cap,cur,rfl,hg,ho,hn,hm,hs,ht⟩⟩:=h
 ·omega
 ·have hlt:g<w.heap.size:=(Array.getElem?_eq_some_iff.1 ho).1
  refine ⟨g,cap,rfl,hg,hlt,?_,by simp [World.frozen?,ho]⟩
  have h1:=congrArg (·[j]?) ht
  simp only [Nat.mul_one,List.getElem?_take,List.getElem?_map,List.getElem?_eq_getElem hj,Option.map_some] at h1
  rw [if_pos hj,Array.getElem?_toList] at h1
  simp only [World.cell?,ho,List.getD_eq_getElem?_getD,List.getElem?_eq_getElem hj]
  simpa using h1
theorem iO.set {B g cap:Nat} {l:List Bool} {w:World} (h:iO B (.slice (some ⟨g,0,none⟩) l.length cap) l w) {j:Nat} (_hj:j<l.length) (x:Bool):iO B (.slice (some ⟨g,0,none⟩) (l.set j x).length cap) (l.set j x) (w.setCell ⟨g,j,none⟩ (.bool x)):=by
 obtain ⟨h0,⟨e,-⟩ | ⟨g',cap',cur,e,hg,ho,hn,hm,hs,ht⟩⟩:=h
 ·cases e
 ·cases e
  have hb:aW g 4 cur w:=ho
  have:=hb.set j (.bool x)
  refine ⟨by simp,.inr ⟨g,cap,cur.setIfInBounds j (.bool x),rfl,hg,this,by rw [List.length_set];exact hn,hm,by simpa using hs,?_⟩⟩
  rw [List.length_set,Array.toList_setIfInBounds,List.take_set,ht,List.map_set]
structure UpM (S:Nat->Prop) (C:List (List Bool)) (n B cl cc cr:Nat) (lv cv:Value) (left:List Bool) (w:World):Prop where
 lf:aB cl 62 lv w
 cm:aB cc 97 cv w
 rd:aB cr 124 (.func (.func 112) #[] #[.pointer (some ⟨cl,0,none⟩),.pointer (some ⟨cc,0,none⟩)]) w
 own:iO B lv left w
 rows:gY S w C cv
 old : ∀ b,S b->b<w.heap.size
 len:left.length=n
 sq:SqB C n
theorem zP (args:Array Value) (w:World):(callFunc 112 args).run Tryz.prog w=.ok (.enter 112 args) w:=enters_of Tryz.func112 (by kernel_rfl) rfl args w
theorem zL (args:Array Value) (w:World):(callFunc 113 args).run Tryz.prog w=.ok (.enter 113 args) w:=enters_of Tryz.func113 (by kernel_rfl) rfl args w
def aDr (C:Nat->Nat->Bool) (left:List Bool) (k i:Nat):Bool:=(List.range i).all fun j=> !(left.getD j false&&C k j && !C j k)
theorem aAv (C:Nat->Nat->Bool) (left:List Bool) (k i:Nat):aDr C left k (i+1)=(aDr C left k i && !(left.getD i false&&C k i && !C i k)):=by
 unfold aDr;rw [List.range_succ,List.all_append];simp
theorem aFs {C:Nat->Nat->Bool} {left:List Bool} {k i:Nat} (hi:i<left.length) (h:(left.getD i false&&C k i && !C i k)=true):rdy C left k=false:=by
 unfold rdy
 have:((List.range left.length).all fun i=> !(left.getD i false&&C k i && !C i k))=false:=by
  rw [List.all_eq_false]
  exact ⟨i,List.mem_range.2 hi,by rw [h];simp⟩
 rw [this,Bool.and_false]
theorem aFt (S:Nat->Prop) (C:List (List Bool)) (n B cl cc cr k:Nat) (lv cv:Value) (left:List Bool) (w:World) (h:UpM S C n B cl cc cr lv cv left w) (hk:k<n) (hn:n<=1000) :
  Calls Tryz.prog 112 #[.int .i64 k,.pointer (some ⟨cl,0,none⟩),.pointer (some ⟨cc,0,none⟩)] w fun e w'=>e=.returned (.bool (rdy (bS C) left k))/\w'=w:=by
 have H:=hid h
 have hll:left.length=n:=h.len
 obtain ⟨lg,lcap,rfl,-,hlg,hlk,-⟩:=h.own.cell (j:=k) (by omega)
 obtain ⟨cp,ccap,rfl,-⟩:=h.rows.len
 obtain ⟨hv1,-,hv2⟩:=h.lf.facts
 obtain ⟨hc1,-,hc2⟩:=h.cm.facts
 rw [hll] at hv1
 rw [h.sq.1] at hc1
 have HLL:=hid hll
 clear hll
 have HLK:=hid hlk
 clear h hlk
 go_enter Tryz.func112,Tryz.ntmps112
 go_wp2_with fail
 go_loopg [8] n (fun gk iv wr=> ∃ j:Nat,j+gk=n/\iv=.int .i64 j/\aDr (bS C) left k j=true/\wr=w)
 case atStart=>exact ⟨0,by omega,rfl,rfl,rfl⟩
 case round=>
  obtain ⟨j,hj,rfl,hr,hw⟩:=hrel
  subst hw
  have HR:=hid hr
  clear hr
  by_cases hlt:j<n
  ·obtain ⟨lg',lcap',e',-,-,hlj,-⟩:=H.out.own.cell (j:=j) (by have:=HLL.out;omega)
   cases e'
   obtain ⟨b1,o1,r1,ro1,rc1,e1,s1,d1,t1,d2⟩:=H.out.rows.at H.out.sq hk hlt
   subst e1
   obtain ⟨b2,o2,r2,ro2,rc2,e2,s2,d3,t2,d4⟩:=H.out.rows.at H.out.sq hlt hk
   cases e2
   have l1:=H.out.old _ s1
   have l2:=H.out.old _ t1
   have l3:=H.out.old _ t2
   have HSU:=hid (aAv (bS C) left k j)
   have HNO:=hid (aFs (C:=bS C) (left:=left) (k:=k) (i:=j) (by have:=HLL.out;omega))
   generalize left.getD j false=β1 at hlj HSU HNO
   generalize bS C k j=β2 at d2 HSU HNO
   generalize bS C j k=β3 at d4 HSU HNO
   rw [HR.out] at HSU
   cases β1
   ·go_wp2_with fail
    go_roundg (n-(j+1))
    case rel=>exact ⟨j+1,by omega,by go_num,HSU.out,rfl⟩
    case measure=>omega
   ·cases β2
    ·go_wp2_with fail
     go_roundg (n-(j+1))
     case rel=>exact ⟨j+1,by omega,by go_num,HSU.out,rfl⟩
     case measure=>omega
    ·cases β3
     ·have HF:=hid (HNO.out rfl)
      go_wp2_with fail
      go_ret
      exact ⟨aG HF.out.symm,rfl⟩
     ·go_wp2_with fail
      go_roundg (n-(j+1))
      case rel=>exact ⟨j+1,by omega,by go_num,HSU.out,rfl⟩
      case measure=>omega
  ·obtain rfl:j=n:=by omega
   have HX:Hid (rdy (bS C) left k=left.getD k false):=by
    show _=_
    have h1:=HR.out
    unfold aDr at h1
    unfold rdy
    rw [H.out.len,h1,Bool.and_true]
   have hlk:=HLK.out
   generalize left.getD k false=β at hlk HX
   go_wp2_with fail
   go_ret
   exact ⟨aG HX.out.symm,rfl⟩
def aAq (o:Option Nat):Int:=match o with | none=> -1 | some k=>k
theorem yR (S:Nat->Prop) (C:List (List Bool)) (n B cl cc cr:Nat) (lv cv:Value) (left:List Bool) (w:World) (h:UpM S C n B cl cc cr lv cv left w) (hn:n<=1000) :
  Calls Tryz.prog 113 #[.pointer (some ⟨cl,0,none⟩),.pointer (some ⟨cr,0,none⟩)] w fun e w'=>e=.returned (.int .i64 (aAq (nxt (bS C) left)))/\w'=w:=by
 have H:=hid h
 have hll:left.length=n:=h.len
 have hent:=zP
 obtain ⟨lp,lc,rfl,-⟩:=h.own.is
 obtain ⟨hv1,-,hv2⟩:=h.lf.facts
 obtain ⟨hc1,-,hc2⟩:=h.rd.facts
 rw [hll] at hv1
 have HRD:=hid (show ∀ k,k<n->Calls Tryz.prog 112 #[.int .i64 k,.pointer (some ⟨cl,0,none⟩),.pointer (some ⟨cc,0,none⟩)] w fun e w'=>e=.returned (.bool (rdy (bS C) left k))/\w'=w from fun k hk=>aFt S C n B cl cc cr k _ cv left w h hk hn)
 have HNX:Hid (nxt (bS C) left=rF (bS C) left n 0):=by show _=_;unfold nxt;rw [hll]
 clear h hll
 go_enter Tryz.func113,Tryz.ntmps113
 go_wp2_with fail
 go_loopg [6] n (fun gk iv wr=> ∃ j:Nat,j+gk=n/\iv=.int .i64 j/\rF (bS C) left gk j=nxt (bS C) left/\wr=w)
 case atStart=>exact ⟨0,by omega,rfl,HNX.out.symm,rfl⟩
 case round=>
  obtain ⟨j,hj,rfl,hr,hw⟩:=hrel
  subst hw
  have HR:=hid hr
  clear hr
  by_cases hlt:j<n
  ·have HST:Hid (nxt (bS C) left=if rdy (bS C) left j=true then some j else rF (bS C) left (gk-1) (j+1)):=by
    show _=_
    rw [← HR.out]
    obtain ⟨g',rfl⟩ : ∃ g',gk=g'+1:=⟨gk-1,by omega⟩
    rw [rF,Nat.add_sub_cancel]
   have HC:=hid (HRD.out j hlt)
   generalize rdy (bS C) left j=β at HC HST
   go_wp2_with fail
   refine HC.out.mono ?_
   rintro e w1 ⟨rfl,hw1⟩
   rw [hw1]
   clear hw1 HC
   cases β
   ·go_wp2_with fail
    go_roundg (n-(j+1))
    case rel=>exact ⟨j+1,by omega,by go_num,by rw [show n-(j+1)=gk-1 by omega,HST.out];rfl,rfl⟩
    case measure=>omega
   ·have HX:Hid (aAq (nxt (bS C) left)=(j:Int)):=by show _=_;rw [HST.out];rfl
    go_wp2_with fail
    go_ret
    exact ⟨aC HX.out.symm,rfl⟩
  ·obtain rfl:j=n:=by omega
   have HX:Hid (aAq (nxt (bS C) left) = -1):=by
    show _=_
    rw [← HR.out]
    obtain rfl:gk=0:=by omega
    rfl
   go_wp2_with fail
   go_ret
   exact ⟨aC HX.out.symm,rfl⟩
theorem cG.get {S:Nat->Prop} {w:World} {L:List (List Int)} {v:Value} (h:cG S w L v) {k:Nat} {zs:List Int} (hz:L[k]? = some zs) : ∃ b off cap rp rc,v=.slice (some ⟨b,off,none⟩) L.length cap/\S b/\L.length<=9223372036854775807/\w.cell? ⟨b,off+k,none⟩=some (.slice rp zs.length rc)/\bN S w zs (.slice rp zs.length rc):=by
 obtain ⟨p,cap,h1,h2,h3⟩:=h
 have hk:=(List.getElem?_eq_some_iff.1 hz).1
 obtain ⟨b,off,rfl,h5,h6⟩:=h3 (by omega)
 obtain ⟨rv,h7,h8⟩:=h6 k zs hz
 obtain ⟨rp,rc,rfl,-⟩:=id h8
 exact ⟨b,off,cap,rp,rc,h1,h5,h2,h7,h8⟩
theorem cG.len {S:Nat->Prop} {w:World} {L:List (List Int)} {v:Value} (h:cG S w L v) : ∃ p cap,v=.slice p L.length cap/\L.length<=9223372036854775807:=by
 obtain ⟨p,cap,h1,h2,-⟩:=h;exact ⟨p,cap,h1,h2⟩
structure sQ (S:Nat->Prop) (L:List (List Int)) (lv:Value) (n k cl cc ck cw g r:Nat) (row:List Bool) (w:World):Prop where
 lean:aB cl 26 lv w
 rows:cG S w L lv
 com:aB cc 97 (.slice (some ⟨g,0,none⟩) n n) w
 cell:w.cell? ⟨g,0+k,none⟩=some (.slice (some ⟨r,0,none⟩) n n)/\g<w.heap.size
 num:aB ck 3 (.int .i64 k) w
 self:aB cw 137 (.func (.func 110) #[] #[.pointer (some ⟨cl,0,none⟩),.pointer (some ⟨cc,0,none⟩),.pointer (some ⟨ck,0,none⟩),.pointer (some ⟨cw,0,none⟩)]) w
 row:aW r 4 (row.map Value.bool).toArray w
 old : ∀ b,S b->b<w.heap.size
theorem sQ.mark {S:Nat->Prop} {L:List (List Int)} {lv:Value} {n k cl cc ck cw g r:Nat} {row:List Bool} {w:World} (h:sQ S L lv n k cl cc ck cw g r row w) (hr:r≠cl/\r≠cc/\r≠ck/\r≠cw/\r≠g) (hS : ¬ S r) (i:Nat):sQ S L lv n k cl cc ck cw g r (row.set i true) (w.setCell ⟨r,i,none⟩ (.bool true)):=by
 have ha:=kA r i w (.bool true)
 have hc : ∀ p:Addr,p.block≠r->(w.setCell ⟨r,i,none⟩ (.bool true)).cell? p=w.cell? p:=fun p hp=>World.cell?_of_block (bG w r i (.bool true) p.block hp)
 refine ⟨h.lean.apart ha (by omega),h.rows.mono (fun p hp=>hc p (fun e=>hS (e ▸ hp))) fun _ h=>h,h.com.apart ha (by omega),⟨(hc ⟨g,0+k,none⟩ (by show g≠r;omega)).trans h.cell.1,by rw [cO];exact h.cell.2⟩,h.num.apart ha (by omega),h.self.apart ha (by omega),?_,fun b hb=>by rw [cO];exact h.old b hb⟩
 have:=h.row.set i (.bool true)
 rw [List.setIfInBounds_toArray] at this
 rw [List.map_set]
 exact this
theorem nT (args:Array Value) (w:World):(callFunc 110 args).run Tryz.prog w=.ok (.enter 110 args) w:=enters_of Tryz.func110 (by kernel_rfl) rfl args w
theorem eL {l:List Nat} {j:Nat} (h:j<l.length):(aL l)[j]? = some (l[j]:Int):=by
 unfold aL;rw [List.getElem?_map,List.getElem?_eq_getElem h];rfl
theorem aJ (l:List Nat):(aL l).length=l.length:=by simp [aL]
theorem zJ (S:Nat->Prop) (adj:Nat->List Nat) (L:List (List Int)) (lv:Value) (n k cl cc ck cw g r:Nat) (_hn:n<=1000) (hLn:L.length=n) (hL : ∀ i,i<n->L[i]? = some (aL (adj i))) (hadj : ∀ i,∀ j∈adj i,j<n) (hk:k<n) (hr:r≠cl/\r≠cc/\r≠ck/\r≠cw/\r≠g) (hSr : ¬ S r) :
  ∀ (s fr:Nat) (row:List Bool) (w:World),kY row<s->fr<n->row.length=n->sQ S L lv n k cl cc ck cw g r row w->
  Calls Tryz.prog 110 #[.int .i64 fr,.pointer (some ⟨cl,0,none⟩),.pointer (some ⟨cc,0,none⟩),.pointer (some ⟨ck,0,none⟩),.pointer (some ⟨cw,0,none⟩)] w fun e w'=>e=.returned (.tuple #[])/\aR (One r) w w'/\∃ row',sQ S L lv n k cl cc ck cw g r row' w'/\fJ adj fr (adj fr) row row':=by
 intro s
 induction s with
 | zero=>intro fr row w h;omega
 | succ s ih=>
  intro fr row w hs hfr hrl hm
  have HM:=hid hm
  have HIH:=hid ih
  have HADJ:=hid hadj
  have hent:=nT
  obtain ⟨lb,loff,lcap,rp,rc,rfl,hlb,hlm,hlc,hnr⟩:=hm.rows.get (hL fr hfr)
  have HNR:=hid hnr
  rw [aJ] at hlc HNR
  have hal:(adj fr).length<=9223372036854775807:=by
   obtain ⟨_,_,e,h,-⟩:=HNR.out;rw [aJ] at h;exact h
  obtain ⟨hlv,-,hll⟩:=hm.lean.facts
  have hlbl:=hm.old lb hlb
  rw [hLn] at hlv
  clear hm ih hadj hnr
  go_enter Tryz.func110,Tryz.ntmps110
  go_wp2_with fail
  clear hlv hlc
  go_loopg [13] (adj fr).length (fun gk iv wr=> ∃ (j:Nat) (rw':List Bool),j+gk=(adj fr).length/\iv=.int .i64 j/\sQ S L (.slice (some ⟨lb,loff,none⟩) L.length lcap) n k cl cc ck cw g r rw' wr/\aR (One r) w wr/\fJ adj fr ((adj fr).take j) row rw')
  case atStart=>exact ⟨0,row,by omega,rfl,HM.out,bQ (aA.refl _),by rw [List.take_zero];exact fJ.refl _ _ _⟩
  case round=>
   obtain ⟨j,row1,hj,rfl,hm1,ha1,hg1⟩:=hrel
   have HM1:=hid hm1
   have HA1:=hid ha1
   have HG1:=hid hg1
   clear hm1 ha1 hg1
   by_cases hlt:j<(adj fr).length
   ·have HMEM:Hid ((adj fr)[j]∈adj fr):=List.getElem_mem hlt
    have HTK:Hid ((adj fr).take (j+1)=(adj fr).take j ++ [(adj fr)[j]]):=List.take_succ_eq_append_getElem hlt
    have hin:=HADJ.out fr _ HMEM.out
    have hl1:row1.length=n:=by rw [HG1.out.len,hrl]
    have hNum:bN S wr (aL (adj fr)) (.slice rp (adj fr).length rc):=HNR.out.mono (fun p hp=>HA1.out.cell p (HM.out.old _ hp) (fun e=>hSr (e ▸ hp))) fun _ h=>h
    obtain ⟨p',c',e',-,h3⟩:=hNum
    rw [aJ] at e' h3
    cases e'
    obtain ⟨nb,noff,rfl,hnb,hcell⟩:=h3 (by omega)
    have hcj:=hcell j _ (eL hlt)
    have hnbl:=HM1.out.old nb hnb
    generalize (adj fr)[j]=i at HMEM HTK hin hcj
    obtain ⟨c1,-,c2⟩:=HM1.out.com.facts
    obtain ⟨c3,c4⟩:=HM1.out.cell
    obtain ⟨c5,-,c6⟩:=HM1.out.num.facts
    obtain ⟨r1,r2,r3⟩:=HM1.out.row.facts
    have hri:wr.cell? ⟨r,0+i,none⟩=some (.bool (row1.getD i false)):=by
     rw [Nat.zero_add,r1];simp [hl1,hin,List.getD_eq_getElem?_getD]
    have hrf:wr.frozen? ⟨r,0+i,none⟩=false:=r2 (0+i)
    rw [Nat.zero_add] at c3 hri hrf
    clear hcell h3 r1 r2
    cases hb:row1.getD i false with
    | true=>
     rw [hb] at hri
     go_wp2_with fail
     clear hri hrf c1 c3 c5 hcj
     go_roundg ((adj fr).length-(j+1))
     case rel=>exact ⟨j+1,row1,by omega,by go_num,HM1.out,HA1.out,by rw [HTK.out];exact HG1.out.skip hb⟩
     case measure=>omega
    | false=>
     rw [hb] at hri
     have HOF:Hid (kY (row1.set i true)<s):=by
      have h1:=mO (r:=row1) (i:=i) (by omega) hb
      have h2:=nN (r:=row) (r':=row1) HG1.out.len HG1.out.old
      show _<_
      omega
     have HQ:=hid (HM1.out.mark hr hSr i)
     have HAQ:=hid (HA1.out.trans (kA r i wr (.bool true)))
     go_upto_region 5 with fail
     refine aZ (fun W'=>sQ S L (.slice (some ⟨lb,loff,none⟩) L.length lcap) n k cl cc ck cw g r (row1.set i true) W'/\aR (One r) w W') ?_ ?_
     ·exact ⟨HQ.out,HAQ.out⟩
     rintro W2 ⟨m2,a2⟩
     have M2:=hid m2
     have A2:=hid a2
     clear m2 a2 HQ HAQ hri hrf c1 c3 c5 hcj c2 c4 c6 r3
     obtain ⟨hsc,-,hsl⟩:=M2.out.self.facts
     have hcall:=HIH.out i (row1.set i true) W2 HOF.out hin (by rw [List.length_set];exact hl1) M2.out
     have HC:=hid hcall
     clear hcall
     go_wp2_with fail
     refine HC.out.mono ?_
     rintro e W3 ⟨rfl,a3,row3,m3,g3⟩
     have M3:=hid m3
     have A3:=hid (A2.out.trans a3)
     have G3:=hid g3
     clear m3 a3 g3 hsc hsl HC
     go_wp2_with fail
     go_roundg ((adj fr).length-(j+1))
     case rel=>exact ⟨j+1,row3,by omega,by go_num,M3.out,A3.out,by rw [HTK.out];exact HG1.out.step (by omega) HMEM.out G3.out⟩
     case measure=>omega
   ·go_wp2_with fail
    try simp only [Exit.inBlock,Exit.then]
    refine bodyPost_end (results_none rfl _ _ _) rfl ?_
    refine ⟨rfl,HA1.out,row1,HM1.out,?_⟩
    have:=HG1.out
    rw [List.take_of_length_le (by omega)] at this
    exact this
def jC (adj:Nat->List Nat) (g n:Nat) (C:List (List Bool)) (w:World):Prop:= ∃ vs:List Value,aW g 62 vs.toArray w/\vs.length=n/\(∀ j r,C[j]? = some r->r.length=n/\(∀ i,r.getD i false=true↔Rch adj j i)/\∃ v,vs[j]? = some v/\aN (fun b=>g<b/\b<w.heap.size) w r v)/\∀ j,C.length<=j->j<n->vs[j]? = some (.slice none 0 0)
theorem jC.keep {adj:Nat->List Nat} {g n:Nat} {C:List (List Bool)} {w w':World} (h:jC adj g n C w) (kp:aA w w'):jC adj g n C w':=by
 obtain ⟨vs,h1,h2,h3,h4⟩:=h
 refine ⟨vs,h1.keep kp h1.facts.2.2,h2,fun j r hj=> ?_,h4⟩
 obtain ⟨e1,e2,v,e,hv⟩:=h3 j r hj
 exact ⟨e1,e2,v,e,hv.mono (fun p hp=>kp.cell (p:=p) hp.2) fun b hb=>⟨hb.1,Nat.lt_of_lt_of_le hb.2 kp.size⟩⟩
theorem jC.cell {adj:Nat->List Nat} {g n:Nat} {C:List (List Bool)} {w:World} (h:jC adj g n C w) (hk:C.length<n):w.cell? ⟨g,C.length,none⟩=some (.slice none 0 0)/\w.frozen? ⟨g,C.length,none⟩=false/\g<w.heap.size:=by
 obtain ⟨vs,h1,h2,-,h4⟩:=h
 obtain ⟨a,b,c⟩:=h1.facts
 exact ⟨by rw [a];simpa using h4 C.length (Nat.le_refl _) hk,b _,c⟩
theorem jC.fill {adj:Nat->List Nat} {g n r:Nat} {C:List (List Bool)} {w w':World} {row:List Bool} (h:jC adj g n C w) (hk:C.length<n) (hw : ∀ b,b<w.heap.size->b≠g->w'.heap[b]? = w.heap[b]?) (hsz:w.heap.size<=w'.heap.size) (hg : ∀ vs:List Value,aW g 62 vs.toArray w->aW g 62 (vs.set C.length (.slice (some ⟨r,0,none⟩) n n)).toArray w')
  (hr:aW r 4 (row.map Value.bool).toArray w') (hgr:g<r) (hl:row.length=n) (hn:n<=1000) (hR : ∀ i,row.getD i false=true↔Rch adj C.length i):jC adj g n (C ++ [row]) w':=by
 obtain ⟨vs,h1,h2,h3,h4⟩:=h
 refine ⟨_,hg vs h1,by rw [List.length_set];exact h2,fun j x hx=> ?_,fun j hj hjn=> ?_⟩
 ·by_cases hj:j<C.length
  ·rw [List.getElem?_append_left hj] at hx
   obtain ⟨e1,e2,v,e,hv⟩:=h3 j x hx
   refine ⟨e1,e2,v,by rw [List.getElem?_set_ne (by omega)];exact e,hv.mono (fun p hp=>World.cell?_of_block (hw p.block hp.2 (by have:=hp.1;omega))) fun b hb=>⟨hb.1,Nat.lt_of_lt_of_le hb.2 hsz⟩⟩
  ·have hj2:j=C.length:=by have:=(List.getElem?_eq_some_iff.1 hx).1;simp at this;omega
   subst hj2
   rw [List.getElem?_append_right (Nat.le_refl _),Nat.sub_self] at hx
   cases hx
   refine ⟨hl,hR,_,List.getElem?_set_self (by omega),some ⟨r,0,none⟩,n,by rw [hl],by omega,fun _=>⟨r,0,rfl,⟨hgr,hr.facts.2.2⟩,fun i x hx=> ?_⟩⟩
   rw [Nat.zero_add,hr.facts.1]
   simp [hx]
 ·rw [List.length_append,List.length_singleton] at hj
  rw [List.getElem?_set_ne (by omega)];exact h4 j (by omega) hjn
theorem aCu:(Tryz.prog.info? 62).map (fun i=>(i.zero,i.size,i.bytes))=some (some (.slice none 0 0),1,24):=by kernel_rfl
theorem wP (S:Nat->Prop) (adj:Nat->List Nat) (L:List (List Int)) (lv:Value) (n:Nat) (w:World) (hS : ∀ b,S b->b<w.heap.size) (hn:n<=1000) (hLn:L.length=n) (hL : ∀ i,i<n->L[i]? = some (aL (adj i))) (hadj : ∀ i,∀ j∈adj i,j<n) (hr:cG S w L lv) :
  Calls Tryz.prog 48 #[lv] w fun e w'=> ∃ (v:Value) (C:List (List Bool)),e=.returned v/\gY (fun b=>w.heap.size<=b/\b<w'.heap.size) w' C v/\SqB C n/\(∀ k i,k<n->(bS C k i=true↔Rch adj k i))/\aA w w':=by
 have HR:=hid hr
 obtain ⟨lp,lc,rfl,-⟩:=hr.len
 rw [hLn] at HR
 rw [hLn]
 have HLN:=hid hLn
 have HLL:=hid hL
 clear hLn hL
 obtain ⟨i0,hi,hz0,hz1,hz2⟩:=info_parts aCu
 obtain ⟨j0,hj,hy0,hy1,hy2⟩:=info_parts xG
 have hmf : ∀ (fn:Fn) (first cap:Array Value) (w:World),(Instr.makeFunc fn first cap).run Tryz.prog w=.ok (.func fn first cap) w:=fun _ _ _ _=>rfl
 have hent:=nT
 have HADJ:=hid hadj
 clear hr hadj
 go_enter Tryz.func48,Tryz.ntmps48
 go_upto_region 1 with fail
 refine aZ (fun W'=>aA w W'/\aB w.heap.size 26 (.slice lp n lc) W') ⟨aA.alloc _ _,aB.new _ _ _⟩ ?_
 rintro W0 ⟨k0,v0⟩
 have K0:=hid k0
 have V0:=hid v0
 have HCL:Hid (w.heap.size<W0.heap.size):=v0.facts.2.2
 clear k0 v0
 generalize hcl:w.heap.size=cl at V0 HCL ⊢
 have HCE:=hid hcl
 clear hcl
 obtain ⟨g0,-,l0⟩:=V0.out.facts
 go_upto_region 2 with (at_make;go_loud (refine wpList_make_full _ rfl _ _ 97 rfl W0.heap.size 62 i0 (.slice none 0 0) 1 Tryz.underlying97 hi hz0 hz1 .i64 .i64 (n:Int) (n:Int) n rfl rfl rfl rfl (by rw [hz2];omega) (by unfold maxLen;omega) (Nat.le_refl _) ?_;intro w2 h1 h2;have K2:=hid (show aA W0 w2 from Cn.iI h2);have F2:=hid (show aW W0.heap.size 62 (List.replicate n (.slice none 0 0)).toArray w2 from Cn.jT (v:= .slice none 0 0) rfl h1);clear h1 h2))
 refine aZ (fun W'=>aA w2 W'/\aB w2.heap.size 97 (.slice (some ⟨W0.heap.size,0,none⟩) n n) W') ⟨aA.alloc _ _,aB.new _ _ _⟩ ?_
 rintro W3 ⟨k3,v3⟩
 have KW3:=hid ((K0.out.trans K2.out).trans k3)
 have V3:=hid (V0.out.keep (K2.out.trans k3) V0.out.facts.2.2)
 have C3:=hid v3
 have M3:=hid (show jC adj W0.heap.size n [] W3 from ⟨List.replicate n (.slice none 0 0),F2.out.keep k3 F2.out.facts.2.2,by simp,fun j r hj=>by simp at hj,fun j _ hj=>by simp [hj]⟩)
 have HOR:Hid (cl<W0.heap.size/\W0.heap.size<w2.heap.size):=⟨HCL.out,F2.out.facts.2.2⟩
 clear k3 v3 g0 l0 V0 F2 K2
 generalize W0.heap.size=g at M3 C3 HOR ⊢
 generalize w2.heap.size=cc at C3 HOR ⊢
 obtain ⟨g0,-,l0⟩:=V3.out.facts
 go_wp2_with fail
 clear g0 l0
 go_loopg [11] n (fun gk iv wr=> ∃ C:List (List Bool),C.length+gk=n/\iv=.int .i64 C.length/\aA w wr/\aB cl 26 (.slice lp n lc) wr/\aB cc 97 (.slice (some ⟨g,0,none⟩) n n) wr/\jC adj g n C wr)
 case atStart=>exact ⟨[],by simp,rfl,KW3.out,V3.out,C3.out,M3.out⟩
 case round=>
  obtain ⟨C,hkg,rfl,hk,hv,hc,hm⟩:=hrel
  have HK:=hid hk
  have HV:=hid hv
  have HC:=hid hc
  have HM:=hid hm
  clear hk hv hc hm
  by_cases hlt:C.length<n
  ·go_upto_region 5 with fail
   refine aZ (fun W'=>aA wr W'/\aB wr.heap.size 3 (.int .i64 C.length) W') ⟨aA.alloc _ _,aB.new _ _ _⟩ ?_
   rintro W5 ⟨k5,v5⟩
   have K5:=hid k5
   have N5:=hid v5
   have HCK:Hid (wr.heap.size<W5.heap.size):=v5.facts.2.2
   clear k5 v5
   generalize hck:wr.heap.size=ck at N5 HCK ⊢
   have HCKE:=hid hck
   clear hck
   obtain ⟨m1,m2,m3⟩:=(HM.out.keep K5.out).cell hlt
   have c1:=(HC.out.keep K5.out HC.out.facts.2.2).facts
   have c2:=(HV.out.keep K5.out HV.out.facts.2.2).facts
   have c3:=N5.out.facts
   have HS:=hid (show W5.cell? ⟨cc,0,none⟩=some (.slice (some ⟨g,0,none⟩) n n)/\W5.cell? ⟨ck,0,none⟩=some (.int .i64 C.length)/\W5.cell? ⟨cl,0,none⟩=some (.slice lp n lc) from ⟨c1.1,c3.1,c2.1⟩)
   have HSd:=hid (show W5.drew.cell? ⟨cc,0,none⟩=some (.slice (some ⟨g,0,none⟩) n n)/\W5.drew.cell? ⟨ck,0,none⟩=some (.int .i64 C.length)/\W5.drew.cell? ⟨cl,0,none⟩=some (.slice lp n lc) from ⟨c1.1,c3.1,c2.1⟩)
   have lc1:=c1.2.2
   have lc2:=c2.2.2
   have lc3:=c3.2.2
   clear c1 c2 c3
   obtain ⟨w6,hrun,h1,h2⟩:=run_make_full (P:=Tryz.prog) W5.drew W5.drew.heap.size 62 4 j0 (.bool false) 1 Tryz.underlying62 hj hy0 hy1 .i64 .i64 n (by rw [hy2];omega) (by unfold maxLen;omega) (Nat.le_refl _)
   have K6:=hid (show aA W5 w6 from dW (Cn.iI h2))
   have F6:=hid (show aW W5.heap.size 4 (List.replicate n (.bool false)).toArray w6 from Cn.jT (v:= .bool false) rfl h1)
   have HS2:=hid (show w6.cell? ⟨cc,0,none⟩=some (.slice (some ⟨g,0,none⟩) n n)/\w6.cell? ⟨ck,0,none⟩=some (.int .i64 C.length)/\w6.cell? ⟨cl,0,none⟩=some (.slice lp n lc) from ⟨(K6.out.cell (p:=⟨cc,0,none⟩) lc1).trans HS.out.1,(K6.out.cell (p:=⟨ck,0,none⟩) lc3).trans HS.out.2.1,(K6.out.cell (p:=⟨cl,0,none⟩) lc2).trans HS.out.2.2⟩)
   have hg6:=(K6.out.cell (p:=⟨g,C.length,none⟩) m3).trans m1
   have hf6:w6.frozen? ⟨g,C.length,none⟩=false:=by obtain ⟨vs,e1,-⟩:=((HM.out.keep K5.out).keep K6.out);exact e1.facts.2.1 _
   have hgl6:g<w6.heap.size:=Nat.lt_of_lt_of_le m3 K6.out.size
   have HNE:Hid (cc≠g/\ck≠g/\cl≠g/\ck<W5.heap.size/\g<ck/\cl<ck/\cc<ck):=⟨by have:=HOR.out;omega,by have:=HCKE.out;have:=HM.out;obtain ⟨vs,e1,-⟩:=this;have:=e1.facts.2.2;omega,by have:=HOR.out;omega,lc3,by have:=HCKE.out;have:=HM.out;obtain ⟨vs,e1,-⟩:=this;have:=e1.facts.2.2;omega,by have:=HCKE.out;have:=HV.out.facts.2.2;omega,by have:=HCKE.out;have:=HC.out.facts.2.2;omega⟩
   have HS3:=hid (show (w6.setCell ⟨g,C.length,none⟩ (.slice (some ⟨W5.heap.size,0,none⟩) n n)).cell? ⟨cc,0,none⟩=some (.slice (some ⟨g,0,none⟩) n n)/\(w6.setCell ⟨g,C.length,none⟩ (.slice (some ⟨W5.heap.size,0,none⟩) n n)).cell? ⟨ck,0,none⟩=some (.int .i64 C.length)/\(w6.setCell ⟨g,C.length,none⟩ (.slice (some ⟨W5.heap.size,0,none⟩) n n)).cell? ⟨cl,0,none⟩=some (.slice lp n lc) from ⟨(World.cell?_of_block (bG w6 g C.length _ cc HNE.out.1)).trans HS2.out.1,(World.cell?_of_block (bG w6 g C.length _ ck HNE.out.2.1)).trans HS2.out.2.1,(World.cell?_of_block (bG w6 g C.length _ cl HNE.out.2.2.1)).trans HS2.out.2.2⟩)
   clear m1 m2
   clear h1 h2
   go_region_held3 (fun W'=>W'.cell? ⟨cc,0,none⟩=some (.slice (some ⟨g,0,none⟩) n n)/\W'.cell? ⟨ck,0,none⟩=some (.int .i64 C.length)/\W'.cell? ⟨cl,0,none⟩=some (.slice lp n lc))
    (first | with_reducible exact HS.out | with_reducible exact HSd.out | with_reducible exact HS2.out | with_reducible exact HS3.out | go_keep)
    (fail)
   have HQ:=hid (show aA w (w6.setCell ⟨g,C.length,none⟩ (.slice (some ⟨W5.heap.size,0,none⟩) n n))/\(∀ b,b<ck->b≠g->(w6.setCell ⟨g,C.length,none⟩ (.slice (some ⟨W5.heap.size,0,none⟩) n n)).heap[b]? = wr.heap[b]?)/\(∀ vs:List Value,aW g 62 vs.toArray wr->aW g 62 (vs.set C.length (.slice (some ⟨W5.heap.size,0,none⟩) n n)).toArray (w6.setCell ⟨g,C.length,none⟩ (.slice (some ⟨W5.heap.size,0,none⟩) n n)))/\aB ck 3 (.int .i64 C.length) (w6.setCell ⟨g,C.length,none⟩ (.slice (some ⟨W5.heap.size,0,none⟩) n n))/\aW W5.heap.size 4 ((List.replicate n false).map Value.bool).toArray (w6.setCell ⟨g,C.length,none⟩ (.slice (some ⟨W5.heap.size,0,none⟩) n n)) from by
    have hap:=kA g C.length w6 (.slice (some ⟨W5.heap.size,0,none⟩) n n)
    have hne:=HNE.out
    have hce:=HCE.out
    have hor:=HOR.out
    have hcke:=HCKE.out
    refine ⟨Below.trans ((HK.out.trans K5.out).trans K6.out) ((aM w6 g C.length _).mono (by omega)),fun b hb hn=> ?_,fun vs hvs=> ?_,(N5.out.keep K6.out N5.out.facts.2.2).apart hap (by omega),?_⟩
    ·rw [bG w6 g C.length _ b hn,K6.out.block b (by omega),K5.out.block b (by omega)]
    ·have:=((hvs.keep K5.out hvs.facts.2.2).keep K6.out (hvs.keep K5.out hvs.facts.2.2).facts.2.2).set C.length (.slice (some ⟨W5.heap.size,0,none⟩) n n)
     rw [List.setIfInBounds_toArray] at this
     exact this
    ·rw [List.map_replicate]
     exact F6.out.apart hap (by omega))
   have HRL:Hid (ck<W5.heap.size):=HNE.out.2.2.2.1
   clear HS HSd HS2 HS3 hrun hg6 hf6 hgl6 m3 lc1 lc2 lc3 K6 F6
   go_upto_region 6 with fail
   generalize W5.heap.size=r at HQ HRL ⊢
   refine aZ (fun W'=>aA w W'/\(∀ b,b<ck->b≠g->W'.heap[b]? = wr.heap[b]?)/\(∀ vs:List Value,aW g 62 vs.toArray wr->aW g 62 (vs.set C.length (.slice (some ⟨r,0,none⟩) n n)).toArray W')/\aB ck 3 (.int .i64 C.length) W'/\aW r 4 ((List.replicate n false).map Value.bool).toArray W') ?_ ?_
   ·exact HQ.out
   rintro W7 ⟨k7,b7,g7,n7,r7⟩
   have K7:=hid k7
   have BB7:=hid b7
   have G7:=hid g7
   have N7:=hid n7
   have R7:=hid r7
   clear k7 b7 g7 n7 r7 HQ N5 K5
   go_upto_region 7 with fail
   refine aZ (fun W'=>aA W7 W'/\aB W7.heap.size 137 .nilFunc W') ⟨aA.alloc _ _,aB.new _ _ _⟩ ?_
   rintro W8 ⟨k8,f8⟩
   have K8:=hid k8
   have F8:=hid f8
   have HRW:Hid (r<W7.heap.size):=R7.out.facts.2.2
   clear k8 f8
   generalize W7.heap.size=cw at F8 HRW ⊢
   obtain ⟨f1,f2,f3⟩:=F8.out.facts
   have HQ2:=hid (show sQ S L (.slice lp n lc) n C.length cl cc ck cw g r (List.replicate n false) (W8.setCell ⟨cw,0,none⟩ (.func (.func 110) #[] #[.pointer (some ⟨cl,0,none⟩),.pointer (some ⟨cc,0,none⟩),.pointer (some ⟨ck,0,none⟩),.pointer (some ⟨cw,0,none⟩)]))/\aA w (W8.setCell ⟨cw,0,none⟩ (.func (.func 110) #[] #[.pointer (some ⟨cl,0,none⟩),.pointer (some ⟨cc,0,none⟩),.pointer (some ⟨ck,0,none⟩),.pointer (some ⟨cw,0,none⟩)]))/\(∀ b,b<ck->b≠g->(W8.setCell ⟨cw,0,none⟩ (.func (.func 110) #[] #[.pointer (some ⟨cl,0,none⟩),.pointer (some ⟨cc,0,none⟩),.pointer (some ⟨ck,0,none⟩),.pointer (some ⟨cw,0,none⟩)])).heap[b]? = wr.heap[b]?)/\(∀ vs:List Value,aW g 62 vs.toArray wr->aW g 62 (vs.set C.length (.slice (some ⟨r,0,none⟩) n n)).toArray (W8.setCell ⟨cw,0,none⟩ (.func (.func 110) #[] #[.pointer (some ⟨cl,0,none⟩),.pointer (some ⟨cc,0,none⟩),.pointer (some ⟨ck,0,none⟩),.pointer (some ⟨cw,0,none⟩)]))) from by
    have hap:=dT cw W8 (.func (.func 110) #[] #[.pointer (some ⟨cl,0,none⟩),.pointer (some ⟨cc,0,none⟩),.pointer (some ⟨ck,0,none⟩),.pointer (some ⟨cw,0,none⟩)])
    have hne:=HNE.out
    have hrl:=HRL.out
    have hrw:=HRW.out
    have hce:=HCE.out
    have hor:=HOR.out
    have hcke:=HCKE.out
    have hblk : ∀ b,b<ck->b≠g->(W8.setCell ⟨cw,0,none⟩ (.func (.func 110) #[] #[.pointer (some ⟨cl,0,none⟩),.pointer (some ⟨cc,0,none⟩),.pointer (some ⟨ck,0,none⟩),.pointer (some ⟨cw,0,none⟩)])).heap[b]? = wr.heap[b]? :=fun b hb hn=>by
     rw [bG W8 cw 0 _ b (by omega),K8.out.block b (by have:=N7.out.facts.2.2;omega),BB7.out b hb hn]
    have hkw:aA w (W8.setCell ⟨cw,0,none⟩ (.func (.func 110) #[] #[.pointer (some ⟨cl,0,none⟩),.pointer (some ⟨cc,0,none⟩),.pointer (some ⟨ck,0,none⟩),.pointer (some ⟨cw,0,none⟩)])):=Below.trans (K7.out.trans K8.out) ((aM W8 cw 0 _).mono (by omega))
    have hgb : ∀ vs:List Value,aW g 62 vs.toArray wr->aW g 62 (vs.set C.length (.slice (some ⟨r,0,none⟩) n n)).toArray (W8.setCell ⟨cw,0,none⟩ (.func (.func 110) #[] #[.pointer (some ⟨cl,0,none⟩),.pointer (some ⟨cc,0,none⟩),.pointer (some ⟨ck,0,none⟩),.pointer (some ⟨cw,0,none⟩)])):=fun vs hvs=>((G7.out vs hvs).keep K8.out (G7.out vs hvs).facts.2.2).apart hap (by omega)
    refine ⟨⟨?_,HR.out.keep hS hkw,?_,?_,(N7.out.keep K8.out N7.out.facts.2.2).apart hap (by omega),F8.out.set _,(R7.out.keep K8.out R7.out.facts.2.2).apart hap (by omega),fun b hb=>Nat.lt_of_lt_of_le (hS b hb) hkw.size⟩,hkw,hblk,hgb⟩
    ·have h5:=HV.out
     unfold aB at *
     rw [hblk cl (by omega) (by omega)];exact h5
    ·have h5:=HC.out
     unfold aB at *
     rw [hblk cc (by omega) (by omega)];exact h5
    ·obtain ⟨vs,e1,e2,-⟩:=HM.out
     have:=hgb vs e1
     refine ⟨?_,this.facts.2.2⟩
     rw [Nat.zero_add,this.facts.1]
     simp [e2,hlt])
   go_upto_region 8 with fail
   refine aZ (fun W'=>sQ S L (.slice lp n lc) n C.length cl cc ck cw g r (List.replicate n false) W'/\aA w W'/\(∀ b,b<ck->b≠g->W'.heap[b]? = wr.heap[b]?)/\(∀ vs:List Value,aW g 62 vs.toArray wr->aW g 62 (vs.set C.length (.slice (some ⟨r,0,none⟩) n n)).toArray W')) ?_ ?_
   ·exact HQ2.out
   rintro W9 ⟨m9,k9,b9,g9⟩
   have M9:=hid m9
   have K9:=hid k9
   have BB9:=hid b9
   have G9:=hid g9
   clear m9 k9 b9 g9 HQ2 f1 f2 f3 K7 BB7 G7 N7 R7 K8 F8
   obtain ⟨s1,-,s2⟩:=M9.out.self.facts
   obtain ⟨s3,-,s4⟩:=M9.out.num.facts
   have hcall:=zJ S adj L (.slice lp n lc) n C.length cl cc ck cw g r hn HLN.out HLL.out HADJ.out hlt (by have:=HNE.out;have:=HRL.out;have:=HRW.out;omega) (fun h=>by have:=hS _ h;have:=HCE.out;have:=HNE.out;have:=HRL.out;have:=HCKE.out;have:=HK.out.size;omega) (kY (List.replicate n false)+1) C.length (List.replicate n false) W9 (Nat.lt_succ_self _) hlt (by simp) M9.out
   have HCA:=hid hcall
   clear hcall
   go_wp2_with fail
   refine HCA.out.mono ?_
   rintro e W10 ⟨rfl,a10,row,m10,gr10⟩
   have hfill:=hid (show jC adj g n (C ++ [row]) W10 from by
    have hne:=HNE.out
    have hrl:=HRL.out
    have hcke:=HCKE.out
    refine HM.out.fill hlt (fun b hb hn=> ?_) (Nat.le_trans (by have:=M9.out.row.facts.2.2;omega) a10.size) (fun vs hvs=> ?_) m10.row (by omega) (by rw [gr10.len];simp) hn (fun i=>gr10.done i)
    ·rw [a10.block b (by have:=M9.out.num.facts.2.2;omega) (fun e=>by have e:b=r:=e;omega)]
     exact BB9.out b (by omega) hn
    ·exact (G9.out vs hvs).apart a10 (by omega))
   have K10:=hid (show aA w W10 from Below.trans K9.out (a10.below K9.out.size fun b hb e=>by have e:b=r:=e;have:=HNE.out;have:=HRL.out;have:=HCKE.out;have:=HK.out.size;omega))
   have V10:=hid m10.lean
   have C10:=hid m10.com
   clear a10 m10 gr10 s1 s2 s3 s4 HCA
   go_wp2_with fail
   go_roundg (n-(C.length+1))
   case rel=>exact ⟨C ++ [row],by simp;omega,by rw [List.length_append,List.length_singleton];go_num,K10.out,V10.out,C10.out,hfill.out⟩
   case measure=>omega
  ·have hCn:C.length=n:=by omega
   have HCN:=hid hCn
   obtain ⟨g0,-,l0⟩:=HC.out.facts
   clear hCn
   go_wp2_with fail
   go_ret
   refine ⟨.slice (some ⟨g,0,none⟩) n n,C,rfl,?_,⟨HCN.out,fun r hr=> ?_⟩,fun k i hk=> ?_,HK.out⟩
   ·obtain ⟨vs,h1,h2,h3,-⟩:=HM.out
    refine ⟨some ⟨g,0,none⟩,n,by rw [HCN.out],by rw [HCN.out];omega,fun _=>⟨g,0,rfl,⟨by have:=HCE.out;have:=HOR.out;omega,h1.facts.2.2⟩,fun j zs hz=> ?_⟩⟩
    obtain ⟨-,-,v,e1,e2⟩:=h3 j zs hz
    refine ⟨v,?_,e2.mono (fun _ _=>rfl) fun b hb=>⟨by have:=HCE.out;have:=HOR.out;omega,hb.2⟩⟩
    rw [Nat.zero_add,h1.facts.1]
    simpa using e1
   ·obtain ⟨j,hj,rfl⟩:=List.getElem_of_mem hr
    obtain ⟨vs,h1,h2,h3,-⟩:=HM.out
    exact (h3 j _ (List.getElem?_eq_getElem hj)).1
   ·obtain ⟨vs,h1,h2,h3,-⟩:=HM.out
    have hkl:k<C.length:=by rw [HCN.out];exact hk
    have:=(h3 k _ (List.getElem?_eq_getElem hkl)).2.1 i
    rw [← this]
    unfold bS
    simp [List.getD_eq_getElem?_getD,hkl]
theorem aCs {C:Nat->Nat->Bool} {left:List Bool} {k:Nat} (h:nxt C left=some k):inL C left=k :: inL C (left.set k false):=by
 have hc:=iR (gT (jZ h))
 unfold inL
 rw [hc,eN,h]
theorem aCr {C:Nat->Nat->Bool} {left:List Bool} (h:nxt C left=none):inL C left = []:=by
 unfold inL
 cases cnt left with
 | zero=>rfl
 | succ f=>rw [eN,h]
theorem UpM.same {S:Nat->Prop} {C:List (List Bool)} {n B cl cc cr:Nat} {lv cv:Value} {left:List Bool} {w w':World} (h:UpM S C n B cl cc cr lv cv left w) {D:Nat} (hb : ∀ b,b<D->w'.heap[b]? = w.heap[b]?) (hsz:w.heap.size<=w'.heap.size) (hD:cl<D/\cc<D/\cr<D) (hS : ∀ b,S b->b<D) (hv : ∀ g,lv.ownBlock=some g->g<D):UpM S C n B cl cc cr lv cv left w':=by
 refine ⟨?_,?_,?_,Cn.iW h.own fun g hg=>hb g (hv g hg),h.rows.mono (fun p hp=>World.cell?_of_block (hb p.block (hS _ hp))) fun _ h=>h,fun b hb'=>Nat.lt_of_lt_of_le (h.old b hb') hsz,h.len,h.sq⟩
 ·have:=h.lf;unfold aB at *;rw [hb cl hD.1];exact this
 ·have:=h.cm;unfold aB at *;rw [hb cc hD.2.1];exact this
 ·have:=h.rd;unfold aB at *;rw [hb cr hD.2.2];exact this
theorem UpM.take {S:Nat->Prop} {C:List (List Bool)} {n B cl cc cr lg lcap:Nat} {cv:Value} {left:List Bool} {w:World} (h:UpM S C n B cl cc cr (.slice (some ⟨lg,0,none⟩) left.length lcap) cv left w) (hne:cl≠lg/\cc≠lg/\cr≠lg) (hS : ¬ S lg) {k:Nat} (hk:k<n):UpM S C n B cl cc cr (.slice (some ⟨lg,0,none⟩) left.length lcap) cv (left.set k false) (w.setCell ⟨lg,k,none⟩ (.bool false)):=by
 have hap:=kA lg k w (.bool false)
 have ho:=h.own.set (j:=k) (by rw [h.len];exact hk) false
 rw [List.length_set] at ho
 exact ⟨h.lf.apart hap hne.1,h.cm.apart hap hne.2.1,h.rd.apart hap hne.2.2,ho,h.rows.mono (fun p hp=>World.cell?_of_block (bG w lg k _ p.block (fun e=>hS (e ▸ hp)))) fun _ h=>h,fun b hb=>by rw [cO];exact h.old b hb,by rw [List.length_set];exact h.len,h.sq⟩
theorem xL (S:Nat->Prop) (C:List (List Bool)) (nw:List Bool) (n:Nat) (bv cv:Value) (w:World) (hS : ∀ b,S b->b<w.heap.size) (hn:n<=1000) (hb:aN S w nw bv) (hl:nw.length=n) (hc:gY S w C cv) (hq:SqB C n) :
  Calls Tryz.prog 49 #[bv,cv] w fun e w'=> ∃ v,e=.returned v/\cT w.heap.size v (aL (inL (bS C) nw)) w'/\aA w w':=by
 have HB:=hid hb
 have HC:=hid hc
 have HQ:=hid hq
 have HLE:=hid hl
 obtain ⟨cp,ccap,rfl,-⟩:=hc.len
 obtain ⟨bp,bcap,rfl,-⟩:=id hb
 obtain ⟨i0,hi,hz0,hz1,hz2⟩:=info_parts hN
 have hmf : ∀ (fn:Fn) (first cap:Array Value) (w:World),(Instr.makeFunc fn first cap).run Tryz.prog w=.ok (.func fn first cap) w:=fun _ _ _ _=>rfl
 have hent:=zL
 clear hb hc hq hl
 go_enter Tryz.func49,Tryz.ntmps49
 go_upto_region 1 with fail
 refine aZ (fun W'=>aA w W'/\aB w.heap.size 97 (.slice cp C.length ccap) W') ⟨aA.alloc _ _,aB.new _ _ _⟩ ?_
 rintro W0 ⟨k0,v0⟩
 have K0:=hid k0
 have V0:=hid v0
 have HCC:Hid (w.heap.size<W0.heap.size):=v0.facts.2.2
 clear k0 v0
 generalize hcc:w.heap.size=cc at V0 HCC ⊢
 have HCE:=hid hcc
 clear hcc
 go_wp2_with fail
 refine (pB S nw _ W0 (fun b hb=>Nat.lt_of_lt_of_le (hS b hb) K0.out.size) (HB.out.keep hS K0.out) (by have:=HLE.out;omega)).mono ?_
 rintro e W1 ⟨lv0,rfl,o1,k1⟩
 obtain ⟨lp,lcp,hlv,-⟩:=id o1.is
 subst hlv
 have K1:=hid (K0.out.trans k1)
 have V1:=hid (V0.out.keep k1 V0.out.facts.2.2)
 have O1:=hid o1
 have HW01:Hid (W0.heap.size<=W1.heap.size):=k1.size
 clear k1 o1 V0
 go_upto_region 2 with fail
 refine aZ (fun W'=>aA W1 W'/\aB W1.heap.size 62 (Value.slice lp nw.length lcp) W') ⟨aA.alloc _ _,aB.new _ _ _⟩ ?_
 rintro W2 ⟨k2,v2⟩
 have K2:=hid k2
 have L2:=hid v2
 have HCL:Hid (W1.heap.size<W2.heap.size):=v2.facts.2.2
 clear k2 v2
 generalize hcl:W1.heap.size=cl at L2 HCL ⊢
 have HCLE:=hid hcl
 clear hcl
 go_upto_region 3 with fail
 refine aZ (fun W'=>aA W2 W'/\aB W2.heap.size 124 (.func (.func 112) #[] #[.pointer (some ⟨cl,0,none⟩),.pointer (some ⟨cc,0,none⟩)]) W') ⟨aA.alloc _ _,aB.new _ _ _⟩ ?_
 rintro W3 ⟨k3,v3⟩
 have HCR:Hid (W2.heap.size<W3.heap.size):=v3.facts.2.2
 have KW3:=hid ((K1.out.trans K2.out).trans k3)
 have U3:=hid (show UpM S C n W0.heap.size cl cc W2.heap.size (Value.slice lp nw.length lcp) (.slice cp C.length ccap) nw W3 from ⟨L2.out.keep k3 L2.out.facts.2.2,(V1.out.keep K2.out V1.out.facts.2.2).keep k3 (V1.out.keep K2.out V1.out.facts.2.2).facts.2.2,v3,cS (cS O1.out K2.out) k3,(HC.out.keep hS KW3.out),fun b hb=>Nat.lt_of_lt_of_le (hS b hb) KW3.out.size,HLE.out,HQ.out⟩)
 have HOR:Hid (∀ g,(Value.slice lp nw.length lcp).ownBlock=some g->cc<g/\g<cl):=fun g hg=>by
  have:=cW O1.out hg
  have:=HCC.out
  have:=HCLE.out
  omega
 clear k3 v3 L2 V1 O1
 generalize W2.heap.size=cr at U3 HCR HCL ⊢
 have HN3:=hid (yR S C n W0.heap.size cl cc cr (Value.slice lp nw.length lcp) _ nw W3 U3.out hn)
 go_wp2_with fail
 refine HN3.out.mono ?_
 rintro e w4 ⟨rfl,hw4⟩
 rw [hw4]
 clear hw4 HN3
 have HORD:Hid (w.heap.size=cc/\cc<cl/\cl<cr/\cr<W3.heap.size):=⟨HCE.out,by have:=HCC.out;have:=HCLE.out;have:=HW01.out;omega,HCL.out,HCR.out⟩
 go_wp2_with fail
 go_loopg [8,9] (cnt nw) (fun gk av kv wr=> ∃ (acc:List Nat) (left:List Bool),cnt left=gk/\kv=.int .i64 (aAq (nxt (bS C) left))/\UpM S C n W0.heap.size cl cc cr (Value.slice lp nw.length lcp) (.slice cp C.length ccap) left wr/\cT W3.heap.size av (aL acc) wr/\acc++inL (bS C) left=inL (bS C) nw/\acc.length+cnt left<=n/\aA w wr/\W3.heap.size<=wr.heap.size)
 case atStart=>exact ⟨[],nw,rfl,rfl,U3.out,World.ownsRow_nil _ _ _ _,rfl,by rw [List.length_nil,Nat.zero_add];exact Nat.le_trans List.countP_le_length (Nat.le_of_eq HLE.out),KW3.out,Nat.le_refl _⟩
 case round=>
  obtain ⟨acc,left,hcg,rfl,hu,ho,hap,hln,hk,hz⟩:=hrel
  have HU:=hid hu
  have HO:=hid ho
  have HAP:=hid hap
  have HK:=hid hk
  have HCG:=hid hcg
  have HLN:=hid hln
  clear hu ho hap hk hcg hln
  cases hnx:nxt (bS C) left with
  | none=>
   have HIN:Hid (inL (bS C) nw=acc):=by
    show _=_
    rw [← HAP.out,aCr hnx,List.append_nil]
   clear hnx
   have e1:aAq none = -1:=rfl
   rw [e1]
   go_wp2_with fail
   go_ret
   refine ⟨_,rfl,?_,HK.out⟩
   rw [HIN.out]
   obtain ⟨h1,h2⟩:=HO.out
   refine ⟨h1,h2.imp id ?_⟩
   rintro ⟨g,cap,cur,e1,e2,e3⟩
   exact ⟨g,cap,cur,e1,by have:=HORD.out;omega,e3⟩
  | some k=>
   have hr:=jZ hnx
   have hkt:=gT hr
   have HCN:Hid (cnt left=cnt (left.set k false)+1):=iR hkt
   have HNA:Hid ((acc ++ [k])++inL (bS C) (left.set k false)=inL (bS C) nw):=by
    show _=_
    rw [← HAP.out,aCs hnx,List.append_assoc];rfl
   have hkl:=iT hkt
   have hll:=HU.out.len
   have hkn:k<n:=by omega
   obtain ⟨lg,lcap,e',hB,hlg,hcell,hfr⟩:=HU.out.own.cell hkl
   simp only [Value.slice.injEq] at e'
   obtain ⟨rfl,hnl,rfl⟩:=e'
   have HNL:=hid hnl
   have hknw:k<nw.length:=by omega
   have hord:=HOR.out lg rfl
   have HLG:Hid (cc<lg/\lg<cl):=hord
   have e1:aAq (some k)=(k:Int):=rfl
   rw [e1]
   have hne1:((k:Int) == -1)=false:=by simp
   have hne2:((k:Int) != -1)=true:=by simp [bne,hne1]
   obtain ⟨v1,-,v2⟩:=HU.out.lf.facts
   have HQ2:=hid (show UpM S C n W0.heap.size cl cc cr (.slice (some ⟨lg,0,none⟩) nw.length lcp) (.slice cp C.length ccap) (left.set k false) (wr.setCell ⟨lg,k,none⟩ (.bool false))/\cT W3.heap.size u8 (aL acc) (wr.setCell ⟨lg,k,none⟩ (.bool false))/\aA w (wr.setCell ⟨lg,k,none⟩ (.bool false))/\W3.heap.size<=(wr.setCell ⟨lg,k,none⟩ (.bool false)).heap.size from by
    have h0:=HORD.out
    have h1:=HLG.out
    have hu:=HU.out
    rw [HNL.out] at hu
    have ht:=hu.take (k:=k) (by omega) (fun h=>by have:=hS _ h;omega) hkn
    rw [← HNL.out] at ht
    exact ⟨ht,Cn.iW HO.out fun g hg=>bG wr lg k _ g (by have:=(cW HO.out hg).1;omega),Below.trans HK.out ((aM wr lg k _).mono (by omega)),by rw [cO];exact hz⟩)
   clear hr hkt hnx hll hnl hord
   go_upto_region 9 with fail
   refine aZ (fun W'=>UpM S C n W0.heap.size cl cc cr (.slice (some ⟨lg,0,none⟩) nw.length lcp) (.slice cp C.length ccap) (left.set k false) W'/\cT W3.heap.size u8 (aL acc) W'/\aA w W'/\W3.heap.size<=W'.heap.size) ?_ ?_
   ·exact HQ2.out
   rintro W5 ⟨u5,o5,k5,z5⟩
   have U5:=hid u5
   have O5:=hid o5
   have K5:=hid k5
   clear u5 o5 k5 HQ2 hcell hfr v1 v2 HU HO
   obtain ⟨ap,acap,hav,-⟩:=cV O5.out
   subst hav
   rw [aJ] at O5 ⊢
   have hacc:acc.length+1<=n:=by have:=HLN.out;have:=HCN.out;omega
   go_upto_region 7 with (at_builtin;go_loud (refine wpList_append_own_at _ rfl _ _ 37 rfl W3.heap.size 3 i0 (.int .i64 0) 1 8 Tryz.underlying37 hi hz0 hz1 hz2 rfl (by decide) (.slice ap acc.length acap) (aL acc).length ((aL acc).map (Value.int .i64)) rfl (World.ownsRow.alloc O5.out _) ⟨W5.heap.size,0,none⟩ 1 1 [.int .i64 k] rfl rfl fO gF (by rw [aJ];unfold maxLen;omega) (by rw [aJ];omega) (by rw [aD];omega) ?_;intro v6 w6 h1 h2 _ h4;have P6:=hid (fC z5 O5.out h1 h2);obtain ⟨g6,cap6,rfl⟩:=Cn.cN h1 (Nat.succ_pos _);clear h1 h2 h4))
   have HCA:Hid (aL (acc ++ [k])=aL acc ++ [(k:Int)]):=by show _=_;unfold aL;simp
   have U6:=hid (show UpM S C n W0.heap.size cl cc cr (.slice (some ⟨lg,0,none⟩) nw.length lcp) (.slice cp C.length ccap) (left.set k false) w6 from U5.out.same (D:=W3.heap.size) (fun b hb=>P6.out.2.block b hb) P6.out.2.size (by have:=HORD.out;omega) (fun b hb=>by have:=hS b hb;have:=HORD.out;omega) (fun g hg=>by have e:lg=g:=Option.some.inj hg;have:=HLG.out;have:=HORD.out;omega))
   have K6:=hid (show aA w w6 from Below.trans K5.out (P6.out.2.mono (by have:=HORD.out;omega)))
   have O6:=hid P6.out.1
   have hz6:W3.heap.size<=w6.heap.size:=Nat.le_trans z5 P6.out.2.size
   have HN6:=hid (yR S C n W0.heap.size cl cc cr _ _ (left.set k false) w6 U6.out hn)
   clear P6
   go_wp2_with fail
   refine HN6.out.mono ?_
   rintro e w7 ⟨rfl,hw7⟩
   rw [hw7]
   clear hw7 HN6
   go_wp2_with fail
   go_roundg (cnt (left.set k false))
   case rel=>exact ⟨acc ++ [k],left.set k false,rfl,rfl,U6.out,by rw [HCA.out];exact O6.out,HNA.out,by have:=HLN.out;have:=HCN.out;rw [List.length_append,List.length_singleton];omega,K6.out,hz6⟩
   case measure=>have:=HCN.out;have:=HCG.out;omega
def lT (g n:Nat) (cy:List Int) (w:World):Prop:=aW g 3 (cy.map (Value.int .i64)).toArray w/\cy.length=n
theorem lT.keep {g n:Nat} {cy:List Int} {w w':World} (h:lT g n cy w) (k:aA w w'):lT g n cy w':=⟨h.1.keep k h.1.facts.2.2,h.2⟩
theorem lT.cell {g n:Nat} {cy:List Int} {w:World} (h:lT g n cy w) {k:Nat} (hk:k<n):w.cell? ⟨g,k,none⟩=some (.int .i64 (cy.getD k 0))/\w.frozen? ⟨g,k,none⟩=false/\g<w.heap.size:=by
 obtain ⟨a,b,c⟩:=h.1.facts
 refine ⟨?_,b k,c⟩
 rw [a]
 have hl:k<cy.length:=by rw [h.2];exact hk
 simp [List.getD_eq_getElem?_getD,hl]
theorem lT.put {g n:Nat} {cy:List Int} {w:World} (h:lT g n cy w) (k:Nat) (x:Int):lT g n (cy.set k x) (w.setCell ⟨g,k,none⟩ (.int .i64 x)):=by
 refine ⟨?_,by rw [List.length_set];exact h.2⟩
 have:=h.1.set k (.int .i64 x)
 rw [List.setIfInBounds_toArray] at this
 rw [List.map_set]
 exact this
theorem xP (S:Nat->Prop) (C:List (List Bool)) (line:List Nat) (n:Nat) (lp:Option Addr) (lcap:Nat) (cv:Value) (w:World) (hS : ∀ b,S b->b<w.heap.size) (hn:n<=1000) (hl:bN S w (aL line) (.slice lp line.length lcap)) (hcap:line.length<=lcap) (hcm:lcap<=9223372036854775807) (hc:gY S w C cv) (hq:SqB C n) (hin : ∀ x∈line,x<n) (hll:line.length<=n) :
  Calls Tryz.prog 51 #[.slice lp line.length lcap,cv] w fun e w'=>e=.returned (.slice (some ⟨w.heap.size,0,none⟩) n n)/\lT w.heap.size n (aAp (bS C) n line) w'/\aA w w':=by
 have HL:=hid hl
 have HC:=hid hc
 have HQ:=hid hq
 have HIN:=hid hin
 obtain ⟨cp,ccap,rfl,-⟩:=hc.len
 have hcn:C.length=n:=hq.1
 rw [hcn] at HC
 rw [hcn]
 obtain ⟨i0,hi,hz0,hz1,hz2⟩:=info_parts hN
 clear hl hc hq hin hcn
 go_enter Tryz.func51,Tryz.ntmps51
 go_wp2_with (at_make;go_loud (refine wpList_make_full _ rfl _ _ 37 rfl w.heap.size 3 i0 (.int .i64 0) 1 Tryz.underlying37 hi hz0 hz1 .i64 .i64 (n:Int) (n:Int) n rfl rfl rfl rfl (by rw [hz2];omega) (by unfold maxLen;omega) (Nat.le_refl _) ?_;intro w2 h1 h2;have K2:=hid (show aA w w2 from Cn.iI h2);have F2:=hid (show aW w.heap.size 3 (List.replicate n (.int .i64 0)).toArray w2 from Cn.jT (v:= .int .i64 0) rfl h1);clear h1 h2))
 have C2:=hid (show lT w.heap.size n (List.replicate n 0) w2 from ⟨by rw [List.map_replicate];exact F2.out,by simp⟩)
 clear F2
 generalize hg:w.heap.size=g at C2 ⊢
 have HG:=hid hg
 clear hg
 obtain ⟨fin,hfin⟩ : ∃ fin,fin=gR (bS C) line (List.replicate n 0,0):=⟨_,rfl⟩
 have HFIN:=hid hfin
 clear hfin
 go_loopg [16,6] line.length (fun gk iv lv wr=> ∃ (j:Nat) (cy:List Int) (la:Nat),j+gk=line.length/\iv=.int .i64 j/\lv=.int .i64 la/\la<=j/\lT g n cy wr/\aA w wr/\gR (bS C) (line.drop j) (cy,(la:Int))=fin)
 case atStart=>exact ⟨0,_,0,by omega,rfl,rfl,Nat.le_refl _,C2.out,K2.out,by rw [List.drop_zero,HFIN.out];rfl⟩
 case round=>
  obtain ⟨j,cy,la,hjg,rfl,rfl,hla,hcy,hk,hnm⟩:=hrel
  have HCY:=hid hcy
  have HK:=hid hk
  have HNM:=hid hnm
  clear hcy hk hnm
  by_cases hlt:j<line.length
  ·have HDR:Hid (line.drop j=line[j] :: line.drop (j+1)):=List.drop_eq_getElem_cons hlt
   have hkn:=HIN.out _ (List.getElem_mem hlt)
   obtain ⟨p',c',e',-,h3⟩:=HL.out.keep hS HK.out
   rw [aJ] at e' h3
   cases e'
   obtain ⟨lb,loff,rfl,hlb,hcell⟩:=h3 (by omega)
   have hcj:=hcell j _ (eL hlt)
   have hlbl:lb<wr.heap.size:=Nat.lt_of_lt_of_le (hS lb hlb) HK.out.size
   have HCELL:=hid hcell
   obtain ⟨y1,y2,y3⟩:=HCY.out.cell hkn
   rw [HDR.out] at HNM
   clear h3 hcell
   generalize line[j]=k at HDR hkn hcj y1 y2 HNM
   by_cases hpos:0<cy.getD k 0
   ·have HNM2:Hid (gR (bS C) (line.drop (j+1)) (cy,(la:Int))=fin):=by
     show _=_
     have:=HNM.out
     rw [gR,if_pos hpos] at this
     exact this
    generalize cy.getD k 0=x at y1 hpos
    go_wp2_with fail
    go_roundg (line.length-(j+1))
    case rel=>exact ⟨j+1,cy,la,by omega,by go_num,rfl,by omega,HCY.out,HK.out,HNM2.out⟩
    case measure=>omega
   ·have HNM2:Hid (gR (bS C) (line.drop (j+1)) (eP (bS C) k (line.drop (j+1)) (cy,(la:Int)))=fin):=by
     show _=_
     have:=HNM.out
     rw [gR,if_neg hpos] at this
     exact this
    have hjc:j+1<=lcap:=by omega
    have hb1:(0<=(j:Int)+1/\(j:Int)+1<=(line.length:Int)):=by omega
    generalize hx:cy.getD k 0=x at y1 hpos
    have HX:=hid hx
    clear hx HNM
    by_cases hcc:lcap=j+1
    ·subst hcc
     go_upto_region 7 with fail
     go_wp2_with fail
     obtain ⟨WO,rfl⟩ : ∃ WO:World,WO=wr:=⟨_,rfl⟩
     have HZ0:Hid (x=0->(la:Int)=la):=fun _=>rfl
     go_loopg [31,6] (line.length-(j+1)) (fun gk iv lv wr=> ∃ (m:Nat) (cy:List Int) (la:Nat),m+gk=line.length-(j+1)/\iv=.int .i64 m/\lv=.int .i64 la/\(la<=j∨(la<=j+1/\cy.getD k 0≠0))/\lT g n cy wr/\aA w wr/\gR (bS C) (line.drop (j+1)) (eP (bS C) k ((line.drop (j+1)).drop m) (cy,(la:Int)))=fin)
     case atStart=>exact ⟨0,cy,la,by omega,rfl,rfl,.inl hla,HCY.out,HK.out,by rw [List.drop_zero];exact HNM2.out⟩
     case round=>
      obtain ⟨m,cy',la',hmg,rfl,rfl,hla',hcy',hk',hnm'⟩:=hrel
      have HCY':=hid hcy'
      have HK':=hid hk'
      have HNM':=hid hnm'
      have HLA':=hid hla'
      clear hcy' hk' hnm' hla'
      by_cases hlm:m<line.length-(j+1)
      ·omega
      ·have HNM3:Hid (gR (bS C) (line.drop (j+1)) (cy',(la':Int))=fin):=by
        show _=_
        have:=HNM'.out
        rw [show (line.drop (j+1)).drop m = [] from List.drop_eq_nil_of_le (by rw [List.length_drop];omega),eP] at this
        exact this
       have HLA3:Hid (la'<=j+1):=by show _<=_;rcases HLA'.out with h | h<;>omega
       go_wp2_with fail
       go_roundg (line.length-(j+1))
       case rel=>exact ⟨j+1,cy',la',by omega,by go_num,rfl,HLA3.out,HCY'.out,HK'.out,HNM3.out⟩
       case measure=>omega
    ·go_upto_region 7 with fail
     go_wp2_with fail
     obtain ⟨WO,rfl⟩ : ∃ WO:World,WO=wr:=⟨_,rfl⟩
     have HZ0:Hid (x=0->(la:Int)=la):=fun _=>rfl
     go_loopg [31,6] (line.length-(j+1)) (fun gk iv lv wr=> ∃ (m:Nat) (cy:List Int) (la:Nat),m+gk=line.length-(j+1)/\iv=.int .i64 m/\lv=.int .i64 la/\(la<=j∨(la<=j+1/\cy.getD k 0≠0))/\lT g n cy wr/\aA w wr/\gR (bS C) (line.drop (j+1)) (eP (bS C) k ((line.drop (j+1)).drop m) (cy,(la:Int)))=fin)
     case atStart=>exact ⟨0,cy,la,by omega,rfl,rfl,.inl hla,HCY.out,HK.out,by rw [List.drop_zero];exact HNM2.out⟩
     case round=>
      obtain ⟨m,cy',la',hmg,rfl,rfl,hla',hcy',hk',hnm'⟩:=hrel
      have HCY':=hid hcy'
      have HK':=hid hk'
      have HNM':=hid hnm'
      have HLA':=hid hla'
      clear hcy' hk' hnm' hla'
      by_cases hlm:m<line.length-(j+1)
      ·have hmd:m<(line.drop (j+1)).length:=by rw [List.length_drop];exact hlm
       have HDR2:Hid ((line.drop (j+1)).drop m=(line.drop (j+1))[m] :: (line.drop (j+1)).drop (m+1)):=List.drop_eq_getElem_cons hmd
       have hmem:(line.drop (j+1))[m]∈line:=List.mem_of_mem_drop (List.getElem_mem hmd)
       have hon:=HIN.out _ hmem
       have hge:(line.drop (j+1))[m]=line[j+1+m]:=by rw [List.getElem_drop]
       have hcm0:wr.cell? ⟨lb,loff+(j+1+m),none⟩=some (.int .i64 (line.drop (j+1))[m]):=by
        obtain ⟨p',c',e',-,h3⟩:=HL.out.keep hS HK'.out
        rw [aJ] at e' h3
        cases e'
        obtain ⟨lb',loff',e2,-,hcell⟩:=h3 (by omega)
        cases e2
        rw [hge]
        exact hcell (j+1+m) _ (eL (by omega))
       rw [← Nat.add_assoc] at hcm0
       have hlbr:lb<wr.heap.size:=Nat.lt_of_lt_of_le (hS lb hlb) HK'.out.size
       obtain ⟨b1,o1,r1,ro1,rc1,e1,s1,d1,t1,d2⟩:=(HC.out.keep hS HK'.out).at HQ.out hkn hon
       subst e1
       obtain ⟨b2,o2,r2,ro2,rc2,e2,s2,d3,t2,d4⟩:=(HC.out.keep hS HK'.out).at HQ.out hon hkn
       cases e2
       have q1:=Nat.lt_of_lt_of_le (hS _ s1) HK'.out.size
       have q2:=Nat.lt_of_lt_of_le (hS _ t1) HK'.out.size
       have q3:=Nat.lt_of_lt_of_le (hS _ t2) HK'.out.size
       generalize (line.drop (j+1))[m]=o at HDR2 hon hcm0 d1 d2 d3 d4
       obtain ⟨z1,z2,z3⟩:=HCY'.out.cell hkn
       obtain ⟨x1,x2,-⟩:=HCY'.out.cell hon
       rw [HDR2.out,eP] at HNM'
       generalize bS C k o=β1 at d2 HNM'
       generalize bS C o k=β2 at d4 HNM'
       clear hmem hge hmd
       cases β1
       ·have HNM3:=hid (show gR (bS C) (line.drop (j+1)) (eP (bS C) k ((line.drop (j+1)).drop (m+1)) (cy',(la':Int)))=fin from HNM'.out)
        go_wp2_with fail
        go_roundg (line.length-(j+1)-(m+1))
        case rel=>exact ⟨m+1,cy',la',by omega,by go_num,rfl,HLA'.out,HCY'.out,HK'.out,HNM3.out⟩
        case measure=>omega
       ·cases β2
        ·have HNM3:=hid (show gR (bS C) (line.drop (j+1)) (eP (bS C) k ((line.drop (j+1)).drop (m+1)) (cy',(la':Int)))=fin from HNM'.out)
         go_wp2_with fail
         go_roundg (line.length-(j+1)-(m+1))
         case rel=>exact ⟨m+1,cy',la',by omega,by go_num,rfl,HLA'.out,HCY'.out,HK'.out,HNM3.out⟩
         case measure=>omega
        ·by_cases h0:cy'.getD k 0=0
         ·have hla3:la'<=j:=by
           rcases HLA'.out with h | h
           ·exact h
           ·exact absurd h0 h.2
          have HNM3:Hid (gR (bS C) (line.drop (j+1)) (eP (bS C) k ((line.drop (j+1)).drop (m+1)) ((cy'.set k ((la':Int)+1)).set o ((la':Int)+1),(la':Int)+1))=fin):=by
           show _=_
           have:=HNM'.out
           rw [if_pos (by rfl),if_pos h0] at this
           exact this
          rw [h0] at z1
          have HNZ:Hid (((cy'.set k ((la':Int)+1)).set o ((la':Int)+1)).getD k 0≠0):=by
           have e1:o<(cy'.set k ((la':Int)+1)).length:=by rw [List.length_set,HCY'.out.2];exact hon
           rw [dQ e1,dQ (by rw [HCY'.out.2];exact hkn)]
           show ¬ _=_
           split
           ·omega
           ·rw [if_pos rfl];omega
          have P1:=hid (HCY'.out.put k ((la':Int)+1))
          obtain ⟨w1,w2,w3⟩:=P1.out.cell hkn
          rw [dQ (by rw [HCY'.out.2];exact hkn),if_pos rfl] at w1
          obtain ⟨w4,w5,-⟩:=P1.out.cell hon
          have P2:=hid (P1.out.put o ((la':Int)+1))
          have HKP:=hid (show aA w ((wr.setCell ⟨g,k,none⟩ (.int .i64 ((la':Int)+1))).setCell ⟨g,o,none⟩ (.int .i64 ((la':Int)+1))) from Below.trans (Below.trans HK'.out ((aM wr g k _).mono (by have:=HG.out;omega))) ((aM _ g o _).mono (by have:=HG.out;omega)))
          go_wp2_with fail
          go_roundg (line.length-(j+1)-(m+1))
          case rel=>exact ⟨m+1,_,la'+1,by omega,by go_num,by go_num,.inr ⟨by omega,HNZ.out⟩,P2.out,HKP.out,HNM3.out⟩
          case measure=>omega
         ·have HNM3:Hid (gR (bS C) (line.drop (j+1)) (eP (bS C) k ((line.drop (j+1)).drop (m+1)) (cy'.set o (cy'.getD k 0),(la':Int)))=fin):=by
           show _=_
           have:=HNM'.out
           rw [if_pos (by rfl),if_neg h0] at this
           exact this
          have HLA4:Hid (la'<=j∨(la'<=j+1/\(cy'.set o (cy'.getD k 0)).getD k 0≠0)):=by
           refine .inr ⟨by rcases HLA'.out with h | h<;>omega,?_⟩
           rw [dQ (by rw [HCY'.out.2];exact hon)]
           split
           ·exact h0
           ·exact h0
          have P2:=hid (HCY'.out.put o (cy'.getD k 0))
          have HKP:=hid (show aA w (wr.setCell ⟨g,o,none⟩ (.int .i64 (cy'.getD k 0))) from Below.trans HK'.out ((aM wr g o _).mono (by have:=HG.out;omega)))
          generalize cy'.getD k 0=xk at z1 h0 HNM3 HLA4 P2 HKP
          have hxk:(xk==0)=false:=by simpa using h0
          go_wp2_with fail
          go_roundg (line.length-(j+1)-(m+1))
          case rel=>exact ⟨m+1,_,la',by omega,by go_num,rfl,HLA4.out,P2.out,HKP.out,HNM3.out⟩
          case measure=>omega
      ·have HNM3:Hid (gR (bS C) (line.drop (j+1)) (cy',(la':Int))=fin):=by
        show _=_
        have:=HNM'.out
        rw [show (line.drop (j+1)).drop m = [] from List.drop_eq_nil_of_le (by rw [List.length_drop];omega),eP] at this
        exact this
       have HLA3:Hid (la'<=j+1):=by show _<=_;rcases HLA'.out with h | h<;>omega
       go_wp2_with fail
       go_roundg (line.length-(j+1))
       case rel=>exact ⟨j+1,cy',la',by omega,by go_num,rfl,HLA3.out,HCY'.out,HK'.out,HNM3.out⟩
       case measure=>omega
  ·have HE:Hid (cy=aAp (bS C) n line):=by
    show _=_
    have:=HNM.out
    rw [List.drop_eq_nil_of_le (by omega),gR,HFIN.out] at this
    unfold aAp
    rw [← this]
   go_wp2_with fail
   go_ret
   exact ⟨by rw [HG.out];rfl,by rw [HG.out,← HE.out];exact HCY.out,HK.out⟩
end Go.Proofs.YthaaaecmeafofaaGreatDoor
