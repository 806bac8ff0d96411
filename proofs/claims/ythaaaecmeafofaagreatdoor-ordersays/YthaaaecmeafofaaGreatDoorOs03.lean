/- Steps of the proof: AtomParsed, AtomAsked. -/
import Derived.Test.YthaaaecmeafofaaGreatDoorOs02
import Derived.Deep.RegionWith
import Derived.Laws.StructEq
set_option maxHeartbeats 16000000
set_option maxRecDepth 100000
namespace Go.Proofs.YthaaaecmeafofaaGreatDoor
open Go.RowKit
theorem sJ {t:List UInt8} (h:Lib.hasPrefix t [61]=true):eE t=1:=by
 unfold eE;unfold Lib.hasPrefix at h;rw [h];rfl
theorem sK {t:List UInt8} (h1:Lib.hasPrefix t [61]=false) (h:Lib.hasPrefix t [62,61]=true):eE t=2:=by
 unfold eE;unfold Lib.hasPrefix at h1 h;rw [h1,h];rfl
theorem oG {t:List UInt8} (h1:Lib.hasPrefix t [61]=false) (h2:Lib.hasPrefix t [62,61]=false) (h:Lib.hasPrefix t [60]=true):eE t=3:=by
 unfold eE;unfold Lib.hasPrefix at h1 h2 h;rw [h1,h2,h];rfl
theorem qQ {t:List UInt8} (h1:Lib.hasPrefix t [61]=false) (h2:Lib.hasPrefix t [62,61]=false) (h:Lib.hasPrefix t [60]=false):eE t=0:=by
 unfold eE;unfold Lib.hasPrefix at h1 h2 h;rw [h1,h2,h];rfl
theorem mV (t p:List UInt8):(Lib.trimPrefix t p).length<=t.length:=by
 unfold Lib.trimPrefix;split
 ·simp
 ·exact Nat.le_refl _
theorem tU {t p:List UInt8} (h:Lib.hasPrefix t p=true):Lib.trimPrefix t p=t.drop p.length:=by
 unfold Lib.trimPrefix;rw [if_pos h]
theorem gG {t:List UInt8} {k:Int} {j:Nat} (h:eE t=k) (hj:j=if k=2 then 2 else 1):iD t=t.drop j:=by
 unfold iD;rw [h,hj];split<;>rfl
theorem qP {t:List UInt8} (ht:t ≠ []) (h:eE t≠0):eQ t=eB (iD t):=by
 unfold eQ;rw [decide_eq_false ht,decide_eq_true h];rfl
def Old (b:Nat):Prop:=8<b/\1<b/\6<b/\7<b
theorem Env.below {w w':World} {b:Nat} (h:Env w) (k:Below b w w') (o:Old b):Env w':=by
 obtain ⟨h1,⟨h2,h3⟩,⟨h4,t,p,h5⟩,⟨h6,u,q,h7⟩⟩:=h
 obtain ⟨o1,o2,o3,o4⟩:=o
 have c : ∀ g i,g<b->w'.cell? ⟨g,i,none⟩=w.cell? ⟨g,i,none⟩:=fun g i hg=>k.cell (p:=⟨g,i,none⟩) hg
 refine ⟨⟨Nat.lt_of_lt_of_le h1.1 k.size,(c _ _ o1).trans h1.2.1,(c _ _ o1).trans h1.2.2.1,(c _ _ o1).trans h1.2.2.2⟩,⟨Nat.lt_of_lt_of_le h2 k.size,var?_below k hU o2 h3⟩,⟨Nat.lt_of_lt_of_le h4 k.size,t,p,?_⟩,⟨Nat.lt_of_lt_of_le h6 k.size,u,q,?_⟩⟩
 ·exact (c _ _ o3).trans h5
 ·exact (c _ _ o4).trans h7
def aEn (b:Nat) (n f:ByteArray) (sl:Int) (on:Bool) (t:List UInt8) (w:World) (e:Ending) (w':World):Prop:=
 e=.returned (.bool (eQ t))/\(∃ op' v':Int,aP b n op' v' sl f on w'/\(eQ t=true->op'=eE t/\v'=eJ (iD t)))/\Below b w w'
theorem nP (b:Nat) (n f:ByteArray) (op v sl:Int) (on:Bool) (t:ByteArray) (w:World) (h:aP b n op v sl f on w) (hE:Env w) (hs:t.size<=20000) (ht:t.data.toList ≠ []) (ho:Old b) :
  Calls Tryz.prog 283 #[.pointer (some ⟨b,0,none⟩),.string t] w fun e w'=>aEn b n f sl on t.data.toList w e w':=by
 have he:=dH ht
 have hb:b<w.heap.size:=h.facts.2.2
 obtain ⟨hc,hz,_⟩:=h.facts
 have H:Hid (aP b n op v sl f on w):=h
 have HE:Hid (Env w):=hE
 have HT:Hid (t.data.toList ≠ []):=ht
 have hl:=aO t
 have HL:Hid (t.data.toList.length=t.size):=hl
 have s1:=hE.1.2.1
 have s2:=hE.1.2.2.1
 have s3:=hE.1.2.2.2
 clear ht h hE hl
 go_enter Tryz.func283,Tryz.ntmps283
 go_wp2_with fail
 go_loopg [5,6,7] 3 (fun g s5 _ _ wx=>wx=w/\((g=3/\s5=.int .i64 1)∨(g=2/\s5=.int .i64 2/\Hid (Lib.hasPrefix t.data.toList [61]=false))∨(g=1/\s5=.int .i64 3/\Hid (Lib.hasPrefix t.data.toList [61]=false)/\Hid (Lib.hasPrefix t.data.toList [62,61]=false))∨(g=0/\s5=.int .i64 4/\Hid (Lib.hasPrefix t.data.toList [61]=false)/\Hid (Lib.hasPrefix t.data.toList [62,61]=false)/\Hid (Lib.hasPrefix t.data.toList [60]=false))))
 case atStart=>exact ⟨rfl,Or.inl ⟨rfl,rfl⟩⟩
 case round=>
  obtain ⟨rfl,hcase⟩:=hrel
  rcases hcase with ⟨rfl,rfl⟩ | ⟨rfl,rfl,p1⟩ | ⟨rfl,rfl,p1,p2⟩ | ⟨rfl,rfl,p1,p2,p3⟩
  ·cases hp:Lib.hasPrefix t.data.toList [61]
   ·have HP:Hid (Lib.hasPrefix t.data.toList [61]=false):=hp
    clear hp
    go_wp2_with (go_at_call 250;refine (Tryz.strings_CutPrefix _ _ _).mono ?_;rintro e w' ⟨rfl,hw⟩;rw [hw,HP.out];clear hw)
    go_roundg 2
    case measure=>omega
    case rel=>exact ⟨rfl,Or.inr (Or.inl ⟨rfl,rfl,HP⟩)⟩
   ·have HP:Hid (Lib.hasPrefix t.data.toList [61]=true):=hp
    have HV:Hid (eE t.data.toList=1):=sJ HP.out
    have HD:Hid (iD t.data.toList=Lib.trimPrefix t.data.toList [61]):=by show _=_;rw [gG HV.out rfl,tU HP.out];rfl
    have HO:Hid (eQ t.data.toList=eB (Lib.trimPrefix t.data.toList [61])):=by show _=_;rw [qP HT.out (by rw [HV.out];decide),HD.out]
    have hx:(ByteArray.mk (Lib.trimPrefix t.data.toList [61]).toArray).size<=20000:=by rw [mL];have:=mV t.data.toList [61];rw [HL.out] at this;omega
    have HX:Hid ((ByteArray.mk (Lib.trimPrefix t.data.toList [61]).toArray).size<=20000):=hx
    clear hp hx
    go_wp2_with (go_at_call 250;refine (Tryz.strings_CutPrefix _ _ _).mono ?_;rintro e w' ⟨rfl,hw⟩;rw [hw,HP.out];clear hw)
    refine (fD (ByteArray.mk (Lib.trimPrefix t.data.toList [61]).toArray) _ (HE.out.below (aM wr b 1 _) ho) HX.out).mono ?_
    rintro e w1 ⟨k,rfl,hk,k1⟩
    have H1:Hid (aP b n 1 v sl f on w1):=aP.below (aF H.out 1 _) k1 (by simpa [World.setCell] using hb)
    obtain ⟨hc1,hz1,_⟩:=H1.out.facts
    have kk:Below b wr w1:=(aM wr b 1 _).trans (k1.mono (by simp [World.setCell];omega))
    have HK:Hid (eB (Lib.trimPrefix t.data.toList [61])=true->k=eJ (Lib.trimPrefix t.data.toList [61])):=hk
    clear hk hc hz
    go_wp2_with fail
    go_ret
    exact ⟨aG HO.out.symm,⟨1,k,aF H1.out 2 _,fun e=>⟨HV.out.symm,by rw [HD.out];exact HK.out (by rw [← HO.out];exact e)⟩⟩,kk.trans (aM w1 b 2 _)⟩
  ·cases hp:Lib.hasPrefix t.data.toList [62,61]
   ·have HP:Hid (Lib.hasPrefix t.data.toList [62,61]=false):=hp
    clear hp
    go_wp2_with (go_at_call 250;refine (Tryz.strings_CutPrefix _ _ _).mono ?_;rintro e w' ⟨rfl,hw⟩;rw [hw,HP.out];clear hw)
    go_roundg 1
    case measure=>omega
    case rel=>exact ⟨rfl,Or.inr (Or.inr (Or.inl ⟨rfl,rfl,p1,HP⟩))⟩
   ·have HP:Hid (Lib.hasPrefix t.data.toList [62,61]=true):=hp
    have HV:Hid (eE t.data.toList=2):=sK p1.out HP.out
    have HD:Hid (iD t.data.toList=Lib.trimPrefix t.data.toList [62,61]):=by show _=_;rw [gG HV.out rfl,tU HP.out];rfl
    have HO:Hid (eQ t.data.toList=eB (Lib.trimPrefix t.data.toList [62,61])):=by show _=_;rw [qP HT.out (by rw [HV.out];decide),HD.out]
    have hx:(ByteArray.mk (Lib.trimPrefix t.data.toList [62,61]).toArray).size<=20000:=by rw [mL];have:=mV t.data.toList [62,61];rw [HL.out] at this;omega
    have HX:Hid ((ByteArray.mk (Lib.trimPrefix t.data.toList [62,61]).toArray).size<=20000):=hx
    clear hp hx
    go_wp2_with (go_at_call 250;refine (Tryz.strings_CutPrefix _ _ _).mono ?_;rintro e w' ⟨rfl,hw⟩;rw [hw,HP.out];clear hw)
    refine (fD (ByteArray.mk (Lib.trimPrefix t.data.toList [62,61]).toArray) _ (HE.out.below (aM wr b 1 _) ho) HX.out).mono ?_
    rintro e w1 ⟨k,rfl,hk,k1⟩
    have H1:Hid (aP b n 2 v sl f on w1):=aP.below (aF H.out 1 _) k1 (by simpa [World.setCell] using hb)
    obtain ⟨hc1,hz1,_⟩:=H1.out.facts
    have kk:Below b wr w1:=(aM wr b 1 _).trans (k1.mono (by simp [World.setCell];omega))
    have HK:Hid (eB (Lib.trimPrefix t.data.toList [62,61])=true->k=eJ (Lib.trimPrefix t.data.toList [62,61])):=hk
    clear hk hc hz
    go_wp2_with fail
    go_ret
    exact ⟨aG HO.out.symm,⟨2,k,aF H1.out 2 _,fun e=>⟨HV.out.symm,by rw [HD.out];exact HK.out (by rw [← HO.out];exact e)⟩⟩,kk.trans (aM w1 b 2 _)⟩
  ·cases hp:Lib.hasPrefix t.data.toList [60]
   ·have HP:Hid (Lib.hasPrefix t.data.toList [60]=false):=hp
    clear hp
    go_wp2_with (go_at_call 250;refine (Tryz.strings_CutPrefix _ _ _).mono ?_;rintro e w' ⟨rfl,hw⟩;rw [hw,HP.out];clear hw)
    go_roundg 0
    case measure=>omega
    case rel=>exact ⟨rfl,Or.inr (Or.inr (Or.inr ⟨rfl,rfl,p1,p2,HP⟩))⟩
   ·have HP:Hid (Lib.hasPrefix t.data.toList [60]=true):=hp
    have HV:Hid (eE t.data.toList=3):=oG p1.out p2.out HP.out
    have HD:Hid (iD t.data.toList=Lib.trimPrefix t.data.toList [60]):=by show _=_;rw [gG HV.out rfl,tU HP.out];rfl
    have HO:Hid (eQ t.data.toList=eB (Lib.trimPrefix t.data.toList [60])):=by show _=_;rw [qP HT.out (by rw [HV.out];decide),HD.out]
    have hx:(ByteArray.mk (Lib.trimPrefix t.data.toList [60]).toArray).size<=20000:=by rw [mL];have:=mV t.data.toList [60];rw [HL.out] at this;omega
    have HX:Hid ((ByteArray.mk (Lib.trimPrefix t.data.toList [60]).toArray).size<=20000):=hx
    clear hp hx
    go_wp2_with (go_at_call 250;refine (Tryz.strings_CutPrefix _ _ _).mono ?_;rintro e w' ⟨rfl,hw⟩;rw [hw,HP.out];clear hw)
    refine (fD (ByteArray.mk (Lib.trimPrefix t.data.toList [60]).toArray) _ (HE.out.below (aM wr b 1 _) ho) HX.out).mono ?_
    rintro e w1 ⟨k,rfl,hk,k1⟩
    have H1:Hid (aP b n 3 v sl f on w1):=aP.below (aF H.out 1 _) k1 (by simpa [World.setCell] using hb)
    obtain ⟨hc1,hz1,_⟩:=H1.out.facts
    have kk:Below b wr w1:=(aM wr b 1 _).trans (k1.mono (by simp [World.setCell];omega))
    have HK:Hid (eB (Lib.trimPrefix t.data.toList [60])=true->k=eJ (Lib.trimPrefix t.data.toList [60])):=hk
    clear hk hc hz
    go_wp2_with fail
    go_ret
    exact ⟨aG HO.out.symm,⟨3,k,aF H1.out 2 _,fun e=>⟨HV.out.symm,by rw [HD.out];exact HK.out (by rw [← HO.out];exact e)⟩⟩,kk.trans (aM w1 b 2 _)⟩
  ·have HO:Hid (eQ t.data.toList=false):=by show _=_;unfold eQ;rw [decide_eq_false HT.out,qQ p1.out p2.out p3.out];rfl
   go_wp2
   go_ret
   exact ⟨aG HO.out.symm,⟨op,v,H.out,fun e=>by (rw [HO.out] at e;cases e)⟩,Below.refl _ _⟩
end Go.Proofs.YthaaaecmeafofaaGreatDoor
namespace Go.Proofs.YthaaaecmeafofaaGreatDoor
open Go.RowKit
def flL (l:List UInt8):List UInt8:=dD l [43,45]
def a1L (l:List UInt8):List UInt8:=ahead l [43,45]
def slL (l:List UInt8):List UInt8:=dD (a1L l) [58]
def a2L (l:List UInt8):List UInt8:=ahead (a1L l) [58]
def veL (l:List UInt8):List UInt8:=dD (a2L l) [61,60,62]
def nmL (l:List UInt8):List UInt8:=ahead (a2L l) [61,60,62]
def eK (l:List UInt8):Bool:=hZ (flL l)&&fH (slL l)&&eQ (veL l)
theorem iE (l m:List UInt8):(ahead l m).length<=l.length:=by
 unfold ahead;exact List.Sublist.length_le (List.takeWhile_sublist _)
theorem qN (l m:List UInt8):(dD l m).length<=l.length:=by
 unfold dD;exact List.Sublist.length_le (List.dropWhile_sublist _)
theorem aGd:Asc (ByteArray.mk #[61,60,62]).data.toList/\Asc (ByteArray.mk #[58]).data.toList/\Asc (ByteArray.mk #[43,45]).data.toList:=by
 refine ⟨?_,?_,?_⟩
 ·intro j b hb
  have:j=0∨j=1∨j=2∨3<=j:=by omega
  rcases this with rfl | rfl | rfl | h
  ·cases hb;decide
  ·cases hb;decide
  ·cases hb;decide
  ·rw [List.getElem?_eq_none (by simpa using h)] at hb;cases hb
 ·intro j b hb
  have:j=0∨1<=j:=by omega
  rcases this with rfl | h
  ·cases hb;decide
  ·rw [List.getElem?_eq_none (by simpa using h)] at hb;cases hb
 ·intro j b hb
  have:j=0∨j=1∨2<=j:=by omega
  rcases this with rfl | rfl | h
  ·cases hb;decide
  ·cases hb;decide
  ·rw [List.getElem?_eq_none (by simpa using h)] at hb;cases hb
theorem yF (w:World) (o:Obj) (cs:Array Value):((w.alloc o).alloc (.cells cs 71)).heap[w.heap.size+1]? = some (.cells cs 71 (0,0)):=by
 show ((w.heap.push o).push _)[w.heap.size+1]? = _
 rw [Array.getElem?_push,if_pos (by simp)]
theorem aBj (w:World) (o:Obj) (cs:Array Value):((w.alloc (.cells cs 71)).alloc o).heap[w.heap.size]? = some (.cells cs 71 (0,0)):=by
 show ((w.heap.push _).push o)[w.heap.size]? = _
 rw [Array.getElem?_push,if_neg (by simp),Array.getElem?_push,if_pos rfl]
def aBp (l:List UInt8) (w:World) (e:Ending) (w':World):Prop:=
 ∃ (n f:ByteArray) (op v sl:Int) (on:Bool),e=.returned (.tuple #[.agg #[.string n,.int .i64 op,.int .i64 v,.int .i64 sl,.string f,.bool on],.bool (eK l)])
  /\(eK l=true->n.data.toList=nmL l/\op=opV (veL l)/\v=lS (veL l)/\sl=fX (slL l)/\f.data.toList=(flL l).drop 1/\on=onV (flL l))/\aA w w'
theorem oN (b:Nat) (n f:ByteArray) (sl:Int) (on:Bool) (t:ByteArray) (w:World) (h:aP b n 0 0 sl f on w) (hE:Env w) (hs:t.size<=20000) (ho:Old b) :
  Calls Tryz.prog 283 #[.pointer (some ⟨b,0,none⟩),.string t] w fun e w'=>e=.returned (.bool (eQ t.data.toList))/\(∃ op' v':Int,aP b n op' v' sl f on w'/\(eQ t.data.toList=true->op'=opV t.data.toList/\v'=lS t.data.toList))/\Below b w w':=by
 by_cases ht:t.data.toList = []
 ·have he:=gK ht
  have HF:Hid (eQ t.data.toList=true):=by show _=_;simp [eQ,ht]
  have HT:Hid (t.data.toList = []):=ht
  clear ht
  go_enter Tryz.func283,Tryz.ntmps283
  go_wp2
  go_ret
  exact ⟨aG HF.out.symm,⟨0,0,h,fun _=>by rw [HT.out];exact ⟨rfl,rfl⟩⟩,Below.refl _ _⟩
 ·refine (nP b n f 0 0 sl on t w h hE hs ht ho).mono ?_
  rintro e w' ⟨h1,⟨op',v',h2,h3⟩,h4⟩
  refine ⟨h1,⟨op',v',h2,fun ok=> ?_⟩,h4⟩
  unfold opV lS
  rw [if_neg ht,if_neg ht]
  exact h3 ok
theorem aDt (s:ByteArray) (w:World) (hE:Env w) (hs:s.size<=20000) :
  Calls Tryz.prog 277 #[.string s] w fun e w'=>aBp s.data.toList w e w':=by
 have HE:Hid (Env w):=hE
 have ho:Old (w.heap.size+1):=⟨Nat.lt_succ_of_lt hE.1.1,Nat.lt_succ_of_lt hE.2.1.1,Nat.lt_succ_of_lt hE.2.2.1.1,Nat.lt_succ_of_lt hE.2.2.2.1⟩
 have HOld:Hid (Old (w.heap.size+1)):=ho
 have HL:Hid (s.data.toList.length=s.size):=aO s
 clear hE ho
 go_enter Tryz.func277,Tryz.ntmps277
 go_wp2_with fail
 have kz:aA w ((w.alloc (.cells #[.string ⟨#[]⟩,.int .i64 0,.int .i64 0,.int .i64 0,.string ⟨#[]⟩,.bool false] 71)).alloc (.cells #[.string ⟨#[]⟩,.int .i64 0,.int .i64 0,.int .i64 0,.string ⟨#[]⟩,.bool false] 71)):=(aA.alloc _ _).alloc' _
 have r0:Hid (aP w.heap.size ⟨#[]⟩ 0 0 0 ⟨#[]⟩ false ((w.alloc (.cells #[.string ⟨#[]⟩,.int .i64 0,.int .i64 0,.int .i64 0,.string ⟨#[]⟩,.bool false] 71)).alloc (.cells #[.string ⟨#[]⟩,.int .i64 0,.int .i64 0,.int .i64 0,.string ⟨#[]⟩,.bool false] 71))):=aBj _ _ _
 have b0:Hid (aP (w.heap.size+1) ⟨#[]⟩ 0 0 0 ⟨#[]⟩ false ((w.alloc (.cells #[.string ⟨#[]⟩,.int .i64 0,.int .i64 0,.int .i64 0,.string ⟨#[]⟩,.bool false] 71)).alloc (.cells #[.string ⟨#[]⟩,.int .i64 0,.int .i64 0,.int .i64 0,.string ⟨#[]⟩,.bool false] 71))):=yF _ _ _
 generalize hW0:((w.alloc (.cells #[.string ⟨#[]⟩,.int .i64 0,.int .i64 0,.int .i64 0,.string ⟨#[]⟩,.bool false] 71)).alloc (.cells #[.string ⟨#[]⟩,.int .i64 0,.int .i64 0,.int .i64 0,.string ⟨#[]⟩,.bool false] 71))=W0 at kz r0 b0 ⊢
 clear hW0
 have hbz:w.heap.size+1<W0.heap.size:=b0.out.facts.2.2
 refine (qG _ _ _ hs (by decide) (by decide) aGd.2.2).mono ?_
 rintro e w1 ⟨s1,fl,rfl,e1,e2,k1⟩
 go_wp2_with fail
 have hs1:s1.size<=20000:=by rw [← aO,e1];have:=iE s.data.toList [43,45];rw [HL.out] at this;exact Nat.le_trans this hs
 refine (qG _ _ _ hs1 (by decide) (by decide) aGd.2.1).mono ?_
 rintro e w2 ⟨s2,sl,rfl,e3,e4,k2⟩
 go_wp2_with fail
 have hs2:s2.size<=20000:=by rw [← aO,e3];have:=iE s1.data.toList [58];rw [aO] at this;exact Nat.le_trans this hs1
 refine (qG _ _ _ hs2 (by decide) (by decide) aGd.1).mono ?_
 rintro e w3 ⟨nm,ve,rfl,e5,e6,k3⟩
 have k03:aA W0 w3:=(k1.trans k2).trans k3
 have HR:Hid (aP w.heap.size ⟨#[]⟩ 0 0 0 ⟨#[]⟩ false w3):=r0.out.below k03 (by omega)
 have HB:Hid (aP (w.heap.size+1) ⟨#[]⟩ 0 0 0 ⟨#[]⟩ false w3):=b0.out.below k03 hbz
 have K3:Hid (aA w w3):=kz.trans k03
 have hbz3:w.heap.size+1<w3.heap.size:=HB.out.facts.2.2
 have EN:Hid (nm.data.toList=nmL s.data.toList/\fl.data.toList=flL s.data.toList/\sl.data.toList=slL s.data.toList/\ve.data.toList=veL s.data.toList):=by
  refine ⟨?_,e2,?_,?_⟩
  ·rw [e5,e3,e1];rfl
  ·rw [e4,e1];rfl
  ·rw [e6,e3,e1];rfl
 have hsl:sl.size<=20000:=by rw [← aO,e4];have:=qN s1.data.toList [58];rw [aO] at this;exact Nat.le_trans this hs1
 have hve:ve.size<=20000:=by rw [← aO,e6];have:=qN s2.data.toList [61,60,62];rw [aO] at this;exact Nat.le_trans this hs2
 obtain ⟨hc3,hz3,_⟩:=HB.out.facts
 clear e1 e2 e3 e4 e5 e6 k1 k2 k3 k03 r0 b0 kz hs1 hs2 hbz
 go_wp2_with fail
 have B4:Hid (aP (w.heap.size+1) nm 0 0 0 ⟨#[]⟩ false (w3.setCell ⟨w.heap.size+1,0,none⟩ (.string nm))):=aF HB.out 0 _
 have kb4:Below (w.heap.size+1) w3 (w3.setCell ⟨w.heap.size+1,0,none⟩ (.string nm)):=aM _ _ _ _
 refine (tL _ _ _ _ _ _ _ _ _ B4.out).mono ?_
 rintro e w4 ⟨rfl,⟨f4,on4,A4,ft,ff⟩,k4⟩
 have kk4:Below (w.heap.size+1) w3 w4:=kb4.trans k4
 have HA4:Hid (aP (w.heap.size+1) nm 0 0 0 f4 on4 w4):=A4
 have HR4:Hid (aP w.heap.size ⟨#[]⟩ 0 0 0 ⟨#[]⟩ false w4):=HR.out.below kk4 (by omega)
 have HF4:Hid (f4.data.toList=(flL s.data.toList).drop 1/\on4=onV (flL s.data.toList)):=by
  rw [← EN.out.2.1]
  by_cases e:fl.data.toList = []
  ·obtain ⟨rfl,rfl⟩:=ft e
   rw [e]
   exact ⟨rfl,rfl⟩
  ·exact ff e
 rw [EN.out.2.1]
 clear A4 ft ff k4 kb4 B4 hc3 hz3 HB HR
 cases hfo:hZ (flL s.data.toList)
 ·have HO:Hid (eK s.data.toList=false):=by show _=_;unfold eK;rw [hfo];rfl
  clear hfo
  obtain ⟨hcB,hzB,_⟩:=HA4.out.facts
  obtain ⟨hcR,hzR,_⟩:=HR4.out.facts
  have HW:Hid (aP w.heap.size nm 0 0 0 f4 on4 ((((((w4.setCell ⟨w.heap.size,0,none⟩ (.string nm)).setCell ⟨w.heap.size,1,none⟩ (.int .i64 0)).setCell ⟨w.heap.size,2,none⟩ (.int .i64 0)).setCell ⟨w.heap.size,3,none⟩ (.int .i64 0)).setCell ⟨w.heap.size,4,none⟩ (.string f4)).setCell ⟨w.heap.size,5,none⟩ (.bool on4))):=aF (aF (aF (aF (aF (aF HR4.out 0 _) 1 _) 2 _) 3 _) 4 _) 5 _
  have KW:Hid (aA w ((((((w4.setCell ⟨w.heap.size,0,none⟩ (.string nm)).setCell ⟨w.heap.size,1,none⟩ (.int .i64 0)).setCell ⟨w.heap.size,2,none⟩ (.int .i64 0)).setCell ⟨w.heap.size,3,none⟩ (.int .i64 0)).setCell ⟨w.heap.size,4,none⟩ (.string f4)).setCell ⟨w.heap.size,5,none⟩ (.bool on4))):=(((((aA.set (p:=⟨w.heap.size,0,none⟩) (Below.trans K3.out (kk4.mono (Nat.le_succ _))) (Nat.le_refl _) _).set (p:=⟨w.heap.size,1,none⟩) (Nat.le_refl _) _).set (p:=⟨w.heap.size,2,none⟩) (Nat.le_refl _) _).set (p:=⟨w.heap.size,3,none⟩) (Nat.le_refl _) _).set (p:=⟨w.heap.size,4,none⟩) (Nat.le_refl _) _).set (p:=⟨w.heap.size,5,none⟩) (Nat.le_refl _) _
  go_wp2_with fail
  generalize ((((((w4.setCell ⟨w.heap.size,0,none⟩ (.string nm)).setCell ⟨w.heap.size,1,none⟩ (.int .i64 0)).setCell ⟨w.heap.size,2,none⟩ (.int .i64 0)).setCell ⟨w.heap.size,3,none⟩ (.int .i64 0)).setCell ⟨w.heap.size,4,none⟩ (.string f4)).setCell ⟨w.heap.size,5,none⟩ (.bool on4))=W at HW KW ⊢
  obtain ⟨hcW,_,_⟩:=HW.out.facts
  exact bodyPost_ret (v:= .tuple #[.agg #[.string nm,.int .i64 0,.int .i64 0,.int .i64 0,.string f4,.bool on4],.bool false]) (by simp [results,Tryz.results277,go_sem,hcW]) rfl ⟨nm,f4,0,0,0,on4,by rw [HO.out],fun e=>by (rw [HO.out] at e;cases e),KW.out⟩
 ·have HFO:Hid (hZ (flL s.data.toList)=true):=hfo
  clear hfo
  have hE4:Hid (Env w4):=Env.below (HE.out.keep K3.out) kk4 HOld.out
  go_wp2_with fail
  refine (tN _ _ _ _ _ _ _ _ _ HA4.out hE4.out hsl).mono ?_
  rintro e w5 ⟨rfl,⟨sl5,A5,st,sf⟩,k5⟩
  have kk5:Below (w.heap.size+1) w3 w5:=kk4.trans k5
  have HA5:Hid (aP (w.heap.size+1) nm 0 0 sl5 f4 on4 w5):=A5
  have HR5:Hid (aP w.heap.size ⟨#[]⟩ 0 0 0 ⟨#[]⟩ false w5):=HR4.out.below k5 (by omega)
  have HS5:Hid (fH (slL s.data.toList)=true->sl5=fX (slL s.data.toList)):=by
   rw [← EN.out.2.2.1]
   intro ok
   unfold fX
   by_cases e:sl.data.toList = []
   ·rw [if_pos e];exact st e
   ·rw [if_neg e];exact sf e ok
  rw [EN.out.2.2.1]
  clear A5 st sf k5 HA4 HR4
  cases hso:fH (slL s.data.toList)
  ·have HO:Hid (eK s.data.toList=false):=by show _=_;unfold eK;rw [HFO.out,hso];rfl
   clear hso
   obtain ⟨hcB,hzB,_⟩:=HA5.out.facts
   obtain ⟨hcR,hzR,_⟩:=HR5.out.facts
   have HW:Hid (aP w.heap.size nm 0 0 sl5 f4 on4 ((((((w5.setCell ⟨w.heap.size,0,none⟩ (.string nm)).setCell ⟨w.heap.size,1,none⟩ (.int .i64 0)).setCell ⟨w.heap.size,2,none⟩ (.int .i64 0)).setCell ⟨w.heap.size,3,none⟩ (.int .i64 sl5)).setCell ⟨w.heap.size,4,none⟩ (.string f4)).setCell ⟨w.heap.size,5,none⟩ (.bool on4))):=aF (aF (aF (aF (aF (aF HR5.out 0 _) 1 _) 2 _) 3 _) 4 _) 5 _
   have KW:Hid (aA w ((((((w5.setCell ⟨w.heap.size,0,none⟩ (.string nm)).setCell ⟨w.heap.size,1,none⟩ (.int .i64 0)).setCell ⟨w.heap.size,2,none⟩ (.int .i64 0)).setCell ⟨w.heap.size,3,none⟩ (.int .i64 sl5)).setCell ⟨w.heap.size,4,none⟩ (.string f4)).setCell ⟨w.heap.size,5,none⟩ (.bool on4))):=(((((aA.set (p:=⟨w.heap.size,0,none⟩) (Below.trans K3.out (kk5.mono (Nat.le_succ _))) (Nat.le_refl _) _).set (p:=⟨w.heap.size,1,none⟩) (Nat.le_refl _) _).set (p:=⟨w.heap.size,2,none⟩) (Nat.le_refl _) _).set (p:=⟨w.heap.size,3,none⟩) (Nat.le_refl _) _).set (p:=⟨w.heap.size,4,none⟩) (Nat.le_refl _) _).set (p:=⟨w.heap.size,5,none⟩) (Nat.le_refl _) _
   go_wp2_with fail
   generalize ((((((w5.setCell ⟨w.heap.size,0,none⟩ (.string nm)).setCell ⟨w.heap.size,1,none⟩ (.int .i64 0)).setCell ⟨w.heap.size,2,none⟩ (.int .i64 0)).setCell ⟨w.heap.size,3,none⟩ (.int .i64 sl5)).setCell ⟨w.heap.size,4,none⟩ (.string f4)).setCell ⟨w.heap.size,5,none⟩ (.bool on4))=W at HW KW ⊢
   obtain ⟨hcW,_,_⟩:=HW.out.facts
   exact bodyPost_ret (v:= .tuple #[.agg #[.string nm,.int .i64 0,.int .i64 0,.int .i64 sl5,.string f4,.bool on4],.bool false]) (by simp [results,Tryz.results277,go_sem,hcW]) rfl ⟨nm,f4,0,0,sl5,on4,by rw [HO.out],fun e=>by (rw [HO.out] at e;cases e),KW.out⟩
  ·have HSO:Hid (fH (slL s.data.toList)=true):=hso
   clear hso
   have hE5:Hid (Env w5):=Env.below (HE.out.keep K3.out) kk5 HOld.out
   go_wp2_with fail
   refine (oN _ _ _ _ _ _ _ HA5.out hE5.out hve HOld.out).mono ?_
   rintro e w6 ⟨rfl,⟨op6,v6,A6,vt⟩,k6⟩
   have kk6:Below (w.heap.size+1) w3 w6:=kk5.trans k6
   have HA6:Hid (aP (w.heap.size+1) nm op6 v6 sl5 f4 on4 w6):=A6
   have HR6:Hid (aP w.heap.size ⟨#[]⟩ 0 0 0 ⟨#[]⟩ false w6):=HR5.out.below k6 (by omega)
   have HV6:Hid (eQ (veL s.data.toList)=true->op6=opV (veL s.data.toList)/\v6=lS (veL s.data.toList)):=by
    rw [← EN.out.2.2.2];exact vt
   rw [EN.out.2.2.2]
   clear A6 vt k6 HA5 HR5
   have HO:Hid (eK s.data.toList=eQ (veL s.data.toList)):=by show _=_;unfold eK;rw [HFO.out,HSO.out];rfl
   obtain ⟨hcB,hzB,_⟩:=HA6.out.facts
   obtain ⟨hcR,hzR,_⟩:=HR6.out.facts
   have HW:Hid (aP w.heap.size nm op6 v6 sl5 f4 on4 ((((((w6.setCell ⟨w.heap.size,0,none⟩ (.string nm)).setCell ⟨w.heap.size,1,none⟩ (.int .i64 op6)).setCell ⟨w.heap.size,2,none⟩ (.int .i64 v6)).setCell ⟨w.heap.size,3,none⟩ (.int .i64 sl5)).setCell ⟨w.heap.size,4,none⟩ (.string f4)).setCell ⟨w.heap.size,5,none⟩ (.bool on4))):=aF (aF (aF (aF (aF (aF HR6.out 0 _) 1 _) 2 _) 3 _) 4 _) 5 _
   have KW:Hid (aA w ((((((w6.setCell ⟨w.heap.size,0,none⟩ (.string nm)).setCell ⟨w.heap.size,1,none⟩ (.int .i64 op6)).setCell ⟨w.heap.size,2,none⟩ (.int .i64 v6)).setCell ⟨w.heap.size,3,none⟩ (.int .i64 sl5)).setCell ⟨w.heap.size,4,none⟩ (.string f4)).setCell ⟨w.heap.size,5,none⟩ (.bool on4))):=(((((aA.set (p:=⟨w.heap.size,0,none⟩) (Below.trans K3.out (kk6.mono (Nat.le_succ _))) (Nat.le_refl _) _).set (p:=⟨w.heap.size,1,none⟩) (Nat.le_refl _) _).set (p:=⟨w.heap.size,2,none⟩) (Nat.le_refl _) _).set (p:=⟨w.heap.size,3,none⟩) (Nat.le_refl _) _).set (p:=⟨w.heap.size,4,none⟩) (Nat.le_refl _) _).set (p:=⟨w.heap.size,5,none⟩) (Nat.le_refl _) _
   go_wp2_with fail
   generalize ((((((w6.setCell ⟨w.heap.size,0,none⟩ (.string nm)).setCell ⟨w.heap.size,1,none⟩ (.int .i64 op6)).setCell ⟨w.heap.size,2,none⟩ (.int .i64 v6)).setCell ⟨w.heap.size,3,none⟩ (.int .i64 sl5)).setCell ⟨w.heap.size,4,none⟩ (.string f4)).setCell ⟨w.heap.size,5,none⟩ (.bool on4))=W at HW KW ⊢
   obtain ⟨hcW,_,_⟩:=HW.out.facts
   exact bodyPost_ret (v:= .tuple #[.agg #[.string nm,.int .i64 op6,.int .i64 v6,.int .i64 sl5,.string f4,.bool on4],.bool (eQ (veL s.data.toList))]) (by simp [results,Tryz.results277,go_sem,hcW]) rfl ⟨nm,f4,op6,v6,sl5,on4,by rw [HO.out],fun e=>by (rw [HO.out] at e;exact ⟨EN.out.1,(HV6.out e).1,(HV6.out e).2,HS5.out HSO.out,HF4.out.1,HF4.out.2⟩),KW.out⟩
end Go.Proofs.YthaaaecmeafofaaGreatDoor
namespace Go.Proofs.YthaaaecmeafofaaGreatDoor
open Go.RowKit
def iX (l:List UInt8):Int:=
 if 20000<l.length then 2 else if eK l=false then 1 else chk (nmL l) (opV (veL l)) (lS (veL l)) (fX (slL l)) ((flL l).drop 1) (onV (flL l))
def nA (l:List UInt8) (w:World) (e:Ending) (w':World):Prop:=
 ∃ (n f:ByteArray) (op v sl:Int) (on:Bool),e=.returned (.tuple #[.agg #[.string n,.int .i64 op,.int .i64 v,.int .i64 sl,.string f,.bool on],.int .i64 (iX l)])
  /\(iX l=0->n.data.toList=nmL l/\op=opV (veL l)/\v=lS (veL l)/\sl=fX (slL l)/\f.data.toList=(flL l).drop 1/\on=onV (flL l))
  /\(iX l≠0->n=⟨#[]⟩/\op=0/\v=0/\sl=0/\f=⟨#[]⟩/\on=false)/\aA w w'
theorem kL (s:ByteArray) (w:World) (h:s.size<=281474976710656) :
  Calls Tryz.prog 191 #[.string s] w fun e w'=>e=.returned (.string s)/\aA w w':=by
 go_enter Tryz.func191,Tryz.ntmps191
 go_wp2_with (go_at_call 227;refine (Tryz.stringslite_Clone _ _ h).mono ?_;rintro e w' ⟨rfl,k⟩)
 go_ret
 exact ⟨rfl,by assumption⟩
def Mid (w:World) (r b:Nat) (n f:ByteArray) (op v sl:Int) (on:Bool) (W:World):Prop:=aP b n op v sl f on W/\aP r ⟨#[]⟩ 0 0 0 ⟨#[]⟩ false W/\aA w W
theorem Mid.drew {w:World} {r b:Nat} {n f:ByteArray} {op v sl:Int} {on:Bool} {W:World} (h:Mid w r b n f op v sl on W):Mid w r b n f op v sl on W.drew:=⟨h.1,h.2.1,h.2.2.drew⟩
theorem aDd {w:World} {b:Nat} {n f:ByteArray} {op v sl:Int} {on:Bool} {W:World} (h:Mid w w.heap.size b n f op v sl on W) (hb:w.heap.size<b) :
  aP w.heap.size n op v sl f on ((((((((W.setCell ⟨b,0,none⟩ (.string n)).setCell ⟨b,4,none⟩ (.string f)).setCell ⟨w.heap.size,0,none⟩ (.string n)).setCell ⟨w.heap.size,1,none⟩ (.int .i64 op)).setCell ⟨w.heap.size,2,none⟩ (.int .i64 v)).setCell ⟨w.heap.size,3,none⟩ (.int .i64 sl)).setCell ⟨w.heap.size,4,none⟩ (.string f)).setCell ⟨w.heap.size,5,none⟩ (.bool on))/\aA w ((((((((W.setCell ⟨b,0,none⟩ (.string n)).setCell ⟨b,4,none⟩ (.string f)).setCell ⟨w.heap.size,0,none⟩ (.string n)).setCell ⟨w.heap.size,1,none⟩ (.int .i64 op)).setCell ⟨w.heap.size,2,none⟩ (.int .i64 v)).setCell ⟨w.heap.size,3,none⟩ (.int .i64 sl)).setCell ⟨w.heap.size,4,none⟩ (.string f)).setCell ⟨w.heap.size,5,none⟩ (.bool on)):=by
 have r1:aP w.heap.size ⟨#[]⟩ 0 0 0 ⟨#[]⟩ false ((W.setCell ⟨b,0,none⟩ (.string n)).setCell ⟨b,4,none⟩ (.string f)):=(h.2.1.below (aM W b 0 _) hb).below (aM _ b 4 _) hb
 have k1:aA w ((W.setCell ⟨b,0,none⟩ (.string n)).setCell ⟨b,4,none⟩ (.string f)):=(h.2.2.set (p:=⟨b,0,none⟩) (Nat.le_of_lt hb) _).set (p:=⟨b,4,none⟩) (Nat.le_of_lt hb) _
 refine ⟨aF (aF (aF (aF (aF (aF r1 0 _) 1 _) 2 _) 3 _) 4 _) 5 _,?_⟩
 exact (((((aA.set (p:=⟨w.heap.size,0,none⟩) k1 (Nat.le_refl _) _).set (p:=⟨w.heap.size,1,none⟩) (Nat.le_refl _) _).set (p:=⟨w.heap.size,2,none⟩) (Nat.le_refl _) _).set (p:=⟨w.heap.size,3,none⟩) (Nat.le_refl _) _).set (p:=⟨w.heap.size,4,none⟩) (Nat.le_refl _) _).set (p:=⟨w.heap.size,5,none⟩) (Nat.le_refl _) _
theorem zI (s:ByteArray) (W:World) (hs:s.size<=20000) (w:World) (r b:Nat) (n f:ByteArray) (op v sl:Int) (on:Bool) (h:Mid w r b n f op v sl on W) :
  Calls Tryz.prog 191 #[.string s] W fun e w'=>e=.returned (.string s)/\(∀ o,w'.cell? ⟨b,o,none⟩=(#[.string n,.int .i64 op,.int .i64 v,.int .i64 sl,.string f,.bool on]:Array Value)[o]?)/\(∀ o,w'.frozen? ⟨b,o,none⟩=false)/\Mid w r b n f op v sl on w':=by
 refine (kL s W (by omega)).mono ?_
 rintro e w' ⟨rfl,k⟩
 have h1:=h.1.below k h.1.facts.2.2
 exact ⟨rfl,h1.facts.1,h1.facts.2.1,h1,h.2.1.below k h.2.1.facts.2.2,h.2.2.trans k⟩
theorem kU (w:World) (cs:Array Value):(w.alloc (.cells cs 71)).heap[w.heap.size]? = some (.cells cs 71 (0,0)):=by
 show (w.heap.push _)[w.heap.size]? = _
 rw [Array.getElem?_push,if_pos rfl]
theorem xR (s:ByteArray) (w:World) (hs:20000<s.size) :
  Calls Tryz.prog 269 #[.string s] w fun e w'=>nA s.data.toList w e w':=by
 have HP:Hid (iX s.data.toList=2):=by show _=_;unfold iX;rw [aO,if_pos hs]
 have q1:(20000:Int)<(s.size:Int):=by omega
 go_enter Tryz.func269,Tryz.ntmps269
 go_wp2
 exact bodyPost_ret (v:= .tuple #[.agg #[.string ⟨#[]⟩,.int .i64 0,.int .i64 0,.int .i64 0,.string ⟨#[]⟩,.bool false],.int .i64 2]) (by simp [results,Tryz.results269,go_sem]) rfl ⟨⟨#[]⟩,⟨#[]⟩,0,0,0,false,by rw [HP.out],fun e=>by (rw [HP.out] at e;cases e),fun _=>⟨rfl,rfl,rfl,rfl,rfl,rfl⟩,aA.alloc _ _⟩
theorem vG (s:ByteArray) (w:World) (hE:Env w) (hs:s.size<=20000) :
  Calls Tryz.prog 269 #[.string s] w fun e w'=>nA s.data.toList w e w':=by
 have q1 : ¬ (20000:Int)<(s.size:Int):=by omega
 have HE:Hid (Env w):=hE
 have HL:Hid (¬ 20000<s.data.toList.length):=by show ¬ _;rw [aO];omega
 clear hE
 have kz:aA w (w.alloc (.cells #[.string ⟨#[]⟩,.int .i64 0,.int .i64 0,.int .i64 0,.string ⟨#[]⟩,.bool false] 71)):=aA.alloc _ _
 have r0:Hid (aP w.heap.size ⟨#[]⟩ 0 0 0 ⟨#[]⟩ false (w.alloc (.cells #[.string ⟨#[]⟩,.int .i64 0,.int .i64 0,.int .i64 0,.string ⟨#[]⟩,.bool false] 71))):=kU _ _
 go_enter Tryz.func269,Tryz.ntmps269
 go_wp2_with fail
 generalize hW0:(w.alloc (.cells #[.string ⟨#[]⟩,.int .i64 0,.int .i64 0,.int .i64 0,.string ⟨#[]⟩,.bool false] 71))=W0 at kz r0 ⊢
 clear hW0
 refine (aDt _ _ (HE.out.keep kz) hs).mono ?_
 rintro e w1 ⟨n,f,op,v,sl,on,rfl,hr,k1⟩
 have hz0:w.heap.size<W0.heap.size:=r0.out.facts.2.2
 have HR1:Hid (aP w.heap.size ⟨#[]⟩ 0 0 0 ⟨#[]⟩ false w1):=r0.out.below k1 hz0
 have K1:aA w w1:=kz.trans k1
 have hz1:w.heap.size<w1.heap.size:=HR1.out.facts.2.2
 cases hro:eK s.data.toList
 ·have HP:Hid (iX s.data.toList=1):=by show _=_;unfold iX;rw [if_neg HL.out,if_pos hro]
  clear hr hro
  obtain ⟨hcR,hzR,_⟩:=HR1.out.facts
  have HW:Hid (aP w.heap.size ⟨#[]⟩ 0 0 0 ⟨#[]⟩ false (((((((w1.setCell ⟨w.heap.size,0,none⟩ (.string ⟨#[]⟩)).setCell ⟨w.heap.size,1,none⟩ (.int .i64 0)).setCell ⟨w.heap.size,2,none⟩ (.int .i64 0)).setCell ⟨w.heap.size,3,none⟩ (.int .i64 0)).setCell ⟨w.heap.size,4,none⟩ (.string ⟨#[]⟩)).setCell ⟨w.heap.size,5,none⟩ (.bool false)).alloc (.cells #[.string n,.int .i64 op,.int .i64 v,.int .i64 sl,.string f,.bool on] 71))):=aP.below (aF (aF (aF (aF (aF (aF HR1.out 0 _) 1 _) 2 _) 3 _) 4 _) 5 _) (aA.alloc _ _) (by simpa [World.setCell] using hz1)
  have KW:Hid (aA w (((((((w1.setCell ⟨w.heap.size,0,none⟩ (.string ⟨#[]⟩)).setCell ⟨w.heap.size,1,none⟩ (.int .i64 0)).setCell ⟨w.heap.size,2,none⟩ (.int .i64 0)).setCell ⟨w.heap.size,3,none⟩ (.int .i64 0)).setCell ⟨w.heap.size,4,none⟩ (.string ⟨#[]⟩)).setCell ⟨w.heap.size,5,none⟩ (.bool false)).alloc (.cells #[.string n,.int .i64 op,.int .i64 v,.int .i64 sl,.string f,.bool on] 71))):=aA.alloc' ((((((aA.set (p:=⟨w.heap.size,0,none⟩) K1 (Nat.le_refl _) _).set (p:=⟨w.heap.size,1,none⟩) (Nat.le_refl _) _).set (p:=⟨w.heap.size,2,none⟩) (Nat.le_refl _) _).set (p:=⟨w.heap.size,3,none⟩) (Nat.le_refl _) _).set (p:=⟨w.heap.size,4,none⟩) (Nat.le_refl _) _).set (p:=⟨w.heap.size,5,none⟩) (Nat.le_refl _) _) _
  go_wp2_with fail
  generalize ((((((w1.setCell ⟨w.heap.size,0,none⟩ (.string ⟨#[]⟩)).setCell ⟨w.heap.size,1,none⟩ (.int .i64 0)).setCell ⟨w.heap.size,2,none⟩ (.int .i64 0)).setCell ⟨w.heap.size,3,none⟩ (.int .i64 0)).setCell ⟨w.heap.size,4,none⟩ (.string ⟨#[]⟩)).setCell ⟨w.heap.size,5,none⟩ (.bool false)).alloc (.cells #[.string n,.int .i64 op,.int .i64 v,.int .i64 sl,.string f,.bool on] 71)=W at HW KW ⊢
  obtain ⟨hcW,_,_⟩:=HW.out.facts
  have hcn:(1:Int)≠0:=by decide
  exact bodyPost_ret (v:= .tuple #[.agg #[.string ⟨#[]⟩,.int .i64 0,.int .i64 0,.int .i64 0,.string ⟨#[]⟩,.bool false],.int .i64 1]) (by simp [results,Tryz.results269,go_sem,hcW]) rfl ⟨⟨#[]⟩,⟨#[]⟩,0,0,0,false,by rw [HP.out],fun e=>absurd (HP.out.symm.trans e) (hcn),fun _=>⟨rfl,rfl,rfl,rfl,rfl,rfl⟩,KW.out⟩
 ·have HRD:Hid (n.data.toList=nmL s.data.toList/\op=opV (veL s.data.toList)/\v=lS (veL s.data.toList)/\sl=fX (slL s.data.toList)/\f.data.toList=(flL s.data.toList).drop 1/\on=onV (flL s.data.toList)):=hr hro
  have HP:Hid (iX s.data.toList=chk n.data.toList op v sl f.data.toList on):=by
   show _=_
   unfold iX
   obtain ⟨d1,d2,d3,d4,d5,d6⟩:=HRD.out
   rw [if_neg HL.out,if_neg (by rw [hro];decide),d1,← d2,← d3,← d4,d5,← d6]
  have HR2:Hid (aP w.heap.size ⟨#[]⟩ 0 0 0 ⟨#[]⟩ false (w1.alloc (.cells #[.string n,.int .i64 op,.int .i64 v,.int .i64 sl,.string f,.bool on] 71))):=HR1.out.below (aA.alloc _ _) hz1
  have HB2:Hid (aP w1.heap.size n op v sl f on (w1.alloc (.cells #[.string n,.int .i64 op,.int .i64 v,.int .i64 sl,.string f,.bool on] 71))):=kU _ _
  have K2:aA w (w1.alloc (.cells #[.string n,.int .i64 op,.int .i64 v,.int .i64 sl,.string f,.bool on] 71)):=K1.alloc' _
  clear hr hro
  go_wp2_with fail
  generalize hW1:w1.alloc (.cells #[.string n,.int .i64 op,.int .i64 v,.int .i64 sl,.string f,.bool on] 71)=W1 at HR2 HB2 K2 ⊢
  clear hW1
  refine (rJ _ _ _ _ _ _ _).mono ?_
  rintro e w2 ⟨rfl,k2⟩
  have hb2:w1.heap.size<W1.heap.size:=HB2.out.facts.2.2
  have hr2:w.heap.size<W1.heap.size:=HR2.out.facts.2.2
  have HR3:Hid (aP w.heap.size ⟨#[]⟩ 0 0 0 ⟨#[]⟩ false w2):=HR2.out.below k2 hr2
  have HB3:Hid (aP w1.heap.size n op v sl f on w2):=HB2.out.below k2 hb2
  have K3:aA w w2:=K2.trans k2
  generalize chk n.data.toList op v sl f.data.toList on=c at HP ⊢
  by_cases hc0:c=0
  ·subst hc0
   obtain ⟨hcB,hzB,_⟩:=HB3.out.facts
   have hn:n.size<=20000:=by
    have h1:=iE (a2L s.data.toList) [61,60,62]
    have h2:=iE (a1L s.data.toList) [58]
    have h3:=iE s.data.toList [43,45]
    have h4:n.data.toList.length=_:=congrArg List.length HRD.out.1
    rw [aO] at h3 h4
    unfold nmL at h4
    unfold a2L at h4 h1
    unfold a1L at h4 h1 h2
    omega
   have hf:f.size<=20000:=by
    have h3:=qN s.data.toList [43,45]
    have h4:f.data.toList.length=_:=congrArg List.length HRD.out.2.2.2.2.1
    rw [aO] at h3 h4
    unfold flL at h4
    rw [List.length_drop] at h4
    omega
   have HI:Mid w w.heap.size w1.heap.size n f op v sl on w2:=⟨HB3.out,HR3.out,K3⟩
   go_wp2_with fail
   go_region_with (go_at_call 191;refine (zI _ _ ?_ w w.heap.size w1.heap.size n f op v sl on ?_).mono ?_;assumption;(first | exact HI | exact HI.drew);rintro e w' ⟨rfl,hcB,hzB,HI⟩)
   all_goals
    obtain ⟨hcR,hzR,hlR⟩:=HI.2.1.facts
    have hne:w.heap.size≠w1.heap.size:=by omega
    go_wp2_with fail
   all_goals
    obtain ⟨hW,hKW⟩:=aDd HI hz1
    have HW:Hid (aP w.heap.size n op v sl f on ((((((((w'.setCell ⟨w1.heap.size,0,none⟩ (.string n)).setCell ⟨w1.heap.size,4,none⟩ (.string f)).setCell ⟨w.heap.size,0,none⟩ (.string n)).setCell ⟨w.heap.size,1,none⟩ (.int .i64 op)).setCell ⟨w.heap.size,2,none⟩ (.int .i64 v)).setCell ⟨w.heap.size,3,none⟩ (.int .i64 sl)).setCell ⟨w.heap.size,4,none⟩ (.string f)).setCell ⟨w.heap.size,5,none⟩ (.bool on))):=hW
    have KW:Hid (aA w ((((((((w'.setCell ⟨w1.heap.size,0,none⟩ (.string n)).setCell ⟨w1.heap.size,4,none⟩ (.string f)).setCell ⟨w.heap.size,0,none⟩ (.string n)).setCell ⟨w.heap.size,1,none⟩ (.int .i64 op)).setCell ⟨w.heap.size,2,none⟩ (.int .i64 v)).setCell ⟨w.heap.size,3,none⟩ (.int .i64 sl)).setCell ⟨w.heap.size,4,none⟩ (.string f)).setCell ⟨w.heap.size,5,none⟩ (.bool on))):=hKW
    clear hW hKW
    generalize ((((((((w'.setCell ⟨w1.heap.size,0,none⟩ (.string n)).setCell ⟨w1.heap.size,4,none⟩ (.string f)).setCell ⟨w.heap.size,0,none⟩ (.string n)).setCell ⟨w.heap.size,1,none⟩ (.int .i64 op)).setCell ⟨w.heap.size,2,none⟩ (.int .i64 v)).setCell ⟨w.heap.size,3,none⟩ (.int .i64 sl)).setCell ⟨w.heap.size,4,none⟩ (.string f)).setCell ⟨w.heap.size,5,none⟩ (.bool on))=W at HW KW ⊢
    obtain ⟨hcW,_,_⟩:=HW.out.facts
    exact bodyPost_ret (v:= .tuple #[.agg #[.string n,.int .i64 op,.int .i64 v,.int .i64 sl,.string f,.bool on],.int .i64 0]) (by simp [results,Tryz.results269,go_sem,hcW]) rfl ⟨n,f,op,v,sl,on,by rw [HP.out],fun _=>HRD.out,fun e=>absurd HP.out e,KW.out⟩
  ·have hcn:c≠0:=hc0
   have HCN:Hid (c≠0):=hc0
   have hc':(c != 0)=true:=by simp [hc0]
   clear hc0 hcn
   obtain ⟨hcR,hzR,_⟩:=HR3.out.facts
   have HW:Hid (aP w.heap.size ⟨#[]⟩ 0 0 0 ⟨#[]⟩ false ((((((w2.setCell ⟨w.heap.size,0,none⟩ (.string ⟨#[]⟩)).setCell ⟨w.heap.size,1,none⟩ (.int .i64 0)).setCell ⟨w.heap.size,2,none⟩ (.int .i64 0)).setCell ⟨w.heap.size,3,none⟩ (.int .i64 0)).setCell ⟨w.heap.size,4,none⟩ (.string ⟨#[]⟩)).setCell ⟨w.heap.size,5,none⟩ (.bool false))):=aF (aF (aF (aF (aF (aF HR3.out 0 _) 1 _) 2 _) 3 _) 4 _) 5 _
   have KW:Hid (aA w ((((((w2.setCell ⟨w.heap.size,0,none⟩ (.string ⟨#[]⟩)).setCell ⟨w.heap.size,1,none⟩ (.int .i64 0)).setCell ⟨w.heap.size,2,none⟩ (.int .i64 0)).setCell ⟨w.heap.size,3,none⟩ (.int .i64 0)).setCell ⟨w.heap.size,4,none⟩ (.string ⟨#[]⟩)).setCell ⟨w.heap.size,5,none⟩ (.bool false))):=(((((aA.set (p:=⟨w.heap.size,0,none⟩) K3 (Nat.le_refl _) _).set (p:=⟨w.heap.size,1,none⟩) (Nat.le_refl _) _).set (p:=⟨w.heap.size,2,none⟩) (Nat.le_refl _) _).set (p:=⟨w.heap.size,3,none⟩) (Nat.le_refl _) _).set (p:=⟨w.heap.size,4,none⟩) (Nat.le_refl _) _).set (p:=⟨w.heap.size,5,none⟩) (Nat.le_refl _) _
   go_wp2_with fail
   generalize ((((((w2.setCell ⟨w.heap.size,0,none⟩ (.string ⟨#[]⟩)).setCell ⟨w.heap.size,1,none⟩ (.int .i64 0)).setCell ⟨w.heap.size,2,none⟩ (.int .i64 0)).setCell ⟨w.heap.size,3,none⟩ (.int .i64 0)).setCell ⟨w.heap.size,4,none⟩ (.string ⟨#[]⟩)).setCell ⟨w.heap.size,5,none⟩ (.bool false))=W at HW KW ⊢
   obtain ⟨hcW,_,_⟩:=HW.out.facts
   have hcn:=HCN.out
   exact bodyPost_ret (v:= .tuple #[.agg #[.string ⟨#[]⟩,.int .i64 0,.int .i64 0,.int .i64 0,.string ⟨#[]⟩,.bool false],.int .i64 c]) (by simp [results,Tryz.results269,go_sem,hcW]) rfl ⟨⟨#[]⟩,⟨#[]⟩,0,0,0,false,by rw [HP.out],fun e=>absurd (HP.out.symm.trans e) (hcn),fun _=>⟨rfl,rfl,rfl,rfl,rfl,rfl⟩,KW.out⟩
theorem aAt (s:ByteArray) (w:World) (hE:Env w) :
  Calls Tryz.prog 269 #[.string s] w fun e w'=>nA s.data.toList w e w':=by
 by_cases h:20000<s.size
 ·exact xR s w h
 ·exact vG s w hE (by omega)
end Go.Proofs.YthaaaecmeafofaaGreatDoor
namespace Go.Proofs.YthaaaecmeafofaaGreatDoor
theorem aEi {p:UInt8->Bool} : ∀ (a b:List UInt8),(∀ c∈a,p c=true)->(a++b).takeWhile p=a++b.takeWhile p
 | [],_,_=>rfl
 | x :: a,b,h=>by
  rw [List.cons_append,List.takeWhile_cons,if_pos (h x (by simp)),aEi a b (fun c hc=>h c (by simp [hc]))];rfl
theorem aCg {p:UInt8->Bool} : ∀ (a b:List UInt8),(∀ c∈a,p c=true)->(a++b).dropWhile p=b.dropWhile p
 | [],_,_=>rfl
 | x :: a,b,h=>by
  rw [List.cons_append,List.dropWhile_cons,if_pos (h x (by simp)),aCg a b (fun c hc=>h c (by simp [hc]))]
def aBq (m b:List UInt8):Prop:=b = []∨∃ c r,b=c :: r/\m.contains c=true
theorem nO {m a b:List UInt8} (ha : ∀ c∈a,m.contains c=false) (hb:aBq m b):ahead (a++b) m=a/\dD (a++b) m=b:=by
 have ha' : ∀ c∈a,(!m.contains c)=true:=fun c hc=>by rw [ha c hc];rfl
 unfold ahead dD
 rw [aEi a b ha',aCg a b ha']
 rcases hb with rfl | ⟨c,r,rfl,hc⟩
 ·exact ⟨by simp,rfl⟩
 ·have : ¬ (!m.contains c)=true:=by rw [hc];decide
  rw [List.takeWhile_cons,List.dropWhile_cons,if_neg this,if_neg this]
  exact ⟨by simp,rfl⟩
theorem oE (l m:List UInt8):aBq m (dD l m):=by
 unfold dD
 cases h:l.dropWhile fun c=> !m.contains c with
 | nil=>exact Or.inl rfl
 | cons c r=>
  refine Or.inr ⟨c,r,rfl,?_⟩
  have:=List.head?_dropWhile_not (fun c=> !m.contains c) l
  rw [h] at this
  simpa using this
theorem nC (l m:List UInt8):ahead l m++dD l m=l:=List.takeWhile_append_dropWhile
theorem gE {c:UInt8} (h:okB c=true) : [43,45].contains c=false/\[58].contains c=false/\[61,60,62].contains c=false:=by
 have:48<=c.toNat/\c.toNat<=57∨97<=c.toNat/\c.toNat<=122:=by
  simp [okB,gP,uG] at h;omega
 have ne : ∀ d:UInt8,(d.toNat<48∨57<d.toNat/\d.toNat<97)->¬ c=d:=fun d hd e=>by subst e;omega
 simp [ne 43 (by decide),ne 45 (by decide),ne 58 (by decide),ne 60 (by decide),ne 61 (by decide),ne 62 (by decide)]
theorem wR {i:Nat} (h:i<100) : ∀ c∈Lib.decDigits i,okB c=true:=by
 have key : ∀ j:Nat,j<10->okB (UInt8.ofNat (48+j))=true:=by decide
 intro c hc
 by_cases h1:i<10
 ·rw [Lib.decDigits_one h1] at hc
  simp only [List.mem_singleton] at hc
  subst hc;exact key i h1
 ·rw [Lib.decDigits_two h1 h] at hc
  simp only [List.mem_cons,List.not_mem_nil,or_false] at hc
  rcases hc with rfl | rfl
  ·exact key _ (by omega)
  ·exact key _ (by omega)
theorem aBy : ∀ i:Fin 10,Lib.atoiAll [UInt8.ofNat (48+i.val)]=.ok (i.val:Int):=by decide +kernel
theorem aBz : ∀ i:Fin 100,Lib.atoiAll [UInt8.ofNat (48+i.val / 10),UInt8.ofNat (48+i.val % 10)]=.ok (i.val:Int):=by decide +kernel
theorem aBx {i:Nat} (h:i<100):Lib.atoiAll (Lib.decDigits i)=.ok (i:Int):=by
 by_cases h1:i<10
 ·rw [Lib.decDigits_one h1];exact aBy ⟨i,h1⟩
 ·rw [Lib.decDigits_two h1 h];exact aBz ⟨i,h⟩
theorem tH {i:Nat} (h:i<100):eB (Lib.decDigits i)=true/\eJ (Lib.decDigits i)=(i:Int):=by
 unfold eB eJ
 rw [aBx h]
 exact ⟨by simp [dV],rfl⟩
theorem vD {l:List UInt8} (h:eB l=true):Lib.itoa (eJ l)=l:=by
 unfold eB at h
 unfold eJ
 rcases hh:Lib.atoiAll l with v | _ | _
 ·rw [hh] at h;simpa using h
 ·rw [hh] at h;cases h
 ·rw [hh] at h;cases h
theorem kS {n:List UInt8} (h:aI n=true) : ∀ c∈n,okB c=true:=by
 simp [aI] at h;exact h.2
theorem yC {n:List UInt8} {op v sl:Int} {f:List UInt8} {on:Bool} (hc:chk n op v sl f on=0) :
  flL (bR n op v sl f on)=(if f = [] then [] else (if on then 43 else 45) :: f)/\slL (bR n op v sl f on)=(if sl=0 then [] else 58 :: Lib.itoa sl)/\veL (bR n op v sl f on)=(if op=0 then [] else fW op++Lib.itoa v)/\nmL (bR n op v sl f on)=n:=by
 obtain ⟨h1,h2,h3,h4,h5,h6,h7,h8⟩:=jI hc
 have hv0:0<=v/\v<=99:=by
  by_cases e:op=0
  ·subst e;rw [iN h7];decide
  ·have:=kG e h7;omega
 obtain ⟨v,rfl⟩:=Int.eq_ofNat_of_zero_le hv0.1
 obtain ⟨sl,rfl⟩:=Int.eq_ofNat_of_zero_le h5
 have nok:=kS h1
 have vok:=wR (i:=v) (by omega)
 have sok:=wR (i:=sl) (by omega)
 have sg:op=0∨∃ c r,fW op=c :: r/\[61,60,62].contains c=true/\(∀ x∈fW op,[43,45].contains x=false/\[58].contains x=false):=by
  by_cases e:op=0
  ·exact Or.inl e
  ·right
   have:op=1∨op=2∨op=3:=by omega
   rcases this with rfl | rfl | rfl
   ·exact ⟨61,[],rfl,by decide,by decide⟩
   ·exact ⟨62,[61],rfl,by decide,by decide⟩
   ·exact ⟨60,[],rfl,by decide,by decide⟩
 have A:bR n op v sl f on=((n++(if op=0 then [] else fW op++Lib.decDigits v))++(if (sl:Int)=0 then [] else 58 :: Lib.decDigits sl))++(if f = [] then [] else (if on then 43 else 45) :: f):=by
  unfold bR;rw [dV,dV]
 rw [dV,dV]
 have F:=nO (m:= [43,45]) (a:=(n++(if op=0 then [] else fW op++Lib.decDigits v))++(if (sl:Int)=0 then [] else 58 :: Lib.decDigits sl)) (b:=(if f = [] then [] else (if on then 43 else 45) :: f)) (by
  intro c hc
  rcases List.mem_append.1 hc with hc | hc
  ·rcases List.mem_append.1 hc with hc | hc
   ·exact (gE (nok c hc)).1
   ·split at hc
    ·cases hc
    ·rename_i e
     rcases List.mem_append.1 hc with hc | hc
     ·rcases sg with e' | ⟨_,_,_,_,g⟩
      ·exact absurd e' e
      ·exact (g c hc).1
     ·exact (gE (vok c hc)).1
  ·split at hc
   ·cases hc
   ·rcases List.mem_cons.1 hc with rfl | hc
    ·decide
    ·exact (gE (sok c hc)).1) (by
  split
  ·exact Or.inl rfl
  ·refine Or.inr ⟨_,_,rfl,?_⟩
   cases on<;>decide)
 have S:=nO (m:= [58]) (a:=n++(if op=0 then [] else fW op++Lib.decDigits v)) (b:=(if (sl:Int)=0 then [] else 58 :: Lib.decDigits sl)) (by
  intro c hc
  rcases List.mem_append.1 hc with hc | hc
  ·exact (gE (nok c hc)).2.1
  ·split at hc
   ·cases hc
   ·rename_i e
    rcases List.mem_append.1 hc with hc | hc
    ·rcases sg with e' | ⟨_,_,_,_,g⟩
     ·exact absurd e' e
     ·exact (g c hc).2
    ·exact (gE (vok c hc)).2.1) (by
  split
  ·exact Or.inl rfl
  ·exact Or.inr ⟨58,_,rfl,by decide⟩)
 have V:=nO (m:= [61,60,62]) (a:=n) (b:=(if op=0 then [] else fW op++Lib.decDigits v)) (fun c hc=>(gE (nok c hc)).2.2) (by
  split
  ·exact Or.inl rfl
  ·rename_i e
   rcases sg with e' | ⟨c,r,g1,g2,_⟩
   ·exact absurd e' e
   ·rw [g1];exact Or.inr ⟨c,_,rfl,g2⟩)
 unfold nmL veL slL flL a2L a1L
 rw [A,F.1,F.2,S.1,S.2,V.1,V.2]
 exact ⟨rfl,rfl,rfl,rfl⟩
theorem wB {n:List UInt8} {op v sl:Int} {f:List UInt8} {on:Bool} (hc:chk n op v sl f on=0):(bR n op v sl f on).length<=100:=by
 obtain ⟨h1,h2,h3,h4,h5,h6,h7,h8⟩:=jI hc
 have hv0:0<=v/\v<=99:=by
  by_cases e:op=0
  ·subst e;rw [iN h7];decide
  ·have:=kG e h7;omega
 obtain ⟨v,rfl⟩:=Int.eq_ofNat_of_zero_le hv0.1
 obtain ⟨sl,rfl⟩:=Int.eq_ofNat_of_zero_le h5
 have l1:=jY h1
 have l2:f.length<=8:=by
  rcases h2 with rfl | h2
  ·simp
  ·exact jY h2
 have l3:=mF (i:=v) (by omega)
 have l4:=mF (i:=sl) (by omega)
 have l5:(fW op).length<=2:=by
  have:op=0∨op=1∨op=2∨op=3:=by omega
  rcases this with rfl | rfl | rfl | rfl<;>decide
 unfold bR
 rw [dV,dV]
 have p1:(if op=0 then [] else fW op++Lib.decDigits v).length<=4:=by split<;>simp<;>omega
 have p2:(if (sl:Int)=0 then [] else 58 :: Lib.decDigits sl).length<=3:=by split<;>simp<;>omega
 have p3:(if f = [] then [] else (if on then 43 else 45:UInt8) :: f).length<=9:=by split<;>simp<;>omega
 simp only [List.length_append]
 omega
theorem qR (op:Int) (d:List UInt8) (h0:op≠0) (h1:0<=op) (h2:op<4):eE (fW op++d)=op/\iD (fW op++d)=d:=by
 have:op=1∨op=2∨op=3:=by omega
 rcases this with rfl | rfl | rfl
 ·exact ⟨rfl,rfl⟩
 ·exact ⟨rfl,rfl⟩
 ·exact ⟨rfl,rfl⟩
theorem xS {n:List UInt8} {op v sl:Int} {f:List UInt8} {on:Bool} (hc:chk n op v sl f on=0) :
  iX (bR n op v sl f on)=0/\nmL (bR n op v sl f on)=n/\opV (veL (bR n op v sl f on))=op/\lS (veL (bR n op v sl f on))=v/\fX (slL (bR n op v sl f on))=sl/\(flL (bR n op v sl f on)).drop 1=f/\onV (flL (bR n op v sl f on))=on:=by
 obtain ⟨p1,p2,p3,p4⟩:=yC hc
 have hl:=wB hc
 obtain ⟨h1,h2,h3,h4,h5,h6,h7,h8⟩:=jI hc
 have hv0:0<=v/\v<=99:=by
  by_cases e:op=0
  ·subst e;rw [iN h7];decide
  ·have:=kG e h7;omega
 obtain ⟨v',hv'⟩:=Int.eq_ofNat_of_zero_le hv0.1
 obtain ⟨sl',hsl'⟩:=Int.eq_ofNat_of_zero_le h5
 have nv:eB (Lib.itoa v)=true/\eJ (Lib.itoa v)=v:=by
  rw [hv',dV];exact tH (by omega)
 have ns:eB (Lib.itoa sl)=true/\eJ (Lib.itoa sl)=sl:=by
  rw [hsl',dV];exact tH (by omega)
 have q1:(flL (bR n op v sl f on)).drop 1=f:=by
  rw [p1];split
  ·rename_i e;rw [e];rfl
  ·rfl
 have q2:onV (flL (bR n op v sl f on))=on:=by
  rw [p1];split
  ·rename_i e
   cases on
   ·rfl
   ·exact absurd e (h8 rfl)
  ·cases on<;>rfl
 have q3:fX (slL (bR n op v sl f on))=sl:=by
  rw [p2]
  by_cases e:sl=0
  ·rw [if_pos e,e];rfl
  ·rw [if_neg e];unfold fX;rw [if_neg (by simp)];exact ns.2
 have q4:opV (veL (bR n op v sl f on))=op/\lS (veL (bR n op v sl f on))=v:=by
  rw [p3]
  by_cases e:op=0
  ·subst e;rw [if_pos rfl];exact ⟨rfl,(iN h7).symm⟩
  ·rw [if_neg e]
   have hne:fW op++Lib.itoa v ≠ []:=by
    have:op=1∨op=2∨op=3:=by omega
    rcases this with rfl | rfl | rfl<;>(intro h;cases h)
   obtain ⟨g1,g2⟩:=qR op (Lib.itoa v) e h3 h4
   unfold opV lS
   rw [if_neg hne,if_neg hne,g1,g2]
   exact ⟨rfl,nv.2⟩
 refine ⟨?_,p4,q4.1,q4.2,q3,q1,q2⟩
 have ok:eK (bR n op v sl f on)=true:=by
  unfold eK
  have o1:hZ (flL (bR n op v sl f on))=true:=by
   unfold hZ
   rw [q1,p1]
   by_cases e:f = []
   ·rw [if_pos e];rfl
   ·rw [decide_eq_true (p:=f ≠ []) e,Bool.or_true]
  have o2:fH (slL (bR n op v sl f on))=true:=by
   rw [p2]
   by_cases e:sl=0
   ·rw [if_pos e];rfl
   ·rw [if_neg e]
    unfold fH
    rw [show (58 :: Lib.itoa sl).drop 1=Lib.itoa sl from rfl,ns.1,ns.2,decide_eq_true e]
    rfl
  have o3:eQ (veL (bR n op v sl f on))=true:=by
   rw [p3]
   by_cases e:op=0
   ·rw [if_pos e];rfl
   ·rw [if_neg e]
    obtain ⟨g1,g2⟩:=qR op (Lib.itoa v) e h3 h4
    unfold eQ
    rw [g1,g2,nv.1,decide_eq_true e]
    simp
  rw [o1,o2,o3];rfl
 unfold iX
 rw [if_neg (by omega),if_neg (by rw [ok];decide),p4,q4.1,q4.2,q3,q1,q2]
 exact hc
theorem yB {l:List UInt8} (h:iX l=0):chk (nmL l) (opV (veL l)) (lS (veL l)) (fX (slL l)) ((flL l).drop 1) (onV (flL l))=0/\bR (nmL l) (opV (veL l)) (lS (veL l)) (fX (slL l)) ((flL l).drop 1) (onV (flL l))=l:=by
 unfold iX at h
 split at h
 ·cases h
 split at h
 ·cases h
 rename_i h1 h2
 refine ⟨h,?_⟩
 have ok:eK l=true:=by
  cases e:eK l
  ·exact absurd e h2
  ·rfl
 unfold eK at ok
 simp only [Bool.and_eq_true] at ok
 obtain ⟨⟨o1,o2⟩,o3⟩:=ok
 have F:(if (flL l).drop 1 = [] then [] else (if onV (flL l) then 43 else 45) :: (flL l).drop 1)=flL l:=by
  rcases oE l [43,45] with e | ⟨c,r,e,hc⟩
  ·have e':flL l = []:=e
   rw [e'];rfl
  ·have e':flL l=c :: r:=e
   rw [e'] at o1 ⊢
   have hr:r ≠ []:=by unfold hZ at o1;simpa using o1
   rw [show (c :: r).drop 1=r from rfl,if_neg hr]
   have:c=43∨c=45:=by simpa using hc
   rcases this with rfl | rfl<;>rfl
 have S:(if fX (slL l)=0 then [] else 58 :: Lib.itoa (fX (slL l)))=slL l:=by
  rcases oE (a1L l) [58] with e | ⟨c,r,e,hc⟩
  ·have e':slL l = []:=e
   rw [e'];rfl
  ·have e':slL l=c :: r:=e
   rw [e'] at o2 ⊢
   have hc':c=58:=by simpa using hc
   unfold fH at o2
   rw [show (c :: r).drop 1=r from rfl] at o2
   simp only [Bool.or_eq_true,Bool.and_eq_true,decide_eq_true_eq] at o2
   have o2':=o2.resolve_left (by simp)
   have sv:fX (c :: r)=eJ r:=by unfold fX;rw [if_neg (by simp)];rfl
   rw [sv,if_neg o2'.2,vD o2'.1,hc']
 have V:(if opV (veL l)=0 then [] else fW (opV (veL l))++Lib.itoa (lS (veL l)))=veL l:=by
  by_cases e:veL l = []
  ·rw [e];rfl
  ·unfold opV lS
   rw [if_neg e,if_neg e]
   unfold eQ at o3
   simp only [Bool.or_eq_true,Bool.and_eq_true,decide_eq_true_eq] at o3
   have o3':=o3.resolve_left e
   rw [if_neg o3'.1,vD o3'.2]
   generalize veL l=t at o3' e ⊢
   by_cases c1 : [61].isPrefixOf t=true
   ·have hv:eE t=1:=sJ c1
    rw [gG hv rfl,hv]
    obtain ⟨x,hx⟩:=List.isPrefixOf_iff_prefix.1 c1
    subst hx;rfl
   ·by_cases c2 : [62,61].isPrefixOf t=true
    ·have hv:eE t=2:=sK (Bool.eq_false_iff.2 c1) c2
     rw [gG hv rfl,hv]
     obtain ⟨x,hx⟩:=List.isPrefixOf_iff_prefix.1 c2
     subst hx;rfl
    ·by_cases c3 : [60].isPrefixOf t=true
     ·have hv:eE t=3:=oG (Bool.eq_false_iff.2 c1) (Bool.eq_false_iff.2 c2) c3
      rw [gG hv rfl,hv]
      obtain ⟨x,hx⟩:=List.isPrefixOf_iff_prefix.1 c3
      subst hx;rfl
     ·exact absurd (qQ (Bool.eq_false_iff.2 c1) (Bool.eq_false_iff.2 c2) (Bool.eq_false_iff.2 c3)) o3'.1
 unfold bR
 rw [F,S,V]
 show ((nmL l++veL l)++slL l)++flL l=l
 have e1:nmL l++veL l=a2L l:=nC _ _
 have e2:a2L l++slL l=a1L l:=nC _ _
 have e3:a1L l++flL l=l:=nC _ _
 rw [e1,e2,e3]
end Go.Proofs.YthaaaecmeafofaaGreatDoor
namespace Go.Proofs.YthaaaecmeafofaaGreatDoor
open Go.RowKit
def hY (n:ByteArray) (op v sl:Int) (f:ByteArray) (on:Bool) (n':ByteArray) (op' v' sl':Int) (f':ByteArray) (on':Bool):Bool:=
 (n.toList==n'.toList)&&((op==op')&&((v==v')&&((sl==sl')&&((f.toList==f'.toList)&&(on==on')))))
theorem xV {n:ByteArray} {op v sl:Int} {f:ByteArray} {on:Bool} {n':ByteArray} {op' v' sl':Int} {f':ByteArray} {on':Bool} :
  hY n op v sl f on n' op' v' sl' f' on'=true↔n.data.toList=n'.data.toList/\op=op'/\v=v'/\sl=sl'/\f.data.toList=f'.data.toList/\on=on':=by
 unfold hY
 rw [Lib.toList_data,Lib.toList_data,Lib.toList_data,Lib.toList_data]
 simp
theorem nH (n:ByteArray) (op v sl:Int) (f:ByteArray) (on:Bool) (n':ByteArray) (op' v' sl':Int) (f':ByteArray) (on':Bool) (w:World) :
  (Op.equalIn 10000 71 (.agg #[.string n,.int .i64 op,.int .i64 v,.int .i64 sl,.string f,.bool on]) (.agg #[.string n',.int .i64 op',.int .i64 v',.int .i64 sl',.string f',.bool on'])).run Tryz.prog w=.ok (hY n op v sl f on n' op' v' sl' f' on') w:=by
 have u3:=Tryz.underlying3
 have a3:=Tryz.isAgg3
 have z3:=Tryz.sizeOf3
 have hS:Tryz.prog.underlying 71=some (.struct (Tryz.prog.fieldsOf 71)):=by kernel_rfl
 have hp:Tryz.prog.stoodInHeld 71=false:=by kernel_rfl
 rw [show (10000:Nat)=9999+1 from rfl,run_equalIn_agg w 9999 71 _ _ hS hp]
 clear hS hp
 simp only [Program.fieldsOf,Tryz.underlying71]
 go_simp
 unfold hY
 by_cases h1:n.toList=n'.toList<;>by_cases h2:op=op'<;>by_cases h3:v=v'<;>by_cases h4:sl=sl'<;>by_cases h5:f.toList=f'.toList<;>by_cases h6:on=on'<;>simp [h1,h2,h3,h4,h5,h6]
theorem uS {k:Nat} (h:k<10):Lib.itoa (k:Int) = [UInt8.ofNat (48+k)]:=by rw [dV,Lib.decDigits_one h]
end Go.Proofs.YthaaaecmeafofaaGreatDoor
