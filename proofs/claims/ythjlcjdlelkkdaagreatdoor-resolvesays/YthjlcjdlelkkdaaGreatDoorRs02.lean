/- Steps of the proof. -/
import Derived.Test.YthjlcjdlelkkdaaGreatDoorRs01
import Derived.Deep.RegionWith
import Derived.Laws.StructEq
import Derived.Lib.Split
import Derived.Lib.Join
import Derived.Lib.SplitLaws
set_option maxHeartbeats 16000000
set_option maxRecDepth 100000
namespace Go.Proofs.YthjlcjdlelkkdaaGreatDoor
open Go.RowKit
theorem zZ{t:List UInt8}(h:Lib.hasPrefix t [61]=true):fT t=1:=by
 unfold fT;unfold Lib.hasPrefix at h;rw[h];rfl
theorem aAa{t:List UInt8}(h1:Lib.hasPrefix t [61]=false)(h:Lib.hasPrefix t [62,61]=true):fT t=2:=by
 unfold fT;unfold Lib.hasPrefix at h1 h;rw[h1,h];rfl
theorem tI{t:List UInt8}(h1:Lib.hasPrefix t [61]=false)(h2:Lib.hasPrefix t [62,61]=false)(h:Lib.hasPrefix t [60]=true):fT t=3:=by
 unfold fT;unfold Lib.hasPrefix at h1 h2 h;rw[h1,h2,h];rfl
theorem xH{t:List UInt8}(h1:Lib.hasPrefix t [61]=false)(h2:Lib.hasPrefix t [62,61]=false)(h:Lib.hasPrefix t [60]=false):fT t=0:=by
 unfold fT;unfold Lib.hasPrefix at h1 h2 h;rw[h1,h2,h];rfl
theorem rS(t p:List UInt8):(Lib.trimPrefix t p).length<=t.length:=by
 unfold Lib.trimPrefix;split
 ·simp
 ·exact Y1 _
theorem aBx{t p:List UInt8}(h:Lib.hasPrefix t p=true):Lib.trimPrefix t p=t.drop p.length:=by
 unfold Lib.trimPrefix;rw[if_pos h]
theorem jN{t:List UInt8}{k:Int}{j:Nat}(h:fT t=k)(hj:j=if k=2 then 2 else 1):lL t=t.drop j:=by
 unfold lL;rw[h,hj];split<;>rfl
theorem xG{t:List UInt8}(ht:t ≠ [])(h:fT t≠0):gF t=fK (lL t):=by
 unfold gF;rw[Y8 ht,Y7 h];rfl
def Old(b:Nat):Prop:=8<b/\1<b/\4<b/\5<b
theorem Env.below{w w':World}{b:Nat}(h:Env w)(k:Below b w w')(o:Old b):Env w':=by
 obtain⟨h1,⟨h2,h3⟩,⟨h4,t,p,h5⟩,⟨h6,u,q,h7⟩⟩:=h;obtain⟨o1,o2,o3,o4⟩:=o;have c:∀g i,g<b->w'.cell? ⟨g,i,none⟩=w.cell? ⟨g,i,none⟩:=fun g i hg=>k.cell (p:=⟨g,i,none⟩) hg;refine⟨⟨R8 h1.1 k.size,(c _ _ o1).trans h1.2.1,(c _ _ o1).trans h1.2.2.1,(c _ _ o1).trans h1.2.2.2⟩,⟨R8 h2 k.size,var?_below k kU o2 h3⟩,⟨R8 h4 k.size,t,p,?_⟩,⟨R8 h6 k.size,u,q,?_⟩⟩
 ·exact (c _ _ o3).trans h5
 ·exact (c _ _ o4).trans h7
def aSu(b:Nat)(n f:ByteArray)(sl:Int)(on:Bool)(t:List UInt8)(w:World)(e:Ending)(w':World):Prop:=
 e=.returned (.bool (gF t))/\(∃op' v':Int,aV b n op' v' sl f on w'/\(gF t=true->op'=fT t/\v'=fX (lL t)))/\Below b w w'
theorem sO(b:Nat)(n f:ByteArray)(op v sl:Int)(on:Bool)(t:ByteArray)(w:World)(h:aV b n op v sl f on w)(hE:Env w)(hs:t.size<=20000)(ht:t.data.toList ≠ [])(ho:Old b):
  Calls Tryz.prog 226 #[.pointer (some ⟨b,0,none⟩),.string t] w fun e w'=>aSu b n f sl on t.data.toList w e w':=by
 have he:=eI ht;have hb:b<w.heap.size:=h.facts.2.2;obtain⟨hc,hz,_⟩:=h.facts;have H:Hid (aV b n op v sl f on w):=h;have HE:Hid (Env w):=hE;have HT:Hid (t.data.toList ≠ []):=ht;have hl:=aU t;have HL:Hid (t.data.toList.length=t.size):=hl;have s1:=hE.1.2.1;have s2:=hE.1.2.2.1;have s3:=hE.1.2.2.2;clear ht h hE hl;go_enter Tryz.func226,Tryz.ntmps226;go_wp2_with fail;go_loopg [5,6,7] 3 (fun g s5 _ _ wx=>wx=w/\((g=3/\s5=.int .i64 1)\/(g=2/\s5=.int .i64 2/\Hid (Lib.hasPrefix t.data.toList [61]=false))\/(g=1/\s5=.int .i64 3/\Hid (Lib.hasPrefix t.data.toList [61]=false)/\Hid (Lib.hasPrefix t.data.toList [62,61]=false))\/(g=0/\s5=.int .i64 4/\Hid (Lib.hasPrefix t.data.toList [61]=false)/\Hid (Lib.hasPrefix t.data.toList [62,61]=false)/\Hid (Lib.hasPrefix t.data.toList [60]=false))));case atStart=>exact⟨rfl,Or.inl ⟨rfl,rfl⟩⟩
 case round=>
  obtain⟨rfl,a0⟩:=hrel;rcases a0 with ⟨rfl,rfl⟩ | ⟨rfl,rfl,p1⟩ | ⟨rfl,rfl,p1,p2⟩ | ⟨rfl,rfl,p1,p2,p3⟩
  ·cases hp:Lib.hasPrefix t.data.toList [61]
   ·have HP:Hid (Lib.hasPrefix t.data.toList [61]=false):=hp;clear hp;go_wp2_with (go_at_call 176;refine (Tryz.strings_CutPrefix _ _ _).mono ?_;rintro e w' ⟨rfl,hw⟩;rw[hw,HP.out];clear hw)
    go_roundg 2;case measure=>omega
    case rel=>exact⟨rfl,Or.inr (Or.inl ⟨rfl,rfl,HP⟩)⟩
   ·have HP:Hid (Lib.hasPrefix t.data.toList [61]=true):=hp;have HV:Hid (fT t.data.toList=1):=zZ HP.out;have HD:Hid (lL t.data.toList=Lib.trimPrefix t.data.toList [61]):=by show _=_;rw[jN HV.out rfl,aBx HP.out];rfl
    have HO:Hid (gF t.data.toList=fK (Lib.trimPrefix t.data.toList [61])):=by show _=_;rw[xG HT.out (by rw[HV.out];decide),HD.out]
    have hx:(ByteArray.mk (Lib.trimPrefix t.data.toList [61]).toArray).size<=20000:=by rw[oW];have:=rS t.data.toList [61];rw[HL.out] at this;omega
    have HX:Hid ((ByteArray.mk (Lib.trimPrefix t.data.toList [61]).toArray).size<=20000):=hx;clear hp hx;go_wp2_with (go_at_call 176;refine (Tryz.strings_CutPrefix _ _ _).mono ?_;rintro e w' ⟨rfl,hw⟩;rw[hw,HP.out];clear hw)
    refine (iC (ByteArray.mk (Lib.trimPrefix t.data.toList [61]).toArray) _ (HE.out.below (aQ wr b 1 _) ho) HX.out).mono ?_;rintro e w1 ⟨k,rfl,hk,k1⟩;have H1:Hid (aV b n 1 v sl f on w1):=aV.below (aJ H.out 1 _) k1 (by simpa[World.setCell] using hb);obtain⟨a2,a1,_⟩:=H1.out.facts;have kk:Below b wr w1:=(aQ wr b 1 _).trans (k1.mono (by simp[World.setCell];omega));have HK:Hid (fK (Lib.trimPrefix t.data.toList [61])=true->k=fX (Lib.trimPrefix t.data.toList [61])):=hk;clear hk hc hz;go_wp2_with fail;go_ret;exact⟨aK HO.out.symm,⟨1,k,aJ H1.out 2 _,fun e=>⟨HV.out.symm,by rw[HD.out];exact HK.out (by rw[<-HO.out];exact e)⟩⟩,kk.trans (aQ w1 b 2 _)⟩
  ·cases hp:Lib.hasPrefix t.data.toList [62,61]
   ·have HP:Hid (Lib.hasPrefix t.data.toList [62,61]=false):=hp;clear hp;go_wp2_with (go_at_call 176;refine (Tryz.strings_CutPrefix _ _ _).mono ?_;rintro e w' ⟨rfl,hw⟩;rw[hw,HP.out];clear hw)
    go_roundg 1;case measure=>omega
    case rel=>exact⟨rfl,Or.inr (Or.inr (Or.inl ⟨rfl,rfl,p1,HP⟩))⟩
   ·have HP:Hid (Lib.hasPrefix t.data.toList [62,61]=true):=hp;have HV:Hid (fT t.data.toList=2):=aAa p1.out HP.out;have HD:Hid (lL t.data.toList=Lib.trimPrefix t.data.toList [62,61]):=by show _=_;rw[jN HV.out rfl,aBx HP.out];rfl
    have HO:Hid (gF t.data.toList=fK (Lib.trimPrefix t.data.toList [62,61])):=by show _=_;rw[xG HT.out (by rw[HV.out];decide),HD.out]
    have hx:(ByteArray.mk (Lib.trimPrefix t.data.toList [62,61]).toArray).size<=20000:=by rw[oW];have:=rS t.data.toList [62,61];rw[HL.out] at this;omega
    have HX:Hid ((ByteArray.mk (Lib.trimPrefix t.data.toList [62,61]).toArray).size<=20000):=hx;clear hp hx;go_wp2_with (go_at_call 176;refine (Tryz.strings_CutPrefix _ _ _).mono ?_;rintro e w' ⟨rfl,hw⟩;rw[hw,HP.out];clear hw)
    refine (iC (ByteArray.mk (Lib.trimPrefix t.data.toList [62,61]).toArray) _ (HE.out.below (aQ wr b 1 _) ho) HX.out).mono ?_;rintro e w1 ⟨k,rfl,hk,k1⟩;have H1:Hid (aV b n 2 v sl f on w1):=aV.below (aJ H.out 1 _) k1 (by simpa[World.setCell] using hb);obtain⟨a2,a1,_⟩:=H1.out.facts;have kk:Below b wr w1:=(aQ wr b 1 _).trans (k1.mono (by simp[World.setCell];omega));have HK:Hid (fK (Lib.trimPrefix t.data.toList [62,61])=true->k=fX (Lib.trimPrefix t.data.toList [62,61])):=hk;clear hk hc hz;go_wp2_with fail;go_ret;exact⟨aK HO.out.symm,⟨2,k,aJ H1.out 2 _,fun e=>⟨HV.out.symm,by rw[HD.out];exact HK.out (by rw[<-HO.out];exact e)⟩⟩,kk.trans (aQ w1 b 2 _)⟩
  ·cases hp:Lib.hasPrefix t.data.toList [60]
   ·have HP:Hid (Lib.hasPrefix t.data.toList [60]=false):=hp;clear hp;go_wp2_with (go_at_call 176;refine (Tryz.strings_CutPrefix _ _ _).mono ?_;rintro e w' ⟨rfl,hw⟩;rw[hw,HP.out];clear hw)
    go_roundg 0;case measure=>omega
    case rel=>exact⟨rfl,Or.inr (Or.inr (Or.inr ⟨rfl,rfl,p1,p2,HP⟩))⟩
   ·have HP:Hid (Lib.hasPrefix t.data.toList [60]=true):=hp;have HV:Hid (fT t.data.toList=3):=tI p1.out p2.out HP.out;have HD:Hid (lL t.data.toList=Lib.trimPrefix t.data.toList [60]):=by show _=_;rw[jN HV.out rfl,aBx HP.out];rfl
    have HO:Hid (gF t.data.toList=fK (Lib.trimPrefix t.data.toList [60])):=by show _=_;rw[xG HT.out (by rw[HV.out];decide),HD.out]
    have hx:(ByteArray.mk (Lib.trimPrefix t.data.toList [60]).toArray).size<=20000:=by rw[oW];have:=rS t.data.toList [60];rw[HL.out] at this;omega
    have HX:Hid ((ByteArray.mk (Lib.trimPrefix t.data.toList [60]).toArray).size<=20000):=hx;clear hp hx;go_wp2_with (go_at_call 176;refine (Tryz.strings_CutPrefix _ _ _).mono ?_;rintro e w' ⟨rfl,hw⟩;rw[hw,HP.out];clear hw)
    refine (iC (ByteArray.mk (Lib.trimPrefix t.data.toList [60]).toArray) _ (HE.out.below (aQ wr b 1 _) ho) HX.out).mono ?_;rintro e w1 ⟨k,rfl,hk,k1⟩;have H1:Hid (aV b n 3 v sl f on w1):=aV.below (aJ H.out 1 _) k1 (by simpa[World.setCell] using hb);obtain⟨a2,a1,_⟩:=H1.out.facts;have kk:Below b wr w1:=(aQ wr b 1 _).trans (k1.mono (by simp[World.setCell];omega));have HK:Hid (fK (Lib.trimPrefix t.data.toList [60])=true->k=fX (Lib.trimPrefix t.data.toList [60])):=hk;clear hk hc hz;go_wp2_with fail;go_ret;exact⟨aK HO.out.symm,⟨3,k,aJ H1.out 2 _,fun e=>⟨HV.out.symm,by rw[HD.out];exact HK.out (by rw[<-HO.out];exact e)⟩⟩,kk.trans (aQ w1 b 2 _)⟩
  ·have HO:Hid (gF t.data.toList=false):=by show _=_;unfold gF;rw[Y8 HT.out,xH p1.out p2.out p3.out];rfl
   go_wp2
   go_ret;exact⟨aK HO.out.symm,⟨op,v,H.out,fun e=>by (rw[HO.out] at e;cases e)⟩,Below.refl _ _⟩
end Go.Proofs.YthjlcjdlelkkdaaGreatDoor
namespace Go.Proofs.YthjlcjdlelkkdaaGreatDoor
open Go.RowKit
def flL(l:List UInt8):List UInt8:=eD l [43,45]
def a1L(l:List UInt8):List UInt8:=ahead l [43,45]
def slL(l:List UInt8):List UInt8:=eD (a1L l) [58]
def a2L(l:List UInt8):List UInt8:=ahead (a1L l) [58]
def veL(l:List UInt8):List UInt8:=eD (a2L l) [61,60,62]
def nmL(l:List UInt8):List UInt8:=ahead (a2L l) [61,60,62]
def fY(l:List UInt8):Bool:=lE (flL l)&&iE (slL l)&&gF (veL l)
theorem lO(l m:List UInt8):(ahead l m).length<=l.length:=by
 unfold ahead;exact List.Sublist.length_le (List.takeWhile_sublist _)
theorem xB(l m:List UInt8):(eD l m).length<=l.length:=by
 unfold eD;exact List.Sublist.length_le (List.dropWhile_sublist _)
theorem aUz:Asc (ByteArray.mk #[61,60,62]).data.toList/\Asc (ByteArray.mk #[58]).data.toList/\Asc (ByteArray.mk #[43,45]).data.toList:=by
 refine⟨?_,?_,?_⟩
 ·intro j b hb;have:j=0\/j=1\/j=2\/3<=j:=by omega
  rcases this with rfl | rfl | rfl | h
  ·cases hb;decide
  ·cases hb;decide
  ·cases hb;decide
  ·rw[A9 (by simpa using h)] at hb;cases hb
 ·intro j b hb;have:j=0\/1<=j:=by omega
  rcases this with rfl | h
  ·cases hb;decide
  ·rw[A9 (by simpa using h)] at hb;cases hb
 ·intro j b hb;have:j=0\/j=1\/2<=j:=by omega
  rcases this with rfl | rfl | h
  ·cases hb;decide
  ·cases hb;decide
  ·rw[A9 (by simpa using h)] at hb;cases hb
theorem aIs(w:World)(o:Obj)(cs:Array Value):((w.alloc o).alloc (.cells cs 63)).heap[w.heap.size+1]? = some (.cells cs 63 (0,0)):=by
 show ((w.heap.push o).push _)[w.heap.size+1]? = _;rw[Array.getElem?_push,if_pos (by simp)]
theorem aOg(w:World)(o:Obj)(cs:Array Value):((w.alloc (.cells cs 63)).alloc o).heap[w.heap.size]? = some (.cells cs 63 (0,0)):=by
 show ((w.heap.push _).push o)[w.heap.size]? = _;rw[Array.getElem?_push,if_neg (by simp),Array.getElem?_push,if_pos rfl]
def aOm(l:List UInt8)(w:World)(e:Ending)(w':World):Prop:=
 ∃(n f:ByteArray) (op v sl:Int) (on:Bool),e=.returned (.tuple #[.agg #[.string n,.int .i64 op,.int .i64 v,.int .i64 sl,.string f,.bool on],.bool (fY l)])
  /\(fY l=true->n.data.toList=nmL l/\op=opV (veL l)/\v=qF (veL l)/\sl=iX (slL l)/\f.data.toList=(flL l).drop 1/\on=onV (flL l))/\aA w w'
theorem tR(b:Nat)(n f:ByteArray)(sl:Int)(on:Bool)(t:ByteArray)(w:World)(h:aV b n 0 0 sl f on w)(hE:Env w)(hs:t.size<=20000)(ho:Old b):
  Calls Tryz.prog 226 #[.pointer (some ⟨b,0,none⟩),.string t] w fun e w'=>e=.returned (.bool (gF t.data.toList))/\(∃a0 v':Int,aV b n a0 v' sl f on w'/\(gF t.data.toList=true->a0=opV t.data.toList/\v'=qF t.data.toList))/\Below b w w':=by
 by_cases ht:t.data.toList = []
 ·have he:=jR ht;have HF:Hid (gF t.data.toList=true):=by show _=_;simp[gF,ht]
  have HT:Hid (t.data.toList = []):=ht;clear ht;go_enter Tryz.func226,Tryz.ntmps226;go_wp2
  go_ret;exact⟨aK HF.out.symm,⟨0,0,h,fun _=>by rw[HT.out];exact⟨rfl,rfl⟩⟩,Below.refl _ _⟩
 ·refine (sO b n f 0 0 sl on t w h hE hs ht ho).mono ?_;rintro e w' ⟨h1,⟨a0,v',h2,h3⟩,h4⟩;refine⟨h1,⟨a0,v',h2,fun ok=>?_⟩,h4⟩;unfold opV qF;rw[if_neg ht,if_neg ht];exact h3 ok
theorem aRe(s:ByteArray)(w:World)(hE:Env w)(hs:s.size<=20000):
  Calls Tryz.prog 220 #[.string s] w fun e w'=>aOm s.data.toList w e w':=by
 have HE:Hid (Env w):=hE;have ho:Old (w.heap.size+1):=⟨Nat.lt_succ_of_lt hE.1.1,Nat.lt_succ_of_lt hE.2.1.1,Nat.lt_succ_of_lt hE.2.2.1.1,Nat.lt_succ_of_lt hE.2.2.2.1⟩;have a3:Hid (Old (w.heap.size+1)):=ho;have HL:Hid (s.data.toList.length=s.size):=aU s;clear hE ho;go_enter Tryz.func220,Tryz.ntmps220;go_wp2_with fail;have kz:aA w ((w.alloc (.cells #[.string ⟨#[]⟩,.int .i64 0,.int .i64 0,.int .i64 0,.string ⟨#[]⟩,.bool false] 63)).alloc (.cells #[.string ⟨#[]⟩,.int .i64 0,.int .i64 0,.int .i64 0,.string ⟨#[]⟩,.bool false] 63)):=(aA.alloc _ _).alloc' _;have r0:Hid (aV w.heap.size ⟨#[]⟩ 0 0 0 ⟨#[]⟩ false ((w.alloc (.cells #[.string ⟨#[]⟩,.int .i64 0,.int .i64 0,.int .i64 0,.string ⟨#[]⟩,.bool false] 63)).alloc (.cells #[.string ⟨#[]⟩,.int .i64 0,.int .i64 0,.int .i64 0,.string ⟨#[]⟩,.bool false] 63))):=aOg _ _ _;have b0:Hid (aV (w.heap.size+1) ⟨#[]⟩ 0 0 0 ⟨#[]⟩ false ((w.alloc (.cells #[.string ⟨#[]⟩,.int .i64 0,.int .i64 0,.int .i64 0,.string ⟨#[]⟩,.bool false] 63)).alloc (.cells #[.string ⟨#[]⟩,.int .i64 0,.int .i64 0,.int .i64 0,.string ⟨#[]⟩,.bool false] 63))):=aIs _ _ _;generalize c8:((w.alloc (.cells #[.string ⟨#[]⟩,.int .i64 0,.int .i64 0,.int .i64 0,.string ⟨#[]⟩,.bool false] 63)).alloc (.cells #[.string ⟨#[]⟩,.int .i64 0,.int .i64 0,.int .i64 0,.string ⟨#[]⟩,.bool false] 63))=W0 at kz r0 b0 |-
 clear c8;have c1:w.heap.size+1<W0.heap.size:=b0.out.facts.2.2;refine (wJ _ _ _ hs (by decide) (by decide) aUz.2.2).mono ?_;rintro e w1 ⟨s1,fl,rfl,e1,e2,k1⟩;go_wp2_with fail;have a9:s1.size<=20000:=by rw[<-aU,e1];have:=lO s.data.toList [43,45];rw[HL.out] at this;exact U2 this hs
 refine (wJ _ _ _ a9 (by decide) (by decide) aUz.2.1).mono ?_;rintro e w2 ⟨s2,sl,rfl,e3,e4,k2⟩;go_wp2_with fail;have b2:s2.size<=20000:=by rw[<-aU,e3];have:=lO s1.data.toList [58];rw[aU] at this;exact U2 this a9
 refine (wJ _ _ _ b2 (by decide) (by decide) aUz.1).mono ?_;rintro e w3 ⟨nm,ve,rfl,e5,e6,k3⟩;have a5:aA W0 w3:=(k1.trans k2).trans k3;have HR:Hid (aV w.heap.size ⟨#[]⟩ 0 0 0 ⟨#[]⟩ false w3):=r0.out.below a5 (by omega);have HB:Hid (aV (w.heap.size+1) ⟨#[]⟩ 0 0 0 ⟨#[]⟩ false w3):=b0.out.below a5 c1;have K3:Hid (aA w w3):=kz.trans a5;have d1:w.heap.size+1<w3.heap.size:=HB.out.facts.2.2;have EN:Hid (nm.data.toList=nmL s.data.toList/\fl.data.toList=flL s.data.toList/\sl.data.toList=slL s.data.toList/\ve.data.toList=veL s.data.toList):=by
  refine⟨?_,e2,?_,?_⟩
  ·rw[e5,e3,e1];rfl
  ·rw[e4,e1];rfl
  ·rw[e6,e3,e1];rfl
 have c9:sl.size<=20000:=by rw[<-aU,e4];have:=xB s1.data.toList [58];rw[aU] at this;exact U2 this a9
 have d3:ve.size<=20000:=by rw[<-aU,e6];have:=xB s2.data.toList [61,60,62];rw[aU] at this;exact U2 this b2
 obtain⟨d4,d5,_⟩:=HB.out.facts;clear e1 e2 e3 e4 e5 e6 k1 k2 k3 a5 r0 b0 kz a9 b2 c1;go_wp2_with fail;have B4:Hid (aV (w.heap.size+1) nm 0 0 0 ⟨#[]⟩ false (w3.setCell ⟨w.heap.size+1,0,none⟩ (.string nm))):=aJ HB.out 0 _;have b6:Below (w.heap.size+1) w3 (w3.setCell ⟨w.heap.size+1,0,none⟩ (.string nm)):=aQ _ _ _ _;refine (aBf _ _ _ _ _ _ _ _ _ B4.out).mono ?_;rintro e w4 ⟨rfl,⟨f4,a0,A4,ft,ff⟩,k4⟩;have a8:Below (w.heap.size+1) w3 w4:=b6.trans k4;have b1:Hid (aV (w.heap.size+1) nm 0 0 0 f4 a0 w4):=A4;have a6:Hid (aV w.heap.size ⟨#[]⟩ 0 0 0 ⟨#[]⟩ false w4):=HR.out.below a8 (by omega);have b8:Hid (f4.data.toList=(flL s.data.toList).drop 1/\a0=onV (flL s.data.toList)):=by
  rw[<-EN.out.2.1];by_cases e:fl.data.toList = []
  ·obtain⟨rfl,rfl⟩:=ft e;rw[e];exact⟨rfl,rfl⟩
  ·exact ff e
 rw[EN.out.2.1];clear A4 ft ff k4 b6 B4 d4 d5 HB HR;cases hfo:lE (flL s.data.toList)
 ·have HO:Hid (fY s.data.toList=false):=by show _=_;unfold fY;rw[hfo];rfl
  clear hfo;obtain⟨b9,b5,_⟩:=b1.out.facts;obtain⟨c3,b7,_⟩:=a6.out.facts;have HW:Hid (aV w.heap.size nm 0 0 0 f4 a0 ((((((w4.setCell ⟨w.heap.size,0,none⟩ (.string nm)).setCell ⟨w.heap.size,1,none⟩ (.int .i64 0)).setCell ⟨w.heap.size,2,none⟩ (.int .i64 0)).setCell ⟨w.heap.size,3,none⟩ (.int .i64 0)).setCell ⟨w.heap.size,4,none⟩ (.string f4)).setCell ⟨w.heap.size,5,none⟩ (.bool a0))):=aJ (aJ (aJ (aJ (aJ (aJ a6.out 0 _) 1 _) 2 _) 3 _) 4 _) 5 _;have KW:Hid (aA w ((((((w4.setCell ⟨w.heap.size,0,none⟩ (.string nm)).setCell ⟨w.heap.size,1,none⟩ (.int .i64 0)).setCell ⟨w.heap.size,2,none⟩ (.int .i64 0)).setCell ⟨w.heap.size,3,none⟩ (.int .i64 0)).setCell ⟨w.heap.size,4,none⟩ (.string f4)).setCell ⟨w.heap.size,5,none⟩ (.bool a0))):=(((((aA.set (p:=⟨w.heap.size,0,none⟩) (Below.trans K3.out (a8.mono (Nat.le_succ _))) (Y1 _) _).set (p:=⟨w.heap.size,1,none⟩) (Y1 _) _).set (p:=⟨w.heap.size,2,none⟩) (Y1 _) _).set (p:=⟨w.heap.size,3,none⟩) (Y1 _) _).set (p:=⟨w.heap.size,4,none⟩) (Y1 _) _).set (p:=⟨w.heap.size,5,none⟩) (Y1 _) _;go_wp2_with fail;generalize ((((((w4.setCell ⟨w.heap.size,0,none⟩ (.string nm)).setCell ⟨w.heap.size,1,none⟩ (.int .i64 0)).setCell ⟨w.heap.size,2,none⟩ (.int .i64 0)).setCell ⟨w.heap.size,3,none⟩ (.int .i64 0)).setCell ⟨w.heap.size,4,none⟩ (.string f4)).setCell ⟨w.heap.size,5,none⟩ (.bool a0))=W at HW KW |-
  obtain⟨a4,_,_⟩:=HW.out.facts;exact bodyPost_ret (v:= .tuple #[.agg #[.string nm,.int .i64 0,.int .i64 0,.int .i64 0,.string f4,.bool a0],.bool false]) (by simp[results,Tryz.results220,go_sem,a4]) rfl ⟨nm,f4,0,0,0,a0,by rw[HO.out],fun e=>by (rw[HO.out] at e;cases e),KW.out⟩
 ·have c5:Hid (lE (flL s.data.toList)=true):=hfo;clear hfo;have d2:Hid (Env w4):=Env.below (HE.out.keep K3.out) a8 a3.out;go_wp2_with fail;refine (aBh _ _ _ _ _ _ _ _ _ b1.out d2.out c9).mono ?_;rintro e w5 ⟨rfl,⟨a1,A5,st,sf⟩,k5⟩;have b3:Below (w.heap.size+1) w3 w5:=a8.trans k5;have b4:Hid (aV (w.heap.size+1) nm 0 0 a1 f4 a0 w5):=A5;have a7:Hid (aV w.heap.size ⟨#[]⟩ 0 0 0 ⟨#[]⟩ false w5):=a6.out.below k5 (by omega);have d0:Hid (iE (slL s.data.toList)=true->a1=iX (slL s.data.toList)):=by
   rw[<-EN.out.2.2.1];intro ok;unfold iX;by_cases e:sl.data.toList = []
   ·rw[if_pos e];exact st e
   ·rw[if_neg e];exact sf e ok
  rw[EN.out.2.2.1];clear A5 st sf k5 b1 a6;cases hso:iE (slL s.data.toList)
  ·have HO:Hid (fY s.data.toList=false):=by show _=_;unfold fY;rw[c5.out,hso];rfl
   clear hso;obtain⟨b9,b5,_⟩:=b4.out.facts;obtain⟨c3,b7,_⟩:=a7.out.facts;have HW:Hid (aV w.heap.size nm 0 0 a1 f4 a0 ((((((w5.setCell ⟨w.heap.size,0,none⟩ (.string nm)).setCell ⟨w.heap.size,1,none⟩ (.int .i64 0)).setCell ⟨w.heap.size,2,none⟩ (.int .i64 0)).setCell ⟨w.heap.size,3,none⟩ (.int .i64 a1)).setCell ⟨w.heap.size,4,none⟩ (.string f4)).setCell ⟨w.heap.size,5,none⟩ (.bool a0))):=aJ (aJ (aJ (aJ (aJ (aJ a7.out 0 _) 1 _) 2 _) 3 _) 4 _) 5 _;have KW:Hid (aA w ((((((w5.setCell ⟨w.heap.size,0,none⟩ (.string nm)).setCell ⟨w.heap.size,1,none⟩ (.int .i64 0)).setCell ⟨w.heap.size,2,none⟩ (.int .i64 0)).setCell ⟨w.heap.size,3,none⟩ (.int .i64 a1)).setCell ⟨w.heap.size,4,none⟩ (.string f4)).setCell ⟨w.heap.size,5,none⟩ (.bool a0))):=(((((aA.set (p:=⟨w.heap.size,0,none⟩) (Below.trans K3.out (b3.mono (Nat.le_succ _))) (Y1 _) _).set (p:=⟨w.heap.size,1,none⟩) (Y1 _) _).set (p:=⟨w.heap.size,2,none⟩) (Y1 _) _).set (p:=⟨w.heap.size,3,none⟩) (Y1 _) _).set (p:=⟨w.heap.size,4,none⟩) (Y1 _) _).set (p:=⟨w.heap.size,5,none⟩) (Y1 _) _;go_wp2_with fail;generalize ((((((w5.setCell ⟨w.heap.size,0,none⟩ (.string nm)).setCell ⟨w.heap.size,1,none⟩ (.int .i64 0)).setCell ⟨w.heap.size,2,none⟩ (.int .i64 0)).setCell ⟨w.heap.size,3,none⟩ (.int .i64 a1)).setCell ⟨w.heap.size,4,none⟩ (.string f4)).setCell ⟨w.heap.size,5,none⟩ (.bool a0))=W at HW KW |-
   obtain⟨a4,_,_⟩:=HW.out.facts;exact bodyPost_ret (v:= .tuple #[.agg #[.string nm,.int .i64 0,.int .i64 0,.int .i64 a1,.string f4,.bool a0],.bool false]) (by simp[results,Tryz.results220,go_sem,a4]) rfl ⟨nm,f4,0,0,a1,a0,by rw[HO.out],fun e=>by (rw[HO.out] at e;cases e),KW.out⟩
  ·have c2:Hid (iE (slL s.data.toList)=true):=hso;clear hso;have c6:Hid (Env w5):=Env.below (HE.out.keep K3.out) b3 a3.out;go_wp2_with fail;refine (tR _ _ _ _ _ _ _ b4.out c6.out d3 a3.out).mono ?_;rintro e w6 ⟨rfl,⟨a2,v6,A6,vt⟩,k6⟩;have d6:Below (w.heap.size+1) w3 w6:=b3.trans k6;have c7:Hid (aV (w.heap.size+1) nm a2 v6 a1 f4 a0 w6):=A6;have c4:Hid (aV w.heap.size ⟨#[]⟩ 0 0 0 ⟨#[]⟩ false w6):=a7.out.below k6 (by omega);have c0:Hid (gF (veL s.data.toList)=true->a2=opV (veL s.data.toList)/\v6=qF (veL s.data.toList)):=by
    rw[<-EN.out.2.2.2];exact vt
   rw[EN.out.2.2.2];clear A6 vt k6 b4 a7;have HO:Hid (fY s.data.toList=gF (veL s.data.toList)):=by show _=_;unfold fY;rw[c5.out,c2.out];rfl
   obtain⟨b9,b5,_⟩:=c7.out.facts;obtain⟨c3,b7,_⟩:=c4.out.facts;have HW:Hid (aV w.heap.size nm a2 v6 a1 f4 a0 ((((((w6.setCell ⟨w.heap.size,0,none⟩ (.string nm)).setCell ⟨w.heap.size,1,none⟩ (.int .i64 a2)).setCell ⟨w.heap.size,2,none⟩ (.int .i64 v6)).setCell ⟨w.heap.size,3,none⟩ (.int .i64 a1)).setCell ⟨w.heap.size,4,none⟩ (.string f4)).setCell ⟨w.heap.size,5,none⟩ (.bool a0))):=aJ (aJ (aJ (aJ (aJ (aJ c4.out 0 _) 1 _) 2 _) 3 _) 4 _) 5 _;have KW:Hid (aA w ((((((w6.setCell ⟨w.heap.size,0,none⟩ (.string nm)).setCell ⟨w.heap.size,1,none⟩ (.int .i64 a2)).setCell ⟨w.heap.size,2,none⟩ (.int .i64 v6)).setCell ⟨w.heap.size,3,none⟩ (.int .i64 a1)).setCell ⟨w.heap.size,4,none⟩ (.string f4)).setCell ⟨w.heap.size,5,none⟩ (.bool a0))):=(((((aA.set (p:=⟨w.heap.size,0,none⟩) (Below.trans K3.out (d6.mono (Nat.le_succ _))) (Y1 _) _).set (p:=⟨w.heap.size,1,none⟩) (Y1 _) _).set (p:=⟨w.heap.size,2,none⟩) (Y1 _) _).set (p:=⟨w.heap.size,3,none⟩) (Y1 _) _).set (p:=⟨w.heap.size,4,none⟩) (Y1 _) _).set (p:=⟨w.heap.size,5,none⟩) (Y1 _) _;go_wp2_with fail;generalize ((((((w6.setCell ⟨w.heap.size,0,none⟩ (.string nm)).setCell ⟨w.heap.size,1,none⟩ (.int .i64 a2)).setCell ⟨w.heap.size,2,none⟩ (.int .i64 v6)).setCell ⟨w.heap.size,3,none⟩ (.int .i64 a1)).setCell ⟨w.heap.size,4,none⟩ (.string f4)).setCell ⟨w.heap.size,5,none⟩ (.bool a0))=W at HW KW |-
   obtain⟨a4,_,_⟩:=HW.out.facts;exact bodyPost_ret (v:= .tuple #[.agg #[.string nm,.int .i64 a2,.int .i64 v6,.int .i64 a1,.string f4,.bool a0],.bool (gF (veL s.data.toList))]) (by simp[results,Tryz.results220,go_sem,a4]) rfl ⟨nm,f4,a2,v6,a1,a0,by rw[HO.out],fun e=>by (rw[HO.out] at e;exact⟨EN.out.1,(c0.out e).1,(c0.out e).2,d0.out c2.out,b8.out.1,b8.out.2⟩),KW.out⟩
end Go.Proofs.YthjlcjdlelkkdaaGreatDoor
namespace Go.Proofs.YthjlcjdlelkkdaaGreatDoor
open Go.RowKit
def mR(l:List UInt8):Int:=
 if 20000<l.length then 2 else if fY l=false then 1 else chk (nmL l) (opV (veL l)) (qF (veL l)) (iX (slL l)) ((flL l).drop 1) (onV (flL l))
def rW(l:List UInt8)(w:World)(e:Ending)(w':World):Prop:=
 ∃(n f:ByteArray) (op v sl:Int) (on:Bool),e=.returned (.tuple #[.agg #[.string n,.int .i64 op,.int .i64 v,.int .i64 sl,.string f,.bool on],.int .i64 (mR l)])
  /\(mR l=0->n.data.toList=nmL l/\op=opV (veL l)/\v=qF (veL l)/\sl=iX (slL l)/\f.data.toList=(flL l).drop 1/\on=onV (flL l))
  /\(mR l≠0->n=⟨#[]⟩/\op=0/\v=0/\sl=0/\f=⟨#[]⟩/\on=false)/\aA w w'
theorem oR(s:ByteArray)(w:World)(h:s.size<=281474976710656):
  Calls Tryz.prog 121 #[.string s] w fun e w'=>e=.returned (.string s)/\aA w w':=by
 go_enter Tryz.func121,Tryz.ntmps121;go_wp2_with (go_at_call 146;refine (Tryz.stringslite_Clone _ _ h).mono ?_;rintro e w' ⟨rfl,k⟩)
 go_ret;exact⟨rfl,by assumption⟩
def Mid(w:World)(r b:Nat)(n f:ByteArray)(op v sl:Int)(on:Bool)(W:World):Prop:=aV b n op v sl f on W/\aV r ⟨#[]⟩ 0 0 0 ⟨#[]⟩ false W/\aA w W
theorem Mid.drew{w:World}{r b:Nat}{n f:ByteArray}{op v sl:Int}{on:Bool}{W:World}(h:Mid w r b n f op v sl on W):Mid w r b n f op v sl on W.drew:=⟨h.1,h.2.1,h.2.2.drew⟩
theorem aQo{w:World}{b:Nat}{n f:ByteArray}{op v sl:Int}{on:Bool}{W:World}(h:Mid w w.heap.size b n f op v sl on W)(hb:w.heap.size<b):
  aV w.heap.size n op v sl f on ((((((((W.setCell ⟨b,0,none⟩ (.string n)).setCell ⟨b,4,none⟩ (.string f)).setCell ⟨w.heap.size,0,none⟩ (.string n)).setCell ⟨w.heap.size,1,none⟩ (.int .i64 op)).setCell ⟨w.heap.size,2,none⟩ (.int .i64 v)).setCell ⟨w.heap.size,3,none⟩ (.int .i64 sl)).setCell ⟨w.heap.size,4,none⟩ (.string f)).setCell ⟨w.heap.size,5,none⟩ (.bool on))/\aA w ((((((((W.setCell ⟨b,0,none⟩ (.string n)).setCell ⟨b,4,none⟩ (.string f)).setCell ⟨w.heap.size,0,none⟩ (.string n)).setCell ⟨w.heap.size,1,none⟩ (.int .i64 op)).setCell ⟨w.heap.size,2,none⟩ (.int .i64 v)).setCell ⟨w.heap.size,3,none⟩ (.int .i64 sl)).setCell ⟨w.heap.size,4,none⟩ (.string f)).setCell ⟨w.heap.size,5,none⟩ (.bool on)):=by
 have r1:aV w.heap.size ⟨#[]⟩ 0 0 0 ⟨#[]⟩ false ((W.setCell ⟨b,0,none⟩ (.string n)).setCell ⟨b,4,none⟩ (.string f)):=(h.2.1.below (aQ W b 0 _) hb).below (aQ _ b 4 _) hb;have k1:aA w ((W.setCell ⟨b,0,none⟩ (.string n)).setCell ⟨b,4,none⟩ (.string f)):=(h.2.2.set (p:=⟨b,0,none⟩) (Nat.le_of_lt hb) _).set (p:=⟨b,4,none⟩) (Nat.le_of_lt hb) _;refine⟨aJ (aJ (aJ (aJ (aJ (aJ r1 0 _) 1 _) 2 _) 3 _) 4 _) 5 _,?_⟩;exact (((((aA.set (p:=⟨w.heap.size,0,none⟩) k1 (Y1 _) _).set (p:=⟨w.heap.size,1,none⟩) (Y1 _) _).set (p:=⟨w.heap.size,2,none⟩) (Y1 _) _).set (p:=⟨w.heap.size,3,none⟩) (Y1 _) _).set (p:=⟨w.heap.size,4,none⟩) (Y1 _) _).set (p:=⟨w.heap.size,5,none⟩) (Y1 _) _
theorem aLt(s:ByteArray)(W:World)(hs:s.size<=20000)(w:World)(r b:Nat)(n f:ByteArray)(op v sl:Int)(on:Bool)(h:Mid w r b n f op v sl on W):
  Calls Tryz.prog 121 #[.string s] W fun e w'=>e=.returned (.string s)/\(∀o,w'.cell? ⟨b,o,none⟩=(#[.string n,.int .i64 op,.int .i64 v,.int .i64 sl,.string f,.bool on]:Array Value)[o]?)/\(∀o,w'.frozen? ⟨b,o,none⟩=false)/\Mid w r b n f op v sl on w':=by
 refine (oR s W (by omega)).mono ?_;rintro e w' ⟨rfl,k⟩;have h1:=h.1.below k h.1.facts.2.2;exact⟨rfl,h1.facts.1,h1.facts.2.1,h1,h.2.1.below k h.2.1.facts.2.2,h.2.2.trans k⟩
theorem pC(w:World)(cs:Array Value):(w.alloc (.cells cs 63)).heap[w.heap.size]? = some (.cells cs 63 (0,0)):=by
 show (w.heap.push _)[w.heap.size]? = _;rw[Array.getElem?_push,if_pos rfl]
theorem aIa(s:ByteArray)(w:World)(hs:20000<s.size):
  Calls Tryz.prog 209 #[.string s] w fun e w'=>rW s.data.toList w e w':=by
 have HP:Hid (mR s.data.toList=2):=by show _=_;unfold mR;rw[aU,if_pos hs]
 have q1:(20000:Int)<(s.size:Int):=by omega
 go_enter Tryz.func209,Tryz.ntmps209;go_wp2
 exact bodyPost_ret (v:= .tuple #[.agg #[.string ⟨#[]⟩,.int .i64 0,.int .i64 0,.int .i64 0,.string ⟨#[]⟩,.bool false],.int .i64 2]) (by simp[results,Tryz.results209,go_sem]) rfl ⟨⟨#[]⟩,⟨#[]⟩,0,0,0,false,by rw[HP.out],fun e=>by (rw[HP.out] at e;cases e),fun _=>⟨rfl,rfl,rfl,rfl,rfl,rfl⟩,aA.alloc _ _⟩
theorem aEy(s:ByteArray)(w:World)(hE:Env w)(hs:s.size<=20000):
  Calls Tryz.prog 209 #[.string s] w fun e w'=>rW s.data.toList w e w':=by
 have q1:¬(20000:Int)<(s.size:Int):=by omega
 have HE:Hid (Env w):=hE;have HL:Hid (¬20000<s.data.toList.length):=by show ¬_;rw[aU];omega
 clear hE;have kz:aA w (w.alloc (.cells #[.string ⟨#[]⟩,.int .i64 0,.int .i64 0,.int .i64 0,.string ⟨#[]⟩,.bool false] 63)):=aA.alloc _ _;have r0:Hid (aV w.heap.size ⟨#[]⟩ 0 0 0 ⟨#[]⟩ false (w.alloc (.cells #[.string ⟨#[]⟩,.int .i64 0,.int .i64 0,.int .i64 0,.string ⟨#[]⟩,.bool false] 63))):=pC _ _;go_enter Tryz.func209,Tryz.ntmps209;go_wp2_with fail;generalize b4:(w.alloc (.cells #[.string ⟨#[]⟩,.int .i64 0,.int .i64 0,.int .i64 0,.string ⟨#[]⟩,.bool false] 63))=W0 at kz r0 |-
 clear b4;refine (aRe _ _ (HE.out.keep kz) hs).mono ?_;rintro e w1 ⟨n,f,op,v,sl,on,rfl,hr,k1⟩;have b2:w.heap.size<W0.heap.size:=r0.out.facts.2.2;have a2:Hid (aV w.heap.size ⟨#[]⟩ 0 0 0 ⟨#[]⟩ false w1):=r0.out.below k1 b2;have K1:aA w w1:=kz.trans k1;have a4:w.heap.size<w1.heap.size:=a2.out.facts.2.2;cases hro:fY s.data.toList
 ·have HP:Hid (mR s.data.toList=1):=by show _=_;unfold mR;rw[if_neg HL.out,if_pos hro]
  clear hr hro;obtain⟨b0,a9,_⟩:=a2.out.facts;have HW:Hid (aV w.heap.size ⟨#[]⟩ 0 0 0 ⟨#[]⟩ false (((((((w1.setCell ⟨w.heap.size,0,none⟩ (.string ⟨#[]⟩)).setCell ⟨w.heap.size,1,none⟩ (.int .i64 0)).setCell ⟨w.heap.size,2,none⟩ (.int .i64 0)).setCell ⟨w.heap.size,3,none⟩ (.int .i64 0)).setCell ⟨w.heap.size,4,none⟩ (.string ⟨#[]⟩)).setCell ⟨w.heap.size,5,none⟩ (.bool false)).alloc (.cells #[.string n,.int .i64 op,.int .i64 v,.int .i64 sl,.string f,.bool on] 63))):=aV.below (aJ (aJ (aJ (aJ (aJ (aJ a2.out 0 _) 1 _) 2 _) 3 _) 4 _) 5 _) (aA.alloc _ _) (by simpa[World.setCell] using a4);have KW:Hid (aA w (((((((w1.setCell ⟨w.heap.size,0,none⟩ (.string ⟨#[]⟩)).setCell ⟨w.heap.size,1,none⟩ (.int .i64 0)).setCell ⟨w.heap.size,2,none⟩ (.int .i64 0)).setCell ⟨w.heap.size,3,none⟩ (.int .i64 0)).setCell ⟨w.heap.size,4,none⟩ (.string ⟨#[]⟩)).setCell ⟨w.heap.size,5,none⟩ (.bool false)).alloc (.cells #[.string n,.int .i64 op,.int .i64 v,.int .i64 sl,.string f,.bool on] 63))):=aA.alloc' ((((((aA.set (p:=⟨w.heap.size,0,none⟩) K1 (Y1 _) _).set (p:=⟨w.heap.size,1,none⟩) (Y1 _) _).set (p:=⟨w.heap.size,2,none⟩) (Y1 _) _).set (p:=⟨w.heap.size,3,none⟩) (Y1 _) _).set (p:=⟨w.heap.size,4,none⟩) (Y1 _) _).set (p:=⟨w.heap.size,5,none⟩) (Y1 _) _) _;go_wp2_with fail;generalize ((((((w1.setCell ⟨w.heap.size,0,none⟩ (.string ⟨#[]⟩)).setCell ⟨w.heap.size,1,none⟩ (.int .i64 0)).setCell ⟨w.heap.size,2,none⟩ (.int .i64 0)).setCell ⟨w.heap.size,3,none⟩ (.int .i64 0)).setCell ⟨w.heap.size,4,none⟩ (.string ⟨#[]⟩)).setCell ⟨w.heap.size,5,none⟩ (.bool false)).alloc (.cells #[.string n,.int .i64 op,.int .i64 v,.int .i64 sl,.string f,.bool on] 63)=W at HW KW |-
  obtain⟨a0,_,_⟩:=HW.out.facts;have a1:(1:Int)≠0:=by decide
  exact bodyPost_ret (v:= .tuple #[.agg #[.string ⟨#[]⟩,.int .i64 0,.int .i64 0,.int .i64 0,.string ⟨#[]⟩,.bool false],.int .i64 1]) (by simp[results,Tryz.results209,go_sem,a0]) rfl ⟨⟨#[]⟩,⟨#[]⟩,0,0,0,false,by rw[HP.out],fun e=>absurd (HP.out.symm.trans e) (a1),fun _=>⟨rfl,rfl,rfl,rfl,rfl,rfl⟩,KW.out⟩
 ·have a3:Hid (n.data.toList=nmL s.data.toList/\op=opV (veL s.data.toList)/\v=qF (veL s.data.toList)/\sl=iX (slL s.data.toList)/\f.data.toList=(flL s.data.toList).drop 1/\on=onV (flL s.data.toList)):=hr hro;have HP:Hid (mR s.data.toList=chk n.data.toList op v sl f.data.toList on):=by
   show _=_;unfold mR;obtain⟨d1,d2,d3,d4,d5,d6⟩:=a3.out;rw[if_neg HL.out,if_neg (by rw[hro];decide),d1,<-d2,<-d3,<-d4,d5,<-d6]
  have a6:Hid (aV w.heap.size ⟨#[]⟩ 0 0 0 ⟨#[]⟩ false (w1.alloc (.cells #[.string n,.int .i64 op,.int .i64 v,.int .i64 sl,.string f,.bool on] 63))):=a2.out.below (aA.alloc _ _) a4;have a5:Hid (aV w1.heap.size n op v sl f on (w1.alloc (.cells #[.string n,.int .i64 op,.int .i64 v,.int .i64 sl,.string f,.bool on] 63))):=pC _ _;have K2:aA w (w1.alloc (.cells #[.string n,.int .i64 op,.int .i64 v,.int .i64 sl,.string f,.bool on] 63)):=K1.alloc' _;clear hr hro;go_wp2_with fail;generalize b7:w1.alloc (.cells #[.string n,.int .i64 op,.int .i64 v,.int .i64 sl,.string f,.bool on] 63)=W1 at a6 a5 K2 |-
  clear b7;refine (oQ _ _ _ _ _ _ _).mono ?_;rintro e w2 ⟨rfl,k2⟩;have b8:w1.heap.size<W1.heap.size:=a5.out.facts.2.2;have b6:w.heap.size<W1.heap.size:=a6.out.facts.2.2;have a7:Hid (aV w.heap.size ⟨#[]⟩ 0 0 0 ⟨#[]⟩ false w2):=a6.out.below k2 b6;have b1:Hid (aV w1.heap.size n op v sl f on w2):=a5.out.below k2 b8;have K3:aA w w2:=K2.trans k2;generalize chk n.data.toList op v sl f.data.toList on=c at HP |-
  by_cases hc0:c=0
  ·subst hc0;obtain⟨b5,b3,_⟩:=b1.out.facts;have hn:n.size<=20000:=by
    have h1:=lO (a2L s.data.toList) [61,60,62];have h2:=lO (a1L s.data.toList) [58];have h3:=lO s.data.toList [43,45];have h4:n.data.toList.length=_:=Q0 List.length a3.out.1;rw[aU] at h3 h4;unfold nmL at h4;unfold a2L at h4 h1;unfold a1L at h4 h1 h2;omega
   have hf:f.size<=20000:=by
    have h3:=xB s.data.toList [43,45];have h4:f.data.toList.length=_:=Q0 List.length a3.out.2.2.2.2.1;rw[aU] at h3 h4;unfold flL at h4;rw[List.length_drop] at h4;omega
   have HI:Mid w w.heap.size w1.heap.size n f op v sl on w2:=⟨b1.out,a7.out,K3⟩;go_wp2_with fail;go_region_with (go_at_call 121;refine (aLt _ _ ?_ w w.heap.size w1.heap.size n f op v sl on ?_).mono ?_;assumption;(first | exact HI | exact HI.drew);rintro e w' ⟨rfl,b5,b3,HI⟩)
   all_goals
    obtain⟨b0,a9,c2⟩:=HI.2.1.facts;have c0:w.heap.size≠w1.heap.size:=by omega
    go_wp2_with fail
   all_goals
    obtain⟨hW,a8⟩:=aQo HI a4;have HW:Hid (aV w.heap.size n op v sl f on ((((((((w'.setCell ⟨w1.heap.size,0,none⟩ (.string n)).setCell ⟨w1.heap.size,4,none⟩ (.string f)).setCell ⟨w.heap.size,0,none⟩ (.string n)).setCell ⟨w.heap.size,1,none⟩ (.int .i64 op)).setCell ⟨w.heap.size,2,none⟩ (.int .i64 v)).setCell ⟨w.heap.size,3,none⟩ (.int .i64 sl)).setCell ⟨w.heap.size,4,none⟩ (.string f)).setCell ⟨w.heap.size,5,none⟩ (.bool on))):=hW;have KW:Hid (aA w ((((((((w'.setCell ⟨w1.heap.size,0,none⟩ (.string n)).setCell ⟨w1.heap.size,4,none⟩ (.string f)).setCell ⟨w.heap.size,0,none⟩ (.string n)).setCell ⟨w.heap.size,1,none⟩ (.int .i64 op)).setCell ⟨w.heap.size,2,none⟩ (.int .i64 v)).setCell ⟨w.heap.size,3,none⟩ (.int .i64 sl)).setCell ⟨w.heap.size,4,none⟩ (.string f)).setCell ⟨w.heap.size,5,none⟩ (.bool on))):=a8;clear hW a8;generalize ((((((((w'.setCell ⟨w1.heap.size,0,none⟩ (.string n)).setCell ⟨w1.heap.size,4,none⟩ (.string f)).setCell ⟨w.heap.size,0,none⟩ (.string n)).setCell ⟨w.heap.size,1,none⟩ (.int .i64 op)).setCell ⟨w.heap.size,2,none⟩ (.int .i64 v)).setCell ⟨w.heap.size,3,none⟩ (.int .i64 sl)).setCell ⟨w.heap.size,4,none⟩ (.string f)).setCell ⟨w.heap.size,5,none⟩ (.bool on))=W at HW KW |-
    obtain⟨a0,_,_⟩:=HW.out.facts;exact bodyPost_ret (v:= .tuple #[.agg #[.string n,.int .i64 op,.int .i64 v,.int .i64 sl,.string f,.bool on],.int .i64 0]) (by simp[results,Tryz.results209,go_sem,a0]) rfl ⟨n,f,op,v,sl,on,by rw[HP.out],fun _=>a3.out,fun e=>absurd HP.out e,KW.out⟩
  ·have a1:c≠0:=hc0;have b9:Hid (c≠0):=hc0;have c1:(c != 0)=true:=by simp[hc0]
   clear hc0 a1;obtain⟨b0,a9,_⟩:=a7.out.facts;have HW:Hid (aV w.heap.size ⟨#[]⟩ 0 0 0 ⟨#[]⟩ false ((((((w2.setCell ⟨w.heap.size,0,none⟩ (.string ⟨#[]⟩)).setCell ⟨w.heap.size,1,none⟩ (.int .i64 0)).setCell ⟨w.heap.size,2,none⟩ (.int .i64 0)).setCell ⟨w.heap.size,3,none⟩ (.int .i64 0)).setCell ⟨w.heap.size,4,none⟩ (.string ⟨#[]⟩)).setCell ⟨w.heap.size,5,none⟩ (.bool false))):=aJ (aJ (aJ (aJ (aJ (aJ a7.out 0 _) 1 _) 2 _) 3 _) 4 _) 5 _;have KW:Hid (aA w ((((((w2.setCell ⟨w.heap.size,0,none⟩ (.string ⟨#[]⟩)).setCell ⟨w.heap.size,1,none⟩ (.int .i64 0)).setCell ⟨w.heap.size,2,none⟩ (.int .i64 0)).setCell ⟨w.heap.size,3,none⟩ (.int .i64 0)).setCell ⟨w.heap.size,4,none⟩ (.string ⟨#[]⟩)).setCell ⟨w.heap.size,5,none⟩ (.bool false))):=(((((aA.set (p:=⟨w.heap.size,0,none⟩) K3 (Y1 _) _).set (p:=⟨w.heap.size,1,none⟩) (Y1 _) _).set (p:=⟨w.heap.size,2,none⟩) (Y1 _) _).set (p:=⟨w.heap.size,3,none⟩) (Y1 _) _).set (p:=⟨w.heap.size,4,none⟩) (Y1 _) _).set (p:=⟨w.heap.size,5,none⟩) (Y1 _) _;go_wp2_with fail;generalize ((((((w2.setCell ⟨w.heap.size,0,none⟩ (.string ⟨#[]⟩)).setCell ⟨w.heap.size,1,none⟩ (.int .i64 0)).setCell ⟨w.heap.size,2,none⟩ (.int .i64 0)).setCell ⟨w.heap.size,3,none⟩ (.int .i64 0)).setCell ⟨w.heap.size,4,none⟩ (.string ⟨#[]⟩)).setCell ⟨w.heap.size,5,none⟩ (.bool false))=W at HW KW |-
   obtain⟨a0,_,_⟩:=HW.out.facts;have a1:=b9.out;exact bodyPost_ret (v:= .tuple #[.agg #[.string ⟨#[]⟩,.int .i64 0,.int .i64 0,.int .i64 0,.string ⟨#[]⟩,.bool false],.int .i64 c]) (by simp[results,Tryz.results209,go_sem,a0]) rfl ⟨⟨#[]⟩,⟨#[]⟩,0,0,0,false,by rw[HP.out],fun e=>absurd (HP.out.symm.trans e) (a1),fun _=>⟨rfl,rfl,rfl,rfl,rfl,rfl⟩,KW.out⟩
theorem aNg(s:ByteArray)(w:World)(hE:Env w):
  Calls Tryz.prog 209 #[.string s] w fun e w'=>rW s.data.toList w e w':=by
 by_cases h:20000<s.size
 ·exact aIa s w h
 ·exact aEy s w hE (by omega)
end Go.Proofs.YthjlcjdlelkkdaaGreatDoor
namespace Go.Proofs.YthjlcjdlelkkdaaGreatDoor
theorem aSf{p:UInt8->Bool}:∀(a b:List UInt8),(∀c∈a,p c=true)->(a++b).takeWhile p=a++b.takeWhile p
 | [],_,_=>rfl
 | x :: a,b,h=>by
  rw[List.cons_append,List.takeWhile_cons,if_pos (h x (by simp)),aSf a b (fun c hc=>h c (by simp[hc]))];rfl
theorem aPk{p:UInt8->Bool}:∀(a b:List UInt8),(∀c∈a,p c=true)->(a++b).dropWhile p=b.dropWhile p
 | [],_,_=>rfl
 | x :: a,b,h=>by
  rw[List.cons_append,List.dropWhile_cons,if_pos (h x (by simp)),aPk a b (fun c hc=>h c (by simp[hc]))]
def aOo(m b:List UInt8):Prop:=b = []\/∃c r,b=c :: r/\m.contains c=true
theorem sM{m a b:List UInt8}(ha:∀c∈a,m.contains c=false)(hb:aOo m b):ahead (a++b) m=a/\eD (a++b) m=b:=by
 have a0:∀c∈a,(!m.contains c)=true:=fun c hc=>by rw[ha c hc];rfl
 unfold ahead eD;rw[aSf a b a0,aPk a b a0];rcases hb with rfl | ⟨c,r,rfl,hc⟩
 ·exact⟨by simp,rfl⟩
 ·have:¬(!m.contains c)=true:=by rw[hc];decide
  rw[List.takeWhile_cons,List.dropWhile_cons,if_neg this,if_neg this];exact⟨by simp,rfl⟩
theorem tG(l m:List UInt8):aOo m (eD l m):=by
 unfold eD;cases h:l.dropWhile fun c=> !m.contains c with
 | nil=>exact Or.inl rfl
 | cons c r=>
  refine Or.inr ⟨c,r,rfl,?_⟩;have:=List.head?_dropWhile_not (fun c=> !m.contains c) l;rw[h] at this;simpa using this
theorem rY(l m:List UInt8):ahead l m++eD l m=l:=List.takeWhile_append_dropWhile
theorem jK{c:UInt8}(h:okB c=true) : [43,45].contains c=false/\[58].contains c=false/\[61,60,62].contains c=false:=by
 have:48<=c.toNat/\c.toNat<=57\/97<=c.toNat/\c.toNat<=122:=by
  simp[okB,jZ,aDg] at h;omega
 have ne:∀d:UInt8,(d.toNat<48\/57<d.toNat/\d.toNat<97)->¬c=d:=fun d hd e=>by subst e;omega
 simp[ne 43 (by decide),ne 45 (by decide),ne 58 (by decide),ne 60 (by decide),ne 61 (by decide),ne 62 (by decide)]
theorem aGw{i:Nat}(h:i<100):∀c∈Lib.decDigits i,okB c=true:=by
 have key:∀j:Nat,j<10->okB (UInt8.ofNat (48+j))=true:=by decide
 intro c hc;by_cases h1:i<10
 ·rw[Lib.decDigits_one h1] at hc;simp only[List.mem_singleton] at hc;subst hc;exact key i h1
 ·rw[Lib.decDigits_two h1 h] at hc;simp only[List.mem_cons,List.not_mem_nil,or_false] at hc;rcases hc with rfl | rfl
  ·exact key _ (by omega)
  ·exact key _ (by omega)
theorem aOw:∀i:Fin 10,Lib.atoiAll [UInt8.ofNat (48+i.val)]=.ok (i.val:Int):=by decide +kernel
theorem aOx:∀i:Fin 100,Lib.atoiAll [UInt8.ofNat (48+i.val / 10),UInt8.ofNat (48+i.val % 10)]=.ok (i.val:Int):=by decide +kernel
theorem aOv{i:Nat}(h:i<100):Lib.atoiAll (Lib.decDigits i)=.ok (i:Int):=by
 by_cases h1:i<10
 ·rw[Lib.decDigits_one h1];exact aOw ⟨i,h1⟩
 ·rw[Lib.decDigits_two h1 h];exact aOx ⟨i,h⟩
theorem aBc{i:Nat}(h:i<100):fK (Lib.decDigits i)=true/\fX (Lib.decDigits i)=(i:Int):=by
 unfold fK fX;rw[aOv h];exact⟨by simp[fG],rfl⟩
theorem aEr{l:List UInt8}(h:fK l=true):Lib.itoa (fX l)=l:=by
 unfold fK at h;unfold fX;rcases hh:Lib.atoiAll l with v | _ | _
 ·rw[hh] at h;simpa using h
 ·rw[hh] at h;cases h
 ·rw[hh] at h;cases h
theorem oY{n:List UInt8}(h:aP n=true):∀c∈n,okB c=true:=by
 simp[aP] at h;exact h.2
theorem aIp{n:List UInt8}{op v sl:Int}{f:List UInt8}{on:Bool}(hc:chk n op v sl f on=0):
  flL (cI n op v sl f on)=(if f = [] then [] else (if on then 43 else 45) :: f)/\slL (cI n op v sl f on)=(if sl=0 then [] else 58 :: Lib.itoa sl)/\veL (cI n op v sl f on)=(if op=0 then [] else iV op++Lib.itoa v)/\nmL (cI n op v sl f on)=n:=by
 obtain⟨h1,h2,h3,h4,h5,h6,h7,h8⟩:=nM hc;have a2:0<=v/\v<=99:=by
  by_cases e:op=0
  ·subst e;rw[lY h7];decide
  ·have:=oK e h7;omega
 obtain⟨v,rfl⟩:=Int.eq_ofNat_of_zero_le a2.1;obtain⟨sl,rfl⟩:=Int.eq_ofNat_of_zero_le h5;have a0:=oY h1;have a1:=aGw (i:=v) (by omega);have a3:=aGw (i:=sl) (by omega);have sg:op=0\/∃c r,iV op=c :: r/\[61,60,62].contains c=true/\(∀x∈iV op,[43,45].contains x=false/\[58].contains x=false):=by
  by_cases e:op=0
  ·exact Or.inl e
  ·right;have:op=1\/op=2\/op=3:=by omega
   rcases this with rfl | rfl | rfl
   ·exact⟨61,[],rfl,by decide,by decide⟩
   ·exact⟨62,[61],rfl,by decide,by decide⟩
   ·exact⟨60,[],rfl,by decide,by decide⟩
 have A:cI n op v sl f on=((n++(if op=0 then [] else iV op++Lib.decDigits v))++(if (sl:Int)=0 then [] else 58 :: Lib.decDigits sl))++(if f = [] then [] else (if on then 43 else 45) :: f):=by
  unfold cI;rw[fG,fG]
 rw[fG,fG];have F:=sM (m:= [43,45]) (a:=(n++(if op=0 then [] else iV op++Lib.decDigits v))++(if (sl:Int)=0 then [] else 58 :: Lib.decDigits sl)) (b:=(if f = [] then [] else (if on then 43 else 45) :: f)) (by
  intro c hc;rcases U0.1 hc with hc | hc
  ·rcases U0.1 hc with hc | hc
   ·exact (jK (a0 c hc)).1
   ·split at hc
    ·cases hc
    ·rename_i e;rcases U0.1 hc with hc | hc
     ·rcases sg with e' | ⟨_,_,_,_,g⟩
      ·exact absurd e' e
      ·exact (g c hc).1
     ·exact (jK (a1 c hc)).1
  ·split at hc
   ·cases hc
   ·rcases Q3.1 hc with rfl | hc
    ·decide
    ·exact (jK (a3 c hc)).1) (by
  split
  ·exact Or.inl rfl
  ·refine Or.inr ⟨_,_,rfl,?_⟩;cases on<;>decide)
 have S:=sM (m:= [58]) (a:=n++(if op=0 then [] else iV op++Lib.decDigits v)) (b:=(if (sl:Int)=0 then [] else 58 :: Lib.decDigits sl)) (by
  intro c hc;rcases U0.1 hc with hc | hc
  ·exact (jK (a0 c hc)).2.1
  ·split at hc
   ·cases hc
   ·rename_i e;rcases U0.1 hc with hc | hc
    ·rcases sg with e' | ⟨_,_,_,_,g⟩
     ·exact absurd e' e
     ·exact (g c hc).2
    ·exact (jK (a1 c hc)).2.1) (by
  split
  ·exact Or.inl rfl
  ·exact Or.inr ⟨58,_,rfl,by decide⟩)
 have V:=sM (m:= [61,60,62]) (a:=n) (b:=(if op=0 then [] else iV op++Lib.decDigits v)) (fun c hc=>(jK (a0 c hc)).2.2) (by
  split
  ·exact Or.inl rfl
  ·rename_i e;rcases sg with e' | ⟨c,r,g1,g2,_⟩
   ·exact absurd e' e
   ·rw[g1];exact Or.inr ⟨c,_,rfl,g2⟩)
 unfold nmL veL slL flL a2L a1L;rw[A,F.1,F.2,S.1,S.2,V.1,V.2];exact⟨rfl,rfl,rfl,rfl⟩
theorem aGa{n:List UInt8}{op v sl:Int}{f:List UInt8}{on:Bool}(hc:chk n op v sl f on=0):(cI n op v sl f on).length<=100:=by
 obtain⟨h1,h2,h3,h4,h5,h6,h7,h8⟩:=nM hc;have a0:0<=v/\v<=99:=by
  by_cases e:op=0
  ·subst e;rw[lY h7];decide
  ·have:=oK e h7;omega
 obtain⟨v,rfl⟩:=Int.eq_ofNat_of_zero_le a0.1;obtain⟨sl,rfl⟩:=Int.eq_ofNat_of_zero_le h5;have l1:=oA h1;have l2:f.length<=8:=by
  rcases h2 with rfl | h2
  ·simp
  ·exact oA h2
 have l3:=mF (i:=v) (by omega);have l4:=mF (i:=sl) (by omega);have l5:(iV op).length<=2:=by
  have:op=0\/op=1\/op=2\/op=3:=by omega
  rcases this with rfl | rfl | rfl | rfl<;>decide
 unfold cI;rw[fG,fG];have p1:(if op=0 then [] else iV op++Lib.decDigits v).length<=4:=by split<;>simp<;>omega
 have p2:(if (sl:Int)=0 then [] else 58 :: Lib.decDigits sl).length<=3:=by split<;>simp<;>omega
 have p3:(if f = [] then [] else (if on then 43 else 45:UInt8) :: f).length<=9:=by split<;>simp<;>omega
 simp only[List.length_append];omega
theorem xI(op:Int)(d:List UInt8)(h0:op≠0)(h1:0<=op)(h2:op<4):fT (iV op++d)=op/\lL (iV op++d)=d:=by
 have:op=1\/op=2\/op=3:=by omega
 rcases this with rfl | rfl | rfl
 ·exact⟨rfl,rfl⟩
 ·exact⟨rfl,rfl⟩
 ·exact⟨rfl,rfl⟩
theorem aIb{n:List UInt8}{op v sl:Int}{f:List UInt8}{on:Bool}(hc:chk n op v sl f on=0):
  mR (cI n op v sl f on)=0/\nmL (cI n op v sl f on)=n/\opV (veL (cI n op v sl f on))=op/\qF (veL (cI n op v sl f on))=v/\iX (slL (cI n op v sl f on))=sl/\(flL (cI n op v sl f on)).drop 1=f/\onV (flL (cI n op v sl f on))=on:=by
 obtain⟨p1,p2,p3,p4⟩:=aIp hc;have hl:=aGa hc;obtain⟨h1,h2,h3,h4,h5,h6,h7,h8⟩:=nM hc;have a2:0<=v/\v<=99:=by
  by_cases e:op=0
  ·subst e;rw[lY h7];decide
  ·have:=oK e h7;omega
 obtain⟨v',a3⟩:=Int.eq_ofNat_of_zero_le a2.1;obtain⟨a4,a0⟩:=Int.eq_ofNat_of_zero_le h5;have nv:fK (Lib.itoa v)=true/\fX (Lib.itoa v)=v:=by
  rw[a3,fG];exact aBc (by omega)
 have ns:fK (Lib.itoa sl)=true/\fX (Lib.itoa sl)=sl:=by
  rw[a0,fG];exact aBc (by omega)
 have q1:(flL (cI n op v sl f on)).drop 1=f:=by
  rw[p1];split
  ·rename_i e;rw[e];rfl
  ·rfl
 have q2:onV (flL (cI n op v sl f on))=on:=by
  rw[p1];split
  ·rename_i e;cases on
   ·rfl
   ·exact absurd e (h8 rfl)
  ·cases on<;>rfl
 have q3:iX (slL (cI n op v sl f on))=sl:=by
  rw[p2];by_cases e:sl=0
  ·rw[if_pos e,e];rfl
  ·rw[if_neg e];unfold iX;rw[if_neg (by simp)];exact ns.2
 have q4:opV (veL (cI n op v sl f on))=op/\qF (veL (cI n op v sl f on))=v:=by
  rw[p3];by_cases e:op=0
  ·subst e;rw[if_pos rfl];exact⟨rfl,(lY h7).symm⟩
  ·rw[if_neg e];have a1:iV op++Lib.itoa v ≠ []:=by
    have:op=1\/op=2\/op=3:=by omega
    rcases this with rfl | rfl | rfl<;>(intro h;cases h)
   obtain⟨g1,g2⟩:=xI op (Lib.itoa v) e h3 h4;unfold opV qF;rw[if_neg a1,if_neg a1,g1,g2];exact⟨rfl,nv.2⟩
 refine⟨?_,p4,q4.1,q4.2,q3,q1,q2⟩;have ok:fY (cI n op v sl f on)=true:=by
  unfold fY;have o1:lE (flL (cI n op v sl f on))=true:=by
   unfold lE;rw[q1,p1];by_cases e:f = []
   ·rw[if_pos e];rfl
   ·rw[Y7 (p:=f ≠ []) e,Bool.or_true]
  have o2:iE (slL (cI n op v sl f on))=true:=by
   rw[p2];by_cases e:sl=0
   ·rw[if_pos e];rfl
   ·rw[if_neg e];unfold iE;rw[show (58 :: Lib.itoa sl).drop 1=Lib.itoa sl from rfl,ns.1,ns.2,Y7 e];rfl
  have o3:gF (veL (cI n op v sl f on))=true:=by
   rw[p3];by_cases e:op=0
   ·rw[if_pos e];rfl
   ·rw[if_neg e];obtain⟨g1,g2⟩:=xI op (Lib.itoa v) e h3 h4;unfold gF;rw[g1,g2,nv.1,Y7 e];simp
  rw[o1,o2,o3];rfl
 unfold mR;rw[if_neg (by omega),if_neg (by rw[ok];decide),p4,q4.1,q4.2,q3,q1,q2];exact hc
theorem aIo{l:List UInt8}(h:mR l=0):chk (nmL l) (opV (veL l)) (qF (veL l)) (iX (slL l)) ((flL l).drop 1) (onV (flL l))=0/\cI (nmL l) (opV (veL l)) (qF (veL l)) (iX (slL l)) ((flL l).drop 1) (onV (flL l))=l:=by
 unfold mR at h;split at h
 ·cases h
 split at h
 ·cases h
 rename_i h1 h2;refine⟨h,?_⟩;have ok:fY l=true:=by
  cases e:fY l
  ·exact absurd e h2
  ·rfl
 unfold fY at ok;simp only[Bool.and_eq_true] at ok;obtain⟨⟨o1,o2⟩,o3⟩:=ok;have F:(if (flL l).drop 1 = [] then [] else (if onV (flL l) then 43 else 45) :: (flL l).drop 1)=flL l:=by
  rcases tG l [43,45] with e | ⟨c,r,e,hc⟩
  ·have e':flL l = []:=e;rw[e'];rfl
  ·have e':flL l=c :: r:=e;rw[e'] at o1 |-
   have hr:r ≠ []:=by unfold lE at o1;simpa using o1
   rw[show (c :: r).drop 1=r from rfl,if_neg hr];have:c=43\/c=45:=by simpa using hc
   rcases this with rfl | rfl<;>rfl
 have S:(if iX (slL l)=0 then [] else 58 :: Lib.itoa (iX (slL l)))=slL l:=by
  rcases tG (a1L l) [58] with e | ⟨c,r,e,hc⟩
  ·have e':slL l = []:=e;rw[e'];rfl
  ·have e':slL l=c :: r:=e;rw[e'] at o2 |-
   have a2:c=58:=by simpa using hc
   unfold iE at o2;rw[show (c :: r).drop 1=r from rfl] at o2;simp only[Bool.or_eq_true,Bool.and_eq_true,decide_eq_true_eq] at o2;have a1:=o2.resolve_left (by simp);have sv:iX (c :: r)=fX r:=by unfold iX;rw[if_neg (by simp)];rfl
   rw[sv,if_neg a1.2,aEr a1.1,a2]
 have V:(if opV (veL l)=0 then [] else iV (opV (veL l))++Lib.itoa (qF (veL l)))=veL l:=by
  by_cases e:veL l = []
  ·rw[e];rfl
  ·unfold opV qF;rw[if_neg e,if_neg e];unfold gF at o3;simp only[Bool.or_eq_true,Bool.and_eq_true,decide_eq_true_eq] at o3;have a0:=o3.resolve_left e;rw[if_neg a0.1,aEr a0.2];generalize veL l=t at a0 e |-
   by_cases c1 : [61].isPrefixOf t=true
   ·have hv:fT t=1:=zZ c1;rw[jN hv rfl,hv];obtain⟨x,hx⟩:=List.isPrefixOf_iff_prefix.1 c1;subst hx;rfl
   ·by_cases c2 : [62,61].isPrefixOf t=true
    ·have hv:fT t=2:=aAa (Bool.eq_false_iff.2 c1) c2;rw[jN hv rfl,hv];obtain⟨x,hx⟩:=List.isPrefixOf_iff_prefix.1 c2;subst hx;rfl
    ·by_cases c3 : [60].isPrefixOf t=true
     ·have hv:fT t=3:=tI (Bool.eq_false_iff.2 c1) (Bool.eq_false_iff.2 c2) c3;rw[jN hv rfl,hv];obtain⟨x,hx⟩:=List.isPrefixOf_iff_prefix.1 c3;subst hx;rfl
     ·exact absurd (xH (Bool.eq_false_iff.2 c1) (Bool.eq_false_iff.2 c2) (Bool.eq_false_iff.2 c3)) a0.1
 unfold cI;rw[F,S,V];show ((nmL l++veL l)++slL l)++flL l=l;have e1:nmL l++veL l=a2L l:=rY _ _;have e2:a2L l++slL l=a1L l:=rY _ _;have e3:a1L l++flL l=l:=rY _ _;rw[e1,e2,e3]
end Go.Proofs.YthjlcjdlelkkdaaGreatDoor
namespace Go.Proofs.YthjlcjdlelkkdaaGreatDoor
open Go.RowKit
def kZ(n:ByteArray)(op v sl:Int)(f:ByteArray)(on:Bool)(n':ByteArray)(op' v' sl':Int)(f':ByteArray)(on':Bool):Bool:=
 (n.toList==n'.toList)&&((op==op')&&((v==v')&&((sl==sl')&&((f.toList==f'.toList)&&(on==on')))))
theorem aIf{n:ByteArray}{op v sl:Int}{f:ByteArray}{on:Bool}{n':ByteArray}{op' v' sl':Int}{f':ByteArray}{on':Bool} :
  kZ n op v sl f on n' op' v' sl' f' on'=true↔n.data.toList=n'.data.toList/\op=op'/\v=v'/\sl=sl'/\f.data.toList=f'.data.toList/\on=on':=by
 unfold kZ;rw[Lib.toList_data,Lib.toList_data,Lib.toList_data,Lib.toList_data];simp
theorem sC(n:ByteArray)(op v sl:Int)(f:ByteArray)(on:Bool)(n':ByteArray)(op' v' sl':Int)(f':ByteArray)(on':Bool)(w:World):
  (Op.equalIn 10000 63 (.agg #[.string n,.int .i64 op,.int .i64 v,.int .i64 sl,.string f,.bool on]) (.agg #[.string n',.int .i64 op',.int .i64 v',.int .i64 sl',.string f',.bool on'])).run Tryz.prog w=.ok (kZ n op v sl f on n' op' v' sl' f' on') w:=by
 have u3:=Tryz.underlying3;have a3:=Tryz.isAgg3;have z3:=Tryz.sizeOf3;have hS:Tryz.prog.underlying 63=some (.struct (Tryz.prog.fieldsOf 63)):=by kernel_rfl
 have hp:Tryz.prog.stoodInHeld 63=false:=by kernel_rfl
 rw[show (10000:Nat)=9999+1 from rfl,run_equalIn_agg w 9999 63 _ _ hS hp];clear hS hp;simp only[Program.fieldsOf,Tryz.underlying63];go_simp;unfold kZ;by_cases h1:n.toList=n'.toList<;>by_cases h2:op=op'<;>by_cases h3:v=v'<;>by_cases h4:sl=sl'<;>by_cases h5:f.toList=f'.toList<;>by_cases h6:on=on'<;>simp[h1,h2,h3,h4,h5,h6]
theorem aEa{k:Nat}(h:k<10):Lib.itoa (k:Int) = [UInt8.ofNat (48+k)]:=by rw[fG,Lib.decDigits_one h]
end Go.Proofs.YthjlcjdlelkkdaaGreatDoor
namespace Go.Proofs.YthjlcjdlelkkdaaGreatDoor
structure At where
 n:ByteArray
 op:Int
 v:Int
 sl:Int
 f:ByteArray
 on:Bool
inductive NT where
 | node (k:Int) (a:At) (fl:ByteArray) (nt:Bool) (kids:List NT)
def At.zero:At:=⟨⟨#[]⟩,0,0,0,⟨#[]⟩,false⟩
def NT.zero:NT:= .node 0 At.zero ⟨#[]⟩ false []
def NT.kids:NT->List NT
 | .node _ _ _ _ ks=>ks
def fQ(a:At):Int:=chk a.n.data.toList a.op a.v a.sl a.f.data.toList a.on
def fS(a:At):List UInt8:=cI a.n.data.toList a.op a.v a.sl a.f.data.toList a.on
def oL(a:At):Bool:=kZ a.n a.op a.v a.sl a.f a.on ⟨#[]⟩ 0 0 0 ⟨#[]⟩ false
def cC(k:Int):Bool:=(k==1)||(k==2)
def bY(k:Int)(a:At)(fl:ByteArray)(nt:Bool)(many:Nat):Bool:=
 decide (1<=k)&&decide (k<=5) && !(cC k&&decide (0<many)) && !(!cC k && !oL a)&&((k==5)||(fl.toList.isEmpty && !nt))
def bF:NT->Int
 | .node k a fl nt kids=>if bY k a fl nt kids.length=false then 4 else if k=5/\aP fl.data.toList=false then 1 else if cC k=true then fQ a else 0
mutual
def bZ{σ:Type}(inc:Int->Int)(f:σ->NT->Int->σ × Bool):σ->NT->Int->σ × Bool
 | s,.node k a fl nt kids,d=>if (f s (.node k a fl nt kids) d).2=true then bL inc f (f s (.node k a fl nt kids) d).1 kids (inc d) else ((f s (.node k a fl nt kids) d).1,false)
def bL{σ:Type}(inc:Int->Int)(f:σ->NT->Int->σ × Bool):σ->List NT->Int->σ × Bool
 | s,[],_=>(s,true)
 | s,t :: ts,d=>if (bZ inc f s t d).2=true then bL inc f (bZ inc f s t d).1 ts d else ((bZ inc f s t d).1,false)
end
mutual
def NT.size:NT->Nat
 | .node _ _ _ _ kids=>1+bA kids
def bA:List NT->Nat
 | []=>0
 | t :: ts=>t.size+bA ts
end
mutual
def NT.ht:NT->Nat
 | .node _ _ _ _ kids=>1+htL kids
def htL:List NT->Nat
 | []=>0
 | t :: ts=>max t.ht (htL ts)
end
mutual
def NT.ok:NT->Prop
 | .node k a fl nt kids=>bF (.node k a fl nt kids)=0/\okL kids
def okL:List NT->Prop
 | []=>True
 | t :: ts=>t.ok/\okL ts
end
abbrev bX:=List UInt8
mutual
def NT.words:NT->List bX
 | .node k a fl nt kids=>
  if k=1 then [fS a] else if k=2 then [33 :: fS a]
  else (if k=4 then [[124,124]] else if k=5 then [(if nt then [33] else [])++(fl.data.toList++[63])] else [])++([40] :: (bV kids++[[41]]))
def bV:List NT->List bX
 | []=> []
 | t :: ts=>t.words++bV ts
end
def aAk(s:List UInt8):At:=⟨⟨(nmL s).toArray⟩,opV (veL s),qF (veL s),iX (slL s),⟨((flL s).drop 1).toArray⟩,onV (flL s)⟩
def gN(wd:bX):Option NT:=
 if mR (Go.Lib.trimPrefix wd [33])=0 then some (.node (if Go.Lib.hasPrefix wd [33] then 2 else 1) (aAk (Go.Lib.trimPrefix wd [33])) ⟨#[]⟩ false []) else none
def jT(wd:bX):List UInt8:=Go.Lib.trimPrefix (Go.Lib.trimSuffix wd [63]) [33]
def aBb(wd:bX):Bool:=Go.Lib.hasPrefix (Go.Lib.trimSuffix wd [63]) [33]
def eO(rd:bX->List bX->Option (NT × List bX)):Nat->List NT->List bX->Option (List NT × List bX)
 | 0,_,_=>none
 | _+1,_,[]=>none
 | m+1,acc,wd :: ws=>if wd = [41] then some (acc,ws) else match rd wd ws with
  | none=>none
  | some r=>eO rd m (acc++[r.1]) r.2
def eA(rd:bX->List bX->Option (NT × List bX))(mk:List NT->NT)(ws:List bX):Option (NT × List bX):=
 (eO rd (ws.length+1) [] ws).map fun r=>(mk r.1,r.2)
def lF(rd:bX->List bX->Option (NT × List bX))(mk:List NT->NT):List bX->Option (NT × List bX)
 | []=>none
 | o :: ws=>if o = [40] then eA rd mk ws else none
def aY:Nat->bX->List bX->Option (NT × List bX)
 | 0,_,_=>none
 | g+1,wd,ws=>
  if Go.Lib.hasSuffix wd [63]=true then
   if aP (jT wd)=true then lF (aY g) (.node 5 At.zero ⟨(jT wd).toArray⟩ (aBb wd)) ws else none
  else if wd = [124,124] then lF (aY g) (.node 4 At.zero ⟨#[]⟩ false) ws
  else if wd = [40] then eA (aY g) (.node 3 At.zero ⟨#[]⟩ false) ws
  else (gN wd).map fun t=>(t,ws)
def aR(d:Int):Int:=Go.RowKit.wrap64 (d+1)
def fN(s:Int)(_:NT)(d:Int):Int × Bool:=(s+1,decide (s+1<=20)&&decide (d<=4))
def fE(_:Int)(t:NT)(_:Int):Int × Bool:=(bF t,bF t==0)
def dY(t:NT):Bool:= !(bZ aR fN 0 t 1).2
def dG(t:NT):Int:=if dY t=true then 2 else (bZ aR fE 0 t 1).1
end Go.Proofs.YthjlcjdlelkkdaaGreatDoor
namespace Go.Proofs.YthjlcjdlelkkdaaGreatDoor
theorem gY{n m:ByteArray}(h:n.data.toList=m.data.toList):n=m:=by
 cases n;cases m;simp at h;rw[h]
theorem dB(n:ByteArray):(⟨n.data.toList.toArray⟩:ByteArray)=n:=gY (by simp)
theorem mC{n:ByteArray}(h:n.data.toList = []):n=⟨#[]⟩:=gY (by rw[h])
theorem xO{a:At}:oL a=true↔a=At.zero:=by
 unfold oL;rw[aIf];constructor
 ·rintro⟨h1,h2,h3,h4,h5,h6⟩;obtain⟨n,op,v,sl,f,on⟩:=a;simp only at h1 h2 h3 h4 h5 h6;rw[mC h1,h2,h3,h4,mC h5,h6];rfl
 ·rintro rfl;exact⟨rfl,rfl,rfl,rfl,rfl,rfl⟩
theorem aAu(b:ByteArray):b.toList.isEmpty=decide (b.data.toList = []):=by
 rw[Go.Lib.toList_data];cases h:b.data.toList<;>simp
theorem fW{k:Int}{a:At}{fl:ByteArray}{nt:Bool}{kids:List NT}(h:bF (.node k a fl nt kids)=0):
  ((k=1\/k=2)/\kids = []/\fl=⟨#[]⟩/\nt=false/\fQ a=0)\/((k=3\/k=4)/\a=At.zero/\fl=⟨#[]⟩/\nt=false)\/(k=5/\a=At.zero/\aP fl.data.toList=true):=by
 rw[bF] at h;by_cases hf:bY k a fl nt kids.length=false
 ·rw[if_pos hf] at h;cases h
 ·rw[if_neg hf] at h;have a3:bY k a fl nt kids.length=true:=by simpa using hf
  unfold bY at a3;simp only[Bool.and_eq_true,decide_eq_true_eq,Bool.not_eq_true',Bool.or_eq_true,beq_iff_eq,Bool.and_eq_false_iff,Bool.not_eq_false',decide_eq_false_iff_not,cC,Bool.or_eq_false_iff,aAu,beq_eq_false_iff_ne] at a3;obtain⟨⟨⟨⟨h1,h2⟩,h3⟩,h4⟩,h5⟩:=a3;split at h
  ·cases h
  ·rename_i h6;split at h
   ·rename_i h7;have a0:k=1\/k=2:=by simpa[cC] using h7
    refine Or.inl ⟨a0,?_,?_,?_,h⟩
    ·have:¬0<kids.length:=h3.resolve_left (by rintro⟨a1,a2⟩;rcases a0 with e | e;exact a1 e;exact a2 e);exact Y4.1 (by omega)
    ·exact mC (h5.resolve_left (by omega)).1
    ·exact (h5.resolve_left (by omega)).2
   ·rename_i h7;have a0:¬(k=1\/k=2):=by simpa[cC] using h7
    have ha:a=At.zero:=by
     rcases h4 with h4 | h4
     ·exact absurd h4 a0
     ·exact xO.1 h4
    by_cases hk:k=5
    ·refine Or.inr (Or.inr ⟨hk,ha,?_⟩);cases hn:aP fl.data.toList
     ·exact absurd ⟨hk,hn⟩ h6
     ·rfl
    ·exact Or.inr (Or.inl ⟨by omega,ha,mC (h5.resolve_left hk).1,(h5.resolve_left hk).2⟩)
theorem mM(k:Int)(a:At)(hk:k=1\/k=2)(ha:fQ a=0):bF (.node k a ⟨#[]⟩ false [])=0:=by
 rcases hk with rfl | rfl
 ·simp[bF,bY,cC,ha]
 ·simp[bF,bY,cC,ha]
theorem sV:oL At.zero=true:=xO.2 rfl
theorem gB(k:Int)(kids:List NT)(hk:k=3\/k=4):bF (.node k At.zero ⟨#[]⟩ false kids)=0:=by
 rcases hk with rfl | rfl
 ·simp[bF,bY,cC,sV]
 ·simp[bF,bY,cC,sV]
theorem aEq(fl:ByteArray)(nt:Bool)(kids:List NT)(h:aP fl.data.toList=true):bF (.node 5 At.zero fl nt kids)=0:=by
 simp[bF,bY,cC,sV,h]
mutual
theorem xJ(inc:Int->Int):∀(t:NT) (s d:Int),((bZ inc fE s t d).2=true/\(bZ inc fE s t d).1=0/\t.ok)\/((bZ inc fE s t d).2=false/\(bZ inc fE s t d).1≠0/\¬t.ok)
 | .node k a fl nt kids,s,d=>by
  rw[bZ];by_cases h:bF (.node k a fl nt kids)=0
  ·have e:(fE s (.node k a fl nt kids) d).2=true:=by simp[fE,h]
   have e1:(fE s (.node k a fl nt kids) d).1=0:=by simp[fE,h]
   rw[if_pos e,e1];rcases vN inc kids (inc d) with ⟨h1,h2,h3⟩ | ⟨h1,h2,h3⟩
   ·exact Or.inl ⟨h1,h2,h,h3⟩
   ·exact Or.inr ⟨h1,h2,fun hh=>h3 hh.2⟩
  ·have e:¬(fE s (.node k a fl nt kids) d).2=true:=by simp[fE,h]
   rw[if_neg e];exact Or.inr ⟨rfl,h,fun hh=>h hh.1⟩
theorem vN(inc:Int->Int):∀(ts:List NT) (d:Int),((bL inc fE 0 ts d).2=true/\(bL inc fE 0 ts d).1=0/\okL ts)\/((bL inc fE 0 ts d).2=false/\(bL inc fE 0 ts d).1≠0/\¬okL ts)
 | [],d=>Or.inl ⟨by rw[bL],by rw[bL],by rw[okL];trivial⟩
 | t :: ts,d=>by
  rw[bL];rcases xJ inc t 0 d with ⟨h1,h2,h3⟩ | ⟨h1,h2,h3⟩
  ·rw[if_pos h1,h2];rcases vN inc ts d with ⟨h4,h5,h6⟩ | ⟨h4,h5,h6⟩
   ·exact Or.inl ⟨h4,h5,h3,h6⟩
   ·exact Or.inr ⟨h4,h5,fun hh=>h6 hh.2⟩
  ·rw[if_neg (by rw[h1];decide)];exact Or.inr ⟨rfl,h2,fun hh=>h3 hh.1⟩
end
theorem iL{d:Int}(h0:0<=d)(h1:d<=100):aR d=d+1:=by
 unfold aR;unfold Go.RowKit.wrap64;omega
mutual
theorem xL:∀(t:NT) (s d:Int),1<=d->d<=5->(bZ aR fN s t d).2=true->(bZ aR fN s t d).1=s+t.size/\(bZ aR fN s t d).1<=20/\d+t.ht<=5
 | .node k a fl nt kids,s,d,hd,hd5,h=>by
  rw[bZ] at h |-
  by_cases e:(fN s (.node k a fl nt kids) d).2=true
  ·rw[if_pos e] at h |-
   have e':s+1<=20/\d<=4:=by simpa[fN] using e
   rw[iL (by omega) (by omega)] at h |-
   obtain⟨h1,h2,h3⟩:=vP kids (s+1) (d+1) (by omega) (by omega) e'.1 h;refine⟨?_,h2,?_⟩
   ·show (bL aR fN (s+1) kids (d+1)).1=_;rw[h1,NT.size];omega
   ·rw[NT.ht];omega
  ·rw[if_neg e] at h;cases h
theorem vP:∀(ts:List NT) (s d:Int),1<=d->d<=5->s<=20->(bL aR fN s ts d).2=true->(bL aR fN s ts d).1=s+bA ts/\(bL aR fN s ts d).1<=20/\d+htL ts<=5
 | [],s,d,hd,hd5,hs,_=>by
  rw[bL,bA,htL];exact⟨by omega,hs,by omega⟩
 | t :: ts,s,d,hd,hd5,hs,h=>by
  rw[bL] at h |-
  by_cases e:(bZ aR fN s t d).2=true
  ·rw[if_pos e] at h |-
   obtain⟨h1,h2,h3⟩:=xL t s d hd hd5 e;obtain⟨h4,h5,h6⟩:=vP ts _ d hd hd5 h2 h;refine⟨?_,h5,?_⟩
   ·rw[h4,h1,bA];omega
   ·rw[htL];omega
  ·rw[if_neg e] at h;cases h
end
theorem gQ{t:NT}(h:dY t=false):t.size<=20/\t.ht<=4:=by
 unfold dY at h;obtain⟨h1,h2,h3⟩:=xL t 0 1 (by decide) (by decide) (by simpa using h);omega
theorem cZ{t:NT}:dG t=0↔dY t=false/\t.ok:=by
 unfold dG;cases h:dY t
 ·rw[if_neg (by decide)];rcases xJ aR t 0 1 with ⟨h1,h2,h3⟩ | ⟨h1,h2,h3⟩
  ·exact⟨fun _=>⟨rfl,h3⟩,fun _=>h2⟩
  ·exact⟨fun e=>absurd e h2,fun e=>absurd e.2 h3⟩
 ·rw[if_pos rfl];exact⟨fun e=>absurd e (by decide),fun e=>absurd e.1 (by decide)⟩
def aBy(c:UInt8):Bool:=okB c || [43,45,58,60,61,62].contains c
theorem lK{c:UInt8}(h:aBy c=true):c≠32/\c≠33/\c≠40/\c≠41/\c≠63/\c≠124:=by
 refine⟨?_,?_,?_,?_,?_,?_⟩<;>rintro rfl<;>revert h<;>decide
theorem oZ{c:UInt8}(h:okB c=true):aBy c=true:=by simp[aBy,h]
theorem vL{i:Int}(h0:0<=i)(h1:i<100):∀c∈Go.Lib.itoa i,aBy c=true:=by
 obtain⟨j,rfl⟩:=Int.eq_ofNat_of_zero_le h0;rw[fG];exact fun c hc=>oZ (aGw (by omega) c hc)
theorem aRp(op:Int):∀c∈iV op,aBy c=true:=by
 unfold iV;split
 ·decide
 ·split
  ·decide
  ·split
   ·decide
   ·decide
theorem rQ{a:At}(h:fQ a=0):∀c∈fS a,aBy c=true:=by
 obtain⟨h1,h2,h3,h4,h5,h6,h7,h8⟩:=nM h;have hn:∀c∈a.n.data.toList,aBy c=true:=fun c hc=>oZ (oY h1 c hc);have hf:∀c∈a.f.data.toList,aBy c=true:=by
  rcases h2 with h2 | h2
  ·rw[h2];intro c hc;cases hc
  ·exact fun c hc=>oZ (oY h2 c hc)
 intro c hc;unfold fS cI at hc;rw[U0,U0,U0] at hc;rcases hc with ((hc | hc) | hc) | hc
 ·exact hn c hc
 ·split at hc
  ·cases hc
  ·rename_i h0;rcases U0.1 hc with hc | hc
   ·exact aRp _ c hc
   ·have:=oK h0 h7;exact vL (by omega) (by omega) c hc
 ·split at hc
  ·cases hc
  ·rcases Q3.1 hc with rfl | hc
   ·decide
   ·exact vL h5 (by omega) c hc
 ·split at hc
  ·cases hc
  ·rcases Q3.1 hc with rfl | hc
   ·split<;>decide
   ·exact hf c hc
theorem aOa{a:At}(h:fQ a=0):∃c l,fS a=c :: l:=by
 obtain⟨h1,_⟩:=nM h;cases hn:a.n.data.toList with
 | nil=>rw[hn] at h1;exact absurd rfl (jJ h1)
 | cons c l=>exact⟨c,_,by unfold fS cI;rw[hn];rfl⟩
theorem zH{l:List UInt8}(h:∀c∈l,c≠63):Go.Lib.hasSuffix l [63]=false:=by
 cases e:Go.Lib.hasSuffix l [63]
 ·rfl
 ·unfold Go.Lib.hasSuffix at e;have:=List.isSuffixOf_iff_suffix.1 e;exact absurd rfl (h 63 (this.subset (by simp)))
theorem tH(l:List UInt8):Go.Lib.hasSuffix (l++[63]) [63]=true/\Go.Lib.trimSuffix (l++[63]) [63]=l:=by
 have h:Go.Lib.hasSuffix (l++[63]) [63]=true:=List.isSuffixOf_iff_suffix.2 (List.suffix_append _ _);refine⟨h,?_⟩;unfold Go.Lib.trimSuffix;rw[if_pos h];simp
theorem aFu{l:List UInt8}(h:Go.Lib.hasSuffix l [63]=true):Go.Lib.trimSuffix l [63]++[63]=l:=by
 obtain⟨r,rfl⟩:=List.isSuffixOf_iff_suffix.1 h;rw[(tH r).2]
theorem wL{l:List UInt8}(h:∀c∈l,c≠33):Go.Lib.hasPrefix l [33]=false/\Go.Lib.trimPrefix l [33]=l:=by
 have e:Go.Lib.hasPrefix l [33]=false:=by
  cases l with
  | nil=>rfl
  | cons c l=>
   have:=h c (by simp);simp[Go.Lib.hasPrefix,List.isPrefixOf,Ne.symm this]
 refine⟨e,?_⟩;unfold Go.Lib.trimPrefix;rw[if_neg (by rw[e];decide)]
theorem oD(l:List UInt8):Go.Lib.hasPrefix (33 :: l) [33]=true/\Go.Lib.trimPrefix (33 :: l) [33]=l:=by
 have e:Go.Lib.hasPrefix (33 :: l) [33]=true:=by simp[Go.Lib.hasPrefix,List.isPrefixOf]
 refine⟨e,?_⟩;unfold Go.Lib.trimPrefix;rw[if_pos e];rfl
theorem tC(l:List UInt8):(if Go.Lib.hasPrefix l [33]=true then [33] else [])++Go.Lib.trimPrefix l [33]=l:=by
 cases h:Go.Lib.hasPrefix l [33]
 ·unfold Go.Lib.trimPrefix;rw[h];rfl
 ·cases l with
  | nil=>cases h
  | cons c l=>
   have:(33:UInt8)=c:=by simpa[Go.Lib.hasPrefix,List.isPrefixOf] using h
   subst this;rw[(oD l).2];rfl
theorem aLi{a:At}(h:fQ a=0):mR (fS a)=0/\aAk (fS a)=a:=by
 obtain⟨p0,p1,p2,p3,p4,p5,p6⟩:=aIb h;refine⟨p0,?_⟩;unfold aAk fS;rw[p1,p2,p3,p4,p5,p6,dB,dB]
theorem aNz{s:List UInt8}(h:mR s=0):fQ (aAk s)=0/\fS (aAk s)=s:=by
 have:=aIo h;unfold fQ fS aAk;simpa using this
theorem aMw{l:List UInt8}(h:aP l=true):∀c∈l,c≠33:=fun c hc=>(lK (oZ (oY h c hc))).2.1
theorem zE{a:At}(h:fQ a=0):gN (fS a)=some (.node 1 a ⟨#[]⟩ false [])/\gN (33 :: fS a)=some (.node 2 a ⟨#[]⟩ false []):=by
 obtain⟨h1,h2⟩:=wL (l:=fS a) (fun c hc=>(lK (rQ h c hc)).2.1);obtain⟨h3,h4⟩:=oD (fS a);obtain⟨p0,p1⟩:=aLi h;unfold gN;rw[h1,h2,h3,h4,if_pos p0,if_pos p0,p1];exact⟨rfl,rfl⟩
theorem aMb{fl:List UInt8}(nt:Bool)(h:aP fl=true):Go.Lib.hasSuffix ((if nt then [33] else [])++(fl++[63])) [63]=true/\jT ((if nt then [33] else [])++(fl++[63]))=fl/\aBb ((if nt then [33] else [])++(fl++[63]))=nt:=by
 rw[<-List.append_assoc];obtain⟨h1,h2⟩:=tH ((if nt then [33] else [])++fl);unfold jT aBb;rw[h2];cases nt
 ·obtain⟨h3,h4⟩:=wL (aMw h);exact⟨h1,h4,h3⟩
 ·obtain⟨h3,h4⟩:=oD fl;exact⟨h1,h4,h3⟩
theorem aHf{wd:bX}(h:Go.Lib.hasSuffix wd [63]=true):(if aBb wd=true then [33] else [])++(jT wd++[63])=wd:=by
 unfold aBb jT;rw[<-List.append_assoc,tC,aFu h]
theorem zX{a:At}(h:fQ a=0)(l:List UInt8)(hl:l=fS a\/l=33 :: fS a):Go.Lib.hasSuffix l [63]=false/\l ≠ [124,124]/\l ≠ [40]/\l ≠ [41]:=by
 have ht:=rQ h;obtain⟨c,r,e⟩:=aOa h;have hc:=lK (ht c (by rw[e];simp));rcases hl with rfl | rfl
 ·refine⟨zH fun x hx=>(lK (ht x hx)).2.2.2.2.1,?_,?_,?_⟩
  ·rw[e];intro h';injection h' with h1 _;exact hc.2.2.2.2.2 h1
  ·rw[e];intro h';injection h' with h1 _;exact hc.2.2.1 h1
  ·rw[e];intro h';injection h' with h1 _;exact hc.2.2.2.1 h1
 ·refine⟨zH fun x hx=>?_,?_,?_,?_⟩
  ·rcases Q3.1 hx with rfl | hx
   ·decide
   ·exact (lK (ht x hx)).2.2.2.2.1
  ·intro h';injection h' with h1 _;revert h1;decide
  ·intro h';injection h' with h1 _;revert h1;decide
  ·intro h';injection h' with h1 _;revert h1;decide
theorem aAc:∀t:NT,∃wd r,t.words=wd :: r
 | .node k a fl nt kids=>by
  rw[NT.words];split
  ·exact⟨_,_,rfl⟩
  ·split
   ·exact⟨_,_,rfl⟩
   ·split
    ·exact⟨_,_,rfl⟩
    ·split
     ·exact⟨_,_,rfl⟩
     ·exact⟨_,_,rfl⟩
theorem xM:∀ts:List NT,ts.length<=(bV ts).length
 | []=>Nat.zero_le _
 | t :: ts=>by
  obtain⟨wd,r,e⟩:=aAc t;have:=xM ts;rw[bV,X9,e];simp only[List.length_cons];omega
mutual
theorem aFd:∀(t:NT) (g:Nat) (ws:List bX),t.ok->t.ht<=g->∃wd r,t.words=wd :: r/\wd ≠ [41]/\aY g wd (r++ws)=some (t,ws)
 | .node k a fl nt kids,g,ws,hok,hg=>by
  rw[NT.ok] at hok;rw[NT.ht] at hg;obtain⟨g,rfl⟩:∃g',g=g'+1:=⟨g-1,by omega⟩;rw[NT.words];have a0:∀(mk:List NT->NT) (ws:List bX),eA (aY g) mk (bV kids++[[41]]++ws)=some (mk kids,ws):=fun mk ws=>by
   unfold eA;have:=vS kids g [] ws ((bV kids++[[41]]++ws).length+1) hok.2 (by omega) (by have:=xM kids;simp only[List.length_append,List.length_cons];omega);rw[List.append_assoc,List.singleton_append];rw[List.append_assoc,List.singleton_append] at this;rw[this];rfl
  rcases fW hok.1 with ⟨hk,rfl,rfl,rfl,ha⟩ | ⟨hk,rfl,rfl,rfl⟩ | ⟨rfl,rfl,hn⟩
  ·rcases hk with rfl | rfl
   ·obtain⟨w1,w2,w3,w4⟩:=zX ha _ (Or.inl rfl);refine⟨fS a,[],by rw[if_pos rfl],w4,?_⟩;rw[aY,if_neg (by rw[w1];decide),if_neg w2,if_neg w3,(zE ha).1];rfl
   ·obtain⟨w1,w2,w3,w4⟩:=zX ha _ (Or.inr rfl);refine⟨33 :: fS a,[],by rw[if_neg (by decide),if_pos rfl],w4,?_⟩;rw[aY,if_neg (by rw[w1];decide),if_neg w2,if_neg w3,(zE ha).2];rfl
  ·rcases hk with rfl | rfl
   ·refine⟨[40],bV kids++[[41]],by rw[if_neg (by decide),if_neg (by decide),if_neg (by decide),if_neg (by decide)];rfl,by decide,?_⟩;rw[aY,if_neg (by decide),if_neg (by decide),if_pos rfl,a0]
   ·refine⟨[124,124],[40] :: (bV kids++[[41]]),by rw[if_neg (by decide),if_neg (by decide),if_pos rfl];rfl,by decide,?_⟩;rw[aY,if_neg (by decide),if_pos rfl,List.cons_append,lF,if_pos rfl,a0]
  ·obtain⟨f1,f2,f3⟩:=aMb nt hn;refine⟨(if nt then [33] else [])++(fl.data.toList++[63]),[40] :: (bV kids++[[41]]),by rw[if_neg (by decide),if_neg (by decide),if_neg (by decide),if_pos rfl];rfl,?_,?_⟩
   ·intro e;rw[e] at f1;revert f1;decide
   ·rw[aY,if_pos f1,f2,f3,if_pos hn,List.cons_append,lF,if_pos rfl,a0,dB]
theorem vS:∀(ts:List NT) (g:Nat) (acc:List NT) (ws:List bX) (m:Nat),okL ts->htL ts<=g->ts.length<m->eO (aY g) m acc (bV ts++[[41]]++ws)=some (acc++ts,ws)
 | [],g,acc,ws,m,_,_,hm=>by
  obtain⟨m,rfl⟩:∃m',m=m'+1:=⟨m-1,by simp at hm;omega⟩;rw[bV,List.nil_append,List.singleton_append,eO,if_pos rfl,List.append_nil]
 | t :: ts,g,acc,ws,m,hok,hg,hm=>by
  rw[okL] at hok;rw[htL] at hg;obtain⟨m,rfl⟩:∃m',m=m'+1:=⟨m-1,by simp only[List.length_cons] at hm;omega⟩;obtain⟨wd,r,e,a0,hr⟩:=aFd t g (bV ts++[[41]]++ws) hok.1 (by omega);rw[bV,e,List.append_assoc,List.append_assoc,List.cons_append,eO,if_neg a0,<-List.append_assoc (bV ts),hr];show eO (aY g) m (acc++[t]) (bV ts++[[41]]++ws)=_;rw[vS ts g (acc++[t]) ws m hok.2 (by omega) (by simp only[List.length_cons] at hm;omega),List.append_assoc,List.singleton_append]
end
theorem zD{rd:bX->List bX->Option (NT × List bX)}{g:Nat}(hrd:∀wd ws t rest,rd wd ws=some (t,rest)->wd :: ws=t.words++rest/\t.ok/\t.ht<=g):
  ∀(m:Nat) (acc:List NT) (ws:List bX) (ks:List NT) (rest:List bX),eO rd m acc ws=some (ks,rest)->∃new,ks=acc++new/\ws=bV new++([41] :: rest)/\okL new/\htL new<=g
 | 0,_,_,_,_,h=>by cases h
 | _+1,_,[],_,_,h=>by cases h
 | m+1,acc,wd :: ws,ks,rest,h=>by
  rw[eO] at h;split at h
  ·rename_i e;cases h;exact⟨[],by simp,by rw[e,bV];rfl,trivial,Nat.zero_le _⟩
  ·split at h
   ·cases h
   ·rename_i r hr;obtain⟨t,r2⟩:=r;obtain⟨h1,h2,h3⟩:=hrd wd ws t r2 hr;obtain⟨new,e1,e2,e3,e4⟩:=zD hrd m (acc++[t]) r2 ks rest h;refine⟨t :: new,by rw[e1,List.append_assoc];rfl,?_,?_,?_⟩
    ·rw[h1,e2,bV,List.append_assoc]
    ·rw[okL];exact⟨h2,e3⟩
    ·rw[htL];omega
theorem aKt:∀(g:Nat) (wd:bX) (ws:List bX) (t:NT) (rest:List bX),aY g wd ws=some (t,rest)->wd :: ws=t.words++rest/\t.ok/\t.ht<=g
 | 0,_,_,_,_,h=>by cases h
 | g+1,wd,ws,t,rest,h=>by
  have hk:∀(mk:List NT->NT) (ws:List bX),eA (aY g) mk ws=some (t,rest)->∃ks,t=mk ks/\ws=bV ks++([41] :: rest)/\okL ks/\htL ks<=g:=fun mk ws h=>by
   unfold eA at h;obtain⟨⟨ks,r⟩,h1,h2⟩:=Option.map_eq_some_iff.1 h;cases h2;obtain⟨new,e1,e2,e3,e4⟩:=zD (aKt g) _ _ _ _ _ h1;rw[List.nil_append] at e1;subst e1;exact⟨_,rfl,e2,e3,e4⟩
  have ho:∀(mk:List NT->NT) (ws:List bX),lF (aY g) mk ws=some (t,rest)->∃ks,t=mk ks/\ws = [40] :: (bV ks++([41] :: rest))/\okL ks/\htL ks<=g:=fun mk ws h=>by
   cases ws with
   | nil=>cases h
   | cons o ws=>
    rw[lF] at h;split at h
    ·rename_i e;obtain⟨ks,h1,h2,h3,h4⟩:=hk mk ws h;exact⟨ks,h1,by rw[e,h2],h3,h4⟩
    ·cases h
  rw[aY] at h;split at h
  ·rename_i h1;split at h
   ·rename_i h2;obtain⟨ks,rfl,e2,e3,e4⟩:=ho _ _ h;refine⟨?_,?_,?_⟩
    ·rw[NT.words,if_neg (by decide),if_neg (by decide),if_neg (by decide),if_pos rfl];show wd :: ws = [(if aBb wd=true then [33] else [])++(jT wd++[63])]++([40] :: (bV ks++[[41]]))++rest;rw[aHf h1,e2];simp
    ·rw[NT.ok];exact⟨aEq _ _ _ (by simpa using h2),e3⟩
    ·rw[NT.ht];omega
   ·cases h
  ·split at h
   ·rename_i h1 h2;obtain⟨ks,rfl,e2,e3,e4⟩:=ho _ _ h;refine⟨?_,?_,?_⟩
    ·rw[NT.words,if_neg (by decide),if_neg (by decide),if_pos rfl,h2,e2];simp
    ·rw[NT.ok];exact⟨gB 4 _ (Or.inr rfl),e3⟩
    ·rw[NT.ht];omega
   ·split at h
    ·rename_i h1 h2 h3;obtain⟨ks,rfl,e2,e3,e4⟩:=hk _ _ h;refine⟨?_,?_,?_⟩
     ·rw[NT.words,if_neg (by decide),if_neg (by decide),if_neg (by decide),if_neg (by decide),h3,e2];simp
     ·rw[NT.ok];exact⟨gB 3 _ (Or.inl rfl),e3⟩
     ·rw[NT.ht];omega
    ·obtain⟨t',h1,h2⟩:=Option.map_eq_some_iff.1 h;cases h2;unfold gN at h1;split at h1
     ·rename_i hp;obtain⟨hc,ht⟩:=aNz hp;have hb:=tC wd;cases hx:Go.Lib.hasPrefix wd [33]
      ·rw[hx] at h1 hb;cases h1;refine⟨?_,?_,?_⟩
       ·have a0:Go.Lib.trimPrefix wd [33]=wd:=by simpa using hb
        rw[NT.words,if_pos (by decide),ht,a0];rfl
       ·rw[NT.ok];exact⟨mM _ _ (Or.inl rfl) hc,trivial⟩
       ·simp[NT.ht,htL]
      ·rw[hx] at h1 hb;cases h1;refine⟨?_,?_,?_⟩
       ·have a0:33 :: Go.Lib.trimPrefix wd [33]=wd:=by simpa using hb
        rw[NT.words,if_neg (by decide),if_pos (by decide),ht,a0];rfl
       ·rw[NT.ok];exact⟨mM _ _ (Or.inr rfl) hc,trivial⟩
       ·simp[NT.ht,htL]
     ·cases h1
end Go.Proofs.YthjlcjdlelkkdaaGreatDoor
namespace Go.Proofs.YthjlcjdlelkkdaaGreatDoor
theorem sF:∀(x r:List UInt8),(∀c∈x,c≠32)->Go.Lib.index (x++32 :: r) [32]=x.length
 | [],r,_=>by simp[Go.Lib.index,List.isPrefixOf]
 | c :: x,r,h=>by
  have hc:=h c (by simp);have ih:=sF x r (fun d hd=>h d (by simp[hd]));rw[List.cons_append,Go.Lib.index,if_neg (by simp[List.isPrefixOf,Ne.symm hc]),ih,if_neg (by simp)];simp
theorem aDv:∀x:List UInt8,(∀c∈x,c≠32)->Go.Lib.index x [32] = -1
 | [],_=>by simp[Go.Lib.index]
 | c :: x,h=>by
  have hc:=h c (by simp);rw[Go.Lib.index,if_neg (by simp[List.isPrefixOf,Ne.symm hc]),aDv x (fun d hd=>h d (by simp[hd]))];rfl
theorem aQa(x:bX):Go.Lib.join [x] [32]=x:=Go.Lib.join_one x _
theorem aKd(x y:bX)(r:List bX):Go.Lib.join (x :: y :: r) [32]=x++32 :: Go.Lib.join (y :: r) [32]:=by
 simp[Go.Lib.join,List.intercalate,List.intersperse]
theorem aNt(k:Nat)(x r:List UInt8)(h:∀c∈x,c≠32):Go.Lib.splitK [32] 0 (k+1) (x++32 :: r)=x :: Go.Lib.splitK [32] 0 k r:=by
 rw[Go.Lib.splitK,sF x r h,if_neg (by simp)];simp
theorem aFt(k:Nat)(x:List UInt8)(h:∀c∈x,c≠32):Go.Lib.splitK [32] 0 k x = [x]:=by
 cases k with
 | zero=>rfl
 | succ k=>rw[Go.Lib.splitK,aDv x h,if_pos (by decide)]
theorem wW:∀(ws:List bX),ws ≠ []->(∀x∈ws,∀c∈x,c≠32)->Go.Lib.split (Go.Lib.join ws [32]) [32]=ws
 | [],h,_=>absurd rfl h
 | [x],_,h=>by
  rw[aQa];unfold Go.Lib.split;exact aFt _ x (h x (by simp))
 | x :: y :: r,_,h=>by
  have hx:=h x (by simp);have ih:=wW (y :: r) (by simp) (fun z hz=>h z (by simp at hz |-;exact Or.inr hz));rw[aKd];unfold Go.Lib.split at ih |-
  rw[Go.Lib.count_hit (i:=x.length) (by simp) (sF x _ hx),Nat.add_comm,aNt _ _ _ hx];have e:List.drop (x.length + [(32:UInt8)].length) (x++32 :: Go.Lib.join (y :: r) [32])=Go.Lib.join (y :: r) [32]:=by
   rw[show x++32 :: Go.Lib.join (y :: r) [32]=(x++[32])++Go.Lib.join (y :: r) [32] by simp];rw[show x.length + [(32:UInt8)].length=(x++[32]).length by simp];exact List.drop_left
  rw[e,ih]
theorem aMv{l:List UInt8}(h:aP l=true):∀c∈l,c≠32:=fun c hc=>(lK (oZ (oY h c hc))).1
mutual
theorem xN:∀(t:NT),t.ok->∀x∈t.words,∀c∈x,c≠32
 | .node k a fl nt kids,hok,x,hx=>by
  rw[NT.ok] at hok;rw[NT.words] at hx;have a0:∀l:List bX,x ∈ [40] :: (bV kids++[[41]])->∀c∈x,c≠32:=fun _ hx=>by
   rcases Q3.1 hx with rfl | hx
   ·decide
   ·rcases U0.1 hx with hx | hx
    ·exact tJ kids hok.2 x hx
    ·rw[T0.1 hx];decide
  rcases fW hok.1 with ⟨hk,rfl,rfl,rfl,ha⟩ | ⟨hk,rfl,rfl,rfl⟩ | ⟨rfl,rfl,hn⟩
  ·have ht:=rQ ha;rcases hk with rfl | rfl
   ·rw[if_pos rfl] at hx;rw[T0.1 hx];exact fun c hc=>(lK (ht c hc)).1
   ·rw[if_neg (by decide),if_pos rfl] at hx;rw[T0.1 hx];intro c hc;rcases Q3.1 hc with rfl | hc
    ·decide
    ·exact (lK (ht c hc)).1
  ·rcases hk with rfl | rfl
   ·rw[if_neg (by decide),if_neg (by decide),if_neg (by decide),if_neg (by decide)] at hx;exact a0 [] hx
   ·rw[if_neg (by decide),if_neg (by decide),if_pos rfl] at hx;rcases U0.1 hx with hx | hx
    ·rw[T0.1 hx];decide
    ·exact a0 [] hx
  ·rw[if_neg (by decide),if_neg (by decide),if_neg (by decide),if_pos rfl] at hx;rcases U0.1 hx with hx | hx
   ·rw[T0.1 hx];intro c hc;rcases U0.1 hc with hc | hc
    ·split at hc
     ·rw[T0.1 hc];decide
     ·cases hc
    ·rcases U0.1 hc with hc | hc
     ·exact aMv hn c hc
     ·rw[T0.1 hc];decide
   ·exact a0 [] hx
theorem tJ:∀(ts:List NT),okL ts->∀x∈bV ts,∀c∈x,c≠32
 | [],_,x,hx=>by rw[bV] at hx;cases hx
 | t :: ts,hok,x,hx=>by
  rw[okL] at hok;rw[bV] at hx;rcases U0.1 hx with hx | hx
  ·exact xN t hok.1 x hx
  ·exact tJ ts hok.2 x hx
end
def NT.text(t:NT):List UInt8:=Go.Lib.join t.words [32]
def aKr:List bX->Option NT
 | []=>none
 | wd :: ws=>match aY 4 wd ws with
  | some (t,[])=>some t
  | _=>none
def kF(l:List UInt8):Option NT:=aKr (Go.Lib.split l [32])
def rdE(l:List UInt8):Int:=if 20000<l.length then 2 else match kF l with
 | none=>1
 | some t=>dG t
theorem aFb{t:NT}(h:t.ok)(hh:t.ht<=4):kF t.text=some t:=by
 obtain⟨wd,r,e,_,hr⟩:=aFd t 4 [] h hh;unfold kF NT.text;rw[wW t.words (by rw[e];simp) (xN t h),e,aKr];rw[List.append_nil] at hr;rw[hr]
def kJ:List bX->Nat
 | []=>0
 | x :: r=>x.length+1+kJ r
theorem nT:∀a b:List bX,kJ (a++b)=kJ a+kJ b
 | [],b=>by simp[kJ]
 | x :: a,b=>by rw[List.cons_append,kJ,kJ,nT a b];omega
theorem aEc:∀ws:List bX,(Go.Lib.join ws [32]).length<=kJ ws
 | []=>by simp[Go.Lib.join,kJ]
 | [x]=>by rw[aQa,kJ];omega
 | x :: y :: r=>by
  have ih:=aEc (y :: r);rw[aKd,kJ,X9,Z0];omega
mutual
theorem vT:∀t:NT,t.ok->kJ t.words<=110*t.size/\t.words.length<=3*t.size
 | .node k a fl nt kids,hok=>by
  rw[NT.ok] at hok;rw[NT.words,NT.size];obtain⟨ih,a0⟩:=tB kids hok.2;have e:kJ ([40] :: (bV kids++[[41]]))=kJ (bV kids)+4:=by rw[kJ,nT];simp only[kJ,List.length_cons,List.length_nil];omega
  rcases fW hok.1 with ⟨hk,rfl,rfl,rfl,ha⟩ | ⟨hk,rfl,rfl,rfl⟩ | ⟨rfl,rfl,hn⟩
  ·have ht:(fS a).length<=100:=aGa ha;rcases hk with rfl | rfl
   ·rw[if_pos rfl];simp only[kJ,List.length_cons,List.length_nil];omega
   ·rw[if_neg (by decide),if_pos rfl];simp only[kJ,List.length_cons,List.length_nil];omega
  ·rcases hk with rfl | rfl
   ·rw[if_neg (by decide),if_neg (by decide),if_neg (by decide),if_neg (by decide),List.nil_append];rw[e];simp only[List.length_cons,List.length_append,List.length_nil];omega
   ·rw[if_neg (by decide),if_neg (by decide),if_pos rfl,nT,e];simp only[kJ,List.length_cons,List.length_append,List.length_nil];omega
  ·have h8:=oA hn;rw[if_neg (by decide),if_neg (by decide),if_neg (by decide),if_pos rfl,nT,e];simp only[kJ,List.length_cons,List.length_append,List.length_nil];have:(if nt=true then [(33:UInt8)] else []).length<=1:=by cases nt<;>simp
   omega
theorem tB:∀ts:List NT,okL ts->kJ (bV ts)<=110*bA ts/\(bV ts).length<=3*bA ts
 | [],_=>by rw[bV,kJ,bA];exact⟨by omega,by simp⟩
 | t :: ts,hok=>by
  rw[okL] at hok;obtain⟨h1,h2⟩:=vT t hok.1;obtain⟨h3,h4⟩:=tB ts hok.2;rw[bV,nT,bA,X9];omega
end
theorem aIq{t:NT}(h:dG t=0):t.text.length<=2200/\t.words.length<=60:=by
 obtain⟨h1,h2⟩:=cZ.1 h;have:=gQ h1;obtain⟨h3,h4⟩:=vT t h2;have h5:=aEc t.words;unfold NT.text;omega
theorem aRc{t:NT}(h:dG t=0):rdE t.text=0/\kF t.text=some t:=by
 obtain⟨h1,h2⟩:=cZ.1 h;have e:=aFb h2 (gQ h1).2;refine⟨?_,e⟩;unfold rdE;have:=aIq h;rw[if_neg (by omega),e];exact h
end Go.Proofs.YthjlcjdlelkkdaaGreatDoor
