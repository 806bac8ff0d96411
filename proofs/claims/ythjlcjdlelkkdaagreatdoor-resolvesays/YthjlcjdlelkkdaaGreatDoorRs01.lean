/- Steps of the proof. -/
import Derived.Lib.ItoaNum
import Derived.Lib.AtoiAll
import Derived.Lib.IndexAny
import Derived.WalkKit
import Derived.ProofKit
import Derived.BigQuiet
import Derived.WalkLawsBesides
import Derived.Shelf.Small.Utf8
import Derived.Shelf.Small.Strs
import Derived.Shelf.Small.Wraps
import Derived.Shelf.LaysM
import Derived.Shelf.Strconv.Itoa3
import Derived.Shelf.Strconv.Clone
import Derived.Shelf.LaysC
import Derived.Shelf.Strconv.AtoiAll
import Derived.Shelf.Strings.Cut
import Derived.Shelf.Strings.Split
import Derived.Shelf.Strings.Runes
import Derived.Shelf.Strings.IndexAny
import Derived.Shelf.Strings.IndexAnyAll
import Derived.Test.YthjlcjdlelkkdaaGreatDoorProg
import Derived.Lib.AtoiAllCases
import Derived.Lib.SlicesS
import Derived.WalkSmall
import Derived.Sort.Grow
import Derived.Laws.RangeAny
import Derived.Deep.LoopGhost
import Derived.RegionTactic
import Derived.WalkMore
import Derived.Lib.OthersKept
import Derived.Test.YthjlcjdlelkkdaaGreatDoorRs00
set_option maxHeartbeats 16000000
set_option maxRecDepth 100000
namespace Go.Proofs.YthjlcjdlelkkdaaGreatDoor
def jZ(c:UInt8):Bool:=decide (97<=c.toNat)&&decide (c.toNat<=122)
def aDg(c:UInt8):Bool:=decide (48<=c.toNat)&&decide (c.toNat<=57)
def okB(c:UInt8):Bool:=jZ c||aDg c
def yZ:List UInt8->Bool
 | []=>false
 | c :: _=>jZ c
def aP(l:List UInt8):Bool:=decide (l.length<=8)&&yZ l&&l.all okB
def lX(op v:Int):Bool:=if op=0 then decide (v=0) else decide (1<=v)&&decide (v<=99)
def chk(n:List UInt8)(op v sl:Int)(f:List UInt8)(on:Bool):Int:=
 if aP n=false\/(f ≠ []/\aP f=false) then 1
 else if op<0\/4<=op\/sl<0\/9<sl\/lX op v=false then 3
 else if on=true/\f = [] then 4
 else 0
def gS(op v sl ver slot:Int):Bool:=
 if sl≠0/\sl≠slot then false
 else if op=1 then decide (ver=v) else if op=2 then decide (v<=ver) else if op=3 then decide (ver<v) else true
def iV(op:Int):List UInt8:=if op=1 then [61] else if op=2 then [62,61] else if op=3 then [60] else []
def cI(n:List UInt8)(op v sl:Int)(f:List UInt8)(on:Bool):List UInt8:=
 n++(if op=0 then [] else iV op++Go.Lib.itoa v)++(if sl=0 then [] else 58 :: Go.Lib.itoa sl)++(if f = [] then [] else (if on then 43 else 45) :: f)
def fK(l:List UInt8):Bool:=match Go.Lib.atoiAll l with
 | .ok v=>decide (Go.Lib.itoa v=l)
 | _=>false
def fX(l:List UInt8):Int:=match Go.Lib.atoiAll l with
 | .ok v=>v
 | _=>0
def ahead(l m:List UInt8):List UInt8:=l.takeWhile fun c=> !m.contains c
def eD(l m:List UInt8):List UInt8:=l.dropWhile fun c=> !m.contains c
def lE(t:List UInt8):Bool:=decide (t = [])||decide (t.drop 1 ≠ [])
def iE(t:List UInt8):Bool:=decide (t = [])||(fK (t.drop 1)&&decide (fX (t.drop 1)≠0))
def fT(t:List UInt8):Int:=if [61].isPrefixOf t then 1 else if [62,61].isPrefixOf t then 2 else if [60].isPrefixOf t then 3 else 0
def lL(t:List UInt8):List UInt8:=if fT t=2 then t.drop 2 else t.drop 1
def gF(t:List UInt8):Bool:=decide (t = [])||(decide (fT t≠0)&&fK (lL t))
def iX(t:List UInt8):Int:=if t = [] then 0 else fX (t.drop 1)
def qF(t:List UInt8):Int:=if t = [] then 0 else fX (lL t)
def opV(t:List UInt8):Int:=if t = [] then 0 else fT t
def onV(t:List UInt8):Bool:=decide (t.head? = some 43)
theorem aTq(c:UInt8):jZ c=(decide (97<=(c.toNat:Int))&&decide ((c.toNat:Int)<=122)):=by
 unfold jZ;congr 1<;>exact decide_eq_decide.2 (by omega)
theorem aTd(c:UInt8):aDg c=(decide (48<=(c.toNat:Int))&&decide ((c.toNat:Int)<=57)):=by
 unfold aDg;congr 1<;>exact decide_eq_decide.2 (by omega)
theorem aHy{c:UInt8}(h:jZ c=true):okB c=true:=by simp[okB,h]
theorem pJ(s:ByteArray)(k:Nat)(h:k<s.size):s.data.toList.take (k+1)=s.data.toList.take k++[s[k]]:=by
 rw[U4 (by simpa using h)];rfl
theorem aCm(s:ByteArray)(k:Nat)(h:k<s.size)(ha:(s.data.toList.take k).all okB=true)(hk:okB s[k]=true):(s.data.toList.take (k+1)).all okB=true:=by
 rw[pJ s k h,List.all_append,ha];simp[hk]
theorem aMu(s:ByteArray)(k:Nat)(h:k<s.size)(hk:okB s[k]=false):aP s.data.toList=false:=by
 have:s.data.toList.all okB=false:=by
  rw[List.all_eq_false];exact⟨s[k],by show s.data[k]∈s.data.toList;simp,by simp[hk]⟩
 simp[aP,this]
theorem aHv(s:ByteArray)(h:0<s.size)(hk:jZ s[0]=false):aP s.data.toList=false:=by
 have e:s.data.toList=s[0] :: s.data.toList.drop 1:=by
  have:=pJ s 0 h;simp at this;rw[show s.data.toList=s.data.toList.take 1++s.data.toList.drop 1 from (List.take_append_drop 1 _).symm];have h1:List.take 1 s.data.toList = [s[0]]:=by simpa using this
  rw[h1];simp
 unfold aP;rw[e];simp[yZ,hk]
theorem aHu(s:ByteArray)(h:0<s.size)(h8:s.size<=8)(hk:jZ s[0]=true)(ha:(s.data.toList.take s.size).all okB=true):aP s.data.toList=true:=by
 have hl:s.data.toList.length=s.size:=by simp
 have e:s.data.toList=s[0] :: s.data.toList.drop 1:=by
  have:=pJ s 0 h;simp at this;rw[show s.data.toList=s.data.toList.take 1++s.data.toList.drop 1 from (List.take_append_drop 1 _).symm];have h1:List.take 1 s.data.toList = [s[0]]:=by simpa using this
  rw[h1];simp
 have a0:s.data.toList.all okB=true:=by rwa [List.take_of_length_le (by omega)] at ha
 have hh:yZ s.data.toList=true:=by rw[e];exact hk
 simp[aP,hh,a0,hl,h8]
theorem oX(s:ByteArray)(h:s.size<1\/8<s.size):aP s.data.toList=false:=by
 have hl:s.data.toList.length=s.size:=by simp
 rcases h with h | h
 ·have:s.data.toList = []:=Y4.1 (by omega);simp[aP,this,yZ]
 ·unfold aP;rw[hl,Y8 (by omega)];rfl
theorem jJ{l:List UInt8}(h:aP l=true):l ≠ []:=by
 rintro rfl;simp[aP,yZ] at h
theorem oA{l:List UInt8}(h:aP l=true):l.length<=8:=by
 simp[aP] at h;omega
end Go.Proofs.YthjlcjdlelkkdaaGreatDoor
namespace Go.Proofs.YthjlcjdlelkkdaaGreatDoor
open Go.RowKit
theorem aK{a b:Bool}(h:a=b):Ending.returned (.bool a)=.returned (.bool b):=by rw[h]
theorem aD{k:IntKind}{a b:Int}(h:a=b):Ending.returned (.int k a)=.returned (.int k b):=by rw[h]
theorem kC(c:UInt8)(w:World):
  Calls Tryz.prog 131 #[.int .u8 c.toNat] w fun e w'=>e=.returned (.bool (jZ c))/\w'=w:=by
 rw[aTq];by_cases h:97<=(c.toNat:Int)
 ·go_enter Tryz.func131,Tryz.ntmps131;go_wp2
  go_ret;exact⟨by simp[h],rfl⟩
 ·go_enter Tryz.func131,Tryz.ntmps131;go_wp2
  go_ret;exact⟨by rw[Y8 (by omega)];rfl,rfl⟩
theorem yQ(c:UInt8)(w:World):
  Calls Tryz.prog 132 #[.int .u8 c.toNat] w fun e w'=>e=.returned (.bool (aDg c))/\w'=w:=by
 rw[aTd];by_cases h:48<=(c.toNat:Int)
 ·go_enter Tryz.func132,Tryz.ntmps132;go_wp2
  go_ret;exact⟨by simp[h],rfl⟩
 ·go_enter Tryz.func132,Tryz.ntmps132;go_wp2
  go_ret;exact⟨by rw[Y8 (by omega)];rfl,rfl⟩
theorem dH(s:ByteArray)(w:World):
  Calls Tryz.prog 106 #[.string s] w fun e w'=>e=.returned (.bool (aP s.data.toList))/\w'=w:=by
 by_cases h1:s.size<1
 ·have hn:=oX s (Or.inl h1);have H:Hid (aP s.data.toList=false):=hn;clear hn;have a0:(s.size:Int)<1:=by omega
  go_enter Tryz.func106,Tryz.ntmps106;go_wp2
  go_ret;exact⟨aK H.out.symm,rfl⟩
 ·by_cases h8:8<s.size
  ·have H:Hid (aP s.data.toList=false):=oX s (Or.inr h8);have a0:¬(s.size:Int)<1:=by omega
   have a2:(8:Int)<s.size:=by omega
   go_enter Tryz.func106,Tryz.ntmps106;go_wp2
   go_ret;exact⟨aK H.out.symm,rfl⟩
  ·have a0:¬(s.size:Int)<1:=by omega
   have a2:¬(8:Int)<s.size:=by omega
   have hp:0<s.size:=by omega
   cases hl:jZ s[0]
   ·have H:Hid (aP s.data.toList=false):=aHv s hp hl;have HL:Hid (jZ s[0]=false):=hl;clear hl;go_enter Tryz.func106,Tryz.ntmps106;go_wp2_with (go_at_call 131;refine (kC _ _).mono ?_;rintro e w' ⟨rfl,rfl⟩;rw[HL.out])
    go_ret;exact⟨aK H.out.symm,rfl⟩
   ·have HL:Hid (jZ s[0]=true):=hl;clear hl;go_enter Tryz.func106,Tryz.ntmps106;go_wp2_with (go_at_call 131;refine (kC _ _).mono ?_;rintro e w' ⟨rfl,rfl⟩;rw[HL.out])
    go_loop [20] (fun i=> ∃k:Nat,k<=s.size/\i=.int .i64 k/\(s.data.toList.take k).all okB=true) (fun i=>s.size-(intOf i).toNat)
    case atStart=>exact⟨0,Nat.zero_le _,rfl,rfl⟩
    case round=>
     obtain⟨k,hk,rfl,ha⟩:=hrel;have HA:Hid ((s.data.toList.take k).all okB=true):=ha;clear ha;by_cases hlt:k<s.size
     ·cases hlk:jZ s[k]
      ·have HK:Hid (jZ s[k]=false):=hlk;clear hlk;cases hdk:aDg s[k]
       ·have HD:Hid (aDg s[k]=false):=hdk;clear hdk;have HB:Hid (okB s[k]=false):=by show okB s[k]=false;rw[okB,HK.out,HD.out];rfl
        go_wp2_with (first | (go_at_call 131;refine (kC _ _).mono ?_;rintro e w' ⟨rfl,rfl⟩;rw[HK.out]) | (go_at_call 132;refine (yQ _ _).mono ?_;rintro e w' ⟨rfl,rfl⟩;rw[HD.out]))
        go_ret;exact⟨aK (aMu s k hlt HB.out).symm,rfl⟩
       ·have HD:Hid (aDg s[k]=true):=hdk;clear hdk;have HB:Hid (okB s[k]=true):=by show okB s[k]=true;rw[okB,HK.out,HD.out];rfl
        go_wp2_with (first | (go_at_call 131;refine (kC _ _).mono ?_;rintro e w' ⟨rfl,rfl⟩;rw[HK.out]) | (go_at_call 132;refine (yQ _ _).mono ?_;rintro e w' ⟨rfl,rfl⟩;rw[HD.out]))
        go_round
        case rel=>exact⟨k+1,by omega,by go_num,aCm s k hlt HA.out HB.out⟩
        case measure=>simp[intOf];omega
      ·have HK:Hid (jZ s[k]=true):=hlk;clear hlk;go_wp2_with (go_at_call 131;refine (kC _ _).mono ?_;rintro e w' ⟨rfl,rfl⟩;rw[HK.out])
       go_round
       case rel=>exact⟨k+1,by omega,by go_num,aCm s k hlt HA.out (aHy HK.out)⟩
       case measure=>simp[intOf];omega
     ·go_wp2
      go_ret;have a1:k=s.size:=by omega
      subst a1;exact⟨aK (aHu s hp (by omega) HL.out HA.out).symm,rfl⟩
end Go.Proofs.YthjlcjdlelkkdaaGreatDoor
namespace Go.Proofs.YthjlcjdlelkkdaaGreatDoor
open Go.RowKit
def aA(w w':World):Prop:=Below w.heap.size w w'
theorem aA.refl(w:World):aA w w:=Below.refl _ _
theorem aA.trans{a b c:World}(h:aA a b)(k:aA b c):aA a c:=Below.trans h (Below.mono k h.size)
theorem aA.alloc(w:World)(o:Obj):aA w (w.alloc o):=(Below.refl _ _).alloc (Y1 _) _
theorem aA.alloc'{a w:World}(h:aA a w)(o:Obj):aA a (w.alloc o):=h.trans (aA.alloc w o)
theorem aA.drew{a w:World}(h:aA a w):aA a w.drew:=Below.drew h
theorem aA.drewN{a w:World}(h:aA a w):∀n,aA a (w.drewN n)
 | 0=>h
 | n+1=>by rw[World.drewN];exact aA.drew (aA.drewN h n)
theorem aA.set{a w:World}(h:aA a w){p:Addr}(hp:a.heap.size<=p.block)(u:Value):aA a (w.setCell p u):=Below.setCell h hp u
theorem aA.size{w w':World}(h:aA w w'):w.heap.size<=w'.heap.size:=Below.size h
theorem aA.cells{W w1:World}(hb:aA W w1):(∀b o,b<W.heap.size->w1.cell? ⟨b,o,none⟩=W.cell? ⟨b,o,none⟩)/\(∀b o,b<W.heap.size->w1.frozen? ⟨b,o,none⟩=W.frozen? ⟨b,o,none⟩):=
 ⟨fun b o h=>Below.cell hb (p:=⟨b,o,none⟩) h,fun b o h=>Below.frozen hb (p:=⟨b,o,none⟩) h⟩
theorem iR(n f:ByteArray)(op v sl:Int)(on:Bool)(w:World):
  Calls Tryz.prog 107 #[.agg #[.string n,.int .i64 op,.int .i64 v,.int .i64 sl,.string f,.bool on]] w fun e w'=>e=.returned (.bool (lX op v))/\aA w w':=by
 by_cases h:op=0
 ·have h':(op==0)=true:=by simp[h]
  have H:Hid (lX op v=(v==0)):=by show lX op v=(v==0);unfold lX;rw[if_pos h];rfl
  clear h;go_enter Tryz.func107,Tryz.ntmps107;go_wp2
  go_ret;exact⟨aK H.out.symm,aA.alloc _ _⟩
 ·have h':(op==0)=false:=by simp[h]
  have H:Hid (lX op v=(decide (1<=v)&&decide (v<=99))):=by show lX op v=_;unfold lX;rw[if_neg h]
  clear h;by_cases h1:1<=v
  ·go_enter Tryz.func107,Tryz.ntmps107;go_wp2
   go_ret;exact⟨aK (by rw[H.out];simp[h1]),aA.alloc _ _⟩
  ·go_enter Tryz.func107,Tryz.ntmps107;go_wp2
   go_ret;exact⟨aK (by rw[H.out,Y8 (by omega)];rfl),aA.alloc _ _⟩
theorem aPo(n f:ByteArray)(op v sl:Int)(on:Bool)(ver slot:Int)(w:World):
  Calls Tryz.prog 124 #[.agg #[.string n,.int .i64 op,.int .i64 v,.int .i64 sl,.string f,.bool on],.int .i64 ver,.int .i64 slot] w fun e w'=>e=.returned (.bool (gS op v sl ver slot))/\aA w w':=by
 by_cases h:sl≠0/\sl≠slot
 ·have h0:(sl != 0)=true:=by simp[h.1]
  have h1:(sl != slot)=true:=by simp[h.2]
  have H:Hid (gS op v sl ver slot=false):=by show gS op v sl ver slot=false;unfold gS;rw[if_pos h]
  clear h;go_enter Tryz.func124,Tryz.ntmps124;go_wp2
  go_ret;exact⟨aK H.out.symm,aA.alloc _ _⟩
 ·have H:Hid (gS op v sl ver slot=if op=1 then decide (ver=v) else if op=2 then decide (v<=ver) else if op=3 then decide (ver<v) else true):=by show gS op v sl ver slot=_;unfold gS;rw[if_neg h]
  have hs:(sl != 0)=false\/(sl != 0)=true/\(sl != slot)=false:=by
   by_cases e:sl=0
   ·left;simp[e]
   ·right;exact⟨by simp[e],by simp;exact Decidable.byContradiction fun e'=>h ⟨e,e'⟩⟩
  clear h;have ho:((op==1)=true/\Hid (gS op v sl ver slot=(ver==v)))\/((op==1)=false/\(op==2)=true/\Hid (gS op v sl ver slot=decide (v<=ver)))\/((op==1)=false/\(op==2)=false/\(op==3)=true/\Hid (gS op v sl ver slot=decide (ver<v)))\/((op==1)=false/\(op==2)=false/\(op==3)=false/\Hid (gS op v sl ver slot=true)):=by
   by_cases e1:op=1
   ·left;refine⟨by simp[e1],?_⟩;show _=_;rw[H.out,if_pos e1];rfl
   ·by_cases e2:op=2
    ·right;left;refine⟨by simp[e2],by simp[e2],?_⟩;show _=_;rw[H.out,if_neg e1,if_pos e2]
    ·by_cases e3:op=3
     ·right;right;left;refine⟨by simp[e3],by simp[e3],by simp[e3],?_⟩;show _=_;rw[H.out,if_neg e1,if_neg e2,if_pos e3]
     ·right;right;right;refine⟨by simp[e1],by simp[e2],by simp[e3],?_⟩;show _=_;rw[H.out,if_neg e1,if_neg e2,if_neg e3]
  clear H;rcases hs with hs | ⟨hs,hs2⟩<;>rcases ho with ⟨o1,H⟩ | ⟨o1,o2,H⟩ | ⟨o1,o2,o3,H⟩ | ⟨o1,o2,o3,H⟩
  all_goals
   go_enter Tryz.func124,Tryz.ntmps124;go_wp2
   go_ret;exact⟨aK H.out.symm,aA.alloc _ _⟩
theorem eI{f:ByteArray}(h:f.data.toList ≠ []):f.toList.isEmpty=false:=by
 rw[Go.Lib.toList_data];cases e:f.data.toList with
 | nil=>exact absurd e h
 | cons _ _=>rfl
theorem jR{f:ByteArray}(h:f.data.toList = []):f.toList.isEmpty=true:=by
 rw[Go.Lib.toList_data,h];rfl
theorem uQ(n:List UInt8)(op v sl:Int)(f:List UInt8)(on:Bool)(hn:aP n=true)(hf:f = []\/aP f=true):
  (op<0/\Hid (chk n op v sl f on=3))\/(0<=op/\4<=op/\Hid (chk n op v sl f on=3))\/(0<=op/\op<4/\sl<0/\Hid (chk n op v sl f on=3))\/(0<=op/\op<4/\0<=sl/\9<sl/\Hid (chk n op v sl f on=3))
  \/(0<=op/\op<4/\0<=sl/\sl<=9/\Hid (lX op v=false)/\Hid (chk n op v sl f on=3))\/(0<=op/\op<4/\0<=sl/\sl<=9/\Hid (lX op v=true)/\Hid (chk n op v sl f on=if on=true/\f = [] then 4 else 0)):=by
 have h1:¬(aP n=false\/(f ≠ []/\aP f=false)):=by
  rintro (h | ⟨h,h'⟩)
  ·rw[hn] at h;cases h
  ·rcases hf with hf | hf
   ·exact h hf
   ·rw[hf] at h';cases h'
 have e:chk n op v sl f on=if op<0\/4<=op\/sl<0\/9<sl\/lX op v=false then 3 else if on=true/\f = [] then 4 else 0:=by
  unfold chk;rw[if_neg h1]
 have e3:(op<0\/4<=op\/sl<0\/9<sl\/lX op v=false)->Hid (chk n op v sl f on=3):=fun h=>by
  show _=_;rw[e,if_pos h]
 by_cases a1:op<0
 ·exact Or.inl ⟨a1,e3 (Or.inl a1)⟩
 ·by_cases a2:4<=op
  ·exact Or.inr (Or.inl ⟨by omega,a2,e3 (Or.inr (Or.inl a2))⟩)
  ·by_cases a3:sl<0
   ·exact Or.inr (Or.inr (Or.inl ⟨by omega,by omega,a3,e3 (Or.inr (Or.inr (Or.inl a3)))⟩))
   ·by_cases a4:9<sl
    ·exact Or.inr (Or.inr (Or.inr (Or.inl ⟨by omega,by omega,by omega,a4,e3 (Or.inr (Or.inr (Or.inr (Or.inl a4))))⟩)))
    ·cases a5:lX op v
     ·exact Or.inr (Or.inr (Or.inr (Or.inr (Or.inl ⟨by omega,by omega,by omega,by omega,rfl,e3 (Or.inr (Or.inr (Or.inr (Or.inr a5))))⟩))))
     ·refine Or.inr (Or.inr (Or.inr (Or.inr (Or.inr ⟨by omega,by omega,by omega,by omega,rfl,?_⟩))));show _=_;rw[e,if_neg];rintro (h | h | h | h | h)
      ·exact a1 h
      ·exact a2 h
      ·exact a3 h
      ·exact a4 h
      ·rw[a5] at h;cases h
theorem yO(n f:ByteArray)(op v sl:Int)(on:Bool)(w:World)(h:aP n.data.toList=false\/(f.data.toList ≠ []/\aP f.data.toList=false)):
  Calls Tryz.prog 77 #[.agg #[.string n,.int .i64 op,.int .i64 v,.int .i64 sl,.string f,.bool on]] w fun e w'=>e=.returned (.int .i64 (chk n.data.toList op v sl f.data.toList on))/\aA w w':=by
 have HC:Hid (chk n.data.toList op v sl f.data.toList on=1):=by show _=_;unfold chk;rw[if_pos h]
 cases hn:aP n.data.toList
 ·have HN:Hid (aP n.data.toList=false):=hn;clear hn h;go_enter Tryz.func77,Tryz.ntmps77;go_wp2_with (go_at_call 106;refine (dH _ _).mono ?_;rintro e w' ⟨rfl,rfl⟩;rw[HN.out])
  go_ret;exact⟨aD HC.out.symm,aA.alloc _ _⟩
 ·have HN:Hid (aP n.data.toList=true):=hn;rw[hn] at h;obtain⟨h1,h2⟩:f.data.toList ≠ []/\aP f.data.toList=false:=h.resolve_left (by simp);have HF:Hid (aP f.data.toList=false):=h2;have a0:=eI h1;clear hn h h1 h2;go_enter Tryz.func77,Tryz.ntmps77;go_wp2_with fail;refine (dH _ _).mono ?_;rintro e w' ⟨rfl,hw⟩;rw[HN.out,hw];clear hw;go_wp2_with fail;refine (dH _ _).mono ?_;rintro e w' ⟨rfl,hw⟩;rw[HF.out,hw];clear hw;go_wp2_with fail;go_ret;exact⟨aD HC.out.symm,aA.alloc _ _⟩
theorem aCz(n f:ByteArray)(op v sl:Int)(on:Bool)(w:World)(hn:aP n.data.toList=true)(hf:f.data.toList = []):
  Calls Tryz.prog 77 #[.agg #[.string n,.int .i64 op,.int .i64 v,.int .i64 sl,.string f,.bool on]] w fun e w'=>e=.returned (.int .i64 (chk n.data.toList op v sl f.data.toList on))/\aA w w':=by
 have hr:=uQ n.data.toList op v sl f.data.toList on hn (Or.inl hf);have HN:Hid (aP n.data.toList=true):=hn;have HF:Hid (f.data.toList = []):=hf;have a1:=jR hf;clear hn hf;rcases hr with ⟨r1,HC⟩ | ⟨r1,r2,HC⟩ | ⟨r1,r2,r3,HC⟩ | ⟨r1,r2,r3,r4,HC⟩ | ⟨r1,r2,r3,r4,HV,HC⟩ | ⟨r1,r2,r3,r4,HV,HC⟩
 iterate 4
  ·go_enter Tryz.func77,Tryz.ntmps77;go_wp2_with (go_at_call 106;refine (dH _ _).mono ?_;rintro e w' ⟨rfl,hw⟩;rw[HN.out,hw];clear hw)
   go_ret;exact⟨aD HC.out.symm,aA.alloc _ _⟩
 ·go_enter Tryz.func77,Tryz.ntmps77;go_wp2_with (first | (go_at_call 106;refine (dH _ _).mono ?_;rintro e w' ⟨rfl,hw⟩;rw[HN.out,hw];clear hw) | (go_at_call 107;refine (iR _ _ _ _ _ _ _).mono ?_;rintro e w' ⟨rfl,hk⟩;rw[HV.out];obtain⟨hc,hz⟩:=hk.cells))
  go_ret;exact⟨aD HC.out.symm,(aA.alloc _ _).trans (by assumption)⟩
 ·cases on
  ·have a0:Hid (chk n.data.toList op v sl f.data.toList false=0):=by show _=_;rw[HC.out,if_neg (by simp)]
   clear HC;go_enter Tryz.func77,Tryz.ntmps77;go_wp2_with (first | (go_at_call 106;refine (dH _ _).mono ?_;rintro e w' ⟨rfl,hw⟩;rw[HN.out,hw];clear hw) | (go_at_call 107;refine (iR _ _ _ _ _ _ _).mono ?_;rintro e w' ⟨rfl,hk⟩;rw[HV.out];obtain⟨hc,hz⟩:=hk.cells))
   go_ret;exact⟨aD a0.out.symm,(aA.alloc _ _).trans (by assumption)⟩
  ·have a0:Hid (chk n.data.toList op v sl f.data.toList true=4):=by show _=_;rw[HC.out,if_pos ⟨rfl,HF.out⟩]
   clear HC;go_enter Tryz.func77,Tryz.ntmps77;go_wp2_with (first | (go_at_call 106;refine (dH _ _).mono ?_;rintro e w' ⟨rfl,hw⟩;rw[HN.out,hw];clear hw) | (go_at_call 107;refine (iR _ _ _ _ _ _ _).mono ?_;rintro e w' ⟨rfl,hk⟩;rw[HV.out];obtain⟨hc,hz⟩:=hk.cells))
   go_ret;exact⟨aD a0.out.symm,(aA.alloc _ _).trans (by assumption)⟩
theorem aGs(n f:ByteArray)(op v sl:Int)(on:Bool)(w:World)(hn:aP n.data.toList=true)(hf:aP f.data.toList=true):
  Calls Tryz.prog 77 #[.agg #[.string n,.int .i64 op,.int .i64 v,.int .i64 sl,.string f,.bool on]] w fun e w'=>e=.returned (.int .i64 (chk n.data.toList op v sl f.data.toList on))/\aA w w':=by
 have hr:=uQ n.data.toList op v sl f.data.toList on hn (Or.inr hf);have HN:Hid (aP n.data.toList=true):=hn;have HF:Hid (aP f.data.toList=true):=hf;have a1:=eI (jJ hf);clear hn hf;rcases hr with ⟨r1,HC⟩ | ⟨r1,r2,HC⟩ | ⟨r1,r2,r3,HC⟩ | ⟨r1,r2,r3,r4,HC⟩ | ⟨r1,r2,r3,r4,HV,HC⟩ | ⟨r1,r2,r3,r4,HV,HC⟩
 iterate 4
  ·go_enter Tryz.func77,Tryz.ntmps77;go_wp2_with (go_at_call 106;refine (dH _ _).mono ?_;rintro e w' ⟨rfl,hw⟩;first | rw[HN.out,hw] | rw[HF.out,hw];clear hw)
   go_ret;exact⟨aD HC.out.symm,aA.alloc _ _⟩
 ·go_enter Tryz.func77,Tryz.ntmps77;go_wp2_with (first | (go_at_call 106;refine (dH _ _).mono ?_;rintro e w' ⟨rfl,hw⟩;first | rw[HN.out,hw] | rw[HF.out,hw];clear hw) | (go_at_call 107;refine (iR _ _ _ _ _ _ _).mono ?_;rintro e w' ⟨rfl,hk⟩;rw[HV.out];obtain⟨hc,hz⟩:=hk.cells))
  go_ret;exact⟨aD HC.out.symm,(aA.alloc _ _).trans (by assumption)⟩
 ·have a0:Hid (chk n.data.toList op v sl f.data.toList on=0):=by
   show _=_;rw[HC.out,if_neg];rintro⟨_,h⟩;exact jJ HF.out h
  clear HC;cases on
  all_goals
   go_enter Tryz.func77,Tryz.ntmps77;go_wp2_with (first | (go_at_call 106;refine (dH _ _).mono ?_;rintro e w' ⟨rfl,hw⟩;first | rw[HN.out,hw] | rw[HF.out,hw];clear hw) | (go_at_call 107;refine (iR _ _ _ _ _ _ _).mono ?_;rintro e w' ⟨rfl,hk⟩;rw[HV.out];obtain⟨hc,hz⟩:=hk.cells))
   go_ret;exact⟨aD a0.out.symm,(aA.alloc _ _).trans (by assumption)⟩
theorem oQ(n f:ByteArray)(op v sl:Int)(on:Bool)(w:World):
  Calls Tryz.prog 77 #[.agg #[.string n,.int .i64 op,.int .i64 v,.int .i64 sl,.string f,.bool on]] w fun e w'=>e=.returned (.int .i64 (chk n.data.toList op v sl f.data.toList on))/\aA w w':=by
 cases hn:aP n.data.toList
 ·exact yO n f op v sl on w (Or.inl hn)
 ·by_cases hf:f.data.toList = []
  ·exact aCz n f op v sl on w hn hf
  ·cases hg:aP f.data.toList
   ·exact yO n f op v sl on w (Or.inr ⟨hf,hg⟩)
   ·exact aGs n f op v sl on w hn hg
end Go.Proofs.YthjlcjdlelkkdaaGreatDoor
namespace Go.Proofs
open Go.Shelf
def Tryz.lays119_ren:Go.Shelf.Ren:=⟨fun | 119=>193 | n=>n,fun | 21=>21 | 4=>4 | n=>n,fun | n=>n⟩
theorem Tryz.lays119:Go.Proofs.Lays.n119 Tryz.prog Tryz.lays119_ren:= {
 mixed:=by kernel_rfl
 f119:=Tryz.func193.trans (Q0 some (by kernel_rfl))
 t4:=Tryz.underlying4
 a4:=Tryz.isAgg4
 z4:=Tryz.sizeOf4
 v4:=Tryz.zeroValue4
 t21:=Tryz.underlying21
 a21:=Tryz.isAgg21
 z21:=Tryz.sizeOf21
 v21:=Tryz.zeroValue21 }
theorem Tryz.utf8_ValidRune(r:Int)(w:World):
  Calls Tryz.prog 193 #[.int .i32 r] w fun e w'=>e=.returned (.bool (Lib.validRune r))/\w'=w:=Any.utf8_ValidRune Tryz.lays119 r w
def Tryz.lays137_ren:Go.Shelf.Ren:=⟨fun | 137=>192 | 217=>153 | 266=>190 | n=>n,fun | 9=>9 | 5=>5 | 3=>3 | n=>n,fun | n=>n⟩
theorem Tryz.lays137:Go.Proofs.Lays.n137 Tryz.prog Tryz.lays137_ren:= {
 mixed:=by kernel_rfl
 f137:=Tryz.func192.trans (Q0 some (by kernel_rfl))
 f217:=Tryz.func153.trans (Q0 some (by kernel_rfl))
 f266:=Tryz.func190.trans (Q0 some (by kernel_rfl))
 t3:=Tryz.underlying3
 a3:=Tryz.isAgg3
 z3:=Tryz.sizeOf3
 v3:=Tryz.zeroValue3
 t5:=Tryz.underlying5
 a5:=Tryz.isAgg5
 z5:=Tryz.sizeOf5
 v5:=Tryz.zeroValue5
 t9:=Tryz.underlying9
 a9:=Tryz.isAgg9
 z9:=Tryz.sizeOf9
 v9:=Tryz.zeroValue9 }
open Go.RowKit in
theorem Tryz.strings_IndexByte(s:ByteArray)(c:Int)(w:World):
  Calls Tryz.prog 192 #[.string s,.int .u8 c] w fun e w'=>e=.returned (.int .i64 (Lib.indexByte s.data.toList c.toNat.toUInt8))/\w'=w:=Any.strings_IndexByte Tryz.lays137 s c w
def Tryz.lays103_ren:Go.Shelf.Ren:=⟨fun | 103=>176 | 210=>208 | 206=>219 | n=>n,fun | 9=>9 | 4=>4 | 24=>234 | 3=>3 | n=>n,fun | n=>n⟩
theorem Tryz.lays103:Go.Proofs.Lays.n103 Tryz.prog Tryz.lays103_ren:= {
 mixed:=by kernel_rfl
 f103:=Tryz.func176.trans (Q0 some (by kernel_rfl))
 f206:=Tryz.func219.trans (Q0 some (by kernel_rfl))
 f210:=Tryz.func208.trans (Q0 some (by kernel_rfl))
 t3:=Tryz.underlying3
 a3:=Tryz.isAgg3
 z3:=Tryz.sizeOf3
 v3:=Tryz.zeroValue3
 t4:=Tryz.underlying4
 a4:=Tryz.isAgg4
 z4:=Tryz.sizeOf4
 v4:=Tryz.zeroValue4
 t9:=Tryz.underlying9
 a9:=Tryz.isAgg9
 z9:=Tryz.sizeOf9
 v9:=Tryz.zeroValue9
 t24:=Tryz.underlying234
 a24:=Tryz.isAgg234
 z24:=Tryz.sizeOf234
 v24:=Tryz.zeroValue234 }
open Go.RowKit in
theorem Tryz.strings_CutPrefix(s p:ByteArray)(w:World):
  Calls Tryz.prog 176 #[.string s,.string p] w fun e w'=>e=.returned (.tuple #[.string ⟨(Lib.trimPrefix s.data.toList p.data.toList).toArray⟩,.bool (Lib.hasPrefix s.data.toList p.data.toList)])/\w'=w:=Any.strings_CutPrefix Tryz.lays103 s p w
def Tryz.lays104_ren:Go.Shelf.Ren:=⟨fun | 104=>175 | 211=>207 | 207=>218 | n=>n,fun | 9=>9 | 4=>4 | 24=>234 | 3=>3 | n=>n,fun | n=>n⟩
theorem Tryz.lays104:Go.Proofs.Lays.n104 Tryz.prog Tryz.lays104_ren:= {
 mixed:=by kernel_rfl
 f104:=Tryz.func175.trans (Q0 some (by kernel_rfl))
 f207:=Tryz.func218.trans (Q0 some (by kernel_rfl))
 f211:=Tryz.func207.trans (Q0 some (by kernel_rfl))
 t3:=Tryz.underlying3
 a3:=Tryz.isAgg3
 z3:=Tryz.sizeOf3
 v3:=Tryz.zeroValue3
 t4:=Tryz.underlying4
 a4:=Tryz.isAgg4
 z4:=Tryz.sizeOf4
 v4:=Tryz.zeroValue4
 t9:=Tryz.underlying9
 a9:=Tryz.isAgg9
 z9:=Tryz.sizeOf9
 v9:=Tryz.zeroValue9
 t24:=Tryz.underlying234
 a24:=Tryz.isAgg234
 z24:=Tryz.sizeOf234
 v24:=Tryz.zeroValue234 }
open Go.RowKit in
theorem Tryz.strings_CutSuffix(s p:ByteArray)(w:World)(hs:s.size<=9223372036854775807):
  Calls Tryz.prog 175 #[.string s,.string p] w fun e w'=>e=.returned (.tuple #[.string ⟨(Lib.trimSuffix s.data.toList p.data.toList).toArray⟩,.bool (Lib.hasSuffix s.data.toList p.data.toList)])/\w'=w:=Any.strings_CutSuffix Tryz.lays104 s p w hs
def Tryz.laysM171_ren:Go.Shelf.Ren:=⟨fun | 171=>53 | 243=>91 | 246=>123 | 283=>147 | 284=>148 | 285=>149 | 286=>150 | 129=>170 | 317=>184 | 318=>185 | 319=>186 | 320=>187 | 337=>213 | 338=>214 | n=>n,fun | 3=>3 | 9=>9 | 2=>2 | 4=>4 | 171=>211 | 0=>0 | 53=>212 | 37=>215 | 5=>5 | 173=>216 | 212=>243 | 51=>230 | 20=>20 | 213=>244 | 46=>199 | 232=>277 | 233=>278 | n=>n,fun | 17=>1 | 18=>6 | 19=>7 | n=>n⟩
theorem Tryz.laysM171:Go.Proofs.LaysM.n171 Tryz.prog Tryz.laysM171_ren:= {
 mixed:=by kernel_rfl
 f129:=Tryz.func170.trans (Q0 some (by kernel_rfl))
 f171:=Tryz.func53.trans (Q0 some (by kernel_rfl))
 f243:=Tryz.func91.trans (Q0 some (by kernel_rfl))
 f246:=Tryz.func123.trans (Q0 some (by kernel_rfl))
 f283:=Tryz.func147.trans (Q0 some (by kernel_rfl))
 f284:=Tryz.func148.trans (Q0 some (by kernel_rfl))
 f285:=Tryz.func149.trans (Q0 some (by kernel_rfl))
 f286:=Tryz.func150.trans (Q0 some (by kernel_rfl))
 f317:=Tryz.func184.trans (Q0 some (by kernel_rfl))
 f318:=Tryz.func185.trans (Q0 some (by kernel_rfl))
 f319:=Tryz.func186.trans (Q0 some (by kernel_rfl))
 f320:=Tryz.func187.trans (Q0 some (by kernel_rfl))
 f337:=Tryz.func213.trans (Q0 some (by kernel_rfl))
 f338:=Tryz.func214.trans (Q0 some (by kernel_rfl))
 t0:=Tryz.underlying0
 a0:=Tryz.isAgg0
 z0:=Tryz.sizeOf0
 v0:=Tryz.zeroValue0
 t2:=Tryz.underlying2
 a2:=Tryz.isAgg2
 z2:=Tryz.sizeOf2
 v2:=Tryz.zeroValue2
 t3:=Tryz.underlying3
 a3:=Tryz.isAgg3
 z3:=Tryz.sizeOf3
 v3:=Tryz.zeroValue3
 t4:=Tryz.underlying4
 a4:=Tryz.isAgg4
 z4:=Tryz.sizeOf4
 v4:=Tryz.zeroValue4
 t5:=Tryz.underlying5
 a5:=Tryz.isAgg5
 z5:=Tryz.sizeOf5
 v5:=Tryz.zeroValue5
 t9:=Tryz.underlying9
 a9:=Tryz.isAgg9
 z9:=Tryz.sizeOf9
 v9:=Tryz.zeroValue9
 t20:=Tryz.underlying20
 a20:=Tryz.isAgg20
 z20:=Tryz.sizeOf20
 v20:=Tryz.zeroValue20
 t37:=Tryz.underlying215
 a37:=Tryz.isAgg215
 z37:=Tryz.sizeOf215
 v37:=Tryz.zeroValue215
 t46:=Tryz.underlying199
 a46:=Tryz.isAgg199
 z46:=Tryz.sizeOf199
 v46:=Tryz.zeroValue199
 t51:=Tryz.underlying230
 a51:=Tryz.isAgg230
 z51:=Tryz.sizeOf230
 v51:=Tryz.zeroValue230
 t53:=Tryz.underlying212
 a53:=Tryz.isAgg212
 z53:=Tryz.sizeOf212
 v53:=Tryz.zeroValue212
 t171:=Tryz.underlying211
 a171:=Tryz.isAgg211
 z171:=Tryz.sizeOf211
 v171:=Tryz.zeroValue211
 t173:=Tryz.underlying216
 a173:=Tryz.isAgg216
 z173:=Tryz.sizeOf216
 v173:=Tryz.zeroValue216
 t212:=Tryz.underlying243
 a212:=Tryz.isAgg243
 z212:=Tryz.sizeOf243
 v212:=Tryz.zeroValue243
 t213:=Tryz.underlying244
 a213:=Tryz.isAgg244
 z213:=Tryz.sizeOf244
 t232:=Tryz.underlying277
 a232:=Tryz.isAgg277
 z232:=Tryz.sizeOf277
 v232:=Tryz.zeroValue277
 t233:=Tryz.underlying278
 a233:=Tryz.isAgg278
 z233:=Tryz.sizeOf278
 v233:=Tryz.zeroValue278
 g17:=by kernel_rfl
 g18:=by kernel_rfl
 g19:=by kernel_rfl
 i0:=by kernel_rfl
 i2:=by kernel_rfl
 i3:=by kernel_rfl
 i4:=by kernel_rfl
 i5:=by kernel_rfl
 i9:=by kernel_rfl
 i20:=by kernel_rfl
 i37:=by kernel_rfl
 i46:=by kernel_rfl
 i51:=by kernel_rfl
 i53:=by kernel_rfl
 i171:=by kernel_rfl
 i173:=by kernel_rfl
 i212:=by kernel_rfl
 i232:=by kernel_rfl
 i233:=by kernel_rfl
 m17:=by kernel_rfl
 m18:=by kernel_rfl
 m19:=by kernel_rfl }
open Go.RowKit Go.Sort Go.Lib in
theorem Tryz.strconv_Itoa (n : Int) (h0 : -9223372036854775808 ≤ n) (h1 : n ≤ 9223372036854775807) (w : World) (htab : Lib.TabIs Tryz.prog w "internal/strconv.uint64pow10" .u64 Lib.pow10Tab):
  Calls Tryz.prog 53 #[.int .i64 n] w fun e w'=>e=.returned (.string ⟨(Lib.itoa n).toArray⟩)/\∃k os,w'=grow (w.drewN k) os:=Any.strconv_Itoa Tryz.laysM171 n h0 h1 w htab
def Tryz.lays171_ren:Go.Shelf.Ren:=⟨fun | 171=>53 | 243=>91 | 246=>123 | 283=>147 | 284=>148 | 285=>149 | 286=>150 | 129=>170 | 317=>184 | 318=>185 | 319=>186 | 320=>187 | 337=>213 | 338=>214 | n=>n,fun | 3=>3 | 9=>9 | 2=>2 | 4=>4 | 171=>211 | 0=>0 | 53=>212 | 37=>215 | 5=>5 | 173=>216 | 212=>243 | 51=>230 | 20=>20 | 213=>244 | 46=>199 | 232=>277 | 233=>278 | n=>n,fun | 17=>1 | 18=>6 | 19=>7 | n=>n⟩
theorem Tryz.lays171:Go.Proofs.Lays.n171 Tryz.prog Tryz.lays171_ren:= {
 mixed:=by kernel_rfl
 f129:=Tryz.func170.trans (Q0 some (by kernel_rfl))
 f171:=Tryz.func53.trans (Q0 some (by kernel_rfl))
 f243:=Tryz.func91.trans (Q0 some (by kernel_rfl))
 f246:=Tryz.func123.trans (Q0 some (by kernel_rfl))
 f283:=Tryz.func147.trans (Q0 some (by kernel_rfl))
 f284:=Tryz.func148.trans (Q0 some (by kernel_rfl))
 f285:=Tryz.func149.trans (Q0 some (by kernel_rfl))
 f286:=Tryz.func150.trans (Q0 some (by kernel_rfl))
 f317:=Tryz.func184.trans (Q0 some (by kernel_rfl))
 f318:=Tryz.func185.trans (Q0 some (by kernel_rfl))
 f319:=Tryz.func186.trans (Q0 some (by kernel_rfl))
 f320:=Tryz.func187.trans (Q0 some (by kernel_rfl))
 f337:=Tryz.func213.trans (Q0 some (by kernel_rfl))
 f338:=Tryz.func214.trans (Q0 some (by kernel_rfl))
 t0:=Tryz.underlying0
 a0:=Tryz.isAgg0
 z0:=Tryz.sizeOf0
 v0:=Tryz.zeroValue0
 t2:=Tryz.underlying2
 a2:=Tryz.isAgg2
 z2:=Tryz.sizeOf2
 v2:=Tryz.zeroValue2
 t3:=Tryz.underlying3
 a3:=Tryz.isAgg3
 z3:=Tryz.sizeOf3
 v3:=Tryz.zeroValue3
 t4:=Tryz.underlying4
 a4:=Tryz.isAgg4
 z4:=Tryz.sizeOf4
 v4:=Tryz.zeroValue4
 t5:=Tryz.underlying5
 a5:=Tryz.isAgg5
 z5:=Tryz.sizeOf5
 v5:=Tryz.zeroValue5
 t9:=Tryz.underlying9
 a9:=Tryz.isAgg9
 z9:=Tryz.sizeOf9
 v9:=Tryz.zeroValue9
 t20:=Tryz.underlying20
 a20:=Tryz.isAgg20
 z20:=Tryz.sizeOf20
 v20:=Tryz.zeroValue20
 t37:=Tryz.underlying215
 a37:=Tryz.isAgg215
 z37:=Tryz.sizeOf215
 v37:=Tryz.zeroValue215
 t46:=Tryz.underlying199
 a46:=Tryz.isAgg199
 z46:=Tryz.sizeOf199
 v46:=Tryz.zeroValue199
 t51:=Tryz.underlying230
 a51:=Tryz.isAgg230
 z51:=Tryz.sizeOf230
 v51:=Tryz.zeroValue230
 t53:=Tryz.underlying212
 a53:=Tryz.isAgg212
 z53:=Tryz.sizeOf212
 v53:=Tryz.zeroValue212
 t171:=Tryz.underlying211
 a171:=Tryz.isAgg211
 z171:=Tryz.sizeOf211
 v171:=Tryz.zeroValue211
 t173:=Tryz.underlying216
 a173:=Tryz.isAgg216
 z173:=Tryz.sizeOf216
 v173:=Tryz.zeroValue216
 t212:=Tryz.underlying243
 a212:=Tryz.isAgg243
 z212:=Tryz.sizeOf243
 v212:=Tryz.zeroValue243
 t213:=Tryz.underlying244
 a213:=Tryz.isAgg244
 z213:=Tryz.sizeOf244
 t232:=Tryz.underlying277
 a232:=Tryz.isAgg277
 z232:=Tryz.sizeOf277
 v232:=Tryz.zeroValue277
 t233:=Tryz.underlying278
 a233:=Tryz.isAgg278
 z233:=Tryz.sizeOf278
 v233:=Tryz.zeroValue278
 g17:=by kernel_rfl
 g18:=by kernel_rfl
 g19:=by kernel_rfl }
open Go.RowKit Go.Sort Go.Lib in
theorem Tryz.strconv_Itoa_small(i:Nat)(hi:i<100)(w:World):
  Calls Tryz.prog 53 #[.int .i64 i] w fun e w'=>e=.returned (.string ⟨(Lib.decDigits i).toArray⟩)/\w'=w:=Any.strconv_Itoa_small Tryz.lays171 i hi w
def Tryz.laysM316_ren:Go.Shelf.Ren:=⟨fun | 316=>146 | n=>n,fun | 9=>9 | 3=>3 | 4=>4 | 37=>215 | 0=>0 | 127=>241 | 5=>5 | n=>n,fun | n=>n⟩
theorem Tryz.laysM316:Go.Proofs.LaysM.n316 Tryz.prog Tryz.laysM316_ren:= {
 mixed:=by kernel_rfl
 f316:=Tryz.func146.trans (Q0 some (by kernel_rfl))
 t0:=Tryz.underlying0
 a0:=Tryz.isAgg0
 z0:=Tryz.sizeOf0
 v0:=Tryz.zeroValue0
 t3:=Tryz.underlying3
 a3:=Tryz.isAgg3
 z3:=Tryz.sizeOf3
 v3:=Tryz.zeroValue3
 t4:=Tryz.underlying4
 a4:=Tryz.isAgg4
 z4:=Tryz.sizeOf4
 v4:=Tryz.zeroValue4
 t9:=Tryz.underlying9
 a9:=Tryz.isAgg9
 z9:=Tryz.sizeOf9
 v9:=Tryz.zeroValue9
 t37:=Tryz.underlying215
 a37:=Tryz.isAgg215
 z37:=Tryz.sizeOf215
 v37:=Tryz.zeroValue215
 t127:=Tryz.underlying241
 a127:=Tryz.isAgg241
 z127:=Tryz.sizeOf241
 v127:=Tryz.zeroValue241
 t5:=Tryz.underlying5
 a5:=Tryz.isAgg5
 z5:=Tryz.sizeOf5
 v5:=Tryz.zeroValue5
 i0:=by kernel_rfl
 i3:=by kernel_rfl
 i4:=by kernel_rfl
 i5:=by kernel_rfl
 i9:=by kernel_rfl
 i37:=by kernel_rfl
 i127:=by kernel_rfl }
open Go.RowKit in
theorem Tryz.stringslite_Clone(s:ByteArray)(w:World)(hlim:s.size<=281474976710656):
  Calls Tryz.prog 146 #[.string s] w fun e w'=>e=.returned (.string s)/\Below w.heap.size w w':=Any.stringslite_Clone Tryz.laysM316 s w hlim
def Tryz.laysC172_ren:Go.Shelf.Ren:=⟨fun | 172=>141 | 244=>173 | 245=>174 | 247=>202 | 279=>203 | 280=>204 | 281=>205 | 282=>206 | 287=>216 | 316=>146 | 171=>53 | 205=>217 | 321=>221 | 322=>222 | 243=>91 | 246=>123 | 283=>147 | 284=>148 | 285=>149 | 286=>150 | 129=>170 | 317=>184 | 318=>185 | 319=>186 | 320=>187 | 337=>213 | 338=>214 | n=>n,fun | 9=>9 | 3=>3 | 75=>202 | 76=>203 | 4=>4 | 5=>5 | 167=>260 | 37=>215 | 0=>0 | 85=>261 | 2=>2 | 168=>263 | 53=>212 | 175=>270 | 46=>199 | 210=>273 | 127=>241 | 145=>282 | 143=>280 | 21=>21 | 171=>211 | 173=>216 | 212=>243 | 51=>230 | 20=>20 | 213=>244 | 232=>277 | 233=>278 | 80=>210 | n=>n,fun | 15=>4 | 16=>5 | 17=>1 | 18=>6 | 19=>7 | n=>n⟩
theorem Tryz.laysC172:Go.Proofs.LaysC.n172 Tryz.prog Tryz.laysC172_ren:= {
 mixed:=by kernel_rfl
 f129:=Tryz.func170.trans (Q0 some (by kernel_rfl))
 f171:=Tryz.func53.trans (Q0 some (by kernel_rfl))
 f172:=Tryz.func141.trans (Q0 some (by kernel_rfl))
 f205:=Tryz.func217.trans (Q0 some (by kernel_rfl))
 f243:=Tryz.func91.trans (Q0 some (by kernel_rfl))
 f244:=Tryz.func173.trans (Q0 some (by kernel_rfl))
 f245:=Tryz.func174.trans (Q0 some (by kernel_rfl))
 f246:=Tryz.func123.trans (Q0 some (by kernel_rfl))
 f247:=Tryz.func202.trans (Q0 some (by kernel_rfl))
 f279:=Tryz.func203.trans (Q0 some (by kernel_rfl))
 f280:=Tryz.func204.trans (Q0 some (by kernel_rfl))
 f281:=Tryz.func205.trans (Q0 some (by kernel_rfl))
 f282:=Tryz.func206.trans (Q0 some (by kernel_rfl))
 f283:=Tryz.func147.trans (Q0 some (by kernel_rfl))
 f284:=Tryz.func148.trans (Q0 some (by kernel_rfl))
 f285:=Tryz.func149.trans (Q0 some (by kernel_rfl))
 f286:=Tryz.func150.trans (Q0 some (by kernel_rfl))
 f287:=Tryz.func216.trans (Q0 some (by kernel_rfl))
 f316:=Tryz.func146.trans (Q0 some (by kernel_rfl))
 f317:=Tryz.func184.trans (Q0 some (by kernel_rfl))
 f318:=Tryz.func185.trans (Q0 some (by kernel_rfl))
 f319:=Tryz.func186.trans (Q0 some (by kernel_rfl))
 f320:=Tryz.func187.trans (Q0 some (by kernel_rfl))
 f321:=Tryz.func221.trans (Q0 some (by kernel_rfl))
 f322:=Tryz.func222.trans (Q0 some (by kernel_rfl))
 f337:=Tryz.func213.trans (Q0 some (by kernel_rfl))
 f338:=Tryz.func214.trans (Q0 some (by kernel_rfl))
 t0:=Tryz.underlying0
 a0:=Tryz.isAgg0
 z0:=Tryz.sizeOf0
 v0:=Tryz.zeroValue0
 t2:=Tryz.underlying2
 a2:=Tryz.isAgg2
 z2:=Tryz.sizeOf2
 v2:=Tryz.zeroValue2
 t3:=Tryz.underlying3
 a3:=Tryz.isAgg3
 z3:=Tryz.sizeOf3
 v3:=Tryz.zeroValue3
 t4:=Tryz.underlying4
 a4:=Tryz.isAgg4
 z4:=Tryz.sizeOf4
 v4:=Tryz.zeroValue4
 t5:=Tryz.underlying5
 a5:=Tryz.isAgg5
 z5:=Tryz.sizeOf5
 v5:=Tryz.zeroValue5
 t9:=Tryz.underlying9
 a9:=Tryz.isAgg9
 z9:=Tryz.sizeOf9
 v9:=Tryz.zeroValue9
 t20:=Tryz.underlying20
 a20:=Tryz.isAgg20
 z20:=Tryz.sizeOf20
 v20:=Tryz.zeroValue20
 t21:=Tryz.underlying21
 a21:=Tryz.isAgg21
 z21:=Tryz.sizeOf21
 v21:=Tryz.zeroValue21
 t37:=Tryz.underlying215
 a37:=Tryz.isAgg215
 z37:=Tryz.sizeOf215
 v37:=Tryz.zeroValue215
 t46:=Tryz.underlying199
 a46:=Tryz.isAgg199
 z46:=Tryz.sizeOf199
 v46:=Tryz.zeroValue199
 t51:=Tryz.underlying230
 a51:=Tryz.isAgg230
 z51:=Tryz.sizeOf230
 v51:=Tryz.zeroValue230
 t53:=Tryz.underlying212
 a53:=Tryz.isAgg212
 z53:=Tryz.sizeOf212
 v53:=Tryz.zeroValue212
 t75:=Tryz.underlying202
 a75:=Tryz.isAgg202
 z75:=Tryz.sizeOf202
 v75:=Tryz.zeroValue202
 t76:=Tryz.underlying203
 a76:=Tryz.isAgg203
 z76:=Tryz.sizeOf203
 v76:=Tryz.zeroValue203
 t85:=Tryz.underlying261
 a85:=Tryz.isAgg261
 z85:=Tryz.sizeOf261
 v85:=Tryz.zeroValue261
 t127:=Tryz.underlying241
 a127:=Tryz.isAgg241
 z127:=Tryz.sizeOf241
 v127:=Tryz.zeroValue241
 t143:=Tryz.underlying280
 a143:=Tryz.isAgg280
 z143:=Tryz.sizeOf280
 v143:=Tryz.zeroValue280
 t145:=Tryz.underlying282
 a145:=Tryz.isAgg282
 z145:=Tryz.sizeOf282
 v145:=Tryz.zeroValue282
 t167:=Tryz.underlying260
 a167:=Tryz.isAgg260
 z167:=Tryz.sizeOf260
 v167:=Tryz.zeroValue260
 t168:=Tryz.underlying263
 a168:=Tryz.isAgg263
 z168:=Tryz.sizeOf263
 v168:=Tryz.zeroValue263
 t171:=Tryz.underlying211
 a171:=Tryz.isAgg211
 z171:=Tryz.sizeOf211
 v171:=Tryz.zeroValue211
 t173:=Tryz.underlying216
 a173:=Tryz.isAgg216
 z173:=Tryz.sizeOf216
 v173:=Tryz.zeroValue216
 t175:=Tryz.underlying270
 a175:=Tryz.isAgg270
 z175:=Tryz.sizeOf270
 v175:=Tryz.zeroValue270
 t210:=Tryz.underlying273
 a210:=Tryz.isAgg273
 z210:=Tryz.sizeOf273
 v210:=Tryz.zeroValue273
 t212:=Tryz.underlying243
 a212:=Tryz.isAgg243
 z212:=Tryz.sizeOf243
 v212:=Tryz.zeroValue243
 t213:=Tryz.underlying244
 a213:=Tryz.isAgg244
 z213:=Tryz.sizeOf244
 t232:=Tryz.underlying277
 a232:=Tryz.isAgg277
 z232:=Tryz.sizeOf277
 v232:=Tryz.zeroValue277
 t233:=Tryz.underlying278
 a233:=Tryz.isAgg278
 z233:=Tryz.sizeOf278
 v233:=Tryz.zeroValue278
 g15:=by kernel_rfl
 g16:=by kernel_rfl
 g17:=by kernel_rfl
 g18:=by kernel_rfl
 g19:=by kernel_rfl
 t80:=Tryz.underlying210
 a80:=Tryz.isAgg210
 z80:=Tryz.sizeOf210
 v80:=Tryz.zeroValue210
 i0:=by kernel_rfl
 i2:=by kernel_rfl
 i3:=by kernel_rfl
 i4:=by kernel_rfl
 i5:=by kernel_rfl
 i9:=by kernel_rfl
 i20:=by kernel_rfl
 i21:=by kernel_rfl
 i37:=by kernel_rfl
 i46:=by kernel_rfl
 i51:=by kernel_rfl
 i53:=by kernel_rfl
 i75:=by kernel_rfl
 i76:=by kernel_rfl
 i80:=by kernel_rfl
 i85:=by kernel_rfl
 i127:=by kernel_rfl
 i143:=by kernel_rfl
 i145:=by kernel_rfl
 i167:=by kernel_rfl
 i168:=by kernel_rfl
 i171:=by kernel_rfl
 i173:=by kernel_rfl
 i175:=by kernel_rfl
 i210:=by kernel_rfl
 i212:=by kernel_rfl
 i232:=by kernel_rfl
 i233:=by kernel_rfl
 m15:=by kernel_rfl
 m16:=by kernel_rfl
 m17:=by kernel_rfl
 m18:=by kernel_rfl
 m19:=by kernel_rfl
 c0:=by kernel_rfl
 c2:=by kernel_rfl
 c3:=by kernel_rfl
 c4:=by kernel_rfl
 c5:=by kernel_rfl
 c9:=by kernel_rfl
 c20:=by kernel_rfl
 c21:=by kernel_rfl
 c37:=by kernel_rfl
 c46:=by kernel_rfl
 c51:=by kernel_rfl
 c53:=by kernel_rfl
 c75:=by kernel_rfl
 c76:=by kernel_rfl
 c80:=by kernel_rfl
 c85:=by kernel_rfl
 c127:=by kernel_rfl
 c143:=by kernel_rfl
 c145:=by kernel_rfl
 c167:=by kernel_rfl
 c168:=by kernel_rfl
 c171:=by kernel_rfl
 c173:=by kernel_rfl
 c175:=by kernel_rfl
 c210:=by kernel_rfl
 c212:=by kernel_rfl
 c213:=by kernel_rfl
 c232:=by kernel_rfl
 c233:=by kernel_rfl }
open Go.RowKit in
theorem Tryz.strconv_Atoi_ok(s:ByteArray)(hmax:s.size<=9223372036854775806)(v:Int)(h:Lib.atoiAll s.data.toList=.ok v)(w:World):
  Calls Tryz.prog 141 #[.string s] w fun e w'=>e=.returned (.tuple #[.int .i64 v,.nilIface])/\(w'=w\/∃t,w'=Lib.bytesWorld w 5 t):=Any.strconv_Atoi_ok Tryz.laysC172 s hmax v h w
def Tryz.lays145_ren:Go.Shelf.Ren:=⟨fun | 145=>86 | 220=>117 | 219=>133 | 217=>153 | 225=>154 | 224=>155 | 267=>156 | 266=>190 | 314=>191 | n=>n,fun | 9=>9 | 4=>4 | 59=>153 | 3=>3 | 5=>5 | 46=>199 | 146=>246 | 51=>230 | n=>n,fun | 1=>0 | n=>n⟩
theorem Tryz.lays145:Go.Proofs.Lays.n145 Tryz.prog Tryz.lays145_ren:= {
 mixed:=by kernel_rfl
 f145:=Tryz.func86.trans (Q0 some (by kernel_rfl))
 f217:=Tryz.func153.trans (Q0 some (by kernel_rfl))
 f219:=Tryz.func133.trans (Q0 some (by kernel_rfl))
 f220:=Tryz.func117.trans (Q0 some (by kernel_rfl))
 f224:=Tryz.func155.trans (Q0 some (by kernel_rfl))
 f225:=Tryz.func154.trans (Q0 some (by kernel_rfl))
 f266:=Tryz.func190.trans (Q0 some (by kernel_rfl))
 f267:=Tryz.func156.trans (Q0 some (by kernel_rfl))
 f314:=Tryz.func191.trans (Q0 some (by kernel_rfl))
 t3:=Tryz.underlying3
 a3:=Tryz.isAgg3
 z3:=Tryz.sizeOf3
 v3:=Tryz.zeroValue3
 t4:=Tryz.underlying4
 a4:=Tryz.isAgg4
 z4:=Tryz.sizeOf4
 v4:=Tryz.zeroValue4
 t5:=Tryz.underlying5
 a5:=Tryz.isAgg5
 z5:=Tryz.sizeOf5
 v5:=Tryz.zeroValue5
 t9:=Tryz.underlying9
 a9:=Tryz.isAgg9
 z9:=Tryz.sizeOf9
 v9:=Tryz.zeroValue9
 t46:=Tryz.underlying199
 a46:=Tryz.isAgg199
 z46:=Tryz.sizeOf199
 v46:=Tryz.zeroValue199
 t51:=Tryz.underlying230
 a51:=Tryz.isAgg230
 z51:=Tryz.sizeOf230
 v51:=Tryz.zeroValue230
 t59:=Tryz.underlying153
 a59:=Tryz.isAgg153
 z59:=Tryz.sizeOf153
 v59:=Tryz.zeroValue153
 t146:=Tryz.underlying246
 a146:=Tryz.isAgg246
 z146:=Tryz.sizeOf246
 v146:=Tryz.zeroValue246
 g1:=by kernel_rfl }
open Go.RowKit Go.Lib in
theorem Tryz.strings_Cut(s sep:ByteArray)(m:Int)(w:World)(hs:s.size<4294967281)(hm:w.cell? ⟨0,0,none⟩=some (.int .i64 m)):
  Calls Tryz.prog 86 #[.string s,.string sep] w fun e w'=>e=.returned (.tuple #[.string ⟨(Lib.cut s.data.toList sep.data.toList).1.toArray⟩,.string ⟨(Lib.cut s.data.toList sep.data.toList).2.1.toArray⟩,.bool (Lib.cut s.data.toList sep.data.toList).2.2])/\∃n,w'=w.drewN n:=Any.strings_Cut Tryz.lays145 s sep m w hs hm
def Tryz.lays146_ren:Go.Shelf.Ren:=⟨fun | 146=>142 | 221=>140 | 268=>171 | 138=>172 | 143=>108 | 195=>200 | 197=>135 | 218=>201 | 219=>133 | 260=>157 | 217=>153 | 225=>154 | 224=>155 | 267=>156 | 266=>190 | 314=>191 | n=>n,fun | 9=>9 | 31=>93 | 3=>3 | 4=>4 | 0=>0 | 105=>194 | 21=>21 | 5=>5 | 46=>199 | 119=>248 | 139=>251 | 138=>250 | 146=>246 | 51=>230 | n=>n,fun | 1=>0 | 3=>2 | 4=>3 | n=>n⟩
theorem Tryz.lays146:Go.Proofs.Lays.n146 Tryz.prog Tryz.lays146_ren:= {
 mixed:=by kernel_rfl
 f138:=Tryz.func172.trans (Q0 some (by kernel_rfl))
 f143:=Tryz.func108.trans (Q0 some (by kernel_rfl))
 f146:=Tryz.func142.trans (Q0 some (by kernel_rfl))
 f195:=Tryz.func200.trans (Q0 some (by kernel_rfl))
 f197:=Tryz.func135.trans (Q0 some (by kernel_rfl))
 f217:=Tryz.func153.trans (Q0 some (by kernel_rfl))
 f218:=Tryz.func201.trans (Q0 some (by kernel_rfl))
 f219:=Tryz.func133.trans (Q0 some (by kernel_rfl))
 f221:=Tryz.func140.trans (Q0 some (by kernel_rfl))
 f224:=Tryz.func155.trans (Q0 some (by kernel_rfl))
 f225:=Tryz.func154.trans (Q0 some (by kernel_rfl))
 f260:=Tryz.func157.trans (Q0 some (by kernel_rfl))
 f266:=Tryz.func190.trans (Q0 some (by kernel_rfl))
 f267:=Tryz.func156.trans (Q0 some (by kernel_rfl))
 f268:=Tryz.func171.trans (Q0 some (by kernel_rfl))
 f314:=Tryz.func191.trans (Q0 some (by kernel_rfl))
 t0:=Tryz.underlying0
 a0:=Tryz.isAgg0
 z0:=Tryz.sizeOf0
 v0:=Tryz.zeroValue0
 t3:=Tryz.underlying3
 a3:=Tryz.isAgg3
 z3:=Tryz.sizeOf3
 v3:=Tryz.zeroValue3
 t4:=Tryz.underlying4
 a4:=Tryz.isAgg4
 z4:=Tryz.sizeOf4
 v4:=Tryz.zeroValue4
 t5:=Tryz.underlying5
 a5:=Tryz.isAgg5
 z5:=Tryz.sizeOf5
 v5:=Tryz.zeroValue5
 t9:=Tryz.underlying9
 a9:=Tryz.isAgg9
 z9:=Tryz.sizeOf9
 v9:=Tryz.zeroValue9
 t21:=Tryz.underlying21
 a21:=Tryz.isAgg21
 z21:=Tryz.sizeOf21
 v21:=Tryz.zeroValue21
 t31:=Tryz.underlying93
 a31:=Tryz.isAgg93
 z31:=Tryz.sizeOf93
 v31:=Tryz.zeroValue93
 t46:=Tryz.underlying199
 a46:=Tryz.isAgg199
 z46:=Tryz.sizeOf199
 v46:=Tryz.zeroValue199
 t51:=Tryz.underlying230
 a51:=Tryz.isAgg230
 z51:=Tryz.sizeOf230
 v51:=Tryz.zeroValue230
 t105:=Tryz.underlying194
 a105:=Tryz.isAgg194
 z105:=Tryz.sizeOf194
 v105:=Tryz.zeroValue194
 t119:=Tryz.underlying248
 a119:=Tryz.isAgg248
 z119:=Tryz.sizeOf248
 t138:=Tryz.underlying250
 a138:=Tryz.isAgg250
 z138:=Tryz.sizeOf250
 v138:=Tryz.zeroValue250
 t139:=Tryz.underlying251
 a139:=Tryz.isAgg251
 z139:=Tryz.sizeOf251
 v139:=Tryz.zeroValue251
 t146:=Tryz.underlying246
 a146:=Tryz.isAgg246
 z146:=Tryz.sizeOf246
 v146:=Tryz.zeroValue246
 g1:=by kernel_rfl
 g3:=by kernel_rfl
 g4:=by kernel_rfl }
open Go.RowKit Go.Lib in
theorem Tryz.strings_Split(s sep:ByteArray)(m:Int)(w:World)(hs:s.size<4294967281)(hm:w.cell? ⟨0,0,none⟩=some (.int .i64 m))(h1:1<=sep.size):
  Calls Tryz.prog 142 #[.string s,.string sep] w fun e w'=>
   e=.returned (.slice (some ⟨w.heap.size,0,none⟩) (Lib.countB s sep+1) (Lib.countB s sep+1))/\w'=w.alloc (.cells ((Lib.splitB sep 0 (Lib.countB s sep) s).map Value.string).toArray 9):=Any.strings_Split Tryz.lays146 (by kernel_rfl) s sep m w hs hm h1
def Tryz.lays147_ren:Go.Shelf.Ren:=⟨fun | 147=>118 | 221=>140 | 268=>171 | 138=>172 | 143=>108 | 195=>200 | 197=>135 | 218=>201 | 219=>133 | 260=>157 | 217=>153 | 225=>154 | 224=>155 | 267=>156 | 266=>190 | 314=>191 | n=>n,fun | 9=>9 | 3=>3 | 31=>93 | 4=>4 | 0=>0 | 105=>194 | 21=>21 | 5=>5 | 46=>199 | 119=>248 | 139=>251 | 138=>250 | 146=>246 | 51=>230 | n=>n,fun | 1=>0 | 3=>2 | 4=>3 | n=>n⟩
theorem Tryz.lays147:Go.Proofs.Lays.n147 Tryz.prog Tryz.lays147_ren:= {
 mixed:=by kernel_rfl
 f138:=Tryz.func172.trans (Q0 some (by kernel_rfl))
 f143:=Tryz.func108.trans (Q0 some (by kernel_rfl))
 f147:=Tryz.func118.trans (Q0 some (by kernel_rfl))
 f195:=Tryz.func200.trans (Q0 some (by kernel_rfl))
 f197:=Tryz.func135.trans (Q0 some (by kernel_rfl))
 f217:=Tryz.func153.trans (Q0 some (by kernel_rfl))
 f218:=Tryz.func201.trans (Q0 some (by kernel_rfl))
 f219:=Tryz.func133.trans (Q0 some (by kernel_rfl))
 f221:=Tryz.func140.trans (Q0 some (by kernel_rfl))
 f224:=Tryz.func155.trans (Q0 some (by kernel_rfl))
 f225:=Tryz.func154.trans (Q0 some (by kernel_rfl))
 f260:=Tryz.func157.trans (Q0 some (by kernel_rfl))
 f266:=Tryz.func190.trans (Q0 some (by kernel_rfl))
 f267:=Tryz.func156.trans (Q0 some (by kernel_rfl))
 f268:=Tryz.func171.trans (Q0 some (by kernel_rfl))
 f314:=Tryz.func191.trans (Q0 some (by kernel_rfl))
 t0:=Tryz.underlying0
 a0:=Tryz.isAgg0
 z0:=Tryz.sizeOf0
 v0:=Tryz.zeroValue0
 t3:=Tryz.underlying3
 a3:=Tryz.isAgg3
 z3:=Tryz.sizeOf3
 v3:=Tryz.zeroValue3
 t4:=Tryz.underlying4
 a4:=Tryz.isAgg4
 z4:=Tryz.sizeOf4
 v4:=Tryz.zeroValue4
 t5:=Tryz.underlying5
 a5:=Tryz.isAgg5
 z5:=Tryz.sizeOf5
 v5:=Tryz.zeroValue5
 t9:=Tryz.underlying9
 a9:=Tryz.isAgg9
 z9:=Tryz.sizeOf9
 v9:=Tryz.zeroValue9
 t21:=Tryz.underlying21
 a21:=Tryz.isAgg21
 z21:=Tryz.sizeOf21
 v21:=Tryz.zeroValue21
 t31:=Tryz.underlying93
 a31:=Tryz.isAgg93
 z31:=Tryz.sizeOf93
 v31:=Tryz.zeroValue93
 t46:=Tryz.underlying199
 a46:=Tryz.isAgg199
 z46:=Tryz.sizeOf199
 v46:=Tryz.zeroValue199
 t51:=Tryz.underlying230
 a51:=Tryz.isAgg230
 z51:=Tryz.sizeOf230
 v51:=Tryz.zeroValue230
 t105:=Tryz.underlying194
 a105:=Tryz.isAgg194
 z105:=Tryz.sizeOf194
 v105:=Tryz.zeroValue194
 t119:=Tryz.underlying248
 a119:=Tryz.isAgg248
 z119:=Tryz.sizeOf248
 t138:=Tryz.underlying250
 a138:=Tryz.isAgg250
 z138:=Tryz.sizeOf250
 v138:=Tryz.zeroValue250
 t139:=Tryz.underlying251
 a139:=Tryz.isAgg251
 z139:=Tryz.sizeOf251
 v139:=Tryz.zeroValue251
 t146:=Tryz.underlying246
 a146:=Tryz.isAgg246
 z146:=Tryz.sizeOf246
 v146:=Tryz.zeroValue246
 g1:=by kernel_rfl
 g3:=by kernel_rfl
 g4:=by kernel_rfl }
open Go.RowKit Go.Lib in
theorem Tryz.strings_SplitN(s sep:ByteArray)(n:Nat)(m:Int)(w:World)(hs:s.size<4294967281)(hm:w.cell? ⟨0,0,none⟩=some (.int .i64 m))(h1:1<=sep.size)(hn:1<=n)(hn63:n<=9223372036854775807):
  Calls Tryz.prog 118 #[.string s,.string sep,.int .i64 n] w fun e w'=>
   e=.returned (.slice (some ⟨w.heap.size,0,none⟩) (Lib.splitB sep 0 (min n (s.size+1)-1) s).length (min n (s.size+1)))/\w'=w.alloc (.cells (Lib.cellsOf (Lib.splitB sep 0 (min n (s.size+1)-1) s) (min n (s.size+1))) 9):=Any.strings_SplitN Tryz.lays147 (by kernel_rfl) s sep n m w hs hm h1 hn hn63
def Tryz.lays152_ren:Go.Shelf.Ren:=⟨fun | 152=>158 | 137=>192 | 119=>193 | 224=>155 | 225=>154 | 217=>153 | 266=>190 | n=>n,fun | 9=>9 | 21=>21 | 3=>3 | 4=>4 | 5=>5 | 0=>0 | 46=>199 | n=>n,fun | n=>n⟩
theorem Tryz.lays152:Go.Proofs.Lays.n152 Tryz.prog Tryz.lays152_ren:= {
 mixed:=by kernel_rfl
 f119:=Tryz.func193.trans (Q0 some (by kernel_rfl))
 f137:=Tryz.func192.trans (Q0 some (by kernel_rfl))
 f152:=Tryz.func158.trans (Q0 some (by kernel_rfl))
 f217:=Tryz.func153.trans (Q0 some (by kernel_rfl))
 f224:=Tryz.func155.trans (Q0 some (by kernel_rfl))
 f225:=Tryz.func154.trans (Q0 some (by kernel_rfl))
 f266:=Tryz.func190.trans (Q0 some (by kernel_rfl))
 t0:=Tryz.underlying0
 a0:=Tryz.isAgg0
 z0:=Tryz.sizeOf0
 v0:=Tryz.zeroValue0
 t3:=Tryz.underlying3
 a3:=Tryz.isAgg3
 z3:=Tryz.sizeOf3
 v3:=Tryz.zeroValue3
 t4:=Tryz.underlying4
 a4:=Tryz.isAgg4
 z4:=Tryz.sizeOf4
 v4:=Tryz.zeroValue4
 t5:=Tryz.underlying5
 a5:=Tryz.isAgg5
 z5:=Tryz.sizeOf5
 v5:=Tryz.zeroValue5
 t9:=Tryz.underlying9
 a9:=Tryz.isAgg9
 z9:=Tryz.sizeOf9
 v9:=Tryz.zeroValue9
 t21:=Tryz.underlying21
 a21:=Tryz.isAgg21
 z21:=Tryz.sizeOf21
 v21:=Tryz.zeroValue21
 t46:=Tryz.underlying199
 a46:=Tryz.isAgg199
 z46:=Tryz.sizeOf199
 v46:=Tryz.zeroValue199 }
open Go.RowKit Go.Lib in
theorem Tryz.strings_IndexRune_ascii(s:ByteArray)(r:Int)(w:World)(h0:0<=r)(h1:r<128):
  Calls Tryz.prog 158 #[.string s,.int .i32 r] w fun e w'=>e=.returned (.int .i64 (Lib.indexByte s.data.toList r.toNat.toUInt8))/\w'=w:=Any.strings_IndexRune_ascii Tryz.lays152 s r w h0 h1
def Tryz.lays226_ren:Go.Shelf.Ren:=⟨fun | 226=>228 | n=>n,fun | 3=>3 | 4=>4 | n=>n,fun | n=>n⟩
theorem Tryz.lays226:Go.Proofs.Lays.n226 Tryz.prog Tryz.lays226_ren:= {
 mixed:=by kernel_rfl
 f226:=Tryz.func228.trans (Q0 some (by kernel_rfl))
 t3:=Tryz.underlying3
 a3:=Tryz.isAgg3
 z3:=Tryz.sizeOf3
 v3:=Tryz.zeroValue3
 t4:=Tryz.underlying4
 a4:=Tryz.isAgg4
 z4:=Tryz.sizeOf4
 v4:=Tryz.zeroValue4 }
open Go.RowKit Go.Lib in
theorem Tryz.strings_shouldUseASCIISet(n:Int)(w:World):
  Calls Tryz.prog 228 #[.int .i64 n] w fun e w'=>e=.returned (.bool (decide (8<n)))/\w'=w:=Any.strings_shouldUseASCIISet Tryz.lays226 n w
def Tryz.lays153_ren:Go.Shelf.Ren:=⟨fun | 153=>227 | 152=>158 | 226=>228 | 227=>111 | 228=>134 | 137=>192 | 119=>193 | 224=>155 | 225=>154 | 217=>153 | 266=>190 | n=>n,fun | 9=>9 | 3=>3 | 4=>4 | 5=>5 | 21=>21 | 117=>175 | 116=>174 | 0=>0 | 46=>199 | 124=>178 | n=>n,fun | n=>n⟩
theorem Tryz.lays153:Go.Proofs.Lays.n153 Tryz.prog Tryz.lays153_ren:= {
 mixed:=by kernel_rfl
 f119:=Tryz.func193.trans (Q0 some (by kernel_rfl))
 f137:=Tryz.func192.trans (Q0 some (by kernel_rfl))
 f152:=Tryz.func158.trans (Q0 some (by kernel_rfl))
 f153:=Tryz.func227.trans (Q0 some (by kernel_rfl))
 f217:=Tryz.func153.trans (Q0 some (by kernel_rfl))
 f224:=Tryz.func155.trans (Q0 some (by kernel_rfl))
 f225:=Tryz.func154.trans (Q0 some (by kernel_rfl))
 f226:=Tryz.func228.trans (Q0 some (by kernel_rfl))
 f227:=Tryz.func111.trans (Q0 some (by kernel_rfl))
 f228:=Tryz.func134.trans (Q0 some (by kernel_rfl))
 f266:=Tryz.func190.trans (Q0 some (by kernel_rfl))
 t0:=Tryz.underlying0
 a0:=Tryz.isAgg0
 z0:=Tryz.sizeOf0
 v0:=Tryz.zeroValue0
 t3:=Tryz.underlying3
 a3:=Tryz.isAgg3
 z3:=Tryz.sizeOf3
 v3:=Tryz.zeroValue3
 t4:=Tryz.underlying4
 a4:=Tryz.isAgg4
 z4:=Tryz.sizeOf4
 v4:=Tryz.zeroValue4
 t5:=Tryz.underlying5
 a5:=Tryz.isAgg5
 z5:=Tryz.sizeOf5
 v5:=Tryz.zeroValue5
 t9:=Tryz.underlying9
 a9:=Tryz.isAgg9
 z9:=Tryz.sizeOf9
 v9:=Tryz.zeroValue9
 t21:=Tryz.underlying21
 a21:=Tryz.isAgg21
 z21:=Tryz.sizeOf21
 v21:=Tryz.zeroValue21
 t46:=Tryz.underlying199
 a46:=Tryz.isAgg199
 z46:=Tryz.sizeOf199
 v46:=Tryz.zeroValue199
 t116:=Tryz.underlying174
 a116:=Tryz.isAgg174
 z116:=Tryz.sizeOf174
 t117:=Tryz.underlying175
 a117:=Tryz.isAgg175
 z117:=Tryz.sizeOf175
 v117:=Tryz.zeroValue175
 t124:=Tryz.underlying178
 a124:=Tryz.isAgg178
 z124:=Tryz.sizeOf178
 v124:=Tryz.zeroValue178 }
open Go.RowKit Go.Lib in
theorem Tryz.strings_IndexAny_one(s chars:ByteArray)(w:World)(h1:chars.size=1)(hascii:∀(j:Nat) b,chars.data.toList[j]? = some b->b.toNat<128):
  Calls Tryz.prog 227 #[.string s,.string chars] w fun e w'=>e=.returned (.int .i64 (Lib.indexAny s.data.toList chars.data.toList))/\w'=w:=Any.strings_IndexAny_one Tryz.lays153 s chars w h1 hascii
open Go.RowKit Go.Lib in
theorem Tryz.strings_IndexAny_long(hv116:∀w,(zeroValue 174).run Tryz.prog w=.ok (.agg (Array.replicate 256 (.bool false))) w)(s chars:ByteArray)(w:World)(h2:2<=chars.size)(h8:8<s.size)(hs:s.size<4294967281)(hcs:chars.size<4294967281)(hascii:∀(j:Nat) b,chars.data.toList[j]? = some b->b.toNat<128):
  Calls Tryz.prog 227 #[.string s,.string chars] w fun e w'=>e=.returned (.int .i64 (Lib.indexAny s.data.toList chars.data.toList))/\w'=((w.alloc (.cells (Lib.setCells chars.data.toList) 174)).alloc (.cells (Lib.setCells chars.data.toList) 174)):=Any.strings_IndexAny_long Tryz.lays153 hv116 (by kernel_rfl) s chars w h2 h8 hs hcs hascii
end Go.Proofs
namespace Go.Proofs.YthjlcjdlelkkdaaGreatDoor
open Go.RowKit
def aCj(w:World):Prop:=8<w.heap.size/\w.cell? ⟨8,1,none⟩=some (.string ⟨#[61]⟩)/\w.cell? ⟨8,2,none⟩=some (.string ⟨#[62,61]⟩)/\w.cell? ⟨8,3,none⟩=some (.string ⟨#[60]⟩)
theorem aCj.keep{w w':World}(h:aCj w)(k:aA w w'):aCj w':=
 ⟨R8 h.1 k.size,(k.cells.1 _ _ h.1).trans h.2.1,(k.cells.1 _ _ h.1).trans h.2.2.1,(k.cells.1 _ _ h.1).trans h.2.2.2⟩
theorem mF{i:Nat}(h:i<100):(Lib.decDigits i).length<=2:=by
 by_cases h1:i<10
 ·rw[Lib.decDigits_one h1];simp
 ·rw[Lib.decDigits_two h1 h];simp
theorem fG(i:Nat):Lib.itoa (i:Int)=Lib.decDigits i:=by
 unfold Lib.itoa;rw[if_neg (by omega)];simp
theorem aU(s:ByteArray):s.data.toList.length=s.size:=by simp
theorem oW(l:List UInt8):(ByteArray.mk l.toArray).size=l.length:=by simp[ByteArray.size]
def aL(b:Nat)(cs:Array Value)(w:World):Prop:=b<w.heap.size/\∀o,w.cell? ⟨b,o,none⟩=cs[o]?
theorem aL.keep{b B:Nat}{cs:Array Value}{w w':World}(h:aL b cs w)(k:Below B w w')(hB:b<B):aL b cs w':=
 ⟨R8 h.1 k.size,fun o=>(k.cell (p:=⟨b,o,none⟩) hB).trans (h.2 o)⟩
theorem aL.new(w:World)(cs:Array Value)(t:TypeId):aL w.heap.size cs (w.alloc (.cells cs t)):=
 ⟨by simp,fun o=>by show (match (w.alloc (.cells cs t)).heap[w.heap.size]? with | some (Obj.cells c _ _)=>c[o]? | _=>none)=_;rw[show (w.alloc (.cells cs t)).heap[w.heap.size]? = some (.cells cs t) from by show (w.heap.push _)[w.heap.size]? = _;simp]⟩
attribute [local simp] oW
theorem oK{op v:Int}(h0:op≠0)(h:lX op v=true):1<=v/\v<=99:=by
 unfold lX at h;rw[if_neg h0] at h;simpa using h
theorem lY{v:Int}(h:lX 0 v=true):v=0:=by
 unfold lX at h;simpa using h
theorem nM{n:List UInt8}{op v sl:Int}{f:List UInt8}{on:Bool}(h:chk n op v sl f on=0):
  aP n=true/\(f = []\/aP f=true)/\0<=op/\op<4/\0<=sl/\sl<=9/\lX op v=true/\(on=true->f ≠ []):=by
 unfold chk at h;split at h
 ·cases h
 ·rename_i h1;split at h
  ·cases h
  ·rename_i h2;split at h
   ·cases h
   ·rename_i h3;refine⟨?_,?_,by omega,by omega,by omega,by omega,?_,fun e e'=>h3 ⟨e,e'⟩⟩
    ·cases e:aP n
     ·exact absurd (Or.inl e) h1
     ·rfl
    ·by_cases e:f = []
     ·exact Or.inl e
     ·right;cases e':aP f
      ·exact absurd (Or.inr ⟨e,e'⟩) h1
      ·rfl
    ·cases e:lX op v
     ·exact absurd (Or.inr (Or.inr (Or.inr (Or.inr e)))) h2
     ·rfl
end Go.Proofs.YthjlcjdlelkkdaaGreatDoor
namespace Go.Proofs.YthjlcjdlelkkdaaGreatDoor
open Go.RowKit Go.Sort
def Env (w : World) : Prop := aCj w ∧ (1 < w.heap.size ∧ Lib.TabIs Tryz.prog w "internal/strconv.uint64pow10" .u64 Lib.pow10Tab) ∧ (4 < w.heap.size ∧ ∃t p, w.cell? ⟨4, 0, none⟩ = some (.iface t p)) ∧ (5 < w.heap.size ∧ ∃t p, w.cell? ⟨5, 0, none⟩ = some (.iface t p))
theorem kU : Tryz.prog.globalNamed "internal/strconv.uint64pow10" = some 1 := by kernel_rfl
theorem Env.keep{w w':World}(h:Env w)(k:aA w w'):Env w':=by
 obtain⟨h1,⟨h2,h3⟩,⟨h4,t,p,h5⟩,⟨h6,u,q,h7⟩⟩:=h;refine⟨h1.keep k,⟨R8 h2 k.size,var?_below k kU h2 h3⟩,⟨R8 h4 k.size,t,p,?_⟩,⟨R8 h6 k.size,u,q,?_⟩⟩
 ·exact (k.cells.1 _ _ h4).trans h5
 ·exact (k.cells.1 _ _ h6).trans h7
theorem aIe{n:Int}{a b:Bool}(h:a=b):Ending.returned (.tuple #[.int .i64 n,.bool a])=.returned (.tuple #[.int .i64 n,.bool b]):=by rw[h]
theorem zA(w:World)(k:Nat)(os:Array Obj):aA w (grow (w.drewN k) os):=
 ⟨rfl,rfl,rfl,by show w.heap.size<=(w.heap++os).size;simp,fun i hi=>by show (w.heap++os)[i]? = _;rw[Array.getElem?_append_left hi]⟩
theorem aOu(s:ByteArray)(w:World)(hE:Env w)(hs:s.size<=20000)(h:∀v,Lib.atoiAll s.data.toList ≠ .ok v):
  Calls Tryz.prog 141 #[.string s] w fun e w'=> ∃n p,e=.returned (.tuple #[.int .i64 n,.iface 263 (.pointer (some p))])/\aA w w':=by
 obtain⟨_,_,⟨_,t,p,h5⟩,⟨_,u,q,h7⟩⟩:=hE;rcases hh:Lib.atoiAll s.data.toList with v | _ | _
 ·exact absurd hh (h v)
 ·have c:Calls Tryz.prog 141 #[.string s] w fun e w'=> ∃N,e=.returned (.tuple #[.int .i64 (0),.iface 263 (.pointer (some ⟨N,0,none⟩))])/\w.heap.size<=N/\w'.heap[N]? = some (.cells #[.string ⟨#[65,116,111,105]⟩,.string s,.iface t p] 273 (0,0))/\Below w.heap.size w w':=
   Any.strconv_Atoi_syntax Tryz.laysC172 s (by omega) hh _ w h5 (Or.inr ⟨_,_,rfl⟩)
  refine c.mono ?_;rintro e w' ⟨N,rfl,_,_,k⟩;exact⟨_,_,rfl,k⟩
 ·have c:Calls Tryz.prog 141 #[.string s] w fun e w'=> ∃N,e=.returned (.tuple #[.int .i64 (Lib.atoiSat s.data.toList),.iface 263 (.pointer (some ⟨N,0,none⟩))])/\w.heap.size<=N/\w'.heap[N]? = some (.cells #[.string ⟨#[65,116,111,105]⟩,.string s,.iface u q] 273 (0,0))/\Below w.heap.size w w':=
   Any.strconv_Atoi_range Tryz.laysC172 s (by omega) hh _ w h7 (Or.inr ⟨_,_,rfl⟩)
  refine c.mono ?_;rintro e w' ⟨N,rfl,_,_,k⟩;exact⟨_,_,rfl,k⟩
theorem iC(s:ByteArray)(w:World)(hE:Env w)(hs:s.size<=20000):
  Calls Tryz.prog 119 #[.string s] w fun e w'=> ∃n:Int,e=.returned (.tuple #[.int .i64 n,.bool (fK s.data.toList)])/\(fK s.data.toList=true->n=fX s.data.toList)/\aA w w':=by
 by_cases hok:∃v,Lib.atoiAll s.data.toList=.ok v
 ·obtain⟨v,hv⟩:=hok;have bd:=Lib.atoiAll_bounds hv;have HV:Hid (Lib.atoiAll s.data.toList=.ok v):=hv;have HN:Hid (fX s.data.toList=v):=by show _=_;unfold fX;rw[hv]
  have HE:Hid (Env w):=hE;by_cases hi:Lib.itoa v=s.data.toList
  ·have HB:Hid (fK s.data.toList=true):=by show _=_;unfold fK;rw[hv];simpa using hi
   have hq:(Lib.itoa v==s.toList)=true:=by rw[Lib.toList_data];simpa using hi
   clear hv hE hi;go_enter Tryz.func119,Tryz.ntmps119;go_wp2_with fail;refine (Tryz.strconv_Atoi_ok s (by omega) v HV.out _).mono ?_;rintro e w1 ⟨rfl,a1⟩;have k1:aA w w1:=by
    rcases a1 with rfl | ⟨t,rfl⟩
    ·exact aA.refl _
    ·exact Lib.bytesWorld_below _ _ _
   clear a1;go_wp2_with fail;refine (Tryz.strconv_Itoa v bd.1 bd.2 _ (HE.out.keep k1).2.1.2).mono ?_;rintro e w2 ⟨rfl,k,os,a0⟩;have k2:aA w w2:=k1.trans (a0 ▸ zA _ _ _);clear a0;go_wp2_with fail;go_ret2
   exact⟨_,aIe HB.out.symm,fun _=>HN.out.symm,k2⟩
  ·have HB:Hid (fK s.data.toList=false):=by show _=_;unfold fK;rw[hv];simpa using hi
   have hq:(Lib.itoa v==s.toList)=false:=by rw[Lib.toList_data];simpa using hi
   clear hv hE hi;go_enter Tryz.func119,Tryz.ntmps119;go_wp2_with fail;refine (Tryz.strconv_Atoi_ok s (by omega) v HV.out _).mono ?_;rintro e w1 ⟨rfl,a1⟩;have k1:aA w w1:=by
    rcases a1 with rfl | ⟨t,rfl⟩
    ·exact aA.refl _
    ·exact Lib.bytesWorld_below _ _ _
   clear a1;go_wp2_with fail;refine (Tryz.strconv_Itoa v bd.1 bd.2 _ (HE.out.keep k1).2.1.2).mono ?_;rintro e w2 ⟨rfl,k,os,a0⟩;have k2:aA w w2:=k1.trans (a0 ▸ zA _ _ _);clear a0;go_wp2_with fail;go_ret2
   exact⟨_,aIe HB.out.symm,fun h=>by (rw[HB.out] at h;cases h),k2⟩
 ·have a2:∀v,Lib.atoiAll s.data.toList ≠ .ok v:=fun v e=>hok ⟨v,e⟩;have HB:Hid (fK s.data.toList=false):=by
   show _=_;unfold fK;rcases hh:Lib.atoiAll s.data.toList with v | _ | _
   ·exact absurd hh (a2 v)
   ·rfl
   ·rfl
  have HE:Hid (Env w):=hE;have a3:Hid (∀v,Lib.atoiAll s.data.toList ≠ .ok v):=a2;clear hok hE a2;go_enter Tryz.func119,Tryz.ntmps119;go_wp2_with fail;refine (aOu s _ HE.out hs a3.out).mono ?_;rintro e w1 ⟨n,p,rfl,k1⟩;go_wp2_with fail;go_ret2
  exact⟨_,aIe HB.out.symm,fun h=>by (rw[HB.out] at h;cases h),k1⟩
end Go.Proofs.YthjlcjdlelkkdaaGreatDoor
namespace Go.Proofs.YthjlcjdlelkkdaaGreatDoor
open Go.RowKit
theorem aTi(s:ByteArray)(l:List UInt8)(hl:s.data.toList=l)(h2:2<=l.length)(h4:l.length<=4)(ha:∀x∈l,128<=x.toNat):2<=s.size/\s.size<=4/\∀(j:Nat) (hj:j<s.size),128<=(s[j]).toNat:=by
 have hs:s.size=l.length:=by rw[<-hl];simp
 refine⟨by omega,by omega,fun j hj=>ha _ ?_⟩;rw[<-hl];show s.data[j]∈_;simp
theorem aPl(r:Nat)(h:128<=r):2<=(Utf8.encode (r:Int)).size/\(Utf8.encode (r:Int)).size<=4/\∀(j:Nat) (hj:j<(Utf8.encode (r:Int)).size),128<=((Utf8.encode (r:Int))[j]).toNat:=by
 have c1:¬r<128:=by omega
 have key:=aTi (Utf8.encode (r:Int));cases v:Utf8.valid (r:Int)
 ·exact key [239,191,189] (by simp[Utf8.encode,v,Utf8.runeError]) (by decide) (by decide) (by decide)
 ·by_cases c2:r<2048
  ·refine key [UInt8.ofNat (192+r / 64),UInt8.ofNat (128+r % 64)] (by simp[Utf8.encode,v,c1,c2]) (by simp) (by simp) ?_;intro x hx;simp only[List.mem_cons,List.not_mem_nil,or_false] at hx;rcases hx with rfl | rfl<;>simp<;>omega
  ·by_cases c3:r<65536
   ·refine key [UInt8.ofNat (224+r / 4096),UInt8.ofNat (128+r / 64 % 64),UInt8.ofNat (128+r % 64)] (by simp[Utf8.encode,v,c1,c2,c3]) (by simp) (by simp) ?_;intro x hx;simp only[List.mem_cons,List.not_mem_nil,or_false] at hx;rcases hx with rfl | rfl | rfl<;>simp<;>omega
   ·have c4:r<=1114111:=by simp[Utf8.valid] at v;omega
    refine key [UInt8.ofNat (240+r / 262144),UInt8.ofNat (128+r / 4096 % 64),UInt8.ofNat (128+r / 64 % 64),UInt8.ofNat (128+r % 64)] (by simp[Utf8.encode,v,c1,c2,c3]) (by simp) (by simp) ?_;intro x hx;simp only[List.mem_cons,List.not_mem_nil,or_false] at hx;rcases hx with rfl | rfl | rfl | rfl<;>simp<;>omega
def Asc(l:List UInt8):Prop:=∀(j:Nat) b,l[j]? = some b->b.toNat<128
theorem nR:∀(l:List UInt8) (c:UInt8),Asc l->128<=c.toNat->Lib.indexByte l c = -1
 | [],_,_,_=>rfl
 | b :: l,c,h,hc=>by
  have hb:=h 0 b rfl;have ih:=nR l c (fun j x hx=>h (j+1) x (by simpa using hx)) hc;have a0:(b==c)=false:=by
   rw[Q6];rintro rfl;omega
  unfold Lib.indexByte;simp[a0,ih]
theorem aCp{s:ByteArray}(h:Asc s.data.toList)(a b:Nat):Asc (s.extract a b).data.toList:=by
 rw[Lib.extract_data];intro j x hx;rw[List.getElem?_take] at hx;split at hx
 ·exact h (a+j) x (by simpa using hx)
 ·cases hx
theorem vI(s:ByteArray)(c:UInt8)(w:World)(ha:Asc s.data.toList)(hc:128<=c.toNat):
  Calls Tryz.prog 192 #[.string s,.int .u8 c.toNat] w fun e w'=>e=.returned (.int .i64 (-1))/\w'=w:=by
 have h:=Tryz.strings_IndexByte s c.toNat w;have e:((c.toNat:Int)).toNat.toUInt8=c:=by simp
 rw[e,nR _ _ ha hc] at h;exact h
theorem tO(s:ByteArray)(w:World)(ha:Asc s.data.toList):
  Calls Tryz.prog 158 #[.string s,.int .i32 65533] w fun e w'=>e=.returned (.int .i64 (-1))/\aA w w':=by
 have HA:Hid (Asc s.data.toList):=ha;clear ha;go_enter Tryz.func158,Tryz.ntmps158;go_wp2_with fail;go_loopg [5,6] s.size (fun g _ _ wx=> ∃i:Nat,i+g=s.size/\wx=w.iter s i);case atStart=>exact⟨0,by omega,rfl⟩
 case round=>
  obtain⟨i,a4,rfl⟩:=hrel;cases gk with
  | zero=>
   obtain rfl:i=s.size:=by omega
   have a2:=run_next_end (P:=Tryz.prog) w s s.size;go_wp2
   go_ret;exact⟨rfl,aA.alloc _ _⟩
  | succ g=>
   have hi:i<s.size:=by omega
   obtain⟨x,hx⟩:∃x:UInt8,s[i]'hi=x:=⟨_,rfl⟩;have a1:s.data.toList[i]? = some x:=by rw[<-hx];exact Lib.data_getElem? s i hi
   have a0:x.toNat<128:=HA.out i x a1;have a2:=fun ty=>run_next_ascii (P:=Tryz.prog) w s i ty hi (by rw[hx];exact a0);rw[hx] at a2;clear a1 hx;have a3:((x.toNat:Int)==65533)=false:=by rw[Q6];omega
   go_wp2
   go_roundg g;case measure=>omega
   case rel=>exact⟨i+1,by omega,rfl⟩
theorem vK(s:ByteArray)(r:Nat)(w:World)(ha:Asc s.data.toList)(hr:128<=r)(_hr2:r<=2147483647):
  Calls Tryz.prog 158 #[.string s,.int .i32 r] w fun e w'=>e=.returned (.int .i64 (-1))/\aA w w':=by
 by_cases h6:r=65533
 ·subst h6;exact tO s w ha
 ·have a6:((r:Int)==65533)=false:=by rw[Q6];omega
  clear h6;have g1:(0:Int)<=(r:Int):=by omega
  have g2:decide ((r:Int)<128)=false:=Y8 (by omega);cases hv:Lib.validRune (r:Int)
  ·have HV:Hid (Lib.validRune (r:Int)=false):=hv;clear hv;go_enter Tryz.func158,Tryz.ntmps158;go_wp2_with (go_at_call 193;refine (Tryz.utf8_ValidRune _ _).mono ?_;rintro e w' ⟨rfl,hw⟩;rw[HV.out,hw];clear hw)
   go_ret;exact⟨rfl,aA.refl _⟩
  ·have HV:Hid (Lib.validRune (r:Int)=true):=hv;clear hv;obtain⟨e1,e2,e3⟩:=aPl r hr;go_enter Tryz.func158,Tryz.ntmps158;go_wp2_with (go_at_call 193;refine (Tryz.utf8_ValidRune _ _).mono ?_;rintro e w' ⟨rfl,hw⟩;rw[HV.out,hw];clear hw)
   have HA:Hid (Asc s.data.toList):=ha;clear ha;go_step3
   go_wp2_with fail;generalize Utf8.encode (r:Int)=rs at e1 e2 e3 |-
   have a0:((rs.size:Int)-1)=((rs.size-1:Nat):Int):=by omega
   rw[a0];have a2:rs.size-1<rs.size:=by omega
   have a3:rs.size-1<=3:=by omega
   generalize rs.size-1=m at a2 a3 |-
   have hc:128<=(rs[m]).toNat:=e3 m a2;clear a0 e3;go_loopg [9,10] 1 (fun g s9 s10 wx=>g=1/\s9=.int .i64 m/\wx=w);case atStart=>exact⟨rfl,rfl,rfl⟩
   case round=>
    obtain⟨hg,rfl,rfl⟩:=hrel;by_cases hlt:m<s.size
    ·have a7:(s[m]).toNat<128:=HA.out m s[m] (Lib.data_getElem? s m hlt);have a4:(((s[m]).toNat:Int) != ((rs[m]).toNat:Int))=true:=by rw[bne_iff_ne];omega
     have q1:(0:Int)<=(m:Int):=by omega
     have q2:(m:Int)<(s.size:Int):=by omega
     have q3:(m:Int)<(rs.size:Int):=by omega
     have q4:(m:Int)+1<=(s.size:Int):=by omega
     have q5:(0:Int)<=(m:Int)+1:=by omega
     go_wp2_with fail;go_step3
     go_wp2_with fail;go_quiet (fail)
     have kq:aA wr (wr.drewN nq):=aA.drewN (aA.refl _) nq;generalize wr.drewN nq=W0 at kq |-
     go_wp2_with fail;refine wp_region_quiet_lit (by kernel_rfl) (by kernel_rfl) ?_;go_big_quiet_step (fail)
     go_big_quiet_step (fail)
     go_big_quiet_step (fail)
     refine wpQuiet_step (fun K hK=>?_);go_simp;refine hK _ ?_;clear hK K;go_big_quiet_step (fail)
     go_big_quiet_step (fail)
     go_big_quiet_step (fail)
     go_big_quiet_step ((go_at_call 192;exact Calls.quiet_of_same (vI _ _ _ (aCp HA.out _ _) hc)))
     go_big_quiet_step (fail)
     refine wpQuiet_nil ?_;intro w9 a1;obtain⟨a5,a1⟩:=a1;subst a1;go_wp2_with fail;simp only[Exit.noGoto,Exit.inBlock,Exit.then];go_ret;exact⟨rfl,kq.drewN _⟩
    ·go_wp2_with fail;rw[Exit.noGoto_ret];go_ret;exact⟨rfl,aA.refl _⟩
theorem aTg(s:ByteArray)(k:Nat)(h:k<s.size):s.get! k=s[k]:=by
 simp[ByteArray.get!,getElem!_pos,h];rfl
theorem aAo(s:ByteArray)(pos:Nat)(h:pos<s.size)(ha:128<=(s[pos]).toNat):∀j,j<(Utf8.decode s pos).2->pos+j<s.size/\128<=(s.get! (pos+j)).toNat:=by
 have hn:¬(s[pos]).toNat<128:=by omega
 have h0:pos+0<s.size/\128<=(s.get! (pos+0)).toNat:=⟨h,by rw[get_at s pos h];exact ha⟩;simp only[Utf8.decode,get_at s pos h,hn,if_false];intro j hj;split at hj
 ·rename_i c;simp at c;split at hj
  ·have:j=0\/j=1:=by simp at hj;omega
   rcases this with rfl | rfl
   ·exact h0
   ·exact⟨c.2.1,by omega⟩
  ·have:j=0:=by simp at hj;omega
   subst this;exact h0
 ·split at hj
  ·rename_i c;simp at c;split at hj
   ·have:j=0\/j=1\/j=2:=by simp at hj;omega
    rcases this with rfl | rfl | rfl
    ·exact h0
    ·exact⟨c.1.2.1,by omega⟩
    ·exact⟨c.2.1,by omega⟩
   ·have:j=0:=by simp at hj;omega
    subst this;exact h0
  ·split at hj
   ·rename_i c;simp at c;split at hj
    ·have:j=0\/j=1\/j=2\/j=3:=by simp at hj;omega
     rcases this with rfl | rfl | rfl | rfl
     ·exact h0
     ·exact⟨c.1.1.2.1,by omega⟩
     ·exact⟨c.1.2.1,by omega⟩
     ·exact⟨c.2.1,by omega⟩
    ·have:j=0:=by simp at hj;omega
     subst this;exact h0
   ·have:j=0:=by simp at hj;omega
    subst this;exact h0
theorem aMz{s:ByteArray}{chars:List UInt8}(hc:Asc chars){i k:Nat}(h:Lib.NoAny s.data.toList chars i)(hk:∀j,j<k->i+j<s.size/\128<=(s.get! (i+j)).toNat):Lib.NoAny s.data.toList chars (i+k):=by
 intro j b hj hb;by_cases hji:j<i
 ·exact h j b hji hb
 ·obtain⟨h1,h2⟩:=hk (j-i) (by omega);rw[show i+(j-i)=j by omega] at h1 h2;have a1:b=s[j]:=by rw[Lib.data_getElem? s j h1] at hb;exact (U6 hb).symm
  rw[aTg s j h1] at h2;cases e:chars.contains b
  ·rfl
  ·rw[List.contains_iff_mem] at e;obtain⟨q,hq,e2⟩:=List.getElem_of_mem e;have a0:=hc q b (by rw[<-e2];exact Q9 hq);rw[a1] at a0;omega
theorem vH(s chars:ByteArray)(w:World)(h2:2<=chars.size)(h8:s.size<=8)(hc:Asc chars.data.toList):
  Calls Tryz.prog 227 #[.string s,.string chars] w fun e w'=>e=.returned (.int .i64 (Lib.indexAny s.data.toList chars.data.toList))/\aA w w':=by
 have HC:Hid (Asc chars.data.toList):=hc;clear hc;have b7:chars.toList.isEmpty=false:=eI (fun e=>by have:=aU chars;rw[e] at this;simp at this;omega);have c0:((chars.size:Int)==1)=false:=Q6.2 (by omega);have b8:decide ((8:Int)<(s.size:Int))=false:=Y8 (by omega);go_enter Tryz.func227,Tryz.ntmps227;go_wp2_with (go_at_call 228;refine (Tryz.strings_shouldUseASCIISet _ _).mono ?_;rintro e w' ⟨rfl,hw⟩;rw[hw,b8];clear hw)
 go_loopg [9,10] s.size (fun g _ _ wx=> ∃i:Nat,i+g=s.size/\wx.heap[w.heap.size]? = some (.stringIter s i)/\aA w wx/\Lib.NoAny s.data.toList chars.data.toList i);case atStart=>exact⟨0,by omega,World.iter_heap _ _ _,aA.alloc _ _,Lib.NoAny.zero _ _⟩
 case round=>
  obtain⟨i,c1,a9,a6,b2⟩:=hrel;have HN:Hid (Lib.NoAny s.data.toList chars.data.toList i):=b2;have HI:Hid (wr.heap[w.heap.size]? = some (.stringIter s i)):=a9;clear b2 a9;by_cases hi:i<s.size
  ·have b5:aA w (wr.iterAt w.heap.size s (i+(Utf8.decode s i).2)):=Lib.below_iterAt a6 (Y1 _) _ _;have b9:w.heap.size<wr.heap.size:=(U9.1 HI.out).1;by_cases hx:(s[i]).toNat<128
   ·have b1:=fun ty=>Lib.run_next_ascii_at (P:=Tryz.prog) wr w.heap.size s i ty HI.out hi hx;have a0:=Lib.contains_iff_indexByte chars.data.toList s[i];have a2:(((s[i]).toNat:Int)).toNat.toUInt8=s[i]:=by simp
    have a7:aA w (wr.iterAt w.heap.size s (i+1)):=Lib.below_iterAt a6 (Y1 _) _ _;have HX:Hid (s.data.toList[i]? = some s[i]):=Lib.data_getElem? s i hi;have a1:(wr.iterAt w.heap.size s (i+1)).heap[w.heap.size]? = some (.stringIter s (i+1)):=Lib.iterAt_heap wr _ s i (i+1) HI.out;have a5:Hid ((wr.iterAt w.heap.size s (i+1)).heap[w.heap.size]? = some (.stringIter s (i+1))):=a1;clear a1;cases hin:chars.data.toList.contains s[i]
    ·rw[hin] at a0;have c3:¬((0:Int)<=Lib.indexByte chars.data.toList s[i]):=of_decide_eq_false a0.symm;have a4:Hid (chars.data.toList.contains s[i]=false):=hin;clear a0 hin;go_wp2_with (go_at_call 158;refine (Tryz.strings_IndexRune_ascii _ _ _ (by omega) (by omega)).mono ?_;rintro e w' ⟨rfl,hw⟩;rw[hw,a2];clear hw)
     go_roundg (gk-1);case measure=>omega
     case rel=>exact⟨i+1,by omega,a5.out,a7,HN.out.succ HX.out a4.out⟩
    ·rw[hin] at a0;have c2:(0:Int)<=Lib.indexByte chars.data.toList s[i]:=of_decide_eq_true a0.symm;have a4:Hid (chars.data.toList.contains s[i]=true):=hin;clear a0 hin;go_wp2_with (go_at_call 158;refine (Tryz.strings_IndexRune_ascii _ _ _ (by omega) (by omega)).mono ?_;rintro e w' ⟨rfl,hw⟩;rw[hw,a2];clear hw)
     go_ret;exact⟨aD (Lib.indexAny_hit HN.out HX.out a4.out).symm,a7⟩
   ·have a8:128<=(s[i]).toNat:=by omega
    have b1:=fun ty=>Lib.run_next_any_at (P:=Tryz.prog) wr w.heap.size s i ty HI.out hi;obtain⟨d1,d2⟩:=decode_high s i hi a8;have d3:=decode_le s i;have HD:Hid (∀j,j<(Utf8.decode s i).2->i+j<s.size/\128<=(s.get! (i+j)).toNat):=aAo s i hi a8;have d4:i+(Utf8.decode s i).2<=s.size:=by have:=(HD.out ((Utf8.decode s i).2-1) (by omega)).1;omega
    have a1:(wr.iterAt w.heap.size s (i+(Utf8.decode s i).2)).heap[w.heap.size]? = some (.stringIter s (i+(Utf8.decode s i).2)):=Lib.iterAt_heap wr _ s i _ HI.out;have a5:Hid ((wr.iterAt w.heap.size s (i+(Utf8.decode s i).2)).heap[w.heap.size]? = some (.stringIter s (i+(Utf8.decode s i).2))):=a1;have a3:w.heap.size<(wr.iterAt w.heap.size s (i+(Utf8.decode s i).2)).heap.size:=by rw[Lib.iterAt_size];exact b9
    clear a1;generalize (Utf8.decode s i).2=k at *;generalize (Utf8.decode s i).1=r at *;generalize wr.iterAt w.heap.size s (i+k)=W1 at *;go_wp2_with fail;refine (vK _ r _ HC.out d1 d3).mono ?_;rintro e w2 ⟨rfl,b3⟩;have b4:Hid (w2.heap[w.heap.size]? = some (.stringIter s (i+k))):=by show _=_;rw[b3.block _ a3];exact a5.out
    have b6:aA w w2:=b5.trans b3;go_wp2_with fail;go_roundg (gk-k);case measure=>omega
    case rel=>exact⟨i+k,by omega,b4.out,b6,aMz HC.out HN.out HD.out⟩
  ·have b1:=fun ty=>Lib.run_next_end_at (P:=Tryz.prog) wr w.heap.size s i ty HI.out hi;have b0:i=s.size:=by omega
   have HX:Hid (i=s.size):=b0;clear b0;go_wp2
   go_ret;exact⟨aD (Lib.indexAny_none (by rw[aU,<-HX.out];exact HN.out)).symm,a6⟩
theorem aSm:∀w,(zeroValue 174).run Tryz.prog w=.ok (.agg (Array.replicate 256 (.bool false))) w:=fun w=>by kernel_rfl
theorem qW(s chars:ByteArray)(w:World)(hs:s.size<=20000)(h1:1<=chars.size)(h3:chars.size<=100)(hc:Asc chars.data.toList):
  Calls Tryz.prog 227 #[.string s,.string chars] w fun e w'=>e=.returned (.int .i64 (Lib.indexAny s.data.toList chars.data.toList))/\aA w w':=by
 by_cases e1:chars.size=1
 ·refine (Tryz.strings_IndexAny_one s chars w e1 hc).mono ?_;rintro e w' ⟨rfl,rfl⟩;exact⟨rfl,aA.refl _⟩
 ·by_cases e8:s.size<=8
  ·exact vH s chars w (by omega) e8 hc
  ·refine (Tryz.strings_IndexAny_long aSm s chars w (by omega) (by omega) (by omega) (by omega) hc).mono ?_;rintro e w' ⟨rfl,rfl⟩;exact⟨rfl,(aA.alloc _ _).alloc' _⟩
end Go.Proofs.YthjlcjdlelkkdaaGreatDoor
namespace Go.Proofs.YthjlcjdlelkkdaaGreatDoor
open Go.RowKit
theorem tA(m:List UInt8):∀l:List UInt8,(Lib.indexAny l m = -1/\ahead l m=l/\eD l m = [])\/∃i:Nat,Lib.indexAny l m=(i:Int)/\i<l.length/\ahead l m=l.take i/\eD l m=l.drop i
 | []=>Or.inl ⟨rfl,rfl,rfl⟩
 | b :: l=>by
  cases hb:m.contains b
  ·have a0:(!m.contains b)=true:=by rw[hb];rfl
   rcases tA m l with ⟨h1,h2,h3⟩ | ⟨i,h1,h2,h3,h4⟩
   ·left;unfold ahead at h2;unfold eD at h3;refine⟨?_,?_,?_⟩
    ·unfold Lib.indexAny;rw[hb,h1];simp
    ·unfold ahead;rw[List.takeWhile_cons,if_pos a0,h2]
    ·unfold eD;rw[List.dropWhile_cons,if_pos a0,h3]
   ·right;unfold ahead at h3;unfold eD at h4;refine⟨i+1,?_,by simp;omega,?_,?_⟩
    ·unfold Lib.indexAny;rw[hb,h1,if_neg (by decide),if_neg (by rw[beq_iff_eq];omega)];omega
    ·unfold ahead;rw[List.takeWhile_cons,if_pos a0,h3];rfl
    ·unfold eD;rw[List.dropWhile_cons,if_pos a0,h4];rfl
  ·have a0:¬(!m.contains b)=true:=by rw[hb];decide
   right;refine⟨0,?_,by simp,?_,?_⟩
   ·unfold Lib.indexAny;rw[hb];rfl
   ·unfold ahead;rw[List.takeWhile_cons,if_neg a0];rfl
   ·unfold eD;rw[List.dropWhile_cons,if_neg a0];rfl
theorem wJ(s m:ByteArray)(w:World)(hs:s.size<=20000)(h1:1<=m.size)(h3:m.size<=100)(hm:Asc m.data.toList):
  Calls Tryz.prog 223 #[.string s,.string m] w fun e w'=> ∃a t:ByteArray,e=.returned (.tuple #[.string a,.string t])/\a.data.toList=ahead s.data.toList m.data.toList/\t.data.toList=eD s.data.toList m.data.toList/\aA w w':=by
 have HM:Hid (Asc m.data.toList):=hm;clear hm;have hl:=aU s;rcases tA m.data.toList s.data.toList with ⟨e1,e2,e3⟩ | ⟨i,e1,e2,e3,e4⟩
 ·have H1:Hid (Lib.indexAny s.data.toList m.data.toList = -1):=e1;have H2:Hid (ahead s.data.toList m.data.toList=s.data.toList):=e2;have H3:Hid (eD s.data.toList m.data.toList = []):=e3;clear e1 e2 e3 hl;go_enter Tryz.func223,Tryz.ntmps223;go_wp2_with fail;refine (qW _ _ _ hs h1 h3 HM.out).mono ?_;rintro e w1 ⟨rfl,k1⟩;rw[H1.out];go_wp2_with fail;go_ret2
  exact⟨s,⟨#[]⟩,rfl,H2.out.symm,H3.out.symm,k1⟩
 ·rw[hl] at e2;have H1:Hid (Lib.indexAny s.data.toList m.data.toList=(i:Int)):=e1;have H2:Hid (ahead s.data.toList m.data.toList=s.data.toList.take i):=e3;have H3:Hid (eD s.data.toList m.data.toList=s.data.toList.drop i):=e4;clear e1 e3 e4 hl;have q1:(0:Int)<=(i:Int):=by omega
  have q2:(i:Int)<=(s.size:Int):=by omega
  have q3:¬((i:Int)<0):=by omega
  go_enter Tryz.func223,Tryz.ntmps223;go_wp2_with fail;refine (qW _ _ _ hs h1 h3 HM.out).mono ?_;rintro e w1 ⟨rfl,k1⟩;rw[H1.out];go_wp2_with fail;go_region
  go_wp2
  go_ret2
  exact⟨s.extract 0 i,s.extract i s.size,rfl,by rw[H2.out,Lib.extract_data];simp,by rw[H3.out,Lib.extract_to_end],k1.drew⟩
def aV(b:Nat)(n:ByteArray)(op v sl:Int)(f:ByteArray)(on:Bool)(w:World):Prop:=w.heap[b]? = some (.cells #[.string n,.int .i64 op,.int .i64 v,.int .i64 sl,.string f,.bool on] 63 (0,0))
theorem aV.facts{b:Nat}{n f:ByteArray}{op v sl:Int}{on:Bool}{w:World}(h:aV b n op v sl f on w):
  (∀o,w.cell? ⟨b,o,none⟩=(#[.string n,.int .i64 op,.int .i64 v,.int .i64 sl,.string f,.bool on]:Array Value)[o]?)/\(∀o,w.frozen? ⟨b,o,none⟩=false)/\b<w.heap.size:=by
 unfold aV at h;refine⟨fun o=>by simp[World.cell?,h],fun o=>by simp[World.frozen?,h],(U9.1 h).1⟩
theorem aJ{b:Nat}{cs:Array Value}{T:TypeId}{w:World}(h:w.heap[b]? = some (.cells cs T (0,0)))(i:Nat)(x:Value):(w.setCell ⟨b,i,none⟩ x).heap[b]? = some (.cells (cs.setIfInBounds i x) T (0,0)):=by
 simp[World.setCell,Array.getElem?_modify,h]
theorem aV.below{b B:Nat}{n f:ByteArray}{op v sl:Int}{on:Bool}{w w':World}(h:aV b n op v sl f on w)(k:Below B w w')(hB:b<B):aV b n op v sl f on w':=by
 unfold aV at *;rw[k.block b hB];exact h
theorem aQ(w:World)(b i:Nat)(x:Value):Below b w (w.setCell ⟨b,i,none⟩ x):=(Below.refl _ _).setCell (p:=⟨b,i,none⟩) (Y1 _) x
theorem aTb(c d:UInt8):((c.toNat:Int)==(d.toNat:Int))=decide (some c=some d):=by
 by_cases e:c=d
 ·subst e;simp
 ·have:¬c.toNat=d.toNat:=fun h=>e (UInt8.toNat_inj.1 h);rw[Y8 (fun h=>e (U6 h)),Q6];omega
theorem sG(t:ByteArray)(h:0<t.size):t.data.toList=t[0] :: t.data.toList.drop 1:=by
 have:=pJ t 0 h;rw[<-List.take_append_drop 1 t.data.toList];rw[this];simp
theorem aBf(b:Nat)(n f:ByteArray)(op v sl:Int)(on:Bool)(t:ByteArray)(w:World)(h:aV b n op v sl f on w):
  Calls Tryz.prog 224 #[.pointer (some ⟨b,0,none⟩),.string t] w fun e w'=>e=.returned (.bool (lE t.data.toList))/\(∃(f':ByteArray) (on':Bool),aV b n op v sl f' on' w'/\(t.data.toList = []->f'=f/\on'=on)/\(t.data.toList ≠ []->f'.data.toList=t.data.toList.drop 1/\on'=onV t.data.toList))/\Below b w w':=by
 by_cases ht:t.data.toList = []
 ·have he:=jR ht;have HF:Hid (lE t.data.toList=true):=by show _=_;simp[lE,ht]
  have HT:Hid (t.data.toList = []):=ht;clear ht;go_enter Tryz.func224,Tryz.ntmps224;go_wp2
  go_ret;exact⟨aK HF.out.symm,⟨f,on,h,fun _=>⟨rfl,rfl⟩,fun e=>absurd HT.out e⟩,Below.refl _ _⟩
 ·have he:=eI ht;have hp:0<t.size:=by
   rcases Nat.eq_zero_or_pos t.size with e | e
   ·exact absurd (Y4.1 (by rw[aU];exact e)) ht
   ·exact e
  have HT:Hid (t.data.toList ≠ []):=ht;have HH:Hid (t.data.toList=t[0] :: t.data.toList.drop 1):=sG t hp;obtain⟨hc,hz,hb⟩:=h.facts;have H:Hid (aV b n op v sl f on w):=h;have q1:(1:Int)<=(t.size:Int):=by omega
  have q2:(0:Int)<(t.size:Int):=by omega
  clear ht h;go_enter Tryz.func224,Tryz.ntmps224;go_wp2_with fail;go_region
  go_wp2_with fail;go_ret;refine⟨aK ?_,⟨t.extract 1 t.size,(((t[0]).toNat:Int)==43),?_,fun e=>absurd e HT.out,fun _=>⟨by rw[Lib.extract_to_end],?_⟩⟩,?_⟩
  ·rw[Lib.toList_data,Lib.extract_to_end];unfold lE;rw[Y8 HT.out];cases t.data.toList.drop 1<;>rfl
  ·exact aJ (aJ H.out 5 _) 4 _
  ·rw[HH.out];exact aTb _ 43
  ·exact ((aQ w b 5 _).trans (aQ _ b 4 _)).drew
theorem aBh(b:Nat)(n f:ByteArray)(op v sl:Int)(on:Bool)(t:ByteArray)(w:World)(h:aV b n op v sl f on w)(hE:Env w)(hs:t.size<=20000):
  Calls Tryz.prog 225 #[.pointer (some ⟨b,0,none⟩),.string t] w fun e w'=>e=.returned (.bool (iE t.data.toList))/\(∃sl':Int,aV b n op v sl' f on w'/\(t.data.toList = []->sl'=sl)/\(t.data.toList ≠ []->iE t.data.toList=true->sl'=fX (t.data.toList.drop 1)))/\Below b w w':=by
 by_cases ht:t.data.toList = []
 ·have he:=jR ht;have HF:Hid (iE t.data.toList=true):=by show _=_;simp[iE,ht]
  have HT:Hid (t.data.toList = []):=ht;clear ht;go_enter Tryz.func225,Tryz.ntmps225;go_wp2
  go_ret;exact⟨aK HF.out.symm,⟨sl,h,fun _=>rfl,fun e=>absurd HT.out e⟩,Below.refl _ _⟩
 ·have he:=eI ht;have hp:0<t.size:=by
   rcases Nat.eq_zero_or_pos t.size with e | e
   ·exact absurd (Y4.1 (by rw[aU];exact e)) ht
   ·exact e
  have HT:Hid (t.data.toList ≠ []):=ht;have HS:Hid (iE t.data.toList=(fK (t.data.toList.drop 1)&&decide (fX (t.data.toList.drop 1)≠0))):=by show _=_;unfold iE;rw[Y8 ht];rfl
  have hb:b<w.heap.size:=h.facts.2.2;have H:Hid (aV b n op v sl f on w):=h;have HE:Hid (Env w):=hE;have q1:(1:Int)<=(t.size:Int):=by omega
  have hx:(t.extract 1 t.size).size<=20000:=by rw[<-aU,Lib.extract_to_end,List.length_drop,aU];omega
  clear ht h hE;go_enter Tryz.func225,Tryz.ntmps225;go_wp2_with fail;refine (iC _ _ HE.out hx).mono ?_;rintro e w1 ⟨k,rfl,hk,k1⟩;rw[Lib.extract_to_end] at hk |-
  have H1:Hid (aV b n op v sl f on w1):=H.out.below k1 hb;obtain⟨hc,hz,_⟩:=H1.out.facts;cases hn:fK (t.data.toList.drop 1)
  ·have HN:Hid (fK (t.data.toList.drop 1)=false):=hn;clear hn hk;go_wp2
   go_ret;refine⟨aK (by rw[HS.out,HN.out];rfl),⟨k,aJ H1.out 3 _,fun e=>absurd e HT.out,fun _ e=>?_⟩,(k1.mono (Nat.le_of_lt hb)).trans (aQ w1 b 3 _)⟩;rw[HS.out,HN.out] at e;cases e
  ·have HN:Hid (fK (t.data.toList.drop 1)=true):=hn;have a0:=hk hn;have HK:Hid (k=fX (t.data.toList.drop 1)):=a0;clear hn hk a0;go_wp2
   go_ret;refine⟨aK (by rw[HS.out,HN.out,<-HK.out];simp;rfl),⟨k,aJ H1.out 3 _,fun e=>absurd e HT.out,fun _ _=>HK.out⟩,(k1.mono (Nat.le_of_lt hb)).trans (aQ w1 b 3 _)⟩
end Go.Proofs.YthjlcjdlelkkdaaGreatDoor
