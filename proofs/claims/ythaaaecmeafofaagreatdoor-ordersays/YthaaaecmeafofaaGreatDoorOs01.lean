/- Steps of the proof: AtomCheck, Shelf, AtomPrint. -/
import Derived.Lib.ItoaNum
import Derived.Lib.AtoiAll
import Derived.Lib.IndexAny
import Derived.Test.YthaaaecmeafofaaGreatDoorRows
import Derived.WalkKit
import Derived.ProofKit
import Derived.BigQuiet
import Derived.WalkLawsBesides
import Derived.Shelf.Small.Utf8
import Derived.Shelf.Small.Strs
import Derived.Shelf.Small.Wraps
import Derived.Shelf.LaysM
import Derived.Shelf.Strconv.Itoa3
import Derived.Shelf.Strconv.Clone
import Derived.Shelf.LaysC
import Derived.Shelf.Strconv.AtoiAll
import Derived.Shelf.Strings.Cut
import Derived.Shelf.Strings.Split
import Derived.Shelf.Strings.Runes
import Derived.Shelf.Strings.IndexAny
import Derived.Shelf.Strings.IndexAnyAll
import Derived.Test.YthaaaecmeafofaaGreatDoorProg
set_option maxHeartbeats 16000000
set_option maxRecDepth 100000
namespace Go.Proofs.YthaaaecmeafofaaGreatDoor
def gP (c:UInt8):Bool:=decide (97<=c.toNat)&&decide (c.toNat<=122)
def uG (c:UInt8):Bool:=decide (48<=c.toNat)&&decide (c.toNat<=57)
def okB (c:UInt8):Bool:=gP c||uG c
def rP:List UInt8->Bool
 | []=>false
 | c :: _=>gP c
def aI (l:List UInt8):Bool:=decide (l.length<=8)&&rP l&&l.all okB
def iM (op v:Int):Bool:=if op=0 then decide (v=0) else decide (1<=v)&&decide (v<=99)
def chk (n:List UInt8) (op v sl:Int) (f:List UInt8) (on:Bool):Int:=
 if aI n=false∨(f ≠ []/\aI f=false) then 1
 else if op<0∨4<=op∨sl<0∨9<sl∨iM op v=false then 3
 else if on=true/\f = [] then 4
 else 0
def eZ (op v sl ver slot:Int):Bool:=
 if sl≠0/\sl≠slot then false
 else if op=1 then decide (ver=v) else if op=2 then decide (v<=ver) else if op=3 then decide (ver<v) else true
def fW (op:Int):List UInt8:=if op=1 then [61] else if op=2 then [62,61] else if op=3 then [60] else []
def bR (n:List UInt8) (op v sl:Int) (f:List UInt8) (on:Bool):List UInt8:=
 n++(if op=0 then [] else fW op++Go.Lib.itoa v)++(if sl=0 then [] else 58 :: Go.Lib.itoa sl)++(if f = [] then [] else (if on then 43 else 45) :: f)
def eB (l:List UInt8):Bool:=match Go.Lib.atoiAll l with
 | .ok v=>decide (Go.Lib.itoa v=l)
 | _=>false
def eJ (l:List UInt8):Int:=match Go.Lib.atoiAll l with
 | .ok v=>v
 | _=>0
def ahead (l m:List UInt8):List UInt8:=l.takeWhile fun c=> !m.contains c
def dD (l m:List UInt8):List UInt8:=l.dropWhile fun c=> !m.contains c
def hZ (t:List UInt8):Bool:=decide (t = [])||decide (t.drop 1 ≠ [])
def fH (t:List UInt8):Bool:=decide (t = [])||(eB (t.drop 1)&&decide (eJ (t.drop 1)≠0))
def eE (t:List UInt8):Int:=if [61].isPrefixOf t then 1 else if [62,61].isPrefixOf t then 2 else if [60].isPrefixOf t then 3 else 0
def iD (t:List UInt8):List UInt8:=if eE t=2 then t.drop 2 else t.drop 1
def eQ (t:List UInt8):Bool:=decide (t = [])||(decide (eE t≠0)&&eB (iD t))
def fX (t:List UInt8):Int:=if t = [] then 0 else eJ (t.drop 1)
def lS (t:List UInt8):Int:=if t = [] then 0 else eJ (iD t)
def opV (t:List UInt8):Int:=if t = [] then 0 else eE t
def onV (t:List UInt8):Bool:=decide (t.head? = some 43)
theorem aFd (c:UInt8):gP c=(decide (97<=(c.toNat:Int))&&decide ((c.toNat:Int)<=122)):=by
 unfold gP;congr 1<;>exact decide_eq_decide.2 (by omega)
theorem aEt (c:UInt8):uG c=(decide (48<=(c.toNat:Int))&&decide ((c.toNat:Int)<=57)):=by
 unfold uG;congr 1<;>exact decide_eq_decide.2 (by omega)
theorem xQ {c:UInt8} (h:gP c=true):okB c=true:=by simp [okB,h]
theorem kV (s:ByteArray) (k:Nat) (h:k<s.size):s.data.toList.take (k+1)=s.data.toList.take k ++ [s[k]]:=by
 rw [List.take_succ_eq_append_getElem (by simpa using h)];rfl
theorem tY (s:ByteArray) (k:Nat) (h:k<s.size) (ha:(s.data.toList.take k).all okB=true) (hk:okB s[k]=true):(s.data.toList.take (k+1)).all okB=true:=by
 rw [kV s k h,List.all_append,ha];simp [hk]
theorem aAf (s:ByteArray) (k:Nat) (h:k<s.size) (hk:okB s[k]=false):aI s.data.toList=false:=by
 have:s.data.toList.all okB=false:=by
  rw [List.all_eq_false]
  exact ⟨s[k],by show s.data[k]∈s.data.toList;simp,by simp [hk]⟩
 simp [aI,this]
theorem xO (s:ByteArray) (h:0<s.size) (hk:gP s[0]=false):aI s.data.toList=false:=by
 have e:s.data.toList=s[0] :: s.data.toList.drop 1:=by
  have:=kV s 0 h
  simp at this
  rw [show s.data.toList=s.data.toList.take 1++s.data.toList.drop 1 from (List.take_append_drop 1 _).symm]
  have h1:List.take 1 s.data.toList = [s[0]]:=by simpa using this
  rw [h1];simp
 unfold aI
 rw [e]
 simp [rP,hk]
theorem xN (s:ByteArray) (h:0<s.size) (h8:s.size<=8) (hk:gP s[0]=true) (ha:(s.data.toList.take s.size).all okB=true):aI s.data.toList=true:=by
 have hl:s.data.toList.length=s.size:=by simp
 have e:s.data.toList=s[0] :: s.data.toList.drop 1:=by
  have:=kV s 0 h
  simp at this
  rw [show s.data.toList=s.data.toList.take 1++s.data.toList.drop 1 from (List.take_append_drop 1 _).symm]
  have h1:List.take 1 s.data.toList = [s[0]]:=by simpa using this
  rw [h1];simp
 have ha':s.data.toList.all okB=true:=by rwa [List.take_of_length_le (by omega)] at ha
 have hh:rP s.data.toList=true:=by rw [e];exact hk
 simp [aI,hh,ha',hl,h8]
theorem kR (s:ByteArray) (h:s.size<1∨8<s.size):aI s.data.toList=false:=by
 have hl:s.data.toList.length=s.size:=by simp
 rcases h with h | h
 ·have:s.data.toList = []:=List.length_eq_zero_iff.1 (by omega)
  simp [aI,this,rP]
 ·unfold aI
  rw [hl,decide_eq_false (by omega)]
  rfl
theorem gD {l:List UInt8} (h:aI l=true):l ≠ []:=by
 rintro rfl;simp [aI,rP] at h
theorem jY {l:List UInt8} (h:aI l=true):l.length<=8:=by
 simp [aI] at h;omega
end Go.Proofs.YthaaaecmeafofaaGreatDoor
namespace Go.Proofs.YthaaaecmeafofaaGreatDoor
open Go.RowKit
theorem aG {a b:Bool} (h:a=b):Ending.returned (.bool a)=.returned (.bool b):=by rw [h]
theorem aC {k:IntKind} {a b:Int} (h:a=b):Ending.returned (.int k a)=.returned (.int k b):=by rw [h]
theorem gQ (c:UInt8) (w:World) :
  Calls Tryz.prog 193 #[.int .u8 c.toNat] w fun e w'=>e=.returned (.bool (gP c))/\w'=w:=by
 rw [aFd]
 by_cases h:97<=(c.toNat:Int)
 ·go_enter Tryz.func193,Tryz.ntmps193
  go_wp2
  go_ret
  exact ⟨by simp [h],rfl⟩
 ·go_enter Tryz.func193,Tryz.ntmps193
  go_wp2
  go_ret
  exact ⟨by rw [decide_eq_false (by omega)];rfl,rfl⟩
theorem rL (c:UInt8) (w:World) :
  Calls Tryz.prog 194 #[.int .u8 c.toNat] w fun e w'=>e=.returned (.bool (uG c))/\w'=w:=by
 rw [aEt]
 by_cases h:48<=(c.toNat:Int)
 ·go_enter Tryz.func194,Tryz.ntmps194
  go_wp2
  go_ret
  exact ⟨by simp [h],rfl⟩
 ·go_enter Tryz.func194,Tryz.ntmps194
  go_wp2
  go_ret
  exact ⟨by rw [decide_eq_false (by omega)];rfl,rfl⟩
theorem cD (s:ByteArray) (w:World) :
  Calls Tryz.prog 166 #[.string s] w fun e w'=>e=.returned (.bool (aI s.data.toList))/\w'=w:=by
 by_cases h1:s.size<1
 ·have hn:=kR s (Or.inl h1)
  have H:Hid (aI s.data.toList=false):=hn
  clear hn
  have h1':(s.size:Int)<1:=by omega
  go_enter Tryz.func166,Tryz.ntmps166
  go_wp2
  go_ret
  exact ⟨aG H.out.symm,rfl⟩
 ·by_cases h8:8<s.size
  ·have H:Hid (aI s.data.toList=false):=kR s (Or.inr h8)
   have h1' : ¬ (s.size:Int)<1:=by omega
   have h8':(8:Int)<s.size:=by omega
   go_enter Tryz.func166,Tryz.ntmps166
   go_wp2
   go_ret
   exact ⟨aG H.out.symm,rfl⟩
  ·have h1' : ¬ (s.size:Int)<1:=by omega
   have h8' : ¬ (8:Int)<s.size:=by omega
   have hp:0<s.size:=by omega
   cases hl:gP s[0]
   ·have H:Hid (aI s.data.toList=false):=xO s hp hl
    have HL:Hid (gP s[0]=false):=hl
    clear hl
    go_enter Tryz.func166,Tryz.ntmps166
    go_wp2_with (go_at_call 193;refine (gQ _ _).mono ?_;rintro e w' ⟨rfl,rfl⟩;rw [HL.out])
    go_ret
    exact ⟨aG H.out.symm,rfl⟩
   ·have HL:Hid (gP s[0]=true):=hl
    clear hl
    go_enter Tryz.func166,Tryz.ntmps166
    go_wp2_with (go_at_call 193;refine (gQ _ _).mono ?_;rintro e w' ⟨rfl,rfl⟩;rw [HL.out])
    go_loop [20] (fun i=> ∃ k:Nat,k<=s.size/\i=.int .i64 k/\(s.data.toList.take k).all okB=true) (fun i=>s.size-(intOf i).toNat)
    case atStart=>exact ⟨0,Nat.zero_le _,rfl,rfl⟩
    case round=>
     obtain ⟨k,hk,rfl,ha⟩:=hrel
     have HA:Hid ((s.data.toList.take k).all okB=true):=ha
     clear ha
     by_cases hlt:k<s.size
     ·cases hlk:gP s[k]
      ·have HK:Hid (gP s[k]=false):=hlk
       clear hlk
       cases hdk:uG s[k]
       ·have HD:Hid (uG s[k]=false):=hdk
        clear hdk
        have HB:Hid (okB s[k]=false):=by show okB s[k]=false;rw [okB,HK.out,HD.out];rfl
        go_wp2_with (first | (go_at_call 193;refine (gQ _ _).mono ?_;rintro e w' ⟨rfl,rfl⟩;rw [HK.out]) | (go_at_call 194;refine (rL _ _).mono ?_;rintro e w' ⟨rfl,rfl⟩;rw [HD.out]))
        go_ret
        exact ⟨aG (aAf s k hlt HB.out).symm,rfl⟩
       ·have HD:Hid (uG s[k]=true):=hdk
        clear hdk
        have HB:Hid (okB s[k]=true):=by show okB s[k]=true;rw [okB,HK.out,HD.out];rfl
        go_wp2_with (first | (go_at_call 193;refine (gQ _ _).mono ?_;rintro e w' ⟨rfl,rfl⟩;rw [HK.out]) | (go_at_call 194;refine (rL _ _).mono ?_;rintro e w' ⟨rfl,rfl⟩;rw [HD.out]))
        go_round
        case rel=>exact ⟨k+1,by omega,by go_num,tY s k hlt HA.out HB.out⟩
        case measure=>simp [intOf];omega
      ·have HK:Hid (gP s[k]=true):=hlk
       clear hlk
       go_wp2_with (go_at_call 193;refine (gQ _ _).mono ?_;rintro e w' ⟨rfl,rfl⟩;rw [HK.out])
       go_round
       case rel=>exact ⟨k+1,by omega,by go_num,tY s k hlt HA.out (xQ HK.out)⟩
       case measure=>simp [intOf];omega
     ·go_wp2
      go_ret
      have hks:k=s.size:=by omega
      subst hks
      exact ⟨aG (xN s hp (by omega) HL.out HA.out).symm,rfl⟩
end Go.Proofs.YthaaaecmeafofaaGreatDoor
namespace Go.Proofs.YthaaaecmeafofaaGreatDoor
open Go.RowKit
def aA (w w':World):Prop:=Below w.heap.size w w'
theorem aA.refl (w:World):aA w w:=Below.refl _ _
theorem aA.trans {a b c:World} (h:aA a b) (k:aA b c):aA a c:=Below.trans h (Below.mono k h.size)
theorem aA.alloc (w:World) (o:Obj):aA w (w.alloc o):=(Below.refl _ _).alloc (Nat.le_refl _) _
theorem aA.alloc' {a w:World} (h:aA a w) (o:Obj):aA a (w.alloc o):=h.trans (aA.alloc w o)
theorem aA.drew {a w:World} (h:aA a w):aA a w.drew:=Below.drew h
theorem aA.drewN {a w:World} (h:aA a w) : ∀ n,aA a (w.drewN n)
 | 0=>h
 | n+1=>by rw [World.drewN];exact aA.drew (aA.drewN h n)
theorem aA.set {a w:World} (h:aA a w) {p:Addr} (hp:a.heap.size<=p.block) (u:Value):aA a (w.setCell p u):=Below.setCell h hp u
theorem aA.size {w w':World} (h:aA w w'):w.heap.size<=w'.heap.size:=Below.size h
theorem aA.cells {W w1:World} (hb:aA W w1):(∀ b o,b<W.heap.size->w1.cell? ⟨b,o,none⟩=W.cell? ⟨b,o,none⟩)/\(∀ b o,b<W.heap.size->w1.frozen? ⟨b,o,none⟩=W.frozen? ⟨b,o,none⟩):=
 ⟨fun b o h=>Below.cell hb (p:=⟨b,o,none⟩) h,fun b o h=>Below.frozen hb (p:=⟨b,o,none⟩) h⟩
theorem fQ (n f:ByteArray) (op v sl:Int) (on:Bool) (w:World) :
  Calls Tryz.prog 167 #[.agg #[.string n,.int .i64 op,.int .i64 v,.int .i64 sl,.string f,.bool on]] w fun e w'=>e=.returned (.bool (iM op v))/\aA w w':=by
 by_cases h:op=0
 ·have h':(op==0)=true:=by simp [h]
  have H:Hid (iM op v=(v==0)):=by show iM op v=(v==0);unfold iM;rw [if_pos h];rfl
  clear h
  go_enter Tryz.func167,Tryz.ntmps167
  go_wp2
  go_ret
  exact ⟨aG H.out.symm,aA.alloc _ _⟩
 ·have h':(op==0)=false:=by simp [h]
  have H:Hid (iM op v=(decide (1<=v)&&decide (v<=99))):=by show iM op v=_;unfold iM;rw [if_neg h]
  clear h
  by_cases h1:1<=v
  ·go_enter Tryz.func167,Tryz.ntmps167
   go_wp2
   go_ret
   exact ⟨aG (by rw [H.out];simp [h1]),aA.alloc _ _⟩
  ·go_enter Tryz.func167,Tryz.ntmps167
   go_wp2
   go_ret
   exact ⟨aG (by rw [H.out,decide_eq_false (by omega)];rfl),aA.alloc _ _⟩
theorem aCl (n f:ByteArray) (op v sl:Int) (on:Bool) (ver slot:Int) (w:World) :
  Calls Tryz.prog 108 #[.agg #[.string n,.int .i64 op,.int .i64 v,.int .i64 sl,.string f,.bool on],.int .i64 ver,.int .i64 slot] w fun e w'=>e=.returned (.bool (eZ op v sl ver slot))/\aA w w':=by
 by_cases h:sl≠0/\sl≠slot
 ·have h0:(sl != 0)=true:=by simp [h.1]
  have h1:(sl != slot)=true:=by simp [h.2]
  have H:Hid (eZ op v sl ver slot=false):=by show eZ op v sl ver slot=false;unfold eZ;rw [if_pos h]
  clear h
  go_enter Tryz.func108,Tryz.ntmps108
  go_wp2
  go_ret
  exact ⟨aG H.out.symm,aA.alloc _ _⟩
 ·have H:Hid (eZ op v sl ver slot=if op=1 then decide (ver=v) else if op=2 then decide (v<=ver) else if op=3 then decide (ver<v) else true):=by show eZ op v sl ver slot=_;unfold eZ;rw [if_neg h]
  have hs:(sl != 0)=false∨(sl != 0)=true/\(sl != slot)=false:=by
   by_cases e:sl=0
   ·left;simp [e]
   ·right;exact ⟨by simp [e],by simp;exact Decidable.byContradiction fun e'=>h ⟨e,e'⟩⟩
  clear h
  have ho:((op==1)=true/\Hid (eZ op v sl ver slot=(ver==v)))∨((op==1)=false/\(op==2)=true/\Hid (eZ op v sl ver slot=decide (v<=ver)))∨((op==1)=false/\(op==2)=false/\(op==3)=true/\Hid (eZ op v sl ver slot=decide (ver<v)))∨((op==1)=false/\(op==2)=false/\(op==3)=false/\Hid (eZ op v sl ver slot=true)):=by
   by_cases e1:op=1
   ·left;refine ⟨by simp [e1],?_⟩;show _=_;rw [H.out,if_pos e1];rfl
   ·by_cases e2:op=2
    ·right;left;refine ⟨by simp [e2],by simp [e2],?_⟩;show _=_;rw [H.out,if_neg e1,if_pos e2]
    ·by_cases e3:op=3
     ·right;right;left;refine ⟨by simp [e3],by simp [e3],by simp [e3],?_⟩;show _=_;rw [H.out,if_neg e1,if_neg e2,if_pos e3]
     ·right;right;right;refine ⟨by simp [e1],by simp [e2],by simp [e3],?_⟩;show _=_;rw [H.out,if_neg e1,if_neg e2,if_neg e3]
  clear H
  rcases hs with hs | ⟨hs,hs2⟩<;>rcases ho with ⟨o1,H⟩ | ⟨o1,o2,H⟩ | ⟨o1,o2,o3,H⟩ | ⟨o1,o2,o3,H⟩
  all_goals
   go_enter Tryz.func108,Tryz.ntmps108
   go_wp2
   go_ret
   exact ⟨aG H.out.symm,aA.alloc _ _⟩
theorem dH {f:ByteArray} (h:f.data.toList ≠ []):f.toList.isEmpty=false:=by
 rw [Go.Lib.toList_data]
 cases e:f.data.toList with
 | nil=>exact absurd e h
 | cons _ _=>rfl
theorem gK {f:ByteArray} (h:f.data.toList = []):f.toList.isEmpty=true:=by
 rw [Go.Lib.toList_data,h];rfl
theorem pA (n:List UInt8) (op v sl:Int) (f:List UInt8) (on:Bool) (hn:aI n=true) (hf:f = []∨aI f=true) :
  (op<0/\Hid (chk n op v sl f on=3))∨(0<=op/\4<=op/\Hid (chk n op v sl f on=3))∨(0<=op/\op<4/\sl<0/\Hid (chk n op v sl f on=3))∨(0<=op/\op<4/\0<=sl/\9<sl/\Hid (chk n op v sl f on=3))
  ∨(0<=op/\op<4/\0<=sl/\sl<=9/\Hid (iM op v=false)/\Hid (chk n op v sl f on=3))∨(0<=op/\op<4/\0<=sl/\sl<=9/\Hid (iM op v=true)/\Hid (chk n op v sl f on=if on=true/\f = [] then 4 else 0)):=by
 have h1 : ¬ (aI n=false∨(f ≠ []/\aI f=false)):=by
  rintro (h | ⟨h,h'⟩)
  ·rw [hn] at h;cases h
  ·rcases hf with hf | hf
   ·exact h hf
   ·rw [hf] at h';cases h'
 have e:chk n op v sl f on=if op<0∨4<=op∨sl<0∨9<sl∨iM op v=false then 3 else if on=true/\f = [] then 4 else 0:=by
  unfold chk;rw [if_neg h1]
 have e3:(op<0∨4<=op∨sl<0∨9<sl∨iM op v=false)->Hid (chk n op v sl f on=3):=fun h=>by
  show _=_;rw [e,if_pos h]
 by_cases a1:op<0
 ·exact Or.inl ⟨a1,e3 (Or.inl a1)⟩
 ·by_cases a2:4<=op
  ·exact Or.inr (Or.inl ⟨by omega,a2,e3 (Or.inr (Or.inl a2))⟩)
  ·by_cases a3:sl<0
   ·exact Or.inr (Or.inr (Or.inl ⟨by omega,by omega,a3,e3 (Or.inr (Or.inr (Or.inl a3)))⟩))
   ·by_cases a4:9<sl
    ·exact Or.inr (Or.inr (Or.inr (Or.inl ⟨by omega,by omega,by omega,a4,e3 (Or.inr (Or.inr (Or.inr (Or.inl a4))))⟩)))
    ·cases a5:iM op v
     ·exact Or.inr (Or.inr (Or.inr (Or.inr (Or.inl ⟨by omega,by omega,by omega,by omega,rfl,e3 (Or.inr (Or.inr (Or.inr (Or.inr a5))))⟩))))
     ·refine Or.inr (Or.inr (Or.inr (Or.inr (Or.inr ⟨by omega,by omega,by omega,by omega,rfl,?_⟩))))
      show _=_
      rw [e,if_neg]
      rintro (h | h | h | h | h)
      ·exact a1 h
      ·exact a2 h
      ·exact a3 h
      ·exact a4 h
      ·rw [a5] at h;cases h
theorem rK (n f:ByteArray) (op v sl:Int) (on:Bool) (w:World) (h:aI n.data.toList=false∨(f.data.toList ≠ []/\aI f.data.toList=false)) :
  Calls Tryz.prog 133 #[.agg #[.string n,.int .i64 op,.int .i64 v,.int .i64 sl,.string f,.bool on]] w fun e w'=>e=.returned (.int .i64 (chk n.data.toList op v sl f.data.toList on))/\aA w w':=by
 have HC:Hid (chk n.data.toList op v sl f.data.toList on=1):=by show _=_;unfold chk;rw [if_pos h]
 cases hn:aI n.data.toList
 ·have HN:Hid (aI n.data.toList=false):=hn
  clear hn h
  go_enter Tryz.func133,Tryz.ntmps133
  go_wp2_with (go_at_call 166;refine (cD _ _).mono ?_;rintro e w' ⟨rfl,rfl⟩;rw [HN.out])
  go_ret
  exact ⟨aC HC.out.symm,aA.alloc _ _⟩
 ·have HN:Hid (aI n.data.toList=true):=hn
  rw [hn] at h
  obtain ⟨h1,h2⟩:f.data.toList ≠ []/\aI f.data.toList=false:=h.resolve_left (by simp)
  have HF:Hid (aI f.data.toList=false):=h2
  have hfe:=dH h1
  clear hn h h1 h2
  go_enter Tryz.func133,Tryz.ntmps133
  go_wp2_with fail
  refine (cD _ _).mono ?_
  rintro e w' ⟨rfl,hw⟩
  rw [HN.out,hw]
  clear hw
  go_wp2_with fail
  refine (cD _ _).mono ?_
  rintro e w' ⟨rfl,hw⟩
  rw [HF.out,hw]
  clear hw
  go_wp2_with fail
  go_ret
  exact ⟨aC HC.out.symm,aA.alloc _ _⟩
theorem uE (n f:ByteArray) (op v sl:Int) (on:Bool) (w:World) (hn:aI n.data.toList=true) (hf:f.data.toList = []) :
  Calls Tryz.prog 133 #[.agg #[.string n,.int .i64 op,.int .i64 v,.int .i64 sl,.string f,.bool on]] w fun e w'=>e=.returned (.int .i64 (chk n.data.toList op v sl f.data.toList on))/\aA w w':=by
 have hr:=pA n.data.toList op v sl f.data.toList on hn (Or.inl hf)
 have HN:Hid (aI n.data.toList=true):=hn
 have HF:Hid (f.data.toList = []):=hf
 have hfe:=gK hf
 clear hn hf
 rcases hr with ⟨r1,HC⟩ | ⟨r1,r2,HC⟩ | ⟨r1,r2,r3,HC⟩ | ⟨r1,r2,r3,r4,HC⟩ | ⟨r1,r2,r3,r4,HV,HC⟩ | ⟨r1,r2,r3,r4,HV,HC⟩
 iterate 4
  ·go_enter Tryz.func133,Tryz.ntmps133
   go_wp2_with (go_at_call 166;refine (cD _ _).mono ?_;rintro e w' ⟨rfl,hw⟩;rw [HN.out,hw];clear hw)
   go_ret
   exact ⟨aC HC.out.symm,aA.alloc _ _⟩
 ·go_enter Tryz.func133,Tryz.ntmps133
  go_wp2_with (first | (go_at_call 166;refine (cD _ _).mono ?_;rintro e w' ⟨rfl,hw⟩;rw [HN.out,hw];clear hw) | (go_at_call 167;refine (fQ _ _ _ _ _ _ _).mono ?_;rintro e w' ⟨rfl,hk⟩;rw [HV.out];obtain ⟨hc,hz⟩:=hk.cells))
  go_ret
  exact ⟨aC HC.out.symm,(aA.alloc _ _).trans (by assumption)⟩
 ·cases on
  ·have HC':Hid (chk n.data.toList op v sl f.data.toList false=0):=by show _=_;rw [HC.out,if_neg (by simp)]
   clear HC
   go_enter Tryz.func133,Tryz.ntmps133
   go_wp2_with (first | (go_at_call 166;refine (cD _ _).mono ?_;rintro e w' ⟨rfl,hw⟩;rw [HN.out,hw];clear hw) | (go_at_call 167;refine (fQ _ _ _ _ _ _ _).mono ?_;rintro e w' ⟨rfl,hk⟩;rw [HV.out];obtain ⟨hc,hz⟩:=hk.cells))
   go_ret
   exact ⟨aC HC'.out.symm,(aA.alloc _ _).trans (by assumption)⟩
  ·have HC':Hid (chk n.data.toList op v sl f.data.toList true=4):=by show _=_;rw [HC.out,if_pos ⟨rfl,HF.out⟩]
   clear HC
   go_enter Tryz.func133,Tryz.ntmps133
   go_wp2_with (first | (go_at_call 166;refine (cD _ _).mono ?_;rintro e w' ⟨rfl,hw⟩;rw [HN.out,hw];clear hw) | (go_at_call 167;refine (fQ _ _ _ _ _ _ _).mono ?_;rintro e w' ⟨rfl,hk⟩;rw [HV.out];obtain ⟨hc,hz⟩:=hk.cells))
   go_ret
   exact ⟨aC HC'.out.symm,(aA.alloc _ _).trans (by assumption)⟩
theorem wO (n f:ByteArray) (op v sl:Int) (on:Bool) (w:World) (hn:aI n.data.toList=true) (hf:aI f.data.toList=true) :
  Calls Tryz.prog 133 #[.agg #[.string n,.int .i64 op,.int .i64 v,.int .i64 sl,.string f,.bool on]] w fun e w'=>e=.returned (.int .i64 (chk n.data.toList op v sl f.data.toList on))/\aA w w':=by
 have hr:=pA n.data.toList op v sl f.data.toList on hn (Or.inr hf)
 have HN:Hid (aI n.data.toList=true):=hn
 have HF:Hid (aI f.data.toList=true):=hf
 have hfe:=dH (gD hf)
 clear hn hf
 rcases hr with ⟨r1,HC⟩ | ⟨r1,r2,HC⟩ | ⟨r1,r2,r3,HC⟩ | ⟨r1,r2,r3,r4,HC⟩ | ⟨r1,r2,r3,r4,HV,HC⟩ | ⟨r1,r2,r3,r4,HV,HC⟩
 iterate 4
  ·go_enter Tryz.func133,Tryz.ntmps133
   go_wp2_with (go_at_call 166;refine (cD _ _).mono ?_;rintro e w' ⟨rfl,hw⟩;first | rw [HN.out,hw] | rw [HF.out,hw];clear hw)
   go_ret
   exact ⟨aC HC.out.symm,aA.alloc _ _⟩
 ·go_enter Tryz.func133,Tryz.ntmps133
  go_wp2_with (first | (go_at_call 166;refine (cD _ _).mono ?_;rintro e w' ⟨rfl,hw⟩;first | rw [HN.out,hw] | rw [HF.out,hw];clear hw) | (go_at_call 167;refine (fQ _ _ _ _ _ _ _).mono ?_;rintro e w' ⟨rfl,hk⟩;rw [HV.out];obtain ⟨hc,hz⟩:=hk.cells))
  go_ret
  exact ⟨aC HC.out.symm,(aA.alloc _ _).trans (by assumption)⟩
 ·have HC':Hid (chk n.data.toList op v sl f.data.toList on=0):=by
   show _=_
   rw [HC.out,if_neg]
   rintro ⟨_,h⟩
   exact gD HF.out h
  clear HC
  cases on
  all_goals
   go_enter Tryz.func133,Tryz.ntmps133
   go_wp2_with (first | (go_at_call 166;refine (cD _ _).mono ?_;rintro e w' ⟨rfl,hw⟩;first | rw [HN.out,hw] | rw [HF.out,hw];clear hw) | (go_at_call 167;refine (fQ _ _ _ _ _ _ _).mono ?_;rintro e w' ⟨rfl,hk⟩;rw [HV.out];obtain ⟨hc,hz⟩:=hk.cells))
   go_ret
   exact ⟨aC HC'.out.symm,(aA.alloc _ _).trans (by assumption)⟩
theorem rJ (n f:ByteArray) (op v sl:Int) (on:Bool) (w:World) :
  Calls Tryz.prog 133 #[.agg #[.string n,.int .i64 op,.int .i64 v,.int .i64 sl,.string f,.bool on]] w fun e w'=>e=.returned (.int .i64 (chk n.data.toList op v sl f.data.toList on))/\aA w w':=by
 cases hn:aI n.data.toList
 ·exact rK n f op v sl on w (Or.inl hn)
 ·by_cases hf:f.data.toList = []
  ·exact uE n f op v sl on w hn hf
  ·cases hg:aI f.data.toList
   ·exact rK n f op v sl on w (Or.inr ⟨hf,hg⟩)
   ·exact wO n f op v sl on w hn hg
end Go.Proofs.YthaaaecmeafofaaGreatDoor
namespace Go.Proofs
open Go.Shelf
def Tryz.lays119_ren:Go.Shelf.Ren:=⟨fun | 119=>238 | n=>n,fun | 21=>21 | 4=>4 | n=>n,fun | n=>n⟩
theorem Tryz.lays119:Go.Proofs.Lays.n119 Tryz.prog Tryz.lays119_ren:= {
 mixed:=by kernel_rfl
 f119:=Tryz.func238.trans (congrArg some (by kernel_rfl))
 t4:=Tryz.underlying4
 a4:=Tryz.isAgg4
 z4:=Tryz.sizeOf4
 v4:=Tryz.zeroValue4
 t21:=Tryz.underlying21
 a21:=Tryz.isAgg21
 z21:=Tryz.sizeOf21
 v21:=Tryz.zeroValue21 }
theorem Tryz.utf8_ValidRune (r:Int) (w:World) :
  Calls Tryz.prog 238 #[.int .i32 r] w fun e w'=>e=.returned (.bool (Lib.validRune r))/\w'=w:=Any.utf8_ValidRune Tryz.lays119 r w
def Tryz.lays137_ren:Go.Shelf.Ren:=⟨fun | 137=>237 | 217=>203 | 266=>235 | n=>n,fun | 9=>9 | 5=>5 | 3=>3 | n=>n,fun | n=>n⟩
theorem Tryz.lays137:Go.Proofs.Lays.n137 Tryz.prog Tryz.lays137_ren:= {
 mixed:=by kernel_rfl
 f137:=Tryz.func237.trans (congrArg some (by kernel_rfl))
 f217:=Tryz.func203.trans (congrArg some (by kernel_rfl))
 f266:=Tryz.func235.trans (congrArg some (by kernel_rfl))
 t3:=Tryz.underlying3
 a3:=Tryz.isAgg3
 z3:=Tryz.sizeOf3
 v3:=Tryz.zeroValue3
 t5:=Tryz.underlying5
 a5:=Tryz.isAgg5
 z5:=Tryz.sizeOf5
 v5:=Tryz.zeroValue5
 t9:=Tryz.underlying9
 a9:=Tryz.isAgg9
 z9:=Tryz.sizeOf9
 v9:=Tryz.zeroValue9 }
open Go.RowKit in
theorem Tryz.strings_IndexByte (s:ByteArray) (c:Int) (w:World) :
  Calls Tryz.prog 237 #[.string s,.int .u8 c] w fun e w'=>e=.returned (.int .i64 (Lib.indexByte s.data.toList c.toNat.toUInt8))/\w'=w:=Any.strings_IndexByte Tryz.lays137 s c w
def Tryz.lays103_ren:Go.Shelf.Ren:=⟨fun | 103=>250 | 210=>268 | 206=>276 | n=>n,fun | 9=>9 | 4=>4 | 24=>291 | 3=>3 | n=>n,fun | n=>n⟩
theorem Tryz.lays103:Go.Proofs.Lays.n103 Tryz.prog Tryz.lays103_ren:= {
 mixed:=by kernel_rfl
 f103:=Tryz.func250.trans (congrArg some (by kernel_rfl))
 f206:=Tryz.func276.trans (congrArg some (by kernel_rfl))
 f210:=Tryz.func268.trans (congrArg some (by kernel_rfl))
 t3:=Tryz.underlying3
 a3:=Tryz.isAgg3
 z3:=Tryz.sizeOf3
 v3:=Tryz.zeroValue3
 t4:=Tryz.underlying4
 a4:=Tryz.isAgg4
 z4:=Tryz.sizeOf4
 v4:=Tryz.zeroValue4
 t9:=Tryz.underlying9
 a9:=Tryz.isAgg9
 z9:=Tryz.sizeOf9
 v9:=Tryz.zeroValue9
 t24:=Tryz.underlying291
 a24:=Tryz.isAgg291
 z24:=Tryz.sizeOf291
 v24:=Tryz.zeroValue291 }
open Go.RowKit in
theorem Tryz.strings_CutPrefix (s p:ByteArray) (w:World) :
  Calls Tryz.prog 250 #[.string s,.string p] w fun e w'=>e=.returned (.tuple #[.string ⟨(Lib.trimPrefix s.data.toList p.data.toList).toArray⟩,.bool (Lib.hasPrefix s.data.toList p.data.toList)])/\w'=w:=Any.strings_CutPrefix Tryz.lays103 s p w
def Tryz.lays104_ren:Go.Shelf.Ren:=⟨fun | 104=>249 | 211=>267 | 207=>275 | n=>n,fun | 9=>9 | 4=>4 | 24=>291 | 3=>3 | n=>n,fun | n=>n⟩
theorem Tryz.lays104:Go.Proofs.Lays.n104 Tryz.prog Tryz.lays104_ren:= {
 mixed:=by kernel_rfl
 f104:=Tryz.func249.trans (congrArg some (by kernel_rfl))
 f207:=Tryz.func275.trans (congrArg some (by kernel_rfl))
 f211:=Tryz.func267.trans (congrArg some (by kernel_rfl))
 t3:=Tryz.underlying3
 a3:=Tryz.isAgg3
 z3:=Tryz.sizeOf3
 v3:=Tryz.zeroValue3
 t4:=Tryz.underlying4
 a4:=Tryz.isAgg4
 z4:=Tryz.sizeOf4
 v4:=Tryz.zeroValue4
 t9:=Tryz.underlying9
 a9:=Tryz.isAgg9
 z9:=Tryz.sizeOf9
 v9:=Tryz.zeroValue9
 t24:=Tryz.underlying291
 a24:=Tryz.isAgg291
 z24:=Tryz.sizeOf291
 v24:=Tryz.zeroValue291 }
open Go.RowKit in
theorem Tryz.strings_CutSuffix (s p:ByteArray) (w:World) (hs:s.size<=9223372036854775807) :
  Calls Tryz.prog 249 #[.string s,.string p] w fun e w'=>e=.returned (.tuple #[.string ⟨(Lib.trimSuffix s.data.toList p.data.toList).toArray⟩,.bool (Lib.hasSuffix s.data.toList p.data.toList)])/\w'=w:=Any.strings_CutSuffix Tryz.lays104 s p w hs
def Tryz.laysM171_ren:Go.Shelf.Ren:=⟨fun | 171=>91 | 243=>135 | 246=>168 | 283=>195 | 284=>196 | 285=>197 | 286=>198 | 129=>220 | 317=>228 | 318=>229 | 319=>230 | 320=>231 | 337=>257 | 338=>258 | n=>n,fun | 3=>3 | 9=>9 | 2=>2 | 4=>4 | 171=>236 | 0=>0 | 53=>237 | 37=>240 | 5=>5 | 173=>241 | 212=>270 | 51=>257 | 20=>20 | 213=>271 | 46=>228 | 232=>307 | 233=>308 | n=>n,fun | 17=>1 | 18=>4 | 19=>5 | n=>n⟩
theorem Tryz.laysM171:Go.Proofs.LaysM.n171 Tryz.prog Tryz.laysM171_ren:= {
 mixed:=by kernel_rfl
 f129:=Tryz.func220.trans (congrArg some (by kernel_rfl))
 f171:=Tryz.func91.trans (congrArg some (by kernel_rfl))
 f243:=Tryz.func135.trans (congrArg some (by kernel_rfl))
 f246:=Tryz.func168.trans (congrArg some (by kernel_rfl))
 f283:=Tryz.func195.trans (congrArg some (by kernel_rfl))
 f284:=Tryz.func196.trans (congrArg some (by kernel_rfl))
 f285:=Tryz.func197.trans (congrArg some (by kernel_rfl))
 f286:=Tryz.func198.trans (congrArg some (by kernel_rfl))
 f317:=Tryz.func228.trans (congrArg some (by kernel_rfl))
 f318:=Tryz.func229.trans (congrArg some (by kernel_rfl))
 f319:=Tryz.func230.trans (congrArg some (by kernel_rfl))
 f320:=Tryz.func231.trans (congrArg some (by kernel_rfl))
 f337:=Tryz.func257.trans (congrArg some (by kernel_rfl))
 f338:=Tryz.func258.trans (congrArg some (by kernel_rfl))
 t0:=Tryz.underlying0
 a0:=Tryz.isAgg0
 z0:=Tryz.sizeOf0
 v0:=Tryz.zeroValue0
 t2:=Tryz.underlying2
 a2:=Tryz.isAgg2
 z2:=Tryz.sizeOf2
 v2:=Tryz.zeroValue2
 t3:=Tryz.underlying3
 a3:=Tryz.isAgg3
 z3:=Tryz.sizeOf3
 v3:=Tryz.zeroValue3
 t4:=Tryz.underlying4
 a4:=Tryz.isAgg4
 z4:=Tryz.sizeOf4
 v4:=Tryz.zeroValue4
 t5:=Tryz.underlying5
 a5:=Tryz.isAgg5
 z5:=Tryz.sizeOf5
 v5:=Tryz.zeroValue5
 t9:=Tryz.underlying9
 a9:=Tryz.isAgg9
 z9:=Tryz.sizeOf9
 v9:=Tryz.zeroValue9
 t20:=Tryz.underlying20
 a20:=Tryz.isAgg20
 z20:=Tryz.sizeOf20
 v20:=Tryz.zeroValue20
 t37:=Tryz.underlying240
 a37:=Tryz.isAgg240
 z37:=Tryz.sizeOf240
 v37:=Tryz.zeroValue240
 t46:=Tryz.underlying228
 a46:=Tryz.isAgg228
 z46:=Tryz.sizeOf228
 v46:=Tryz.zeroValue228
 t51:=Tryz.underlying257
 a51:=Tryz.isAgg257
 z51:=Tryz.sizeOf257
 v51:=Tryz.zeroValue257
 t53:=Tryz.underlying237
 a53:=Tryz.isAgg237
 z53:=Tryz.sizeOf237
 v53:=Tryz.zeroValue237
 t171:=Tryz.underlying236
 a171:=Tryz.isAgg236
 z171:=Tryz.sizeOf236
 v171:=Tryz.zeroValue236
 t173:=Tryz.underlying241
 a173:=Tryz.isAgg241
 z173:=Tryz.sizeOf241
 v173:=Tryz.zeroValue241
 t212:=Tryz.underlying270
 a212:=Tryz.isAgg270
 z212:=Tryz.sizeOf270
 v212:=Tryz.zeroValue270
 t213:=Tryz.underlying271
 a213:=Tryz.isAgg271
 z213:=Tryz.sizeOf271
 t232:=Tryz.underlying307
 a232:=Tryz.isAgg307
 z232:=Tryz.sizeOf307
 v232:=Tryz.zeroValue307
 t233:=Tryz.underlying308
 a233:=Tryz.isAgg308
 z233:=Tryz.sizeOf308
 v233:=Tryz.zeroValue308
 g17:=by kernel_rfl
 g18:=by kernel_rfl
 g19:=by kernel_rfl
 i0:=by kernel_rfl
 i2:=by kernel_rfl
 i3:=by kernel_rfl
 i4:=by kernel_rfl
 i5:=by kernel_rfl
 i9:=by kernel_rfl
 i20:=by kernel_rfl
 i37:=by kernel_rfl
 i46:=by kernel_rfl
 i51:=by kernel_rfl
 i53:=by kernel_rfl
 i171:=by kernel_rfl
 i173:=by kernel_rfl
 i212:=by kernel_rfl
 i232:=by kernel_rfl
 i233:=by kernel_rfl
 m17:=by kernel_rfl
 m18:=by kernel_rfl
 m19:=by kernel_rfl }
open Go.RowKit Go.Sort Go.Lib in
theorem Tryz.strconv_Itoa (n : Int) (h0 : -9223372036854775808 ≤ n) (h1 : n ≤ 9223372036854775807) (w : World) (htab : Lib.TabIs Tryz.prog w "internal/strconv.uint64pow10" .u64 Lib.pow10Tab) :
  Calls Tryz.prog 91 #[.int .i64 n] w fun e w'=>e=.returned (.string ⟨(Lib.itoa n).toArray⟩)/\∃ k os,w'=grow (w.drewN k) os:=Any.strconv_Itoa Tryz.laysM171 n h0 h1 w htab
def Tryz.laysM316_ren:Go.Shelf.Ren:=⟨fun | 316=>227 | n=>n,fun | 9=>9 | 3=>3 | 4=>4 | 37=>240 | 0=>0 | 127=>295 | 5=>5 | n=>n,fun | n=>n⟩
theorem Tryz.laysM316:Go.Proofs.LaysM.n316 Tryz.prog Tryz.laysM316_ren:= {
 mixed:=by kernel_rfl
 f316:=Tryz.func227.trans (congrArg some (by kernel_rfl))
 t0:=Tryz.underlying0
 a0:=Tryz.isAgg0
 z0:=Tryz.sizeOf0
 v0:=Tryz.zeroValue0
 t3:=Tryz.underlying3
 a3:=Tryz.isAgg3
 z3:=Tryz.sizeOf3
 v3:=Tryz.zeroValue3
 t4:=Tryz.underlying4
 a4:=Tryz.isAgg4
 z4:=Tryz.sizeOf4
 v4:=Tryz.zeroValue4
 t9:=Tryz.underlying9
 a9:=Tryz.isAgg9
 z9:=Tryz.sizeOf9
 v9:=Tryz.zeroValue9
 t37:=Tryz.underlying240
 a37:=Tryz.isAgg240
 z37:=Tryz.sizeOf240
 v37:=Tryz.zeroValue240
 t127:=Tryz.underlying295
 a127:=Tryz.isAgg295
 z127:=Tryz.sizeOf295
 v127:=Tryz.zeroValue295
 t5:=Tryz.underlying5
 a5:=Tryz.isAgg5
 z5:=Tryz.sizeOf5
 v5:=Tryz.zeroValue5
 i0:=by kernel_rfl
 i3:=by kernel_rfl
 i4:=by kernel_rfl
 i5:=by kernel_rfl
 i9:=by kernel_rfl
 i37:=by kernel_rfl
 i127:=by kernel_rfl }
open Go.RowKit in
theorem Tryz.stringslite_Clone (s:ByteArray) (w:World) (hlim:s.size<=281474976710656) :
  Calls Tryz.prog 227 #[.string s] w fun e w'=>e=.returned (.string s)/\Below w.heap.size w w':=Any.stringslite_Clone Tryz.laysM316 s w hlim
def Tryz.laysC172_ren:Go.Shelf.Ren:=⟨fun | 172=>222 | 244=>247 | 245=>248 | 247=>262 | 279=>263 | 280=>264 | 281=>265 | 282=>266 | 287=>273 | 316=>227 | 171=>91 | 205=>274 | 321=>278 | 322=>279 | 243=>135 | 246=>168 | 283=>195 | 284=>196 | 285=>197 | 286=>198 | 129=>220 | 317=>228 | 318=>229 | 319=>230 | 320=>231 | 337=>257 | 338=>258 | n=>n,fun | 9=>9 | 3=>3 | 75=>260 | 76=>261 | 4=>4 | 5=>5 | 167=>299 | 37=>240 | 0=>0 | 85=>300 | 2=>2 | 168=>302 | 53=>237 | 175=>309 | 46=>228 | 210=>312 | 127=>295 | 145=>319 | 143=>317 | 21=>21 | 171=>236 | 173=>241 | 212=>270 | 51=>257 | 20=>20 | 213=>271 | 232=>307 | 233=>308 | 80=>268 | n=>n,fun | 15=>6 | 16=>7 | 17=>1 | 18=>4 | 19=>5 | n=>n⟩
theorem Tryz.laysC172:Go.Proofs.LaysC.n172 Tryz.prog Tryz.laysC172_ren:= {
 mixed:=by kernel_rfl
 f129:=Tryz.func220.trans (congrArg some (by kernel_rfl))
 f171:=Tryz.func91.trans (congrArg some (by kernel_rfl))
 f172:=Tryz.func222.trans (congrArg some (by kernel_rfl))
 f205:=Tryz.func274.trans (congrArg some (by kernel_rfl))
 f243:=Tryz.func135.trans (congrArg some (by kernel_rfl))
 f244:=Tryz.func247.trans (congrArg some (by kernel_rfl))
 f245:=Tryz.func248.trans (congrArg some (by kernel_rfl))
 f246:=Tryz.func168.trans (congrArg some (by kernel_rfl))
 f247:=Tryz.func262.trans (congrArg some (by kernel_rfl))
 f279:=Tryz.func263.trans (congrArg some (by kernel_rfl))
 f280:=Tryz.func264.trans (congrArg some (by kernel_rfl))
 f281:=Tryz.func265.trans (congrArg some (by kernel_rfl))
 f282:=Tryz.func266.trans (congrArg some (by kernel_rfl))
 f283:=Tryz.func195.trans (congrArg some (by kernel_rfl))
 f284:=Tryz.func196.trans (congrArg some (by kernel_rfl))
 f285:=Tryz.func197.trans (congrArg some (by kernel_rfl))
 f286:=Tryz.func198.trans (congrArg some (by kernel_rfl))
 f287:=Tryz.func273.trans (congrArg some (by kernel_rfl))
 f316:=Tryz.func227.trans (congrArg some (by kernel_rfl))
 f317:=Tryz.func228.trans (congrArg some (by kernel_rfl))
 f318:=Tryz.func229.trans (congrArg some (by kernel_rfl))
 f319:=Tryz.func230.trans (congrArg some (by kernel_rfl))
 f320:=Tryz.func231.trans (congrArg some (by kernel_rfl))
 f321:=Tryz.func278.trans (congrArg some (by kernel_rfl))
 f322:=Tryz.func279.trans (congrArg some (by kernel_rfl))
 f337:=Tryz.func257.trans (congrArg some (by kernel_rfl))
 f338:=Tryz.func258.trans (congrArg some (by kernel_rfl))
 t0:=Tryz.underlying0
 a0:=Tryz.isAgg0
 z0:=Tryz.sizeOf0
 v0:=Tryz.zeroValue0
 t2:=Tryz.underlying2
 a2:=Tryz.isAgg2
 z2:=Tryz.sizeOf2
 v2:=Tryz.zeroValue2
 t3:=Tryz.underlying3
 a3:=Tryz.isAgg3
 z3:=Tryz.sizeOf3
 v3:=Tryz.zeroValue3
 t4:=Tryz.underlying4
 a4:=Tryz.isAgg4
 z4:=Tryz.sizeOf4
 v4:=Tryz.zeroValue4
 t5:=Tryz.underlying5
 a5:=Tryz.isAgg5
 z5:=Tryz.sizeOf5
 v5:=Tryz.zeroValue5
 t9:=Tryz.underlying9
 a9:=Tryz.isAgg9
 z9:=Tryz.sizeOf9
 v9:=Tryz.zeroValue9
 t20:=Tryz.underlying20
 a20:=Tryz.isAgg20
 z20:=Tryz.sizeOf20
 v20:=Tryz.zeroValue20
 t21:=Tryz.underlying21
 a21:=Tryz.isAgg21
 z21:=Tryz.sizeOf21
 v21:=Tryz.zeroValue21
 t37:=Tryz.underlying240
 a37:=Tryz.isAgg240
 z37:=Tryz.sizeOf240
 v37:=Tryz.zeroValue240
 t46:=Tryz.underlying228
 a46:=Tryz.isAgg228
 z46:=Tryz.sizeOf228
 v46:=Tryz.zeroValue228
 t51:=Tryz.underlying257
 a51:=Tryz.isAgg257
 z51:=Tryz.sizeOf257
 v51:=Tryz.zeroValue257
 t53:=Tryz.underlying237
 a53:=Tryz.isAgg237
 z53:=Tryz.sizeOf237
 v53:=Tryz.zeroValue237
 t75:=Tryz.underlying260
 a75:=Tryz.isAgg260
 z75:=Tryz.sizeOf260
 v75:=Tryz.zeroValue260
 t76:=Tryz.underlying261
 a76:=Tryz.isAgg261
 z76:=Tryz.sizeOf261
 v76:=Tryz.zeroValue261
 t85:=Tryz.underlying300
 a85:=Tryz.isAgg300
 z85:=Tryz.sizeOf300
 v85:=Tryz.zeroValue300
 t127:=Tryz.underlying295
 a127:=Tryz.isAgg295
 z127:=Tryz.sizeOf295
 v127:=Tryz.zeroValue295
 t143:=Tryz.underlying317
 a143:=Tryz.isAgg317
 z143:=Tryz.sizeOf317
 v143:=Tryz.zeroValue317
 t145:=Tryz.underlying319
 a145:=Tryz.isAgg319
 z145:=Tryz.sizeOf319
 v145:=Tryz.zeroValue319
 t167:=Tryz.underlying299
 a167:=Tryz.isAgg299
 z167:=Tryz.sizeOf299
 v167:=Tryz.zeroValue299
 t168:=Tryz.underlying302
 a168:=Tryz.isAgg302
 z168:=Tryz.sizeOf302
 v168:=Tryz.zeroValue302
 t171:=Tryz.underlying236
 a171:=Tryz.isAgg236
 z171:=Tryz.sizeOf236
 v171:=Tryz.zeroValue236
 t173:=Tryz.underlying241
 a173:=Tryz.isAgg241
 z173:=Tryz.sizeOf241
 v173:=Tryz.zeroValue241
 t175:=Tryz.underlying309
 a175:=Tryz.isAgg309
 z175:=Tryz.sizeOf309
 v175:=Tryz.zeroValue309
 t210:=Tryz.underlying312
 a210:=Tryz.isAgg312
 z210:=Tryz.sizeOf312
 v210:=Tryz.zeroValue312
 t212:=Tryz.underlying270
 a212:=Tryz.isAgg270
 z212:=Tryz.sizeOf270
 v212:=Tryz.zeroValue270
 t213:=Tryz.underlying271
 a213:=Tryz.isAgg271
 z213:=Tryz.sizeOf271
 t232:=Tryz.underlying307
 a232:=Tryz.isAgg307
 z232:=Tryz.sizeOf307
 v232:=Tryz.zeroValue307
 t233:=Tryz.underlying308
 a233:=Tryz.isAgg308
 z233:=Tryz.sizeOf308
 v233:=Tryz.zeroValue308
 g15:=by kernel_rfl
 g16:=by kernel_rfl
 g17:=by kernel_rfl
 g18:=by kernel_rfl
 g19:=by kernel_rfl
 t80:=Tryz.underlying268
 a80:=Tryz.isAgg268
 z80:=Tryz.sizeOf268
 v80:=Tryz.zeroValue268
 i0:=by kernel_rfl
 i2:=by kernel_rfl
 i3:=by kernel_rfl
 i4:=by kernel_rfl
 i5:=by kernel_rfl
 i9:=by kernel_rfl
 i20:=by kernel_rfl
 i21:=by kernel_rfl
 i37:=by kernel_rfl
 i46:=by kernel_rfl
 i51:=by kernel_rfl
 i53:=by kernel_rfl
 i75:=by kernel_rfl
 i76:=by kernel_rfl
 i80:=by kernel_rfl
 i85:=by kernel_rfl
 i127:=by kernel_rfl
 i143:=by kernel_rfl
 i145:=by kernel_rfl
 i167:=by kernel_rfl
 i168:=by kernel_rfl
 i171:=by kernel_rfl
 i173:=by kernel_rfl
 i175:=by kernel_rfl
 i210:=by kernel_rfl
 i212:=by kernel_rfl
 i232:=by kernel_rfl
 i233:=by kernel_rfl
 m15:=by kernel_rfl
 m16:=by kernel_rfl
 m17:=by kernel_rfl
 m18:=by kernel_rfl
 m19:=by kernel_rfl
 c0:=by kernel_rfl
 c2:=by kernel_rfl
 c3:=by kernel_rfl
 c4:=by kernel_rfl
 c5:=by kernel_rfl
 c9:=by kernel_rfl
 c20:=by kernel_rfl
 c21:=by kernel_rfl
 c37:=by kernel_rfl
 c46:=by kernel_rfl
 c51:=by kernel_rfl
 c53:=by kernel_rfl
 c75:=by kernel_rfl
 c76:=by kernel_rfl
 c80:=by kernel_rfl
 c85:=by kernel_rfl
 c127:=by kernel_rfl
 c143:=by kernel_rfl
 c145:=by kernel_rfl
 c167:=by kernel_rfl
 c168:=by kernel_rfl
 c171:=by kernel_rfl
 c173:=by kernel_rfl
 c175:=by kernel_rfl
 c210:=by kernel_rfl
 c212:=by kernel_rfl
 c213:=by kernel_rfl
 c232:=by kernel_rfl
 c233:=by kernel_rfl }
open Go.RowKit in
theorem Tryz.strconv_Atoi_ok (s:ByteArray) (hmax:s.size<=9223372036854775806) (v:Int) (h:Lib.atoiAll s.data.toList=.ok v) (w:World) :
  Calls Tryz.prog 222 #[.string s] w fun e w'=>e=.returned (.tuple #[.int .i64 v,.nilIface])/\(w'=w∨∃ t,w'=Lib.bytesWorld w 5 t):=Any.strconv_Atoi_ok Tryz.laysC172 s hmax v h w
def Tryz.lays145_ren:Go.Shelf.Ren:=⟨fun | 145=>164 | 220=>187 | 219=>180 | 217=>203 | 225=>204 | 224=>205 | 267=>206 | 266=>235 | 314=>236 | n=>n,fun | 9=>9 | 4=>4 | 59=>209 | 3=>3 | 5=>5 | 46=>228 | 146=>275 | 51=>257 | n=>n,fun | 1=>0 | n=>n⟩
theorem Tryz.lays145:Go.Proofs.Lays.n145 Tryz.prog Tryz.lays145_ren:= {
 mixed:=by kernel_rfl
 f145:=Tryz.func164.trans (congrArg some (by kernel_rfl))
 f217:=Tryz.func203.trans (congrArg some (by kernel_rfl))
 f219:=Tryz.func180.trans (congrArg some (by kernel_rfl))
 f220:=Tryz.func187.trans (congrArg some (by kernel_rfl))
 f224:=Tryz.func205.trans (congrArg some (by kernel_rfl))
 f225:=Tryz.func204.trans (congrArg some (by kernel_rfl))
 f266:=Tryz.func235.trans (congrArg some (by kernel_rfl))
 f267:=Tryz.func206.trans (congrArg some (by kernel_rfl))
 f314:=Tryz.func236.trans (congrArg some (by kernel_rfl))
 t3:=Tryz.underlying3
 a3:=Tryz.isAgg3
 z3:=Tryz.sizeOf3
 v3:=Tryz.zeroValue3
 t4:=Tryz.underlying4
 a4:=Tryz.isAgg4
 z4:=Tryz.sizeOf4
 v4:=Tryz.zeroValue4
 t5:=Tryz.underlying5
 a5:=Tryz.isAgg5
 z5:=Tryz.sizeOf5
 v5:=Tryz.zeroValue5
 t9:=Tryz.underlying9
 a9:=Tryz.isAgg9
 z9:=Tryz.sizeOf9
 v9:=Tryz.zeroValue9
 t46:=Tryz.underlying228
 a46:=Tryz.isAgg228
 z46:=Tryz.sizeOf228
 v46:=Tryz.zeroValue228
 t51:=Tryz.underlying257
 a51:=Tryz.isAgg257
 z51:=Tryz.sizeOf257
 v51:=Tryz.zeroValue257
 t59:=Tryz.underlying209
 a59:=Tryz.isAgg209
 z59:=Tryz.sizeOf209
 v59:=Tryz.zeroValue209
 t146:=Tryz.underlying275
 a146:=Tryz.isAgg275
 z146:=Tryz.sizeOf275
 v146:=Tryz.zeroValue275
 g1:=by kernel_rfl }
open Go.RowKit Go.Lib in
theorem Tryz.strings_Cut (s sep:ByteArray) (m:Int) (w:World) (hs:s.size<4294967281) (hm:w.cell? ⟨0,0,none⟩=some (.int .i64 m)) :
  Calls Tryz.prog 164 #[.string s,.string sep] w fun e w'=>e=.returned (.tuple #[.string ⟨(Lib.cut s.data.toList sep.data.toList).1.toArray⟩,.string ⟨(Lib.cut s.data.toList sep.data.toList).2.1.toArray⟩,.bool (Lib.cut s.data.toList sep.data.toList).2.2])/\∃ n,w'=w.drewN n:=Any.strings_Cut Tryz.lays145 s sep m w hs hm
def Tryz.lays146_ren:Go.Shelf.Ren:=⟨fun | 146=>223 | 221=>221 | 268=>245 | 138=>246 | 143=>155 | 195=>260 | 197=>182 | 218=>261 | 219=>180 | 260=>207 | 217=>203 | 225=>204 | 224=>205 | 267=>206 | 266=>235 | 314=>236 | n=>n,fun | 9=>9 | 31=>69 | 3=>3 | 4=>4 | 0=>0 | 105=>223 | 21=>21 | 5=>5 | 46=>228 | 119=>277 | 139=>280 | 138=>279 | 146=>275 | 51=>257 | n=>n,fun | 1=>0 | 3=>2 | 4=>3 | n=>n⟩
theorem Tryz.lays146:Go.Proofs.Lays.n146 Tryz.prog Tryz.lays146_ren:= {
 mixed:=by kernel_rfl
 f138:=Tryz.func246.trans (congrArg some (by kernel_rfl))
 f143:=Tryz.func155.trans (congrArg some (by kernel_rfl))
 f146:=Tryz.func223.trans (congrArg some (by kernel_rfl))
 f195:=Tryz.func260.trans (congrArg some (by kernel_rfl))
 f197:=Tryz.func182.trans (congrArg some (by kernel_rfl))
 f217:=Tryz.func203.trans (congrArg some (by kernel_rfl))
 f218:=Tryz.func261.trans (congrArg some (by kernel_rfl))
 f219:=Tryz.func180.trans (congrArg some (by kernel_rfl))
 f221:=Tryz.func221.trans (congrArg some (by kernel_rfl))
 f224:=Tryz.func205.trans (congrArg some (by kernel_rfl))
 f225:=Tryz.func204.trans (congrArg some (by kernel_rfl))
 f260:=Tryz.func207.trans (congrArg some (by kernel_rfl))
 f266:=Tryz.func235.trans (congrArg some (by kernel_rfl))
 f267:=Tryz.func206.trans (congrArg some (by kernel_rfl))
 f268:=Tryz.func245.trans (congrArg some (by kernel_rfl))
 f314:=Tryz.func236.trans (congrArg some (by kernel_rfl))
 t0:=Tryz.underlying0
 a0:=Tryz.isAgg0
 z0:=Tryz.sizeOf0
 v0:=Tryz.zeroValue0
 t3:=Tryz.underlying3
 a3:=Tryz.isAgg3
 z3:=Tryz.sizeOf3
 v3:=Tryz.zeroValue3
 t4:=Tryz.underlying4
 a4:=Tryz.isAgg4
 z4:=Tryz.sizeOf4
 v4:=Tryz.zeroValue4
 t5:=Tryz.underlying5
 a5:=Tryz.isAgg5
 z5:=Tryz.sizeOf5
 v5:=Tryz.zeroValue5
 t9:=Tryz.underlying9
 a9:=Tryz.isAgg9
 z9:=Tryz.sizeOf9
 v9:=Tryz.zeroValue9
 t21:=Tryz.underlying21
 a21:=Tryz.isAgg21
 z21:=Tryz.sizeOf21
 v21:=Tryz.zeroValue21
 t31:=Tryz.underlying69
 a31:=Tryz.isAgg69
 z31:=Tryz.sizeOf69
 v31:=Tryz.zeroValue69
 t46:=Tryz.underlying228
 a46:=Tryz.isAgg228
 z46:=Tryz.sizeOf228
 v46:=Tryz.zeroValue228
 t51:=Tryz.underlying257
 a51:=Tryz.isAgg257
 z51:=Tryz.sizeOf257
 v51:=Tryz.zeroValue257
 t105:=Tryz.underlying223
 a105:=Tryz.isAgg223
 z105:=Tryz.sizeOf223
 v105:=Tryz.zeroValue223
 t119:=Tryz.underlying277
 a119:=Tryz.isAgg277
 z119:=Tryz.sizeOf277
 t138:=Tryz.underlying279
 a138:=Tryz.isAgg279
 z138:=Tryz.sizeOf279
 v138:=Tryz.zeroValue279
 t139:=Tryz.underlying280
 a139:=Tryz.isAgg280
 z139:=Tryz.sizeOf280
 v139:=Tryz.zeroValue280
 t146:=Tryz.underlying275
 a146:=Tryz.isAgg275
 z146:=Tryz.sizeOf275
 v146:=Tryz.zeroValue275
 g1:=by kernel_rfl
 g3:=by kernel_rfl
 g4:=by kernel_rfl }
open Go.RowKit Go.Lib in
theorem Tryz.strings_Split (s sep:ByteArray) (m:Int) (w:World) (hs:s.size<4294967281) (hm:w.cell? ⟨0,0,none⟩=some (.int .i64 m)) (h1:1<=sep.size) :
  Calls Tryz.prog 223 #[.string s,.string sep] w fun e w'=>
   e=.returned (.slice (some ⟨w.heap.size,0,none⟩) (Lib.countB s sep+1) (Lib.countB s sep+1))/\w'=w.alloc (.cells ((Lib.splitB sep 0 (Lib.countB s sep) s).map Value.string).toArray 9):=Any.strings_Split Tryz.lays146 (by kernel_rfl) s sep m w hs hm h1
def Tryz.lays147_ren:Go.Shelf.Ren:=⟨fun | 147=>188 | 221=>221 | 268=>245 | 138=>246 | 143=>155 | 195=>260 | 197=>182 | 218=>261 | 219=>180 | 260=>207 | 217=>203 | 225=>204 | 224=>205 | 267=>206 | 266=>235 | 314=>236 | n=>n,fun | 9=>9 | 3=>3 | 31=>69 | 4=>4 | 0=>0 | 105=>223 | 21=>21 | 5=>5 | 46=>228 | 119=>277 | 139=>280 | 138=>279 | 146=>275 | 51=>257 | n=>n,fun | 1=>0 | 3=>2 | 4=>3 | n=>n⟩
theorem Tryz.lays147:Go.Proofs.Lays.n147 Tryz.prog Tryz.lays147_ren:= {
 mixed:=by kernel_rfl
 f138:=Tryz.func246.trans (congrArg some (by kernel_rfl))
 f143:=Tryz.func155.trans (congrArg some (by kernel_rfl))
 f147:=Tryz.func188.trans (congrArg some (by kernel_rfl))
 f195:=Tryz.func260.trans (congrArg some (by kernel_rfl))
 f197:=Tryz.func182.trans (congrArg some (by kernel_rfl))
 f217:=Tryz.func203.trans (congrArg some (by kernel_rfl))
 f218:=Tryz.func261.trans (congrArg some (by kernel_rfl))
 f219:=Tryz.func180.trans (congrArg some (by kernel_rfl))
 f221:=Tryz.func221.trans (congrArg some (by kernel_rfl))
 f224:=Tryz.func205.trans (congrArg some (by kernel_rfl))
 f225:=Tryz.func204.trans (congrArg some (by kernel_rfl))
 f260:=Tryz.func207.trans (congrArg some (by kernel_rfl))
 f266:=Tryz.func235.trans (congrArg some (by kernel_rfl))
 f267:=Tryz.func206.trans (congrArg some (by kernel_rfl))
 f268:=Tryz.func245.trans (congrArg some (by kernel_rfl))
 f314:=Tryz.func236.trans (congrArg some (by kernel_rfl))
 t0:=Tryz.underlying0
 a0:=Tryz.isAgg0
 z0:=Tryz.sizeOf0
 v0:=Tryz.zeroValue0
 t3:=Tryz.underlying3
 a3:=Tryz.isAgg3
 z3:=Tryz.sizeOf3
 v3:=Tryz.zeroValue3
 t4:=Tryz.underlying4
 a4:=Tryz.isAgg4
 z4:=Tryz.sizeOf4
 v4:=Tryz.zeroValue4
 t5:=Tryz.underlying5
 a5:=Tryz.isAgg5
 z5:=Tryz.sizeOf5
 v5:=Tryz.zeroValue5
 t9:=Tryz.underlying9
 a9:=Tryz.isAgg9
 z9:=Tryz.sizeOf9
 v9:=Tryz.zeroValue9
 t21:=Tryz.underlying21
 a21:=Tryz.isAgg21
 z21:=Tryz.sizeOf21
 v21:=Tryz.zeroValue21
 t31:=Tryz.underlying69
 a31:=Tryz.isAgg69
 z31:=Tryz.sizeOf69
 v31:=Tryz.zeroValue69
 t46:=Tryz.underlying228
 a46:=Tryz.isAgg228
 z46:=Tryz.sizeOf228
 v46:=Tryz.zeroValue228
 t51:=Tryz.underlying257
 a51:=Tryz.isAgg257
 z51:=Tryz.sizeOf257
 v51:=Tryz.zeroValue257
 t105:=Tryz.underlying223
 a105:=Tryz.isAgg223
 z105:=Tryz.sizeOf223
 v105:=Tryz.zeroValue223
 t119:=Tryz.underlying277
 a119:=Tryz.isAgg277
 z119:=Tryz.sizeOf277
 t138:=Tryz.underlying279
 a138:=Tryz.isAgg279
 z138:=Tryz.sizeOf279
 v138:=Tryz.zeroValue279
 t139:=Tryz.underlying280
 a139:=Tryz.isAgg280
 z139:=Tryz.sizeOf280
 v139:=Tryz.zeroValue280
 t146:=Tryz.underlying275
 a146:=Tryz.isAgg275
 z146:=Tryz.sizeOf275
 v146:=Tryz.zeroValue275
 g1:=by kernel_rfl
 g3:=by kernel_rfl
 g4:=by kernel_rfl }
open Go.RowKit Go.Lib in
theorem Tryz.strings_SplitN (s sep:ByteArray) (n:Nat) (m:Int) (w:World) (hs:s.size<4294967281) (hm:w.cell? ⟨0,0,none⟩=some (.int .i64 m)) (h1:1<=sep.size) (hn:1<=n) (hn63:n<=9223372036854775807) :
  Calls Tryz.prog 188 #[.string s,.string sep,.int .i64 n] w fun e w'=>
   e=.returned (.slice (some ⟨w.heap.size,0,none⟩) (Lib.splitB sep 0 (min n (s.size+1)-1) s).length (min n (s.size+1)))/\w'=w.alloc (.cells (Lib.cellsOf (Lib.splitB sep 0 (min n (s.size+1)-1) s) (min n (s.size+1))) 9):=Any.strings_SplitN Tryz.lays147 (by kernel_rfl) s sep n m w hs hm h1 hn hn63
def Tryz.lays152_ren:Go.Shelf.Ren:=⟨fun | 152=>208 | 137=>237 | 119=>238 | 224=>205 | 225=>204 | 217=>203 | 266=>235 | n=>n,fun | 9=>9 | 21=>21 | 3=>3 | 4=>4 | 5=>5 | 0=>0 | 46=>228 | n=>n,fun | n=>n⟩
theorem Tryz.lays152:Go.Proofs.Lays.n152 Tryz.prog Tryz.lays152_ren:= {
 mixed:=by kernel_rfl
 f119:=Tryz.func238.trans (congrArg some (by kernel_rfl))
 f137:=Tryz.func237.trans (congrArg some (by kernel_rfl))
 f152:=Tryz.func208.trans (congrArg some (by kernel_rfl))
 f217:=Tryz.func203.trans (congrArg some (by kernel_rfl))
 f224:=Tryz.func205.trans (congrArg some (by kernel_rfl))
 f225:=Tryz.func204.trans (congrArg some (by kernel_rfl))
 f266:=Tryz.func235.trans (congrArg some (by kernel_rfl))
 t0:=Tryz.underlying0
 a0:=Tryz.isAgg0
 z0:=Tryz.sizeOf0
 v0:=Tryz.zeroValue0
 t3:=Tryz.underlying3
 a3:=Tryz.isAgg3
 z3:=Tryz.sizeOf3
 v3:=Tryz.zeroValue3
 t4:=Tryz.underlying4
 a4:=Tryz.isAgg4
 z4:=Tryz.sizeOf4
 v4:=Tryz.zeroValue4
 t5:=Tryz.underlying5
 a5:=Tryz.isAgg5
 z5:=Tryz.sizeOf5
 v5:=Tryz.zeroValue5
 t9:=Tryz.underlying9
 a9:=Tryz.isAgg9
 z9:=Tryz.sizeOf9
 v9:=Tryz.zeroValue9
 t21:=Tryz.underlying21
 a21:=Tryz.isAgg21
 z21:=Tryz.sizeOf21
 v21:=Tryz.zeroValue21
 t46:=Tryz.underlying228
 a46:=Tryz.isAgg228
 z46:=Tryz.sizeOf228
 v46:=Tryz.zeroValue228 }
open Go.RowKit Go.Lib in
theorem Tryz.strings_IndexRune_ascii (s:ByteArray) (r:Int) (w:World) (h0:0<=r) (h1:r<128) :
  Calls Tryz.prog 208 #[.string s,.int .i32 r] w fun e w'=>e=.returned (.int .i64 (Lib.indexByte s.data.toList r.toNat.toUInt8))/\w'=w:=Any.strings_IndexRune_ascii Tryz.lays152 s r w h0 h1
def Tryz.lays226_ren:Go.Shelf.Ren:=⟨fun | 226=>285 | n=>n,fun | 3=>3 | 4=>4 | n=>n,fun | n=>n⟩
theorem Tryz.lays226:Go.Proofs.Lays.n226 Tryz.prog Tryz.lays226_ren:= {
 mixed:=by kernel_rfl
 f226:=Tryz.func285.trans (congrArg some (by kernel_rfl))
 t3:=Tryz.underlying3
 a3:=Tryz.isAgg3
 z3:=Tryz.sizeOf3
 v3:=Tryz.zeroValue3
 t4:=Tryz.underlying4
 a4:=Tryz.isAgg4
 z4:=Tryz.sizeOf4
 v4:=Tryz.zeroValue4 }
open Go.RowKit Go.Lib in
theorem Tryz.strings_shouldUseASCIISet (n:Int) (w:World) :
  Calls Tryz.prog 285 #[.int .i64 n] w fun e w'=>e=.returned (.bool (decide (8<n)))/\w'=w:=Any.strings_shouldUseASCIISet Tryz.lays226 n w
def Tryz.lays153_ren:Go.Shelf.Ren:=⟨fun | 153=>284 | 152=>208 | 226=>285 | 227=>158 | 228=>181 | 137=>237 | 119=>238 | 224=>205 | 225=>204 | 217=>203 | 266=>235 | n=>n,fun | 9=>9 | 3=>3 | 4=>4 | 5=>5 | 21=>21 | 117=>205 | 116=>204 | 0=>0 | 46=>228 | 124=>208 | n=>n,fun | n=>n⟩
theorem Tryz.lays153:Go.Proofs.Lays.n153 Tryz.prog Tryz.lays153_ren:= {
 mixed:=by kernel_rfl
 f119:=Tryz.func238.trans (congrArg some (by kernel_rfl))
 f137:=Tryz.func237.trans (congrArg some (by kernel_rfl))
 f152:=Tryz.func208.trans (congrArg some (by kernel_rfl))
 f153:=Tryz.func284.trans (congrArg some (by kernel_rfl))
 f217:=Tryz.func203.trans (congrArg some (by kernel_rfl))
 f224:=Tryz.func205.trans (congrArg some (by kernel_rfl))
 f225:=Tryz.func204.trans (congrArg some (by kernel_rfl))
 f226:=Tryz.func285.trans (congrArg some (by kernel_rfl))
 f227:=Tryz.func158.trans (congrArg some (by kernel_rfl))
 f228:=Tryz.func181.trans (congrArg some (by kernel_rfl))
 f266:=Tryz.func235.trans (congrArg some (by kernel_rfl))
 t0:=Tryz.underlying0
 a0:=Tryz.isAgg0
 z0:=Tryz.sizeOf0
 v0:=Tryz.zeroValue0
 t3:=Tryz.underlying3
 a3:=Tryz.isAgg3
 z3:=Tryz.sizeOf3
 v3:=Tryz.zeroValue3
 t4:=Tryz.underlying4
 a4:=Tryz.isAgg4
 z4:=Tryz.sizeOf4
 v4:=Tryz.zeroValue4
 t5:=Tryz.underlying5
 a5:=Tryz.isAgg5
 z5:=Tryz.sizeOf5
 v5:=Tryz.zeroValue5
 t9:=Tryz.underlying9
 a9:=Tryz.isAgg9
 z9:=Tryz.sizeOf9
 v9:=Tryz.zeroValue9
 t21:=Tryz.underlying21
 a21:=Tryz.isAgg21
 z21:=Tryz.sizeOf21
 v21:=Tryz.zeroValue21
 t46:=Tryz.underlying228
 a46:=Tryz.isAgg228
 z46:=Tryz.sizeOf228
 v46:=Tryz.zeroValue228
 t116:=Tryz.underlying204
 a116:=Tryz.isAgg204
 z116:=Tryz.sizeOf204
 t117:=Tryz.underlying205
 a117:=Tryz.isAgg205
 z117:=Tryz.sizeOf205
 v117:=Tryz.zeroValue205
 t124:=Tryz.underlying208
 a124:=Tryz.isAgg208
 z124:=Tryz.sizeOf208
 v124:=Tryz.zeroValue208 }
open Go.RowKit Go.Lib in
theorem Tryz.strings_IndexAny_one (s chars:ByteArray) (w:World) (h1:chars.size=1) (hascii : ∀ (j:Nat) b,chars.data.toList[j]? = some b->b.toNat<128) :
  Calls Tryz.prog 284 #[.string s,.string chars] w fun e w'=>e=.returned (.int .i64 (Lib.indexAny s.data.toList chars.data.toList))/\w'=w:=Any.strings_IndexAny_one Tryz.lays153 s chars w h1 hascii
open Go.RowKit Go.Lib in
theorem Tryz.strings_IndexAny_long (hv116 : ∀ w,(zeroValue 204).run Tryz.prog w=.ok (.agg (Array.replicate 256 (.bool false))) w) (s chars:ByteArray) (w:World) (h2:2<=chars.size) (h8:8<s.size) (hs:s.size<4294967281) (hcs:chars.size<4294967281) (hascii : ∀ (j:Nat) b,chars.data.toList[j]? = some b->b.toNat<128) :
  Calls Tryz.prog 284 #[.string s,.string chars] w fun e w'=>e=.returned (.int .i64 (Lib.indexAny s.data.toList chars.data.toList))/\w'=((w.alloc (.cells (Lib.setCells chars.data.toList) 204)).alloc (.cells (Lib.setCells chars.data.toList) 204)):=Any.strings_IndexAny_long Tryz.lays153 hv116 (by kernel_rfl) s chars w h2 h8 hs hcs hascii
end Go.Proofs
namespace Go.Proofs.YthaaaecmeafofaaGreatDoor
open Go.RowKit
def tX (w:World):Prop:=8<w.heap.size/\w.cell? ⟨8,1,none⟩=some (.string ⟨#[61]⟩)/\w.cell? ⟨8,2,none⟩=some (.string ⟨#[62,61]⟩)/\w.cell? ⟨8,3,none⟩=some (.string ⟨#[60]⟩)
theorem tX.keep {w w':World} (h:tX w) (k:aA w w'):tX w':=
 ⟨Nat.lt_of_lt_of_le h.1 k.size,(k.cells.1 _ _ h.1).trans h.2.1,(k.cells.1 _ _ h.1).trans h.2.2.1,(k.cells.1 _ _ h.1).trans h.2.2.2⟩
theorem mF {i:Nat} (h:i<100):(Lib.decDigits i).length<=2:=by
 by_cases h1:i<10
 ·rw [Lib.decDigits_one h1];simp
 ·rw [Lib.decDigits_two h1 h];simp
theorem dV (i:Nat):Lib.itoa (i:Int)=Lib.decDigits i:=by
 unfold Lib.itoa;rw [if_neg (by omega)];simp
theorem aO (s:ByteArray):s.data.toList.length=s.size:=by simp
theorem mL (l:List UInt8):(ByteArray.mk l.toArray).size=l.length:=by simp [ByteArray.size]
def aH (b:Nat) (cs:Array Value) (w:World):Prop:=b<w.heap.size/\∀ o,w.cell? ⟨b,o,none⟩=cs[o]?
theorem aH.keep {b B:Nat} {cs:Array Value} {w w':World} (h:aH b cs w) (k:Below B w w') (hB:b<B):aH b cs w':=
 ⟨Nat.lt_of_lt_of_le h.1 k.size,fun o=>(k.cell (p:=⟨b,o,none⟩) hB).trans (h.2 o)⟩
theorem aH.new (w:World) (cs:Array Value) (t:TypeId):aH w.heap.size cs (w.alloc (.cells cs t)):=
 ⟨by simp,fun o=>by show (match (w.alloc (.cells cs t)).heap[w.heap.size]? with | some (Obj.cells c _ _)=>c[o]? | _=>none)=_;rw [show (w.alloc (.cells cs t)).heap[w.heap.size]? = some (.cells cs t) from by show (w.heap.push _)[w.heap.size]? = _;simp]⟩
attribute [local simp] mL
theorem kG {op v:Int} (h0:op≠0) (h:iM op v=true):1<=v/\v<=99:=by
 unfold iM at h;rw [if_neg h0] at h;simpa using h
theorem iN {v:Int} (h:iM 0 v=true):v=0:=by
 unfold iM at h;simpa using h
theorem jI {n:List UInt8} {op v sl:Int} {f:List UInt8} {on:Bool} (h:chk n op v sl f on=0) :
  aI n=true/\(f = []∨aI f=true)/\0<=op/\op<4/\0<=sl/\sl<=9/\iM op v=true/\(on=true->f ≠ []):=by
 unfold chk at h
 split at h
 ·cases h
 ·rename_i h1
  split at h
  ·cases h
  ·rename_i h2
   split at h
   ·cases h
   ·rename_i h3
    refine ⟨?_,?_,by omega,by omega,by omega,by omega,?_,fun e e'=>h3 ⟨e,e'⟩⟩
    ·cases e:aI n
     ·exact absurd (Or.inl e) h1
     ·rfl
    ·by_cases e:f = []
     ·exact Or.inl e
     ·right
      cases e':aI f
      ·exact absurd (Or.inr ⟨e,e'⟩) h1
      ·rfl
    ·cases e:iM op v
     ·exact absurd (Or.inr (Or.inr (Or.inr (Or.inr e)))) h2
     ·rfl
end Go.Proofs.YthaaaecmeafofaaGreatDoor
