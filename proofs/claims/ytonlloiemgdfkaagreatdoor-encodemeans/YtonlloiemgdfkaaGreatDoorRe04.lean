/- Steps of the proof: NeedText. -/
import Derived.Test.YtonlloiemgdfkaaGreatDoorRe03
import Derived.Lib.Split
import Derived.Lib.Join
import Derived.Lib.SplitLaws
set_option maxHeartbeats 16000000
set_option maxRecDepth 100000
namespace Go.Proofs.YtonlloiemgdfkaaGreatDoor
structure At where
 n:ByteArray
 op:Int
 v:Int
 sl:Int
 f:ByteArray
 on:Bool
inductive NT where
 | node (k:Int) (a:At) (fl:ByteArray) (nt:Bool) (kids:List NT)
def At.zero:At:=⟨⟨#[]⟩,0,0,0,⟨#[]⟩,false⟩
def NT.zero:NT:= .node 0 At.zero ⟨#[]⟩ false []
def NT.kids:NT->List NT
 | .node _ _ _ _ ks=>ks
def iT (a:At):Int:=chk a.n.data.toList a.op a.v a.sl a.f.data.toList a.on
def fX (a:At):List UInt8:=cI a.n.data.toList a.op a.v a.sl a.f.data.toList a.on
def vD (a:At):Bool:=uU a.n a.op a.v a.sl a.f a.on ⟨#[]⟩ 0 0 0 ⟨#[]⟩ false
def dV (k:Int):Bool:=(k==1)||(k==2)
def dU (k:Int) (a:At) (fl:ByteArray) (nt:Bool) (many:Nat):Bool:=
 decide (1<=k)&&decide (k<=5) && !(dV k&&decide (0<many)) && !(!dV k && !vD a)&&((k==5)||(fl.toList.isEmpty && !nt))
def dS:NT->Int
 | .node k a fl nt kids=>if dU k a fl nt kids.length=false then 4 else if k=5/\aT fl.data.toList=false then 1 else if dV k=true then iT a else 0
mutual
def cB {σ:Type} (inc:Int->Int) (f:σ->NT->Int->σ × Bool):σ->NT->Int->σ × Bool
 | s,.node k a fl nt kids,d=>if (f s (.node k a fl nt kids) d).2=true then bY inc f (f s (.node k a fl nt kids) d).1 kids (inc d) else ((f s (.node k a fl nt kids) d).1,false)
def bY {σ:Type} (inc:Int->Int) (f:σ->NT->Int->σ × Bool):σ->List NT->Int->σ × Bool
 | s,[],_=>(s,true)
 | s,t :: ts,d=>if (cB inc f s t d).2=true then bY inc f (cB inc f s t d).1 ts d else ((cB inc f s t d).1,false)
end
mutual
def NT.size:NT->Nat
 | .node _ _ _ _ kids=>1+bU kids
def bU:List NT->Nat
 | []=>0
 | t :: ts=>t.size+bU ts
end
mutual
def NT.ht:NT->Nat
 | .node _ _ _ _ kids=>1+htL kids
def htL:List NT->Nat
 | []=>0
 | t :: ts=>max t.ht (htL ts)
end
mutual
def NT.ok:NT->Prop
 | .node k a fl nt kids=>dS (.node k a fl nt kids)=0/\okL kids
def okL:List NT->Prop
 | []=>True
 | t :: ts=>t.ok/\okL ts
end
abbrev bW:=List UInt8
mutual
def NT.words:NT->List bW
 | .node k a fl nt kids=>
  if k=1 then [fX a] else if k=2 then [33 :: fX a]
  else (if k=4 then [[124,124]] else if k=5 then [(if nt then [33] else [])++(fl.data.toList ++ [63])] else [])++([40] :: (bV kids ++ [[41]]))
def bV:List NT->List bW
 | []=> []
 | t :: ts=>t.words++bV ts
end
def aBn (s:List UInt8):At:=⟨⟨(nmL s).toArray⟩,opV (veL s),rC (veL s),jD (slL s),⟨((flL s).drop 1).toArray⟩,onV (flL s)⟩
def gY (wd:bW):Option NT:=
 if nE (Go.Lib.trimPrefix wd [33])=0 then some (.node (if Go.Lib.hasPrefix wd [33] then 2 else 1) (aBn (Go.Lib.trimPrefix wd [33])) ⟨#[]⟩ false []) else none
def jX (wd:bW):List UInt8:=Go.Lib.trimPrefix (Go.Lib.trimSuffix wd [63]) [33]
def aCk (wd:bW):Bool:=Go.Lib.hasPrefix (Go.Lib.trimSuffix wd [63]) [33]
def eM (rd:bW->List bW->Option (NT × List bW)):Nat->List NT->List bW->Option (List NT × List bW)
 | 0,_,_=>none
 | _+1,_,[]=>none
 | m+1,acc,wd :: ws=>if wd = [41] then some (acc,ws) else match rd wd ws with
  | none=>none
  | some r=>eM rd m (acc ++ [r.1]) r.2
def eE (rd:bW->List bW->Option (NT × List bW)) (mk:List NT->NT) (ws:List bW):Option (NT × List bW):=
 (eM rd (ws.length+1) [] ws).map fun r=>(mk r.1,r.2)
def lQ (rd:bW->List bW->Option (NT × List bW)) (mk:List NT->NT):List bW->Option (NT × List bW)
 | []=>none
 | o :: ws=>if o = [40] then eE rd mk ws else none
def aW:Nat->bW->List bW->Option (NT × List bW)
 | 0,_,_=>none
 | g+1,wd,ws=>
  if Go.Lib.hasSuffix wd [63]=true then
   if aT (jX wd)=true then lQ (aW g) (.node 5 At.zero ⟨(jX wd).toArray⟩ (aCk wd)) ws else none
  else if wd = [124,124] then lQ (aW g) (.node 4 At.zero ⟨#[]⟩ false) ws
  else if wd = [40] then eE (aW g) (.node 3 At.zero ⟨#[]⟩ false) ws
  else (gY wd).map fun t=>(t,ws)
def aR (d:Int):Int:=Go.RowKit.wrap64 (d+1)
def fN (s:Int) (_:NT) (d:Int):Int × Bool:=(s+1,decide (s+1<=20)&&decide (d<=4))
def fE (_:Int) (t:NT) (_:Int):Int × Bool:=(dS t,dS t==0)
def gD (t:NT):Bool:= !(cB aR fN 0 t 1).2
def eV (t:NT):Int:=if gD t=true then 2 else (cB aR fE 0 t 1).1
end Go.Proofs.YtonlloiemgdfkaaGreatDoor
namespace Go.Proofs.YtonlloiemgdfkaaGreatDoor
theorem qJ {n m:ByteArray} (h:n.data.toList=m.data.toList):n=m:=by
 cases n;cases m;simp at h;rw [h]
theorem dF (n:ByteArray):(⟨n.data.toList.toArray⟩:ByteArray)=n:=qJ (by simp)
theorem mQ {n:ByteArray} (h:n.data.toList = []):n=⟨#[]⟩:=qJ (by rw [h])
theorem zD {a:At}:vD a=true↔a=At.zero:=by
 unfold vD
 rw [aJc]
 constructor
 ·rintro ⟨h1,h2,h3,h4,h5,h6⟩
  obtain ⟨n,op,v,sl,f,on⟩:=a
  simp only at h1 h2 h3 h4 h5 h6
  rw [mQ h1,h2,h3,h4,mQ h5,h6]
  rfl
 ·rintro rfl
  exact ⟨rfl,rfl,rfl,rfl,rfl,rfl⟩
theorem aCe (b:ByteArray):b.toList.isEmpty=decide (b.data.toList = []):=by
 rw [Go.Lib.toList_data]
 cases h:b.data.toList<;>simp
theorem iK {k:Int} {a:At} {fl:ByteArray} {nt:Bool} {kids:List NT} (h:dS (.node k a fl nt kids)=0) :
  ((k=1∨k=2)/\kids = []/\fl=⟨#[]⟩/\nt=false/\iT a=0)∨((k=3∨k=4)/\a=At.zero/\fl=⟨#[]⟩/\nt=false)∨(k=5/\a=At.zero/\aT fl.data.toList=true):=by
 rw [dS] at h
 by_cases hf:dU k a fl nt kids.length=false
 ·rw [if_pos hf] at h;cases h
 ·rw [if_neg hf] at h
  have hf':dU k a fl nt kids.length=true:=by simpa using hf
  unfold dU at hf'
  simp only [Bool.and_eq_true,decide_eq_true_eq,Bool.not_eq_true',Bool.or_eq_true,beq_iff_eq,Bool.and_eq_false_iff,Bool.not_eq_false',decide_eq_false_iff_not,dV,Bool.or_eq_false_iff,aCe,beq_eq_false_iff_ne] at hf'
  obtain ⟨⟨⟨⟨h1,h2⟩,h3⟩,h4⟩,h5⟩:=hf'
  split at h
  ·cases h
  ·rename_i h6
   split at h
   ·rename_i h7
    have h7':k=1∨k=2:=by simpa [dV] using h7
    refine Or.inl ⟨h7',?_,?_,?_,h⟩
    ·have : ¬ 0<kids.length:=h3.resolve_left (by rintro ⟨a1,a2⟩;rcases h7' with e | e;exact a1 e;exact a2 e)
     exact List.length_eq_zero_iff.1 (by omega)
    ·exact mQ (h5.resolve_left (by omega)).1
    ·exact (h5.resolve_left (by omega)).2
   ·rename_i h7
    have h7' : ¬ (k=1∨k=2):=by simpa [dV] using h7
    have ha:a=At.zero:=by
     rcases h4 with h4 | h4
     ·exact absurd h4 h7'
     ·exact zD.1 h4
    by_cases hk:k=5
    ·refine Or.inr (Or.inr ⟨hk,ha,?_⟩)
     cases hn:aT fl.data.toList
     ·exact absurd ⟨hk,hn⟩ h6
     ·rfl
    ·exact Or.inr (Or.inl ⟨by omega,ha,mQ (h5.resolve_left hk).1,(h5.resolve_left hk).2⟩)
theorem nB (k:Int) (a:At) (hk:k=1∨k=2) (ha:iT a=0):dS (.node k a ⟨#[]⟩ false [])=0:=by
 rcases hk with rfl | rfl
 ·simp [dS,dU,dV,ha]
 ·simp [dS,dU,dV,ha]
theorem uH:vD At.zero=true:=zD.2 rfl
theorem gM (k:Int) (kids:List NT) (hk:k=3∨k=4):dS (.node k At.zero ⟨#[]⟩ false kids)=0:=by
 rcases hk with rfl | rfl
 ·simp [dS,dU,dV,uH]
 ·simp [dS,dU,dV,uH]
theorem aFv (fl:ByteArray) (nt:Bool) (kids:List NT) (h:aT fl.data.toList=true):dS (.node 5 At.zero fl nt kids)=0:=by
 simp [dS,dU,dV,uH,h]
mutual
theorem yY (inc:Int->Int) : ∀ (t:NT) (s d:Int),((cB inc fE s t d).2=true/\(cB inc fE s t d).1=0/\t.ok)∨((cB inc fE s t d).2=false/\(cB inc fE s t d).1≠0/\¬ t.ok)
 | .node k a fl nt kids,s,d=>by
  rw [cB]
  by_cases h:dS (.node k a fl nt kids)=0
  ·have e:(fE s (.node k a fl nt kids) d).2=true:=by simp [fE,h]
   have e1:(fE s (.node k a fl nt kids) d).1=0:=by simp [fE,h]
   rw [if_pos e,e1]
   rcases xG inc kids (inc d) with ⟨h1,h2,h3⟩ | ⟨h1,h2,h3⟩
   ·exact Or.inl ⟨h1,h2,h,h3⟩
   ·exact Or.inr ⟨h1,h2,fun hh=>h3 hh.2⟩
  ·have e : ¬ (fE s (.node k a fl nt kids) d).2=true:=by simp [fE,h]
   rw [if_neg e]
   exact Or.inr ⟨rfl,h,fun hh=>h hh.1⟩
theorem xG (inc:Int->Int) : ∀ (ts:List NT) (d:Int),((bY inc fE 0 ts d).2=true/\(bY inc fE 0 ts d).1=0/\okL ts)∨((bY inc fE 0 ts d).2=false/\(bY inc fE 0 ts d).1≠0/\¬ okL ts)
 | [],d=>Or.inl ⟨by rw [bY],by rw [bY],by rw [okL];trivial⟩
 | t :: ts,d=>by
  rw [bY]
  rcases yY inc t 0 d with ⟨h1,h2,h3⟩ | ⟨h1,h2,h3⟩
  ·rw [if_pos h1,h2]
   rcases xG inc ts d with ⟨h4,h5,h6⟩ | ⟨h4,h5,h6⟩
   ·exact Or.inl ⟨h4,h5,h3,h6⟩
   ·exact Or.inr ⟨h4,h5,fun hh=>h6 hh.2⟩
  ·rw [if_neg (by rw [h1];decide)]
   exact Or.inr ⟨rfl,h2,fun hh=>h3 hh.1⟩
end
theorem lF {d:Int} (h0:0<=d) (h1:d<=100):aR d=d+1:=by
 unfold aR
 unfold Go.RowKit.wrap64
 omega
mutual
theorem yZ : ∀ (t:NT) (s d:Int),1<=d->d<=5->(cB aR fN s t d).2=true->(cB aR fN s t d).1=s+t.size/\(cB aR fN s t d).1<=20/\d+t.ht<=5
 | .node k a fl nt kids,s,d,hd,hd5,h=>by
  rw [cB] at h ⊢
  by_cases e:(fN s (.node k a fl nt kids) d).2=true
  ·rw [if_pos e] at h ⊢
   have e':s+1<=20/\d<=4:=by simpa [fN] using e
   rw [lF (by omega) (by omega)] at h ⊢
   obtain ⟨h1,h2,h3⟩:=xH kids (s+1) (d+1) (by omega) (by omega) e'.1 h
   refine ⟨?_,h2,?_⟩
   ·show (bY aR fN (s+1) kids (d+1)).1=_
    rw [h1,NT.size];omega
   ·rw [NT.ht];omega
  ·rw [if_neg e] at h;cases h
theorem xH : ∀ (ts:List NT) (s d:Int),1<=d->d<=5->s<=20->(bY aR fN s ts d).2=true->(bY aR fN s ts d).1=s+bU ts/\(bY aR fN s ts d).1<=20/\d+htL ts<=5
 | [],s,d,hd,hd5,hs,_=>by
  rw [bY,bU,htL];exact ⟨by omega,hs,by omega⟩
 | t :: ts,s,d,hd,hd5,hs,h=>by
  rw [bY] at h ⊢
  by_cases e:(cB aR fN s t d).2=true
  ·rw [if_pos e] at h ⊢
   obtain ⟨h1,h2,h3⟩:=yZ t s d hd hd5 e
   obtain ⟨h4,h5,h6⟩:=xH ts _ d hd hd5 h2 h
   refine ⟨?_,h5,?_⟩
   ·rw [h4,h1,bU];omega
   ·rw [htL];omega
  ·rw [if_neg e] at h;cases h
end
theorem kM {t:NT} (h:gD t=false):t.size<=20/\t.ht<=4:=by
 unfold gD at h
 obtain ⟨h1,h2,h3⟩:=yZ t 0 1 (by decide) (by decide) (by simpa using h)
 omega
theorem dQ {t:NT}:eV t=0↔gD t=false/\t.ok:=by
 unfold eV
 cases h:gD t
 ·rw [if_neg (by decide)]
  rcases yY aR t 0 1 with ⟨h1,h2,h3⟩ | ⟨h1,h2,h3⟩
  ·exact ⟨fun _=>⟨rfl,h3⟩,fun _=>h2⟩
  ·exact ⟨fun e=>absurd e h2,fun e=>absurd e.2 h3⟩
 ·rw [if_pos rfl]
  exact ⟨fun e=>absurd e (by decide),fun e=>absurd e.1 (by decide)⟩
def aDi (c:UInt8):Bool:=okB c || [43,45,58,60,61,62].contains c
theorem lW {c:UInt8} (h:aDi c=true):c≠32/\c≠33/\c≠40/\c≠41/\c≠63/\c≠124:=by
 refine ⟨?_,?_,?_,?_,?_,?_⟩<;>rintro rfl<;>revert h<;>decide
theorem pH {c:UInt8} (h:okB c=true):aDi c=true:=by simp [aDi,h]
theorem xE {i:Int} (h0:0<=i) (h1:i<100) : ∀ c∈Go.Lib.itoa i,aDi c=true:=by
 obtain ⟨j,rfl⟩:=Int.eq_ofNat_of_zero_le h0
 rw [fJ]
 exact fun c hc=>pH (aHw (by omega) c hc)
theorem aRp (op:Int) : ∀ c∈jC op,aDi c=true:=by
 unfold jC
 split
 ·decide
 ·split
  ·decide
  ·split
   ·decide
   ·decide
theorem tE {a:At} (h:iT a=0) : ∀ c∈fX a,aDi c=true:=by
 obtain ⟨h1,h2,h3,h4,h5,h6,h7,h8⟩:=nX h
 have hn : ∀ c∈a.n.data.toList,aDi c=true:=fun c hc=>pH (pG h1 c hc)
 have hf : ∀ c∈a.f.data.toList,aDi c=true:=by
  rcases h2 with h2 | h2
  ·rw [h2];intro c hc;cases hc
  ·exact fun c hc=>pH (pG h2 c hc)
 intro c hc
 unfold fX cI at hc
 rw [List.mem_append,List.mem_append,List.mem_append] at hc
 rcases hc with ((hc | hc) | hc) | hc
 ·exact hn c hc
 ·split at hc
  ·cases hc
  ·rename_i h0
   rcases List.mem_append.1 hc with hc | hc
   ·exact aRp _ c hc
   ·have:=tI h0 h7
    exact xE (by omega) (by omega) c hc
 ·split at hc
  ·cases hc
  ·rcases List.mem_cons.1 hc with rfl | hc
   ·decide
   ·exact xE h5 (by omega) c hc
 ·split at hc
  ·cases hc
  ·rcases List.mem_cons.1 hc with rfl | hc
   ·split<;>decide
   ·exact hf c hc
theorem aOe {a:At} (h:iT a=0) : ∃ c l,fX a=c :: l:=by
 obtain ⟨h1,_⟩:=nX h
 cases hn:a.n.data.toList with
 | nil=>rw [hn] at h1;exact absurd rfl (pF h1)
 | cons c l=>exact ⟨c,_,by unfold fX cI;rw [hn];rfl⟩
theorem aAl {l:List UInt8} (h : ∀ c∈l,c≠63):Go.Lib.hasSuffix l [63]=false:=by
 cases e:Go.Lib.hasSuffix l [63]
 ·rfl
 ·unfold Go.Lib.hasSuffix at e
  have:=List.isSuffixOf_iff_suffix.1 e
  exact absurd rfl (h 63 (this.subset (by simp)))
theorem uY (l:List UInt8):Go.Lib.hasSuffix (l ++ [63]) [63]=true/\Go.Lib.trimSuffix (l ++ [63]) [63]=l:=by
 have h:Go.Lib.hasSuffix (l ++ [63]) [63]=true:=List.isSuffixOf_iff_suffix.2 (List.suffix_append _ _)
 refine ⟨h,?_⟩
 unfold Go.Lib.trimSuffix
 rw [if_pos h]
 simp
theorem aGt {l:List UInt8} (h:Go.Lib.hasSuffix l [63]=true):Go.Lib.trimSuffix l [63] ++ [63]=l:=by
 obtain ⟨r,rfl⟩:=List.isSuffixOf_iff_suffix.1 h
 rw [(uY r).2]
theorem yC {l:List UInt8} (h : ∀ c∈l,c≠33):Go.Lib.hasPrefix l [33]=false/\Go.Lib.trimPrefix l [33]=l:=by
 have e:Go.Lib.hasPrefix l [33]=false:=by
  cases l with
  | nil=>rfl
  | cons c l=>
   have:=h c (by simp)
   simp [Go.Lib.hasPrefix,List.isPrefixOf,Ne.symm this]
 refine ⟨e,?_⟩
 unfold Go.Lib.trimPrefix
 rw [if_neg (by rw [e];decide)]
theorem oS (l:List UInt8):Go.Lib.hasPrefix (33 :: l) [33]=true/\Go.Lib.trimPrefix (33 :: l) [33]=l:=by
 have e:Go.Lib.hasPrefix (33 :: l) [33]=true:=by simp [Go.Lib.hasPrefix,List.isPrefixOf]
 refine ⟨e,?_⟩
 unfold Go.Lib.trimPrefix
 rw [if_pos e];rfl
theorem uS (l:List UInt8):(if Go.Lib.hasPrefix l [33]=true then [33] else [])++Go.Lib.trimPrefix l [33]=l:=by
 cases h:Go.Lib.hasPrefix l [33]
 ·unfold Go.Lib.trimPrefix
  rw [h];rfl
 ·cases l with
  | nil=>cases h
  | cons c l=>
   have:(33:UInt8)=c:=by simpa [Go.Lib.hasPrefix,List.isPrefixOf] using h
   subst this
   rw [(oS l).2];rfl
theorem aLy {a:At} (h:iT a=0):nE (fX a)=0/\aBn (fX a)=a:=by
 obtain ⟨p0,p1,p2,p3,p4,p5,p6⟩:=aIz h
 refine ⟨p0,?_⟩
 unfold aBn fX
 rw [p1,p2,p3,p4,p5,p6,dF,dF]
theorem aOd {s:List UInt8} (h:nE s=0):iT (aBn s)=0/\fX (aBn s)=s:=by
 have:=aJm h
 unfold iT fX aBn
 simpa using this
theorem aNj {l:List UInt8} (h:aT l=true) : ∀ c∈l,c≠33:=fun c hc=>(lW (pH (pG h c hc))).2.1
theorem aAi {a:At} (h:iT a=0):gY (fX a)=some (.node 1 a ⟨#[]⟩ false [])/\gY (33 :: fX a)=some (.node 2 a ⟨#[]⟩ false []):=by
 obtain ⟨h1,h2⟩:=yC (l:=fX a) (fun c hc=>(lW (tE h c hc)).2.1)
 obtain ⟨h3,h4⟩:=oS (fX a)
 obtain ⟨p0,p1⟩:=aLy h
 unfold gY
 rw [h1,h2,h3,h4,if_pos p0,if_pos p0,p1]
 exact ⟨rfl,rfl⟩
theorem aMp {fl:List UInt8} (nt:Bool) (h:aT fl=true):Go.Lib.hasSuffix ((if nt then [33] else [])++(fl ++ [63])) [63]=true/\jX ((if nt then [33] else [])++(fl ++ [63]))=fl/\aCk ((if nt then [33] else [])++(fl ++ [63]))=nt:=by
 rw [← List.append_assoc]
 obtain ⟨h1,h2⟩:=uY ((if nt then [33] else [])++fl)
 unfold jX aCk
 rw [h2]
 cases nt
 ·obtain ⟨h3,h4⟩:=yC (aNj h)
  exact ⟨h1,h4,h3⟩
 ·obtain ⟨h3,h4⟩:=oS fl
  exact ⟨h1,h4,h3⟩
theorem aIe {wd:bW} (h:Go.Lib.hasSuffix wd [63]=true):(if aCk wd=true then [33] else [])++(jX wd ++ [63])=wd:=by
 unfold aCk jX
 rw [← List.append_assoc,uS,aGt h]
theorem aAy {a:At} (h:iT a=0) (l:List UInt8) (hl:l=fX a∨l=33 :: fX a):Go.Lib.hasSuffix l [63]=false/\l ≠ [124,124]/\l ≠ [40]/\l ≠ [41]:=by
 have ht:=tE h
 obtain ⟨c,r,e⟩:=aOe h
 have hc:=lW (ht c (by rw [e];simp))
 rcases hl with rfl | rfl
 ·refine ⟨aAl fun x hx=>(lW (ht x hx)).2.2.2.2.1,?_,?_,?_⟩
  ·rw [e];intro h';injection h' with h1 _;exact hc.2.2.2.2.2 h1
  ·rw [e];intro h';injection h' with h1 _;exact hc.2.2.1 h1
  ·rw [e];intro h';injection h' with h1 _;exact hc.2.2.2.1 h1
 ·refine ⟨aAl fun x hx=> ?_,?_,?_,?_⟩
  ·rcases List.mem_cons.1 hx with rfl | hx
   ·decide
   ·exact (lW (ht x hx)).2.2.2.2.1
  ·intro h';injection h' with h1 _;revert h1;decide
  ·intro h';injection h' with h1 _;revert h1;decide
  ·intro h';injection h' with h1 _;revert h1;decide
theorem aBe : ∀ t:NT,∃ wd r,t.words=wd :: r
 | .node k a fl nt kids=>by
  rw [NT.words]
  split
  ·exact ⟨_,_,rfl⟩
  ·split
   ·exact ⟨_,_,rfl⟩
   ·split
    ·exact ⟨_,_,rfl⟩
    ·split
     ·exact ⟨_,_,rfl⟩
     ·exact ⟨_,_,rfl⟩
theorem zB : ∀ ts:List NT,ts.length<=(bV ts).length
 | []=>Nat.zero_le _
 | t :: ts=>by
  obtain ⟨wd,r,e⟩:=aBe t
  have:=zB ts
  rw [bV,List.length_append,e]
  simp only [List.length_cons];omega
mutual
theorem aGg : ∀ (t:NT) (g:Nat) (ws:List bW),t.ok->t.ht<=g->∃ wd r,t.words=wd :: r/\wd ≠ [41]/\aW g wd (r++ws)=some (t,ws)
 | .node k a fl nt kids,g,ws,hok,hg=>by
  rw [NT.ok] at hok
  rw [NT.ht] at hg
  obtain ⟨g,rfl⟩ : ∃ g',g=g'+1:=⟨g-1,by omega⟩
  rw [NT.words]
  have hkids : ∀ (mk:List NT->NT) (ws:List bW),eE (aW g) mk (bV kids ++ [[41]]++ws)=some (mk kids,ws):=fun mk ws=>by
   unfold eE
   have:=xK kids g [] ws ((bV kids ++ [[41]]++ws).length+1) hok.2 (by omega) (by have:=zB kids;simp only [List.length_append,List.length_cons];omega)
   rw [List.append_assoc,List.singleton_append]
   rw [List.append_assoc,List.singleton_append] at this
   rw [this];rfl
  rcases iK hok.1 with ⟨hk,rfl,rfl,rfl,ha⟩ | ⟨hk,rfl,rfl,rfl⟩ | ⟨rfl,rfl,hn⟩
  ·rcases hk with rfl | rfl
   ·obtain ⟨w1,w2,w3,w4⟩:=aAy ha _ (Or.inl rfl)
    refine ⟨fX a,[],by rw [if_pos rfl],w4,?_⟩
    rw [aW,if_neg (by rw [w1];decide),if_neg w2,if_neg w3,(aAi ha).1];rfl
   ·obtain ⟨w1,w2,w3,w4⟩:=aAy ha _ (Or.inr rfl)
    refine ⟨33 :: fX a,[],by rw [if_neg (by decide),if_pos rfl],w4,?_⟩
    rw [aW,if_neg (by rw [w1];decide),if_neg w2,if_neg w3,(aAi ha).2];rfl
  ·rcases hk with rfl | rfl
   ·refine ⟨[40],bV kids ++ [[41]],by rw [if_neg (by decide),if_neg (by decide),if_neg (by decide),if_neg (by decide)];rfl,by decide,?_⟩
    rw [aW,if_neg (by decide),if_neg (by decide),if_pos rfl,hkids]
   ·refine ⟨[124,124],[40] :: (bV kids ++ [[41]]),by rw [if_neg (by decide),if_neg (by decide),if_pos rfl];rfl,by decide,?_⟩
    rw [aW,if_neg (by decide),if_pos rfl,List.cons_append,lQ,if_pos rfl,hkids]
  ·obtain ⟨f1,f2,f3⟩:=aMp nt hn
   refine ⟨(if nt then [33] else [])++(fl.data.toList ++ [63]),[40] :: (bV kids ++ [[41]]),by rw [if_neg (by decide),if_neg (by decide),if_neg (by decide),if_pos rfl];rfl,?_,?_⟩
   ·intro e;rw [e] at f1;revert f1;decide
   ·rw [aW,if_pos f1,f2,f3,if_pos hn,List.cons_append,lQ,if_pos rfl,hkids,dF]
theorem xK : ∀ (ts:List NT) (g:Nat) (acc:List NT) (ws:List bW) (m:Nat),okL ts->htL ts<=g->ts.length<m->eM (aW g) m acc (bV ts ++ [[41]]++ws)=some (acc++ts,ws)
 | [],g,acc,ws,m,_,_,hm=>by
  obtain ⟨m,rfl⟩ : ∃ m',m=m'+1:=⟨m-1,by simp at hm;omega⟩
  rw [bV,List.nil_append,List.singleton_append,eM,if_pos rfl,List.append_nil]
 | t :: ts,g,acc,ws,m,hok,hg,hm=>by
  rw [okL] at hok
  rw [htL] at hg
  obtain ⟨m,rfl⟩ : ∃ m',m=m'+1:=⟨m-1,by simp only [List.length_cons] at hm;omega⟩
  obtain ⟨wd,r,e,hne,hr⟩:=aGg t g (bV ts ++ [[41]]++ws) hok.1 (by omega)
  rw [bV,e,List.append_assoc,List.append_assoc,List.cons_append,eM,if_neg hne,← List.append_assoc (bV ts),hr]
  show eM (aW g) m (acc ++ [t]) (bV ts ++ [[41]]++ws)=_
  rw [xK ts g (acc ++ [t]) ws m hok.2 (by omega) (by simp only [List.length_cons] at hm;omega),List.append_assoc,List.singleton_append]
end
theorem aAh {rd:bW->List bW->Option (NT × List bW)} {g:Nat} (hrd : ∀ wd ws t rest,rd wd ws=some (t,rest)->wd :: ws=t.words++rest/\t.ok/\t.ht<=g) :
  ∀ (m:Nat) (acc:List NT) (ws:List bW) (ks:List NT) (rest:List bW),eM rd m acc ws=some (ks,rest)->∃ new,ks=acc++new/\ws=bV new++([41] :: rest)/\okL new/\htL new<=g
 | 0,_,_,_,_,h=>by cases h
 | _+1,_,[],_,_,h=>by cases h
 | m+1,acc,wd :: ws,ks,rest,h=>by
  rw [eM] at h
  split at h
  ·rename_i e
   cases h
   exact ⟨[],by simp,by rw [e,bV];rfl,trivial,Nat.zero_le _⟩
  ·split at h
   ·cases h
   ·rename_i r hr
    obtain ⟨t,r2⟩:=r
    obtain ⟨h1,h2,h3⟩:=hrd wd ws t r2 hr
    obtain ⟨new,e1,e2,e3,e4⟩:=aAh hrd m (acc ++ [t]) r2 ks rest h
    refine ⟨t :: new,by rw [e1,List.append_assoc];rfl,?_,?_,?_⟩
    ·rw [h1,e2,bV,List.append_assoc]
    ·rw [okL];exact ⟨h2,e3⟩
    ·rw [htL];omega
theorem aLl : ∀ (g:Nat) (wd:bW) (ws:List bW) (t:NT) (rest:List bW),aW g wd ws=some (t,rest)->wd :: ws=t.words++rest/\t.ok/\t.ht<=g
 | 0,_,_,_,_,h=>by cases h
 | g+1,wd,ws,t,rest,h=>by
  have hk : ∀ (mk:List NT->NT) (ws:List bW),eE (aW g) mk ws=some (t,rest)->∃ ks,t=mk ks/\ws=bV ks++([41] :: rest)/\okL ks/\htL ks<=g:=fun mk ws h=>by
   unfold eE at h
   obtain ⟨⟨ks,r⟩,h1,h2⟩:=Option.map_eq_some_iff.1 h
   cases h2
   obtain ⟨new,e1,e2,e3,e4⟩:=aAh (aLl g) _ _ _ _ _ h1
   rw [List.nil_append] at e1
   subst e1
   exact ⟨_,rfl,e2,e3,e4⟩
  have ho : ∀ (mk:List NT->NT) (ws:List bW),lQ (aW g) mk ws=some (t,rest)->∃ ks,t=mk ks/\ws = [40] :: (bV ks++([41] :: rest))/\okL ks/\htL ks<=g:=fun mk ws h=>by
   cases ws with
   | nil=>cases h
   | cons o ws=>
    rw [lQ] at h
    split at h
    ·rename_i e
     obtain ⟨ks,h1,h2,h3,h4⟩:=hk mk ws h
     exact ⟨ks,h1,by rw [e,h2],h3,h4⟩
    ·cases h
  rw [aW] at h
  split at h
  ·rename_i h1
   split at h
   ·rename_i h2
    obtain ⟨ks,rfl,e2,e3,e4⟩:=ho _ _ h
    refine ⟨?_,?_,?_⟩
    ·rw [NT.words,if_neg (by decide),if_neg (by decide),if_neg (by decide),if_pos rfl]
     show wd :: ws = [(if aCk wd=true then [33] else [])++(jX wd ++ [63])]++([40] :: (bV ks ++ [[41]]))++rest
     rw [aIe h1,e2];simp
    ·rw [NT.ok];exact ⟨aFv _ _ _ (by simpa using h2),e3⟩
    ·rw [NT.ht];omega
   ·cases h
  ·split at h
   ·rename_i h1 h2
    obtain ⟨ks,rfl,e2,e3,e4⟩:=ho _ _ h
    refine ⟨?_,?_,?_⟩
    ·rw [NT.words,if_neg (by decide),if_neg (by decide),if_pos rfl,h2,e2];simp
    ·rw [NT.ok];exact ⟨gM 4 _ (Or.inr rfl),e3⟩
    ·rw [NT.ht];omega
   ·split at h
    ·rename_i h1 h2 h3
     obtain ⟨ks,rfl,e2,e3,e4⟩:=hk _ _ h
     refine ⟨?_,?_,?_⟩
     ·rw [NT.words,if_neg (by decide),if_neg (by decide),if_neg (by decide),if_neg (by decide),h3,e2];simp
     ·rw [NT.ok];exact ⟨gM 3 _ (Or.inl rfl),e3⟩
     ·rw [NT.ht];omega
    ·obtain ⟨t',h1,h2⟩:=Option.map_eq_some_iff.1 h
     cases h2
     unfold gY at h1
     split at h1
     ·rename_i hp
      obtain ⟨hc,ht⟩:=aOd hp
      have hb:=uS wd
      cases hx:Go.Lib.hasPrefix wd [33]
      ·rw [hx] at h1 hb
       cases h1
       refine ⟨?_,?_,?_⟩
       ·have hb':Go.Lib.trimPrefix wd [33]=wd:=by simpa using hb
        rw [NT.words,if_pos (by decide),ht,hb'];rfl
       ·rw [NT.ok];exact ⟨nB _ _ (Or.inl rfl) hc,trivial⟩
       ·simp [NT.ht,htL]
      ·rw [hx] at h1 hb
       cases h1
       refine ⟨?_,?_,?_⟩
       ·have hb':33 :: Go.Lib.trimPrefix wd [33]=wd:=by simpa using hb
        rw [NT.words,if_neg (by decide),if_pos (by decide),ht,hb'];rfl
       ·rw [NT.ok];exact ⟨nB _ _ (Or.inr rfl) hc,trivial⟩
       ·simp [NT.ht,htL]
     ·cases h1
end Go.Proofs.YtonlloiemgdfkaaGreatDoor
namespace Go.Proofs.YtonlloiemgdfkaaGreatDoor
theorem qS : ∀ (x r:List UInt8),(∀ c∈x,c≠32)->Go.Lib.index (x++32 :: r) [32]=x.length
 | [],r,_=>by simp [Go.Lib.index,List.isPrefixOf]
 | c :: x,r,h=>by
  have hc:=h c (by simp)
  have ih:=qS x r (fun d hd=>h d (by simp [hd]))
  rw [List.cons_append,Go.Lib.index,if_neg (by simp [List.isPrefixOf,Ne.symm hc]),ih,if_neg (by simp)]
  simp
theorem aFd : ∀ x:List UInt8,(∀ c∈x,c≠32)->Go.Lib.index x [32] = -1
 | [],_=>by simp [Go.Lib.index]
 | c :: x,h=>by
  have hc:=h c (by simp)
  rw [Go.Lib.index,if_neg (by simp [List.isPrefixOf,Ne.symm hc]),aFd x (fun d hd=>h d (by simp [hd]))]
  rfl
theorem aQd (x:bW):Go.Lib.join [x] [32]=x:=Go.Lib.join_one x _
theorem aKu (x y:bW) (r:List bW):Go.Lib.join (x :: y :: r) [32]=x++32 :: Go.Lib.join (y :: r) [32]:=by
 simp [Go.Lib.join,List.intercalate,List.intersperse]
theorem aNy (k:Nat) (x r:List UInt8) (h : ∀ c∈x,c≠32):Go.Lib.splitK [32] 0 (k+1) (x++32 :: r)=x :: Go.Lib.splitK [32] 0 k r:=by
 rw [Go.Lib.splitK,qS x r h,if_neg (by simp)]
 simp
theorem aGs (k:Nat) (x:List UInt8) (h : ∀ c∈x,c≠32):Go.Lib.splitK [32] 0 k x = [x]:=by
 cases k with
 | zero=>rfl
 | succ k=>rw [Go.Lib.splitK,aFd x h,if_pos (by decide)]
theorem yL : ∀ (ws:List bW),ws ≠ []->(∀ x∈ws,∀ c∈x,c≠32)->Go.Lib.split (Go.Lib.join ws [32]) [32]=ws
 | [],h,_=>absurd rfl h
 | [x],_,h=>by
  rw [aQd];unfold Go.Lib.split
  exact aGs _ x (h x (by simp))
 | x :: y :: r,_,h=>by
  have hx:=h x (by simp)
  have ih:=yL (y :: r) (by simp) (fun z hz=>h z (by simp at hz ⊢;exact Or.inr hz))
  rw [aKu]
  unfold Go.Lib.split at ih ⊢
  rw [Go.Lib.count_hit (i:=x.length) (by simp) (qS x _ hx),Nat.add_comm,aNy _ _ _ hx]
  have e:List.drop (x.length + [(32:UInt8)].length) (x++32 :: Go.Lib.join (y :: r) [32])=Go.Lib.join (y :: r) [32]:=by
   rw [show x++32 :: Go.Lib.join (y :: r) [32]=(x ++ [32])++Go.Lib.join (y :: r) [32] by simp]
   rw [show x.length + [(32:UInt8)].length=(x ++ [32]).length by simp]
   exact List.drop_left
  rw [e,ih]
theorem aNi {l:List UInt8} (h:aT l=true) : ∀ c∈l,c≠32:=fun c hc=>(lW (pH (pG h c hc))).1
mutual
theorem zC : ∀ (t:NT),t.ok->∀ x∈t.words,∀ c∈x,c≠32
 | .node k a fl nt kids,hok,x,hx=>by
  rw [NT.ok] at hok
  rw [NT.words] at hx
  have hend : ∀ l:List bW,x ∈ [40] :: (bV kids ++ [[41]])->∀ c∈x,c≠32:=fun _ hx=>by
   rcases List.mem_cons.1 hx with rfl | hx
   ·decide
   ·rcases List.mem_append.1 hx with hx | hx
    ·exact vB kids hok.2 x hx
    ·rw [List.mem_singleton.1 hx];decide
  rcases iK hok.1 with ⟨hk,rfl,rfl,rfl,ha⟩ | ⟨hk,rfl,rfl,rfl⟩ | ⟨rfl,rfl,hn⟩
  ·have ht:=tE ha
   rcases hk with rfl | rfl
   ·rw [if_pos rfl] at hx
    rw [List.mem_singleton.1 hx]
    exact fun c hc=>(lW (ht c hc)).1
   ·rw [if_neg (by decide),if_pos rfl] at hx
    rw [List.mem_singleton.1 hx]
    intro c hc
    rcases List.mem_cons.1 hc with rfl | hc
    ·decide
    ·exact (lW (ht c hc)).1
  ·rcases hk with rfl | rfl
   ·rw [if_neg (by decide),if_neg (by decide),if_neg (by decide),if_neg (by decide)] at hx
    exact hend [] hx
   ·rw [if_neg (by decide),if_neg (by decide),if_pos rfl] at hx
    rcases List.mem_append.1 hx with hx | hx
    ·rw [List.mem_singleton.1 hx];decide
    ·exact hend [] hx
  ·rw [if_neg (by decide),if_neg (by decide),if_neg (by decide),if_pos rfl] at hx
   rcases List.mem_append.1 hx with hx | hx
   ·rw [List.mem_singleton.1 hx]
    intro c hc
    rcases List.mem_append.1 hc with hc | hc
    ·split at hc
     ·rw [List.mem_singleton.1 hc];decide
     ·cases hc
    ·rcases List.mem_append.1 hc with hc | hc
     ·exact aNi hn c hc
     ·rw [List.mem_singleton.1 hc];decide
   ·exact hend [] hx
theorem vB : ∀ (ts:List NT),okL ts->∀ x∈bV ts,∀ c∈x,c≠32
 | [],_,x,hx=>by rw [bV] at hx;cases hx
 | t :: ts,hok,x,hx=>by
  rw [okL] at hok
  rw [bV] at hx
  rcases List.mem_append.1 hx with hx | hx
  ·exact zC t hok.1 x hx
  ·exact vB ts hok.2 x hx
end
def NT.text (t:NT):List UInt8:=Go.Lib.join t.words [32]
def aLj:List bW->Option NT
 | []=>none
 | wd :: ws=>match aW 4 wd ws with
  | some (t,[])=>some t
  | _=>none
def kK (l:List UInt8):Option NT:=aLj (Go.Lib.split l [32])
def rdE (l:List UInt8):Int:=if 20000<l.length then 2 else match kK l with
 | none=>1
 | some t=>eV t
theorem aGe {t:NT} (h:t.ok) (hh:t.ht<=4):kK t.text=some t:=by
 obtain ⟨wd,r,e,_,hr⟩:=aGg t 4 [] h hh
 unfold kK NT.text
 rw [yL t.words (by rw [e];simp) (zC t h),e,aLj]
 rw [List.append_nil] at hr
 rw [hr]
def kQ:List bW->Nat
 | []=>0
 | x :: r=>x.length+1+kQ r
theorem oE : ∀ a b:List bW,kQ (a++b)=kQ a+kQ b
 | [],b=>by simp [kQ]
 | x :: a,b=>by rw [List.cons_append,kQ,kQ,oE a b];omega
theorem aFl : ∀ ws:List bW,(Go.Lib.join ws [32]).length<=kQ ws
 | []=>by simp [Go.Lib.join,kQ]
 | [x]=>by rw [aQd,kQ];omega
 | x :: y :: r=>by
  have ih:=aFl (y :: r)
  rw [aKu,kQ,List.length_append,List.length_cons];omega
mutual
theorem xL : ∀ t:NT,t.ok->kQ t.words<=110*t.size/\t.words.length<=3*t.size
 | .node k a fl nt kids,hok=>by
  rw [NT.ok] at hok
  rw [NT.words,NT.size]
  obtain ⟨ih,ih2⟩:=uR kids hok.2
  have e:kQ ([40] :: (bV kids ++ [[41]]))=kQ (bV kids)+4:=by rw [kQ,oE];simp only [kQ,List.length_cons,List.length_nil];omega
  rcases iK hok.1 with ⟨hk,rfl,rfl,rfl,ha⟩ | ⟨hk,rfl,rfl,rfl⟩ | ⟨rfl,rfl,hn⟩
  ·have ht:(fX a).length<=100:=aGx ha
   rcases hk with rfl | rfl
   ·rw [if_pos rfl];simp only [kQ,List.length_cons,List.length_nil];omega
   ·rw [if_neg (by decide),if_pos rfl];simp only [kQ,List.length_cons,List.length_nil];omega
  ·rcases hk with rfl | rfl
   ·rw [if_neg (by decide),if_neg (by decide),if_neg (by decide),if_neg (by decide),List.nil_append]
    rw [e];simp only [List.length_cons,List.length_append,List.length_nil];omega
   ·rw [if_neg (by decide),if_neg (by decide),if_pos rfl,oE,e];simp only [kQ,List.length_cons,List.length_append,List.length_nil];omega
  ·have h8:=sQ hn
   rw [if_neg (by decide),if_neg (by decide),if_neg (by decide),if_pos rfl,oE,e]
   simp only [kQ,List.length_cons,List.length_append,List.length_nil]
   have:(if nt=true then [(33:UInt8)] else []).length<=1:=by cases nt<;>simp
   omega
theorem uR : ∀ ts:List NT,okL ts->kQ (bV ts)<=110*bU ts/\(bV ts).length<=3*bU ts
 | [],_=>by rw [bV,kQ,bU];exact ⟨by omega,by simp⟩
 | t :: ts,hok=>by
  rw [okL] at hok
  obtain ⟨h1,h2⟩:=xL t hok.1
  obtain ⟨h3,h4⟩:=uR ts hok.2
  rw [bV,oE,bU,List.length_append];omega
end
theorem aJo {t:NT} (h:eV t=0):t.text.length<=2200/\t.words.length<=60:=by
 obtain ⟨h1,h2⟩:=dQ.1 h
 have:=kM h1
 obtain ⟨h3,h4⟩:=xL t h2
 have h5:=aFl t.words
 unfold NT.text;omega
theorem aRf {t:NT} (h:eV t=0):rdE t.text=0/\kK t.text=some t:=by
 obtain ⟨h1,h2⟩:=dQ.1 h
 have e:=aGe h2 (kM h1).2
 refine ⟨?_,e⟩
 unfold rdE
 have:=aJo h
 rw [if_neg (by omega),e]
 exact h
end Go.Proofs.YtonlloiemgdfkaaGreatDoor
