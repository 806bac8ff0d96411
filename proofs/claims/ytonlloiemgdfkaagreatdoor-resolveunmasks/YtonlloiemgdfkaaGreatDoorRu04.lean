/- Steps of the proof: NeedText. -/
import Derived.Test.YtonlloiemgdfkaaGreatDoorRu03
import Derived.Lib.Split
import Derived.Lib.Join
import Derived.Lib.SplitLaws
set_option maxHeartbeats 16000000
set_option maxRecDepth 100000
namespace Go.Proofs.YtonlloiemgdfkaaGreatDoor
structure At where
 n:ByteArray
 op:Int
 v:Int
 sl:Int
 f:ByteArray
 on:Bool
inductive NT where
 | node (k:Int) (a:At) (fl:ByteArray) (nt:Bool) (kids:List NT)
def At.zero:At:=⟨⟨#[]⟩,0,0,0,⟨#[]⟩,false⟩
def NT.zero:NT:= .node 0 At.zero ⟨#[]⟩ false []
def NT.kids:NT->List NT
 | .node _ _ _ _ ks=>ks
def iC (a:At):Int:=chk a.n.data.toList a.op a.v a.sl a.f.data.toList a.on
def eO (a:At):List UInt8:=bW a.n.data.toList a.op a.v a.sl a.f.data.toList a.on
def rE (a:At):Bool:=qV a.n a.op a.v a.sl a.f a.on ⟨#[]⟩ 0 0 0 ⟨#[]⟩ false
def cQ (k:Int):Bool:=(k==1)||(k==2)
def cP (k:Int) (a:At) (fl:ByteArray) (nt:Bool) (many:Nat):Bool:=
 decide (1<=k)&&decide (k<=5) && !(cQ k&&decide (0<many)) && !(!cQ k && !rE a)&&((k==5)||(fl.toList.isEmpty && !nt))
def cY:NT->Int
 | .node k a fl nt kids=>if cP k a fl nt kids.length=false then 4 else if k=5/\aO fl.data.toList=false then 1 else if cQ k=true then iC a else 0
mutual
def bV {σ:Type} (inc:Int->Int) (f:σ->NT->Int->σ × Bool):σ->NT->Int->σ × Bool
 | s,.node k a fl nt kids,d=>if (f s (.node k a fl nt kids) d).2=true then bQ inc f (f s (.node k a fl nt kids) d).1 kids (inc d) else ((f s (.node k a fl nt kids) d).1,false)
def bQ {σ:Type} (inc:Int->Int) (f:σ->NT->Int->σ × Bool):σ->List NT->Int->σ × Bool
 | s,[],_=>(s,true)
 | s,t :: ts,d=>if (bV inc f s t d).2=true then bQ inc f (bV inc f s t d).1 ts d else ((bV inc f s t d).1,false)
end
mutual
def NT.size:NT->Nat
 | .node _ _ _ _ kids=>1+bI kids
def bI:List NT->Nat
 | []=>0
 | t :: ts=>t.size+bI ts
end
mutual
def NT.ht:NT->Nat
 | .node _ _ _ _ kids=>1+htL kids
def htL:List NT->Nat
 | []=>0
 | t :: ts=>max t.ht (htL ts)
end
mutual
def NT.ok:NT->Prop
 | .node k a fl nt kids=>cY (.node k a fl nt kids)=0/\okL kids
def okL:List NT->Prop
 | []=>True
 | t :: ts=>t.ok/\okL ts
end
abbrev bM:=List UInt8
mutual
def NT.words:NT->List bM
 | .node k a fl nt kids=>
  if k=1 then [eO a] else if k=2 then [33 :: eO a]
  else (if k=4 then [[124,124]] else if k=5 then [(if nt then [33] else [])++(fl.data.toList ++ [63])] else [])++([40] :: (bJ kids ++ [[41]]))
def bJ:List NT->List bM
 | []=> []
 | t :: ts=>t.words++bJ ts
end
def wY (s:List UInt8):At:=⟨⟨(nmL s).toArray⟩,opV (veL s),oA (veL s),gR (slL s),⟨((flL s).drop 1).toArray⟩,onV (flL s)⟩
def fP (wd:bM):Option NT:=
 if kV (Go.Lib.trimPrefix wd [33])=0 then some (.node (if Go.Lib.hasPrefix wd [33] then 2 else 1) (wY (Go.Lib.trimPrefix wd [33])) ⟨#[]⟩ false []) else none
def iF (wd:bM):List UInt8:=Go.Lib.trimPrefix (Go.Lib.trimSuffix wd [63]) [33]
def xQ (wd:bM):Bool:=Go.Lib.hasPrefix (Go.Lib.trimSuffix wd [63]) [33]
def dO (rd:bM->List bM->Option (NT × List bM)):Nat->List NT->List bM->Option (List NT × List bM)
 | 0,_,_=>none
 | _+1,_,[]=>none
 | m+1,acc,wd :: ws=>if wd = [41] then some (acc,ws) else match rd wd ws with
  | none=>none
  | some r=>dO rd m (acc ++ [r.1]) r.2
def dE (rd:bM->List bM->Option (NT × List bM)) (mk:List NT->NT) (ws:List bM):Option (NT × List bM):=
 (dO rd (ws.length+1) [] ws).map fun r=>(mk r.1,r.2)
def jP (rd:bM->List bM->Option (NT × List bM)) (mk:List NT->NT):List bM->Option (NT × List bM)
 | []=>none
 | o :: ws=>if o = [40] then dE rd mk ws else none
def aR:Nat->bM->List bM->Option (NT × List bM)
 | 0,_,_=>none
 | g+1,wd,ws=>
  if Go.Lib.hasSuffix wd [63]=true then
   if aO (iF wd)=true then jP (aR g) (.node 5 At.zero ⟨(iF wd).toArray⟩ (xQ wd)) ws else none
  else if wd = [124,124] then jP (aR g) (.node 4 At.zero ⟨#[]⟩ false) ws
  else if wd = [40] then dE (aR g) (.node 3 At.zero ⟨#[]⟩ false) ws
  else (fP wd).map fun t=>(t,ws)
def aN (d:Int):Int:=Go.RowKit.wrap64 (d+1)
def fN (s:Int) (_:NT) (d:Int):Int × Bool:=(s+1,decide (s+1<=20)&&decide (d<=4))
def fE (_:Int) (t:NT) (_:Int):Int × Bool:=(cY t,cY t==0)
def eU (t:NT):Bool:= !(bV aN fN 0 t 1).2
def eB (t:NT):Int:=if eU t=true then 2 else (bV aN fE 0 t 1).1
end Go.Proofs.YtonlloiemgdfkaaGreatDoor
namespace Go.Proofs.YtonlloiemgdfkaaGreatDoor
theorem nO {n m:ByteArray} (h:n.data.toList=m.data.toList):n=m:=by
 cases n;cases m;simp at h;rw [h]
theorem cE (n:ByteArray):(⟨n.data.toList.toArray⟩:ByteArray)=n:=nO (by simp)
theorem kK {n:ByteArray} (h:n.data.toList = []):n=⟨#[]⟩:=nO (by rw [h])
theorem uP {a:At}:rE a=true↔a=At.zero:=by
 unfold rE
 rw [aDo]
 constructor
 ·rintro ⟨h1,h2,h3,h4,h5,h6⟩
  obtain ⟨n,op,v,sl,f,on⟩:=a
  simp only at h1 h2 h3 h4 h5 h6
  rw [kK h1,h2,h3,h4,kK h5,h6]
  rfl
 ·rintro rfl
  exact ⟨rfl,rfl,rfl,rfl,rfl,rfl⟩
theorem xK (b:ByteArray):b.toList.isEmpty=decide (b.data.toList = []):=by
 rw [Go.Lib.toList_data]
 cases h:b.data.toList<;>simp
theorem gA {k:Int} {a:At} {fl:ByteArray} {nt:Bool} {kids:List NT} (h:cY (.node k a fl nt kids)=0) :
  ((k=1∨k=2)/\kids = []/\fl=⟨#[]⟩/\nt=false/\iC a=0)∨((k=3∨k=4)/\a=At.zero/\fl=⟨#[]⟩/\nt=false)∨(k=5/\a=At.zero/\aO fl.data.toList=true):=by
 rw [cY] at h
 by_cases hf:cP k a fl nt kids.length=false
 ·rw [if_pos hf] at h;cases h
 ·rw [if_neg hf] at h
  have hf':cP k a fl nt kids.length=true:=by simpa using hf
  unfold cP at hf'
  simp only [Bool.and_eq_true,decide_eq_true_eq,Bool.not_eq_true',Bool.or_eq_true,beq_iff_eq,Bool.and_eq_false_iff,Bool.not_eq_false',decide_eq_false_iff_not,cQ,Bool.or_eq_false_iff,xK,beq_eq_false_iff_ne] at hf'
  obtain ⟨⟨⟨⟨h1,h2⟩,h3⟩,h4⟩,h5⟩:=hf'
  split at h
  ·cases h
  ·rename_i h6
   split at h
   ·rename_i h7
    have h7':k=1∨k=2:=by simpa [cQ] using h7
    refine Or.inl ⟨h7',?_,?_,?_,h⟩
    ·have : ¬ 0<kids.length:=h3.resolve_left (by rintro ⟨a1,a2⟩;rcases h7' with e | e;exact a1 e;exact a2 e)
     exact List.length_eq_zero_iff.1 (by omega)
    ·exact kK (h5.resolve_left (by omega)).1
    ·exact (h5.resolve_left (by omega)).2
   ·rename_i h7
    have h7' : ¬ (k=1∨k=2):=by simpa [cQ] using h7
    have ha:a=At.zero:=by
     rcases h4 with h4 | h4
     ·exact absurd h4 h7'
     ·exact uP.1 h4
    by_cases hk:k=5
    ·refine Or.inr (Or.inr ⟨hk,ha,?_⟩)
     cases hn:aO fl.data.toList
     ·exact absurd ⟨hk,hn⟩ h6
     ·rfl
    ·exact Or.inr (Or.inl ⟨by omega,ha,kK (h5.resolve_left hk).1,(h5.resolve_left hk).2⟩)
theorem kS (k:Int) (a:At) (hk:k=1∨k=2) (ha:iC a=0):cY (.node k a ⟨#[]⟩ false [])=0:=by
 rcases hk with rfl | rfl
 ·simp [cY,cP,cQ,ha]
 ·simp [cY,cP,cQ,ha]
theorem qK:rE At.zero=true:=uP.2 rfl
theorem fB (k:Int) (kids:List NT) (hk:k=3∨k=4):cY (.node k At.zero ⟨#[]⟩ false kids)=0:=by
 rcases hk with rfl | rfl
 ·simp [cY,cP,cQ,qK]
 ·simp [cY,cP,cQ,qK]
theorem aAq (fl:ByteArray) (nt:Bool) (kids:List NT) (h:aO fl.data.toList=true):cY (.node 5 At.zero fl nt kids)=0:=by
 simp [cY,cP,cQ,qK,h]
mutual
theorem uL (inc:Int->Int) : ∀ (t:NT) (s d:Int),((bV inc fE s t d).2=true/\(bV inc fE s t d).1=0/\t.ok)∨((bV inc fE s t d).2=false/\(bV inc fE s t d).1≠0/\¬ t.ok)
 | .node k a fl nt kids,s,d=>by
  rw [bV]
  by_cases h:cY (.node k a fl nt kids)=0
  ·have e:(fE s (.node k a fl nt kids) d).2=true:=by simp [fE,h]
   have e1:(fE s (.node k a fl nt kids) d).1=0:=by simp [fE,h]
   rw [if_pos e,e1]
   rcases tA inc kids (inc d) with ⟨h1,h2,h3⟩ | ⟨h1,h2,h3⟩
   ·exact Or.inl ⟨h1,h2,h,h3⟩
   ·exact Or.inr ⟨h1,h2,fun hh=>h3 hh.2⟩
  ·have e : ¬ (fE s (.node k a fl nt kids) d).2=true:=by simp [fE,h]
   rw [if_neg e]
   exact Or.inr ⟨rfl,h,fun hh=>h hh.1⟩
theorem tA (inc:Int->Int) : ∀ (ts:List NT) (d:Int),((bQ inc fE 0 ts d).2=true/\(bQ inc fE 0 ts d).1=0/\okL ts)∨((bQ inc fE 0 ts d).2=false/\(bQ inc fE 0 ts d).1≠0/\¬ okL ts)
 | [],d=>Or.inl ⟨by rw [bQ],by rw [bQ],by rw [okL];trivial⟩
 | t :: ts,d=>by
  rw [bQ]
  rcases uL inc t 0 d with ⟨h1,h2,h3⟩ | ⟨h1,h2,h3⟩
  ·rw [if_pos h1,h2]
   rcases tA inc ts d with ⟨h4,h5,h6⟩ | ⟨h4,h5,h6⟩
   ·exact Or.inl ⟨h4,h5,h3,h6⟩
   ·exact Or.inr ⟨h4,h5,fun hh=>h6 hh.2⟩
  ·rw [if_neg (by rw [h1];decide)]
   exact Or.inr ⟨rfl,h2,fun hh=>h3 hh.1⟩
end
theorem jF {d:Int} (h0:0<=d) (h1:d<=100):aN d=d+1:=by
 unfold aN
 unfold Go.RowKit.wrap64
 omega
mutual
theorem uM : ∀ (t:NT) (s d:Int),1<=d->d<=5->(bV aN fN s t d).2=true->(bV aN fN s t d).1=s+t.size/\(bV aN fN s t d).1<=20/\d+t.ht<=5
 | .node k a fl nt kids,s,d,hd,hd5,h=>by
  rw [bV] at h ⊢
  by_cases e:(fN s (.node k a fl nt kids) d).2=true
  ·rw [if_pos e] at h ⊢
   have e':s+1<=20/\d<=4:=by simpa [fN] using e
   rw [jF (by omega) (by omega)] at h ⊢
   obtain ⟨h1,h2,h3⟩:=tB kids (s+1) (d+1) (by omega) (by omega) e'.1 h
   refine ⟨?_,h2,?_⟩
   ·show (bQ aN fN (s+1) kids (d+1)).1=_
    rw [h1,NT.size];omega
   ·rw [NT.ht];omega
  ·rw [if_neg e] at h;cases h
theorem tB : ∀ (ts:List NT) (s d:Int),1<=d->d<=5->s<=20->(bQ aN fN s ts d).2=true->(bQ aN fN s ts d).1=s+bI ts/\(bQ aN fN s ts d).1<=20/\d+htL ts<=5
 | [],s,d,hd,hd5,hs,_=>by
  rw [bQ,bI,htL];exact ⟨by omega,hs,by omega⟩
 | t :: ts,s,d,hd,hd5,hs,h=>by
  rw [bQ] at h ⊢
  by_cases e:(bV aN fN s t d).2=true
  ·rw [if_pos e] at h ⊢
   obtain ⟨h1,h2,h3⟩:=uM t s d hd hd5 e
   obtain ⟨h4,h5,h6⟩:=tB ts _ d hd hd5 h2 h
   refine ⟨?_,h5,?_⟩
   ·rw [h4,h1,bI];omega
   ·rw [htL];omega
  ·rw [if_neg e] at h;cases h
end
theorem iQ {t:NT} (h:eU t=false):t.size<=20/\t.ht<=4:=by
 unfold eU at h
 obtain ⟨h1,h2,h3⟩:=uM t 0 1 (by decide) (by decide) (by simpa using h)
 omega
theorem cL {t:NT}:eB t=0↔eU t=false/\t.ok:=by
 unfold eB
 cases h:eU t
 ·rw [if_neg (by decide)]
  rcases uL aN t 0 1 with ⟨h1,h2,h3⟩ | ⟨h1,h2,h3⟩
  ·exact ⟨fun _=>⟨rfl,h3⟩,fun _=>h2⟩
  ·exact ⟨fun e=>absurd e h2,fun e=>absurd e.2 h3⟩
 ·rw [if_pos rfl]
  exact ⟨fun e=>absurd e (by decide),fun e=>absurd e.1 (by decide)⟩
def yL (c:UInt8):Bool:=okB c || [43,45,58,60,61,62].contains c
theorem jS {c:UInt8} (h:yL c=true):c≠32/\c≠33/\c≠40/\c≠41/\c≠63/\c≠124:=by
 refine ⟨?_,?_,?_,?_,?_,?_⟩<;>rintro rfl<;>revert h<;>decide
theorem mT {c:UInt8} (h:okB c=true):yL c=true:=by simp [yL,h]
theorem sY {i:Int} (h0:0<=i) (h1:i<100) : ∀ c∈Go.Lib.itoa i,yL c=true:=by
 obtain ⟨j,rfl⟩:=Int.eq_ofNat_of_zero_le h0
 rw [eC]
 exact fun c hc=>mT (aCm (by omega) c hc)
theorem aLo (op:Int) : ∀ c∈gQ op,yL c=true:=by
 unfold gQ
 split
 ·decide
 ·split
  ·decide
  ·split
   ·decide
   ·decide
theorem pJ {a:At} (h:iC a=0) : ∀ c∈eO a,yL c=true:=by
 obtain ⟨h1,h2,h3,h4,h5,h6,h7,h8⟩:=lM h
 have hn : ∀ c∈a.n.data.toList,yL c=true:=fun c hc=>mT (mS h1 c hc)
 have hf : ∀ c∈a.f.data.toList,yL c=true:=by
  rcases h2 with h2 | h2
  ·rw [h2];intro c hc;cases hc
  ·exact fun c hc=>mT (mS h2 c hc)
 intro c hc
 unfold eO bW at hc
 rw [List.mem_append,List.mem_append,List.mem_append] at hc
 rcases hc with ((hc | hc) | hc) | hc
 ·exact hn c hc
 ·split at hc
  ·cases hc
  ·rename_i h0
   rcases List.mem_append.1 hc with hc | hc
   ·exact aLo _ c hc
   ·have:=pM h0 h7
    exact sY (by omega) (by omega) c hc
 ·split at hc
  ·cases hc
  ·rcases List.mem_cons.1 hc with rfl | hc
   ·decide
   ·exact sY h5 (by omega) c hc
 ·split at hc
  ·cases hc
  ·rcases List.mem_cons.1 hc with rfl | hc
   ·split<;>decide
   ·exact hf c hc
theorem aIf {a:At} (h:iC a=0) : ∃ c l,eO a=c :: l:=by
 obtain ⟨h1,_⟩:=lM h
 cases hn:a.n.data.toList with
 | nil=>rw [hn] at h1;exact absurd rfl (mR h1)
 | cons c l=>exact ⟨c,_,by unfold eO bW;rw [hn];rfl⟩
theorem vZ {l:List UInt8} (h : ∀ c∈l,c≠63):Go.Lib.hasSuffix l [63]=false:=by
 cases e:Go.Lib.hasSuffix l [63]
 ·rfl
 ·unfold Go.Lib.hasSuffix at e
  have:=List.isSuffixOf_iff_suffix.1 e
  exact absurd rfl (h 63 (this.subset (by simp)))
theorem qZ (l:List UInt8):Go.Lib.hasSuffix (l ++ [63]) [63]=true/\Go.Lib.trimSuffix (l ++ [63]) [63]=l:=by
 have h:Go.Lib.hasSuffix (l ++ [63]) [63]=true:=List.isSuffixOf_iff_suffix.2 (List.suffix_append _ _)
 refine ⟨h,?_⟩
 unfold Go.Lib.trimSuffix
 rw [if_pos h]
 simp
theorem aBl {l:List UInt8} (h:Go.Lib.hasSuffix l [63]=true):Go.Lib.trimSuffix l [63] ++ [63]=l:=by
 obtain ⟨r,rfl⟩:=List.isSuffixOf_iff_suffix.1 h
 rw [(qZ r).2]
theorem tS {l:List UInt8} (h : ∀ c∈l,c≠33):Go.Lib.hasPrefix l [33]=false/\Go.Lib.trimPrefix l [33]=l:=by
 have e:Go.Lib.hasPrefix l [33]=false:=by
  cases l with
  | nil=>rfl
  | cons c l=>
   have:=h c (by simp)
   simp [Go.Lib.hasPrefix,List.isPrefixOf,Ne.symm this]
 refine ⟨e,?_⟩
 unfold Go.Lib.trimPrefix
 rw [if_neg (by rw [e];decide)]
theorem mD (l:List UInt8):Go.Lib.hasPrefix (33 :: l) [33]=true/\Go.Lib.trimPrefix (33 :: l) [33]=l:=by
 have e:Go.Lib.hasPrefix (33 :: l) [33]=true:=by simp [Go.Lib.hasPrefix,List.isPrefixOf]
 refine ⟨e,?_⟩
 unfold Go.Lib.trimPrefix
 rw [if_pos e];rfl
theorem qT (l:List UInt8):(if Go.Lib.hasPrefix l [33]=true then [33] else [])++Go.Lib.trimPrefix l [33]=l:=by
 cases h:Go.Lib.hasPrefix l [33]
 ·unfold Go.Lib.trimPrefix
  rw [h];rfl
 ·cases l with
  | nil=>cases h
  | cons c l=>
   have:(33:UInt8)=c:=by simpa [Go.Lib.hasPrefix,List.isPrefixOf] using h
   subst this
   rw [(mD l).2];rfl
theorem aGe {a:At} (h:iC a=0):kV (eO a)=0/\wY (eO a)=a:=by
 obtain ⟨p0,p1,p2,p3,p4,p5,p6⟩:=aDl h
 refine ⟨p0,?_⟩
 unfold wY eO
 rw [p1,p2,p3,p4,p5,p6,cE,cE]
theorem aIe {s:List UInt8} (h:kV s=0):iC (wY s)=0/\eO (wY s)=s:=by
 have:=aDy h
 unfold iC eO wY
 simpa using this
theorem aHk {l:List UInt8} (h:aO l=true) : ∀ c∈l,c≠33:=fun c hc=>(jS (mT (mS h c hc))).2.1
theorem vV {a:At} (h:iC a=0):fP (eO a)=some (.node 1 a ⟨#[]⟩ false [])/\fP (33 :: eO a)=some (.node 2 a ⟨#[]⟩ false []):=by
 obtain ⟨h1,h2⟩:=tS (l:=eO a) (fun c hc=>(jS (pJ h c hc)).2.1)
 obtain ⟨h3,h4⟩:=mD (eO a)
 obtain ⟨p0,p1⟩:=aGe h
 unfold fP
 rw [h1,h2,h3,h4,if_pos p0,if_pos p0,p1]
 exact ⟨rfl,rfl⟩
theorem aGr {fl:List UInt8} (nt:Bool) (h:aO fl=true):Go.Lib.hasSuffix ((if nt then [33] else [])++(fl ++ [63])) [63]=true/\iF ((if nt then [33] else [])++(fl ++ [63]))=fl/\xQ ((if nt then [33] else [])++(fl ++ [63]))=nt:=by
 rw [← List.append_assoc]
 obtain ⟨h1,h2⟩:=qZ ((if nt then [33] else [])++fl)
 unfold iF xQ
 rw [h2]
 cases nt
 ·obtain ⟨h3,h4⟩:=tS (aHk h)
  exact ⟨h1,h4,h3⟩
 ·obtain ⟨h3,h4⟩:=mD fl
  exact ⟨h1,h4,h3⟩
theorem aCu {wd:bM} (h:Go.Lib.hasSuffix wd [63]=true):(if xQ wd=true then [33] else [])++(iF wd ++ [63])=wd:=by
 unfold xQ iF
 rw [← List.append_assoc,qT,aBl h]
theorem wJ {a:At} (h:iC a=0) (l:List UInt8) (hl:l=eO a∨l=33 :: eO a):Go.Lib.hasSuffix l [63]=false/\l ≠ [124,124]/\l ≠ [40]/\l ≠ [41]:=by
 have ht:=pJ h
 obtain ⟨c,r,e⟩:=aIf h
 have hc:=jS (ht c (by rw [e];simp))
 rcases hl with rfl | rfl
 ·refine ⟨vZ fun x hx=>(jS (ht x hx)).2.2.2.2.1,?_,?_,?_⟩
  ·rw [e];intro h';injection h' with h1 _;exact hc.2.2.2.2.2 h1
  ·rw [e];intro h';injection h' with h1 _;exact hc.2.2.1 h1
  ·rw [e];intro h';injection h' with h1 _;exact hc.2.2.2.1 h1
 ·refine ⟨vZ fun x hx=> ?_,?_,?_,?_⟩
  ·rcases List.mem_cons.1 hx with rfl | hx
   ·decide
   ·exact (jS (ht x hx)).2.2.2.2.1
  ·intro h';injection h' with h1 _;revert h1;decide
  ·intro h';injection h' with h1 _;revert h1;decide
  ·intro h';injection h' with h1 _;revert h1;decide
theorem wO : ∀ t:NT,∃ wd r,t.words=wd :: r
 | .node k a fl nt kids=>by
  rw [NT.words]
  split
  ·exact ⟨_,_,rfl⟩
  ·split
   ·exact ⟨_,_,rfl⟩
   ·split
    ·exact ⟨_,_,rfl⟩
    ·split
     ·exact ⟨_,_,rfl⟩
     ·exact ⟨_,_,rfl⟩
theorem uN : ∀ ts:List NT,ts.length<=(bJ ts).length
 | []=>Nat.zero_le _
 | t :: ts=>by
  obtain ⟨wd,r,e⟩:=wO t
  have:=uN ts
  rw [bJ,List.length_append,e]
  simp only [List.length_cons];omega
mutual
theorem aBa : ∀ (t:NT) (g:Nat) (ws:List bM),t.ok->t.ht<=g->∃ wd r,t.words=wd :: r/\wd ≠ [41]/\aR g wd (r++ws)=some (t,ws)
 | .node k a fl nt kids,g,ws,hok,hg=>by
  rw [NT.ok] at hok
  rw [NT.ht] at hg
  obtain ⟨g,rfl⟩ : ∃ g',g=g'+1:=⟨g-1,by omega⟩
  rw [NT.words]
  have hkids : ∀ (mk:List NT->NT) (ws:List bM),dE (aR g) mk (bJ kids ++ [[41]]++ws)=some (mk kids,ws):=fun mk ws=>by
   unfold dE
   have:=tE kids g [] ws ((bJ kids ++ [[41]]++ws).length+1) hok.2 (by omega) (by have:=uN kids;simp only [List.length_append,List.length_cons];omega)
   rw [List.append_assoc,List.singleton_append]
   rw [List.append_assoc,List.singleton_append] at this
   rw [this];rfl
  rcases gA hok.1 with ⟨hk,rfl,rfl,rfl,ha⟩ | ⟨hk,rfl,rfl,rfl⟩ | ⟨rfl,rfl,hn⟩
  ·rcases hk with rfl | rfl
   ·obtain ⟨w1,w2,w3,w4⟩:=wJ ha _ (Or.inl rfl)
    refine ⟨eO a,[],by rw [if_pos rfl],w4,?_⟩
    rw [aR,if_neg (by rw [w1];decide),if_neg w2,if_neg w3,(vV ha).1];rfl
   ·obtain ⟨w1,w2,w3,w4⟩:=wJ ha _ (Or.inr rfl)
    refine ⟨33 :: eO a,[],by rw [if_neg (by decide),if_pos rfl],w4,?_⟩
    rw [aR,if_neg (by rw [w1];decide),if_neg w2,if_neg w3,(vV ha).2];rfl
  ·rcases hk with rfl | rfl
   ·refine ⟨[40],bJ kids ++ [[41]],by rw [if_neg (by decide),if_neg (by decide),if_neg (by decide),if_neg (by decide)];rfl,by decide,?_⟩
    rw [aR,if_neg (by decide),if_neg (by decide),if_pos rfl,hkids]
   ·refine ⟨[124,124],[40] :: (bJ kids ++ [[41]]),by rw [if_neg (by decide),if_neg (by decide),if_pos rfl];rfl,by decide,?_⟩
    rw [aR,if_neg (by decide),if_pos rfl,List.cons_append,jP,if_pos rfl,hkids]
  ·obtain ⟨f1,f2,f3⟩:=aGr nt hn
   refine ⟨(if nt then [33] else [])++(fl.data.toList ++ [63]),[40] :: (bJ kids ++ [[41]]),by rw [if_neg (by decide),if_neg (by decide),if_neg (by decide),if_pos rfl];rfl,?_,?_⟩
   ·intro e;rw [e] at f1;revert f1;decide
   ·rw [aR,if_pos f1,f2,f3,if_pos hn,List.cons_append,jP,if_pos rfl,hkids,cE]
theorem tE : ∀ (ts:List NT) (g:Nat) (acc:List NT) (ws:List bM) (m:Nat),okL ts->htL ts<=g->ts.length<m->dO (aR g) m acc (bJ ts ++ [[41]]++ws)=some (acc++ts,ws)
 | [],g,acc,ws,m,_,_,hm=>by
  obtain ⟨m,rfl⟩ : ∃ m',m=m'+1:=⟨m-1,by simp at hm;omega⟩
  rw [bJ,List.nil_append,List.singleton_append,dO,if_pos rfl,List.append_nil]
 | t :: ts,g,acc,ws,m,hok,hg,hm=>by
  rw [okL] at hok
  rw [htL] at hg
  obtain ⟨m,rfl⟩ : ∃ m',m=m'+1:=⟨m-1,by simp only [List.length_cons] at hm;omega⟩
  obtain ⟨wd,r,e,hne,hr⟩:=aBa t g (bJ ts ++ [[41]]++ws) hok.1 (by omega)
  rw [bJ,e,List.append_assoc,List.append_assoc,List.cons_append,dO,if_neg hne,← List.append_assoc (bJ ts),hr]
  show dO (aR g) m (acc ++ [t]) (bJ ts ++ [[41]]++ws)=_
  rw [tE ts g (acc ++ [t]) ws m hok.2 (by omega) (by simp only [List.length_cons] at hm;omega),List.append_assoc,List.singleton_append]
end
theorem vU {rd:bM->List bM->Option (NT × List bM)} {g:Nat} (hrd : ∀ wd ws t rest,rd wd ws=some (t,rest)->wd :: ws=t.words++rest/\t.ok/\t.ht<=g) :
  ∀ (m:Nat) (acc:List NT) (ws:List bM) (ks:List NT) (rest:List bM),dO rd m acc ws=some (ks,rest)->∃ new,ks=acc++new/\ws=bJ new++([41] :: rest)/\okL new/\htL new<=g
 | 0,_,_,_,_,h=>by cases h
 | _+1,_,[],_,_,h=>by cases h
 | m+1,acc,wd :: ws,ks,rest,h=>by
  rw [dO] at h
  split at h
  ·rename_i e
   cases h
   exact ⟨[],by simp,by rw [e,bJ];rfl,trivial,Nat.zero_le _⟩
  ·split at h
   ·cases h
   ·rename_i r hr
    obtain ⟨t,r2⟩:=r
    obtain ⟨h1,h2,h3⟩:=hrd wd ws t r2 hr
    obtain ⟨new,e1,e2,e3,e4⟩:=vU hrd m (acc ++ [t]) r2 ks rest h
    refine ⟨t :: new,by rw [e1,List.append_assoc];rfl,?_,?_,?_⟩
    ·rw [h1,e2,bJ,List.append_assoc]
    ·rw [okL];exact ⟨h2,e3⟩
    ·rw [htL];omega
theorem aFs : ∀ (g:Nat) (wd:bM) (ws:List bM) (t:NT) (rest:List bM),aR g wd ws=some (t,rest)->wd :: ws=t.words++rest/\t.ok/\t.ht<=g
 | 0,_,_,_,_,h=>by cases h
 | g+1,wd,ws,t,rest,h=>by
  have hk : ∀ (mk:List NT->NT) (ws:List bM),dE (aR g) mk ws=some (t,rest)->∃ ks,t=mk ks/\ws=bJ ks++([41] :: rest)/\okL ks/\htL ks<=g:=fun mk ws h=>by
   unfold dE at h
   obtain ⟨⟨ks,r⟩,h1,h2⟩:=Option.map_eq_some_iff.1 h
   cases h2
   obtain ⟨new,e1,e2,e3,e4⟩:=vU (aFs g) _ _ _ _ _ h1
   rw [List.nil_append] at e1
   subst e1
   exact ⟨_,rfl,e2,e3,e4⟩
  have ho : ∀ (mk:List NT->NT) (ws:List bM),jP (aR g) mk ws=some (t,rest)->∃ ks,t=mk ks/\ws = [40] :: (bJ ks++([41] :: rest))/\okL ks/\htL ks<=g:=fun mk ws h=>by
   cases ws with
   | nil=>cases h
   | cons o ws=>
    rw [jP] at h
    split at h
    ·rename_i e
     obtain ⟨ks,h1,h2,h3,h4⟩:=hk mk ws h
     exact ⟨ks,h1,by rw [e,h2],h3,h4⟩
    ·cases h
  rw [aR] at h
  split at h
  ·rename_i h1
   split at h
   ·rename_i h2
    obtain ⟨ks,rfl,e2,e3,e4⟩:=ho _ _ h
    refine ⟨?_,?_,?_⟩
    ·rw [NT.words,if_neg (by decide),if_neg (by decide),if_neg (by decide),if_pos rfl]
     show wd :: ws = [(if xQ wd=true then [33] else [])++(iF wd ++ [63])]++([40] :: (bJ ks ++ [[41]]))++rest
     rw [aCu h1,e2];simp
    ·rw [NT.ok];exact ⟨aAq _ _ _ (by simpa using h2),e3⟩
    ·rw [NT.ht];omega
   ·cases h
  ·split at h
   ·rename_i h1 h2
    obtain ⟨ks,rfl,e2,e3,e4⟩:=ho _ _ h
    refine ⟨?_,?_,?_⟩
    ·rw [NT.words,if_neg (by decide),if_neg (by decide),if_pos rfl,h2,e2];simp
    ·rw [NT.ok];exact ⟨fB 4 _ (Or.inr rfl),e3⟩
    ·rw [NT.ht];omega
   ·split at h
    ·rename_i h1 h2 h3
     obtain ⟨ks,rfl,e2,e3,e4⟩:=hk _ _ h
     refine ⟨?_,?_,?_⟩
     ·rw [NT.words,if_neg (by decide),if_neg (by decide),if_neg (by decide),if_neg (by decide),h3,e2];simp
     ·rw [NT.ok];exact ⟨fB 3 _ (Or.inl rfl),e3⟩
     ·rw [NT.ht];omega
    ·obtain ⟨t',h1,h2⟩:=Option.map_eq_some_iff.1 h
     cases h2
     unfold fP at h1
     split at h1
     ·rename_i hp
      obtain ⟨hc,ht⟩:=aIe hp
      have hb:=qT wd
      cases hx:Go.Lib.hasPrefix wd [33]
      ·rw [hx] at h1 hb
       cases h1
       refine ⟨?_,?_,?_⟩
       ·have hb':Go.Lib.trimPrefix wd [33]=wd:=by simpa using hb
        rw [NT.words,if_pos (by decide),ht,hb'];rfl
       ·rw [NT.ok];exact ⟨kS _ _ (Or.inl rfl) hc,trivial⟩
       ·simp [NT.ht,htL]
      ·rw [hx] at h1 hb
       cases h1
       refine ⟨?_,?_,?_⟩
       ·have hb':33 :: Go.Lib.trimPrefix wd [33]=wd:=by simpa using hb
        rw [NT.words,if_neg (by decide),if_pos (by decide),ht,hb'];rfl
       ·rw [NT.ok];exact ⟨kS _ _ (Or.inr rfl) hc,trivial⟩
       ·simp [NT.ht,htL]
     ·cases h1
end Go.Proofs.YtonlloiemgdfkaaGreatDoor
namespace Go.Proofs.YtonlloiemgdfkaaGreatDoor
theorem sT : ∀ (x r:List UInt8),(∀ c∈x,c≠32)->Go.Lib.index (x++32 :: r) [32]=x.length
 | [],r,_=>by simp [Go.Lib.index,List.isPrefixOf]
 | c :: x,r,h=>by
  have hc:=h c (by simp)
  have ih:=sT x r (fun d hd=>h d (by simp [hd]))
  rw [List.cons_append,Go.Lib.index,if_neg (by simp [List.isPrefixOf,Ne.symm hc]),ih,if_neg (by simp)]
  simp
theorem aAc : ∀ x:List UInt8,(∀ c∈x,c≠32)->Go.Lib.index x [32] = -1
 | [],_=>by simp [Go.Lib.index]
 | c :: x,h=>by
  have hc:=h c (by simp)
  rw [Go.Lib.index,if_neg (by simp [List.isPrefixOf,Ne.symm hc]),aAc x (fun d hd=>h d (by simp [hd]))]
  rfl
theorem aKf (x:bM):Go.Lib.join [x] [32]=x:=Go.Lib.join_one x _
theorem aFe (x y:bM) (r:List bM):Go.Lib.join (x :: y :: r) [32]=x++32 :: Go.Lib.join (y :: r) [32]:=by
 simp [Go.Lib.join,List.intercalate,List.intersperse]
theorem aHz (k:Nat) (x r:List UInt8) (h : ∀ c∈x,c≠32):Go.Lib.splitK [32] 0 (k+1) (x++32 :: r)=x :: Go.Lib.splitK [32] 0 k r:=by
 rw [Go.Lib.splitK,sT x r h,if_neg (by simp)]
 simp
theorem aBk (k:Nat) (x:List UInt8) (h : ∀ c∈x,c≠32):Go.Lib.splitK [32] 0 k x = [x]:=by
 cases k with
 | zero=>rfl
 | succ k=>rw [Go.Lib.splitK,aAc x h,if_pos (by decide)]
theorem tZ : ∀ (ws:List bM),ws ≠ []->(∀ x∈ws,∀ c∈x,c≠32)->Go.Lib.split (Go.Lib.join ws [32]) [32]=ws
 | [],h,_=>absurd rfl h
 | [x],_,h=>by
  rw [aKf];unfold Go.Lib.split
  exact aBk _ x (h x (by simp))
 | x :: y :: r,_,h=>by
  have hx:=h x (by simp)
  have ih:=tZ (y :: r) (by simp) (fun z hz=>h z (by simp at hz ⊢;exact Or.inr hz))
  rw [aFe]
  unfold Go.Lib.split at ih ⊢
  rw [Go.Lib.count_hit (i:=x.length) (by simp) (sT x _ hx),Nat.add_comm,aHz _ _ _ hx]
  have e:List.drop (x.length + [(32:UInt8)].length) (x++32 :: Go.Lib.join (y :: r) [32])=Go.Lib.join (y :: r) [32]:=by
   rw [show x++32 :: Go.Lib.join (y :: r) [32]=(x ++ [32])++Go.Lib.join (y :: r) [32] by simp]
   rw [show x.length + [(32:UInt8)].length=(x ++ [32]).length by simp]
   exact List.drop_left
  rw [e,ih]
theorem aHj {l:List UInt8} (h:aO l=true) : ∀ c∈l,c≠32:=fun c hc=>(jS (mT (mS h c hc))).1
mutual
theorem uO : ∀ (t:NT),t.ok->∀ x∈t.words,∀ c∈x,c≠32
 | .node k a fl nt kids,hok,x,hx=>by
  rw [NT.ok] at hok
  rw [NT.words] at hx
  have hend : ∀ l:List bM,x ∈ [40] :: (bJ kids ++ [[41]])->∀ c∈x,c≠32:=fun _ hx=>by
   rcases List.mem_cons.1 hx with rfl | hx
   ·decide
   ·rcases List.mem_append.1 hx with hx | hx
    ·exact rC kids hok.2 x hx
    ·rw [List.mem_singleton.1 hx];decide
  rcases gA hok.1 with ⟨hk,rfl,rfl,rfl,ha⟩ | ⟨hk,rfl,rfl,rfl⟩ | ⟨rfl,rfl,hn⟩
  ·have ht:=pJ ha
   rcases hk with rfl | rfl
   ·rw [if_pos rfl] at hx
    rw [List.mem_singleton.1 hx]
    exact fun c hc=>(jS (ht c hc)).1
   ·rw [if_neg (by decide),if_pos rfl] at hx
    rw [List.mem_singleton.1 hx]
    intro c hc
    rcases List.mem_cons.1 hc with rfl | hc
    ·decide
    ·exact (jS (ht c hc)).1
  ·rcases hk with rfl | rfl
   ·rw [if_neg (by decide),if_neg (by decide),if_neg (by decide),if_neg (by decide)] at hx
    exact hend [] hx
   ·rw [if_neg (by decide),if_neg (by decide),if_pos rfl] at hx
    rcases List.mem_append.1 hx with hx | hx
    ·rw [List.mem_singleton.1 hx];decide
    ·exact hend [] hx
  ·rw [if_neg (by decide),if_neg (by decide),if_neg (by decide),if_pos rfl] at hx
   rcases List.mem_append.1 hx with hx | hx
   ·rw [List.mem_singleton.1 hx]
    intro c hc
    rcases List.mem_append.1 hc with hc | hc
    ·split at hc
     ·rw [List.mem_singleton.1 hc];decide
     ·cases hc
    ·rcases List.mem_append.1 hc with hc | hc
     ·exact aHj hn c hc
     ·rw [List.mem_singleton.1 hc];decide
   ·exact hend [] hx
theorem rC : ∀ (ts:List NT),okL ts->∀ x∈bJ ts,∀ c∈x,c≠32
 | [],_,x,hx=>by rw [bJ] at hx;cases hx
 | t :: ts,hok,x,hx=>by
  rw [okL] at hok
  rw [bJ] at hx
  rcases List.mem_append.1 hx with hx | hx
  ·exact uO t hok.1 x hx
  ·exact rC ts hok.2 x hx
end
def NT.text (t:NT):List UInt8:=Go.Lib.join t.words [32]
def aFq:List bM->Option NT
 | []=>none
 | wd :: ws=>match aR 4 wd ws with
  | some (t,[])=>some t
  | _=>none
def iP (l:List UInt8):Option NT:=aFq (Go.Lib.split l [32])
def rdE (l:List UInt8):Int:=if 20000<l.length then 2 else match iP l with
 | none=>1
 | some t=>eB t
theorem aAy {t:NT} (h:t.ok) (hh:t.ht<=4):iP t.text=some t:=by
 obtain ⟨wd,r,e,_,hr⟩:=aBa t 4 [] h hh
 unfold iP NT.text
 rw [tZ t.words (by rw [e];simp) (uO t h),e,aFq]
 rw [List.append_nil] at hr
 rw [hr]
def iT:List bM->Nat
 | []=>0
 | x :: r=>x.length+1+iT r
theorem lS : ∀ a b:List bM,iT (a++b)=iT a+iT b
 | [],b=>by simp [iT]
 | x :: a,b=>by rw [List.cons_append,iT,iT,lS a b];omega
theorem aAi : ∀ ws:List bM,(Go.Lib.join ws [32]).length<=iT ws
 | []=>by simp [Go.Lib.join,iT]
 | [x]=>by rw [aKf,iT];omega
 | x :: y :: r=>by
  have ih:=aAi (y :: r)
  rw [aFe,iT,List.length_append,List.length_cons];omega
mutual
theorem tF : ∀ t:NT,t.ok->iT t.words<=110*t.size/\t.words.length<=3*t.size
 | .node k a fl nt kids,hok=>by
  rw [NT.ok] at hok
  rw [NT.words,NT.size]
  obtain ⟨ih,ih2⟩:=qR kids hok.2
  have e:iT ([40] :: (bJ kids ++ [[41]]))=iT (bJ kids)+4:=by rw [iT,lS];simp only [iT,List.length_cons,List.length_nil];omega
  rcases gA hok.1 with ⟨hk,rfl,rfl,rfl,ha⟩ | ⟨hk,rfl,rfl,rfl⟩ | ⟨rfl,rfl,hn⟩
  ·have ht:(eO a).length<=100:=aBp ha
   rcases hk with rfl | rfl
   ·rw [if_pos rfl];simp only [iT,List.length_cons,List.length_nil];omega
   ·rw [if_neg (by decide),if_pos rfl];simp only [iT,List.length_cons,List.length_nil];omega
  ·rcases hk with rfl | rfl
   ·rw [if_neg (by decide),if_neg (by decide),if_neg (by decide),if_neg (by decide),List.nil_append]
    rw [e];simp only [List.length_cons,List.length_append,List.length_nil];omega
   ·rw [if_neg (by decide),if_neg (by decide),if_pos rfl,lS,e];simp only [iT,List.length_cons,List.length_append,List.length_nil];omega
  ·have h8:=oZ hn
   rw [if_neg (by decide),if_neg (by decide),if_neg (by decide),if_pos rfl,lS,e]
   simp only [iT,List.length_cons,List.length_append,List.length_nil]
   have:(if nt=true then [(33:UInt8)] else []).length<=1:=by cases nt<;>simp
   omega
theorem qR : ∀ ts:List NT,okL ts->iT (bJ ts)<=110*bI ts/\(bJ ts).length<=3*bI ts
 | [],_=>by rw [bJ,iT,bI];exact ⟨by omega,by simp⟩
 | t :: ts,hok=>by
  rw [okL] at hok
  obtain ⟨h1,h2⟩:=tF t hok.1
  obtain ⟨h3,h4⟩:=qR ts hok.2
  rw [bJ,lS,bI,List.length_append];omega
end
theorem aEa {t:NT} (h:eB t=0):t.text.length<=2200/\t.words.length<=60:=by
 obtain ⟨h1,h2⟩:=cL.1 h
 have:=iQ h1
 obtain ⟨h3,h4⟩:=tF t h2
 have h5:=aAi t.words
 unfold NT.text;omega
theorem aLf {t:NT} (h:eB t=0):rdE t.text=0/\iP t.text=some t:=by
 obtain ⟨h1,h2⟩:=cL.1 h
 have e:=aAy h2 (iQ h1).2
 refine ⟨?_,e⟩
 unfold rdE
 have:=aEa h
 rw [if_neg (by omega),e]
 exact h
end Go.Proofs.YtonlloiemgdfkaaGreatDoor
