/- Steps of the proof: NeedText. -/
import Derived.Test.YtonlloiemgdfkaaGreatDoorRl03
import Derived.Lib.Split
import Derived.Lib.Join
import Derived.Lib.SplitLaws
set_option maxHeartbeats 16000000
set_option maxRecDepth 100000
namespace Go.Proofs.YtonlloiemgdfkaaGreatDoor
structure At where
 n:ByteArray
 op:Int
 v:Int
 sl:Int
 f:ByteArray
 on:Bool
inductive NT where
 | node (k:Int) (a:At) (fl:ByteArray) (nt:Bool) (kids:List NT)
def At.zero:At:=⟨⟨#[]⟩,0,0,0,⟨#[]⟩,false⟩
def NT.zero:NT:= .node 0 At.zero ⟨#[]⟩ false []
def NT.kids:NT->List NT
 | .node _ _ _ _ ks=>ks
def gR (a:At):Int:=chk a.n.data.toList a.op a.v a.sl a.f.data.toList a.on
def eV (a:At):List UInt8:=bW a.n.data.toList a.op a.v a.sl a.f.data.toList a.on
def rL (a:At):Bool:=rC a.n a.op a.v a.sl a.f a.on ⟨#[]⟩ 0 0 0 ⟨#[]⟩ false
def cW (k:Int):Bool:=(k==1)||(k==2)
def cV (k:Int) (a:At) (fl:ByteArray) (nt:Bool) (many:Nat):Bool:=
 decide (1<=k)&&decide (k<=5) && !(cW k&&decide (0<many)) && !(!cW k && !rL a)&&((k==5)||(fl.toList.isEmpty && !nt))
def cU:NT->Int
 | .node k a fl nt kids=>if cV k a fl nt kids.length=false then 4 else if k=5/\aO fl.data.toList=false then 1 else if cW k=true then gR a else 0
mutual
def bS {σ:Type} (inc:Int->Int) (f:σ->NT->Int->σ × Bool):σ->NT->Int->σ × Bool
 | s,.node k a fl nt kids,d=>if (f s (.node k a fl nt kids) d).2=true then bQ inc f (f s (.node k a fl nt kids) d).1 kids (inc d) else ((f s (.node k a fl nt kids) d).1,false)
def bQ {σ:Type} (inc:Int->Int) (f:σ->NT->Int->σ × Bool):σ->List NT->Int->σ × Bool
 | s,[],_=>(s,true)
 | s,t :: ts,d=>if (bS inc f s t d).2=true then bQ inc f (bS inc f s t d).1 ts d else ((bS inc f s t d).1,false)
end
mutual
def NT.size:NT->Nat
 | .node _ _ _ _ kids=>1+bJ kids
def bJ:List NT->Nat
 | []=>0
 | t :: ts=>t.size+bJ ts
end
mutual
def NT.ht:NT->Nat
 | .node _ _ _ _ kids=>1+htL kids
def htL:List NT->Nat
 | []=>0
 | t :: ts=>max t.ht (htL ts)
end
mutual
def NT.ok:NT->Prop
 | .node k a fl nt kids=>cU (.node k a fl nt kids)=0/\okL kids
def okL:List NT->Prop
 | []=>True
 | t :: ts=>t.ok/\okL ts
end
abbrev bN:=List UInt8
mutual
def NT.words:NT->List bN
 | .node k a fl nt kids=>
  if k=1 then [eV a] else if k=2 then [33 :: eV a]
  else (if k=4 then [[124,124]] else if k=5 then [(if nt then [33] else [])++(fl.data.toList ++ [63])] else [])++([40] :: (bK kids ++ [[41]]))
def bK:List NT->List bN
 | []=> []
 | t :: ts=>t.words++bK ts
end
def xI (s:List UInt8):At:=⟨⟨(nmL s).toArray⟩,opV (veL s),oI (veL s),gV (slL s),⟨((flL s).drop 1).toArray⟩,onV (flL s)⟩
def fS (wd:bN):Option NT:=
 if kZ (Go.Lib.trimPrefix wd [33])=0 then some (.node (if Go.Lib.hasPrefix wd [33] then 2 else 1) (xI (Go.Lib.trimPrefix wd [33])) ⟨#[]⟩ false []) else none
def iJ (wd:bN):List UInt8:=Go.Lib.trimPrefix (Go.Lib.trimSuffix wd [63]) [33]
def yC (wd:bN):Bool:=Go.Lib.hasPrefix (Go.Lib.trimSuffix wd [63]) [33]
def dU (rd:bN->List bN->Option (NT × List bN)):Nat->List NT->List bN->Option (List NT × List bN)
 | 0,_,_=>none
 | _+1,_,[]=>none
 | m+1,acc,wd :: ws=>if wd = [41] then some (acc,ws) else match rd wd ws with
  | none=>none
  | some r=>dU rd m (acc ++ [r.1]) r.2
def dK (rd:bN->List bN->Option (NT × List bN)) (mk:List NT->NT) (ws:List bN):Option (NT × List bN):=
 (dU rd (ws.length+1) [] ws).map fun r=>(mk r.1,r.2)
def jS (rd:bN->List bN->Option (NT × List bN)) (mk:List NT->NT):List bN->Option (NT × List bN)
 | []=>none
 | o :: ws=>if o = [40] then dK rd mk ws else none
def aR:Nat->bN->List bN->Option (NT × List bN)
 | 0,_,_=>none
 | g+1,wd,ws=>
  if Go.Lib.hasSuffix wd [63]=true then
   if aO (iJ wd)=true then jS (aR g) (.node 5 At.zero ⟨(iJ wd).toArray⟩ (yC wd)) ws else none
  else if wd = [124,124] then jS (aR g) (.node 4 At.zero ⟨#[]⟩ false) ws
  else if wd = [40] then dK (aR g) (.node 3 At.zero ⟨#[]⟩ false) ws
  else (fS wd).map fun t=>(t,ws)
def aN (d:Int):Int:=Go.RowKit.wrap64 (d+1)
def fN (s:Int) (_:NT) (d:Int):Int × Bool:=(s+1,decide (s+1<=20)&&decide (d<=4))
def fE (_:Int) (t:NT) (_:Int):Int × Bool:=(cU t,cU t==0)
def eZ (t:NT):Bool:= !(bS aN fN 0 t 1).2
def eA (t:NT):Int:=if eZ t=true then 2 else (bS aN fE 0 t 1).1
end Go.Proofs.YtonlloiemgdfkaaGreatDoor
namespace Go.Proofs.YtonlloiemgdfkaaGreatDoor
theorem nU {n m:ByteArray} (h:n.data.toList=m.data.toList):n=m:=by
 cases n;cases m;simp at h;rw [h]
theorem cH (n:ByteArray):(⟨n.data.toList.toArray⟩:ByteArray)=n:=nU (by simp)
theorem kO {n:ByteArray} (h:n.data.toList = []):n=⟨#[]⟩:=nU (by rw [h])
theorem uZ {a:At}:rL a=true↔a=At.zero:=by
 unfold rL
 rw [aEc]
 constructor
 ·rintro ⟨h1,h2,h3,h4,h5,h6⟩
  obtain ⟨n,op,v,sl,f,on⟩:=a
  simp only at h1 h2 h3 h4 h5 h6
  rw [kO h1,h2,h3,h4,kO h5,h6]
  rfl
 ·rintro rfl
  exact ⟨rfl,rfl,rfl,rfl,rfl,rfl⟩
theorem xV (b:ByteArray):b.toList.isEmpty=decide (b.data.toList = []):=by
 rw [Go.Lib.toList_data]
 cases h:b.data.toList<;>simp
theorem gC {k:Int} {a:At} {fl:ByteArray} {nt:Bool} {kids:List NT} (h:cU (.node k a fl nt kids)=0) :
  ((k=1∨k=2)/\kids = []/\fl=⟨#[]⟩/\nt=false/\gR a=0)∨((k=3∨k=4)/\a=At.zero/\fl=⟨#[]⟩/\nt=false)∨(k=5/\a=At.zero/\aO fl.data.toList=true):=by
 rw [cU] at h
 by_cases hf:cV k a fl nt kids.length=false
 ·rw [if_pos hf] at h;cases h
 ·rw [if_neg hf] at h
  have hf':cV k a fl nt kids.length=true:=by simpa using hf
  unfold cV at hf'
  simp only [Bool.and_eq_true,decide_eq_true_eq,Bool.not_eq_true',Bool.or_eq_true,beq_iff_eq,Bool.and_eq_false_iff,Bool.not_eq_false',decide_eq_false_iff_not,cW,Bool.or_eq_false_iff,xV,beq_eq_false_iff_ne] at hf'
  obtain ⟨⟨⟨⟨h1,h2⟩,h3⟩,h4⟩,h5⟩:=hf'
  split at h
  ·cases h
  ·rename_i h6
   split at h
   ·rename_i h7
    have h7':k=1∨k=2:=by simpa [cW] using h7
    refine Or.inl ⟨h7',?_,?_,?_,h⟩
    ·have : ¬ 0<kids.length:=h3.resolve_left (by rintro ⟨a1,a2⟩;rcases h7' with e | e;exact a1 e;exact a2 e)
     exact List.length_eq_zero_iff.1 (by omega)
    ·exact kO (h5.resolve_left (by omega)).1
    ·exact (h5.resolve_left (by omega)).2
   ·rename_i h7
    have h7' : ¬ (k=1∨k=2):=by simpa [cW] using h7
    have ha:a=At.zero:=by
     rcases h4 with h4 | h4
     ·exact absurd h4 h7'
     ·exact uZ.1 h4
    by_cases hk:k=5
    ·refine Or.inr (Or.inr ⟨hk,ha,?_⟩)
     cases hn:aO fl.data.toList
     ·exact absurd ⟨hk,hn⟩ h6
     ·rfl
    ·exact Or.inr (Or.inl ⟨by omega,ha,kO (h5.resolve_left hk).1,(h5.resolve_left hk).2⟩)
theorem kV (k:Int) (a:At) (hk:k=1∨k=2) (ha:gR a=0):cU (.node k a ⟨#[]⟩ false [])=0:=by
 rcases hk with rfl | rfl
 ·simp [cU,cV,cW,ha]
 ·simp [cU,cV,cW,ha]
theorem qQ:rL At.zero=true:=uZ.2 rfl
theorem fG (k:Int) (kids:List NT) (hk:k=3∨k=4):cU (.node k At.zero ⟨#[]⟩ false kids)=0:=by
 rcases hk with rfl | rfl
 ·simp [cU,cV,cW,qQ]
 ·simp [cU,cV,cW,qQ]
theorem aBb (fl:ByteArray) (nt:Bool) (kids:List NT) (h:aO fl.data.toList=true):cU (.node 5 At.zero fl nt kids)=0:=by
 simp [cU,cV,cW,qQ,h]
mutual
theorem uV (inc:Int->Int) : ∀ (t:NT) (s d:Int),((bS inc fE s t d).2=true/\(bS inc fE s t d).1=0/\t.ok)∨((bS inc fE s t d).2=false/\(bS inc fE s t d).1≠0/\¬ t.ok)
 | .node k a fl nt kids,s,d=>by
  rw [bS]
  by_cases h:cU (.node k a fl nt kids)=0
  ·have e:(fE s (.node k a fl nt kids) d).2=true:=by simp [fE,h]
   have e1:(fE s (.node k a fl nt kids) d).1=0:=by simp [fE,h]
   rw [if_pos e,e1]
   rcases tI inc kids (inc d) with ⟨h1,h2,h3⟩ | ⟨h1,h2,h3⟩
   ·exact Or.inl ⟨h1,h2,h,h3⟩
   ·exact Or.inr ⟨h1,h2,fun hh=>h3 hh.2⟩
  ·have e : ¬ (fE s (.node k a fl nt kids) d).2=true:=by simp [fE,h]
   rw [if_neg e]
   exact Or.inr ⟨rfl,h,fun hh=>h hh.1⟩
theorem tI (inc:Int->Int) : ∀ (ts:List NT) (d:Int),((bQ inc fE 0 ts d).2=true/\(bQ inc fE 0 ts d).1=0/\okL ts)∨((bQ inc fE 0 ts d).2=false/\(bQ inc fE 0 ts d).1≠0/\¬ okL ts)
 | [],d=>Or.inl ⟨by rw [bQ],by rw [bQ],by rw [okL];trivial⟩
 | t :: ts,d=>by
  rw [bQ]
  rcases uV inc t 0 d with ⟨h1,h2,h3⟩ | ⟨h1,h2,h3⟩
  ·rw [if_pos h1,h2]
   rcases tI inc ts d with ⟨h4,h5,h6⟩ | ⟨h4,h5,h6⟩
   ·exact Or.inl ⟨h4,h5,h3,h6⟩
   ·exact Or.inr ⟨h4,h5,fun hh=>h6 hh.2⟩
  ·rw [if_neg (by rw [h1];decide)]
   exact Or.inr ⟨rfl,h2,fun hh=>h3 hh.1⟩
end
theorem jI {d:Int} (h0:0<=d) (h1:d<=100):aN d=d+1:=by
 unfold aN
 unfold Go.RowKit.wrap64
 omega
mutual
theorem uW : ∀ (t:NT) (s d:Int),1<=d->d<=5->(bS aN fN s t d).2=true->(bS aN fN s t d).1=s+t.size/\(bS aN fN s t d).1<=20/\d+t.ht<=5
 | .node k a fl nt kids,s,d,hd,hd5,h=>by
  rw [bS] at h ⊢
  by_cases e:(fN s (.node k a fl nt kids) d).2=true
  ·rw [if_pos e] at h ⊢
   have e':s+1<=20/\d<=4:=by simpa [fN] using e
   rw [jI (by omega) (by omega)] at h ⊢
   obtain ⟨h1,h2,h3⟩:=tJ kids (s+1) (d+1) (by omega) (by omega) e'.1 h
   refine ⟨?_,h2,?_⟩
   ·show (bQ aN fN (s+1) kids (d+1)).1=_
    rw [h1,NT.size];omega
   ·rw [NT.ht];omega
  ·rw [if_neg e] at h;cases h
theorem tJ : ∀ (ts:List NT) (s d:Int),1<=d->d<=5->s<=20->(bQ aN fN s ts d).2=true->(bQ aN fN s ts d).1=s+bJ ts/\(bQ aN fN s ts d).1<=20/\d+htL ts<=5
 | [],s,d,hd,hd5,hs,_=>by
  rw [bQ,bJ,htL];exact ⟨by omega,hs,by omega⟩
 | t :: ts,s,d,hd,hd5,hs,h=>by
  rw [bQ] at h ⊢
  by_cases e:(bS aN fN s t d).2=true
  ·rw [if_pos e] at h ⊢
   obtain ⟨h1,h2,h3⟩:=uW t s d hd hd5 e
   obtain ⟨h4,h5,h6⟩:=tJ ts _ d hd hd5 h2 h
   refine ⟨?_,h5,?_⟩
   ·rw [h4,h1,bJ];omega
   ·rw [htL];omega
  ·rw [if_neg e] at h;cases h
end
theorem iV {t:NT} (h:eZ t=false):t.size<=20/\t.ht<=4:=by
 unfold eZ at h
 obtain ⟨h1,h2,h3⟩:=uW t 0 1 (by decide) (by decide) (by simpa using h)
 omega
theorem cO {t:NT}:eA t=0↔eZ t=false/\t.ok:=by
 unfold eA
 cases h:eZ t
 ·rw [if_neg (by decide)]
  rcases uV aN t 0 1 with ⟨h1,h2,h3⟩ | ⟨h1,h2,h3⟩
  ·exact ⟨fun _=>⟨rfl,h3⟩,fun _=>h2⟩
  ·exact ⟨fun e=>absurd e h2,fun e=>absurd e.2 h3⟩
 ·rw [if_pos rfl]
  exact ⟨fun e=>absurd e (by decide),fun e=>absurd e.1 (by decide)⟩
def yX (c:UInt8):Bool:=okB c || [43,45,58,60,61,62].contains c
theorem jV {c:UInt8} (h:yX c=true):c≠32/\c≠33/\c≠40/\c≠41/\c≠63/\c≠124:=by
 refine ⟨?_,?_,?_,?_,?_,?_⟩<;>rintro rfl<;>revert h<;>decide
theorem mY {c:UInt8} (h:okB c=true):yX c=true:=by simp [yX,h]
theorem tG {i:Int} (h0:0<=i) (h1:i<100) : ∀ c∈Go.Lib.itoa i,yX c=true:=by
 obtain ⟨j,rfl⟩:=Int.eq_ofNat_of_zero_le h0
 rw [eM]
 exact fun c hc=>mY (aCy (by omega) c hc)
theorem aMq (op:Int) : ∀ c∈gU op,yX c=true:=by
 unfold gU
 split
 ·decide
 ·split
  ·decide
  ·split
   ·decide
   ·decide
theorem pP {a:At} (h:gR a=0) : ∀ c∈eV a,yX c=true:=by
 obtain ⟨h1,h2,h3,h4,h5,h6,h7,h8⟩:=lP h
 have hn : ∀ c∈a.n.data.toList,yX c=true:=fun c hc=>mY (mX h1 c hc)
 have hf : ∀ c∈a.f.data.toList,yX c=true:=by
  rcases h2 with h2 | h2
  ·rw [h2];intro c hc;cases hc
  ·exact fun c hc=>mY (mX h2 c hc)
 intro c hc
 unfold eV bW at hc
 rw [List.mem_append,List.mem_append,List.mem_append] at hc
 rcases hc with ((hc | hc) | hc) | hc
 ·exact hn c hc
 ·split at hc
  ·cases hc
  ·rename_i h0
   rcases List.mem_append.1 hc with hc | hc
   ·exact aMq _ c hc
   ·have:=pS h0 h7
    exact tG (by omega) (by omega) c hc
 ·split at hc
  ·cases hc
  ·rcases List.mem_cons.1 hc with rfl | hc
   ·decide
   ·exact tG h5 (by omega) c hc
 ·split at hc
  ·cases hc
  ·rcases List.mem_cons.1 hc with rfl | hc
   ·split<;>decide
   ·exact hf c hc
theorem aJc {a:At} (h:gR a=0) : ∃ c l,eV a=c :: l:=by
 obtain ⟨h1,_⟩:=lP h
 cases hn:a.n.data.toList with
 | nil=>rw [hn] at h1;exact absurd rfl (mW h1)
 | cons c l=>exact ⟨c,_,by unfold eV bW;rw [hn];rfl⟩
theorem wJ {l:List UInt8} (h : ∀ c∈l,c≠63):Go.Lib.hasSuffix l [63]=false:=by
 cases e:Go.Lib.hasSuffix l [63]
 ·rfl
 ·unfold Go.Lib.hasSuffix at e
  have:=List.isSuffixOf_iff_suffix.1 e
  exact absurd rfl (h 63 (this.subset (by simp)))
theorem rG (l:List UInt8):Go.Lib.hasSuffix (l ++ [63]) [63]=true/\Go.Lib.trimSuffix (l ++ [63]) [63]=l:=by
 have h:Go.Lib.hasSuffix (l ++ [63]) [63]=true:=List.isSuffixOf_iff_suffix.2 (List.suffix_append _ _)
 refine ⟨h,?_⟩
 unfold Go.Lib.trimSuffix
 rw [if_pos h]
 simp
theorem aBx {l:List UInt8} (h:Go.Lib.hasSuffix l [63]=true):Go.Lib.trimSuffix l [63] ++ [63]=l:=by
 obtain ⟨r,rfl⟩:=List.isSuffixOf_iff_suffix.1 h
 rw [(rG r).2]
theorem uA {l:List UInt8} (h : ∀ c∈l,c≠33):Go.Lib.hasPrefix l [33]=false/\Go.Lib.trimPrefix l [33]=l:=by
 have e:Go.Lib.hasPrefix l [33]=false:=by
  cases l with
  | nil=>rfl
  | cons c l=>
   have:=h c (by simp)
   simp [Go.Lib.hasPrefix,List.isPrefixOf,Ne.symm this]
 refine ⟨e,?_⟩
 unfold Go.Lib.trimPrefix
 rw [if_neg (by rw [e];decide)]
theorem mG (l:List UInt8):Go.Lib.hasPrefix (33 :: l) [33]=true/\Go.Lib.trimPrefix (33 :: l) [33]=l:=by
 have e:Go.Lib.hasPrefix (33 :: l) [33]=true:=by simp [Go.Lib.hasPrefix,List.isPrefixOf]
 refine ⟨e,?_⟩
 unfold Go.Lib.trimPrefix
 rw [if_pos e];rfl
theorem qZ (l:List UInt8):(if Go.Lib.hasPrefix l [33]=true then [33] else [])++Go.Lib.trimPrefix l [33]=l:=by
 cases h:Go.Lib.hasPrefix l [33]
 ·unfold Go.Lib.trimPrefix
  rw [h];rfl
 ·cases l with
  | nil=>cases h
  | cons c l=>
   have:(33:UInt8)=c:=by simpa [Go.Lib.hasPrefix,List.isPrefixOf] using h
   subst this
   rw [(mG l).2];rfl
theorem aGz {a:At} (h:gR a=0):kZ (eV a)=0/\xI (eV a)=a:=by
 obtain ⟨p0,p1,p2,p3,p4,p5,p6⟩:=aDy h
 refine ⟨p0,?_⟩
 unfold xI eV
 rw [p1,p2,p3,p4,p5,p6,cH,cH]
theorem aJb {s:List UInt8} (h:kZ s=0):gR (xI s)=0/\eV (xI s)=s:=by
 have:=aEm h
 unfold gR eV xI
 simpa using this
theorem aIi {l:List UInt8} (h:aO l=true) : ∀ c∈l,c≠33:=fun c hc=>(jV (mY (mX h c hc))).2.1
theorem wF {a:At} (h:gR a=0):fS (eV a)=some (.node 1 a ⟨#[]⟩ false [])/\fS (33 :: eV a)=some (.node 2 a ⟨#[]⟩ false []):=by
 obtain ⟨h1,h2⟩:=uA (l:=eV a) (fun c hc=>(jV (pP h c hc)).2.1)
 obtain ⟨h3,h4⟩:=mG (eV a)
 obtain ⟨p0,p1⟩:=aGz h
 unfold fS
 rw [h1,h2,h3,h4,if_pos p0,if_pos p0,p1]
 exact ⟨rfl,rfl⟩
theorem aHo {fl:List UInt8} (nt:Bool) (h:aO fl=true):Go.Lib.hasSuffix ((if nt then [33] else [])++(fl ++ [63])) [63]=true/\iJ ((if nt then [33] else [])++(fl ++ [63]))=fl/\yC ((if nt then [33] else [])++(fl ++ [63]))=nt:=by
 rw [← List.append_assoc]
 obtain ⟨h1,h2⟩:=rG ((if nt then [33] else [])++fl)
 unfold iJ yC
 rw [h2]
 cases nt
 ·obtain ⟨h3,h4⟩:=uA (aIi h)
  exact ⟨h1,h4,h3⟩
 ·obtain ⟨h3,h4⟩:=mG fl
  exact ⟨h1,h4,h3⟩
theorem aDg {wd:bN} (h:Go.Lib.hasSuffix wd [63]=true):(if yC wd=true then [33] else [])++(iJ wd ++ [63])=wd:=by
 unfold yC iJ
 rw [← List.append_assoc,qZ,aBx h]
theorem wV {a:At} (h:gR a=0) (l:List UInt8) (hl:l=eV a∨l=33 :: eV a):Go.Lib.hasSuffix l [63]=false/\l ≠ [124,124]/\l ≠ [40]/\l ≠ [41]:=by
 have ht:=pP h
 obtain ⟨c,r,e⟩:=aJc h
 have hc:=jV (ht c (by rw [e];simp))
 rcases hl with rfl | rfl
 ·refine ⟨wJ fun x hx=>(jV (ht x hx)).2.2.2.2.1,?_,?_,?_⟩
  ·rw [e];intro h';injection h' with h1 _;exact hc.2.2.2.2.2 h1
  ·rw [e];intro h';injection h' with h1 _;exact hc.2.2.1 h1
  ·rw [e];intro h';injection h' with h1 _;exact hc.2.2.2.1 h1
 ·refine ⟨wJ fun x hx=> ?_,?_,?_,?_⟩
  ·rcases List.mem_cons.1 hx with rfl | hx
   ·decide
   ·exact (jV (ht x hx)).2.2.2.2.1
  ·intro h';injection h' with h1 _;revert h1;decide
  ·intro h';injection h' with h1 _;revert h1;decide
  ·intro h';injection h' with h1 _;revert h1;decide
theorem xA : ∀ t:NT,∃ wd r,t.words=wd :: r
 | .node k a fl nt kids=>by
  rw [NT.words]
  split
  ·exact ⟨_,_,rfl⟩
  ·split
   ·exact ⟨_,_,rfl⟩
   ·split
    ·exact ⟨_,_,rfl⟩
    ·split
     ·exact ⟨_,_,rfl⟩
     ·exact ⟨_,_,rfl⟩
theorem uX : ∀ ts:List NT,ts.length<=(bK ts).length
 | []=>Nat.zero_le _
 | t :: ts=>by
  obtain ⟨wd,r,e⟩:=xA t
  have:=uX ts
  rw [bK,List.length_append,e]
  simp only [List.length_cons];omega
mutual
theorem aBm : ∀ (t:NT) (g:Nat) (ws:List bN),t.ok->t.ht<=g->∃ wd r,t.words=wd :: r/\wd ≠ [41]/\aR g wd (r++ws)=some (t,ws)
 | .node k a fl nt kids,g,ws,hok,hg=>by
  rw [NT.ok] at hok
  rw [NT.ht] at hg
  obtain ⟨g,rfl⟩ : ∃ g',g=g'+1:=⟨g-1,by omega⟩
  rw [NT.words]
  have hkids : ∀ (mk:List NT->NT) (ws:List bN),dK (aR g) mk (bK kids ++ [[41]]++ws)=some (mk kids,ws):=fun mk ws=>by
   unfold dK
   have:=tM kids g [] ws ((bK kids ++ [[41]]++ws).length+1) hok.2 (by omega) (by have:=uX kids;simp only [List.length_append,List.length_cons];omega)
   rw [List.append_assoc,List.singleton_append]
   rw [List.append_assoc,List.singleton_append] at this
   rw [this];rfl
  rcases gC hok.1 with ⟨hk,rfl,rfl,rfl,ha⟩ | ⟨hk,rfl,rfl,rfl⟩ | ⟨rfl,rfl,hn⟩
  ·rcases hk with rfl | rfl
   ·obtain ⟨w1,w2,w3,w4⟩:=wV ha _ (Or.inl rfl)
    refine ⟨eV a,[],by rw [if_pos rfl],w4,?_⟩
    rw [aR,if_neg (by rw [w1];decide),if_neg w2,if_neg w3,(wF ha).1];rfl
   ·obtain ⟨w1,w2,w3,w4⟩:=wV ha _ (Or.inr rfl)
    refine ⟨33 :: eV a,[],by rw [if_neg (by decide),if_pos rfl],w4,?_⟩
    rw [aR,if_neg (by rw [w1];decide),if_neg w2,if_neg w3,(wF ha).2];rfl
  ·rcases hk with rfl | rfl
   ·refine ⟨[40],bK kids ++ [[41]],by rw [if_neg (by decide),if_neg (by decide),if_neg (by decide),if_neg (by decide)];rfl,by decide,?_⟩
    rw [aR,if_neg (by decide),if_neg (by decide),if_pos rfl,hkids]
   ·refine ⟨[124,124],[40] :: (bK kids ++ [[41]]),by rw [if_neg (by decide),if_neg (by decide),if_pos rfl];rfl,by decide,?_⟩
    rw [aR,if_neg (by decide),if_pos rfl,List.cons_append,jS,if_pos rfl,hkids]
  ·obtain ⟨f1,f2,f3⟩:=aHo nt hn
   refine ⟨(if nt then [33] else [])++(fl.data.toList ++ [63]),[40] :: (bK kids ++ [[41]]),by rw [if_neg (by decide),if_neg (by decide),if_neg (by decide),if_pos rfl];rfl,?_,?_⟩
   ·intro e;rw [e] at f1;revert f1;decide
   ·rw [aR,if_pos f1,f2,f3,if_pos hn,List.cons_append,jS,if_pos rfl,hkids,cH]
theorem tM : ∀ (ts:List NT) (g:Nat) (acc:List NT) (ws:List bN) (m:Nat),okL ts->htL ts<=g->ts.length<m->dU (aR g) m acc (bK ts ++ [[41]]++ws)=some (acc++ts,ws)
 | [],g,acc,ws,m,_,_,hm=>by
  obtain ⟨m,rfl⟩ : ∃ m',m=m'+1:=⟨m-1,by simp at hm;omega⟩
  rw [bK,List.nil_append,List.singleton_append,dU,if_pos rfl,List.append_nil]
 | t :: ts,g,acc,ws,m,hok,hg,hm=>by
  rw [okL] at hok
  rw [htL] at hg
  obtain ⟨m,rfl⟩ : ∃ m',m=m'+1:=⟨m-1,by simp only [List.length_cons] at hm;omega⟩
  obtain ⟨wd,r,e,hne,hr⟩:=aBm t g (bK ts ++ [[41]]++ws) hok.1 (by omega)
  rw [bK,e,List.append_assoc,List.append_assoc,List.cons_append,dU,if_neg hne,← List.append_assoc (bK ts),hr]
  show dU (aR g) m (acc ++ [t]) (bK ts ++ [[41]]++ws)=_
  rw [tM ts g (acc ++ [t]) ws m hok.2 (by omega) (by simp only [List.length_cons] at hm;omega),List.append_assoc,List.singleton_append]
end
theorem wE {rd:bN->List bN->Option (NT × List bN)} {g:Nat} (hrd : ∀ wd ws t rest,rd wd ws=some (t,rest)->wd :: ws=t.words++rest/\t.ok/\t.ht<=g) :
  ∀ (m:Nat) (acc:List NT) (ws:List bN) (ks:List NT) (rest:List bN),dU rd m acc ws=some (ks,rest)->∃ new,ks=acc++new/\ws=bK new++([41] :: rest)/\okL new/\htL new<=g
 | 0,_,_,_,_,h=>by cases h
 | _+1,_,[],_,_,h=>by cases h
 | m+1,acc,wd :: ws,ks,rest,h=>by
  rw [dU] at h
  split at h
  ·rename_i e
   cases h
   exact ⟨[],by simp,by rw [e,bK];rfl,trivial,Nat.zero_le _⟩
  ·split at h
   ·cases h
   ·rename_i r hr
    obtain ⟨t,r2⟩:=r
    obtain ⟨h1,h2,h3⟩:=hrd wd ws t r2 hr
    obtain ⟨new,e1,e2,e3,e4⟩:=wE hrd m (acc ++ [t]) r2 ks rest h
    refine ⟨t :: new,by rw [e1,List.append_assoc];rfl,?_,?_,?_⟩
    ·rw [h1,e2,bK,List.append_assoc]
    ·rw [okL];exact ⟨h2,e3⟩
    ·rw [htL];omega
theorem aGl : ∀ (g:Nat) (wd:bN) (ws:List bN) (t:NT) (rest:List bN),aR g wd ws=some (t,rest)->wd :: ws=t.words++rest/\t.ok/\t.ht<=g
 | 0,_,_,_,_,h=>by cases h
 | g+1,wd,ws,t,rest,h=>by
  have hk : ∀ (mk:List NT->NT) (ws:List bN),dK (aR g) mk ws=some (t,rest)->∃ ks,t=mk ks/\ws=bK ks++([41] :: rest)/\okL ks/\htL ks<=g:=fun mk ws h=>by
   unfold dK at h
   obtain ⟨⟨ks,r⟩,h1,h2⟩:=Option.map_eq_some_iff.1 h
   cases h2
   obtain ⟨new,e1,e2,e3,e4⟩:=wE (aGl g) _ _ _ _ _ h1
   rw [List.nil_append] at e1
   subst e1
   exact ⟨_,rfl,e2,e3,e4⟩
  have ho : ∀ (mk:List NT->NT) (ws:List bN),jS (aR g) mk ws=some (t,rest)->∃ ks,t=mk ks/\ws = [40] :: (bK ks++([41] :: rest))/\okL ks/\htL ks<=g:=fun mk ws h=>by
   cases ws with
   | nil=>cases h
   | cons o ws=>
    rw [jS] at h
    split at h
    ·rename_i e
     obtain ⟨ks,h1,h2,h3,h4⟩:=hk mk ws h
     exact ⟨ks,h1,by rw [e,h2],h3,h4⟩
    ·cases h
  rw [aR] at h
  split at h
  ·rename_i h1
   split at h
   ·rename_i h2
    obtain ⟨ks,rfl,e2,e3,e4⟩:=ho _ _ h
    refine ⟨?_,?_,?_⟩
    ·rw [NT.words,if_neg (by decide),if_neg (by decide),if_neg (by decide),if_pos rfl]
     show wd :: ws = [(if yC wd=true then [33] else [])++(iJ wd ++ [63])]++([40] :: (bK ks ++ [[41]]))++rest
     rw [aDg h1,e2];simp
    ·rw [NT.ok];exact ⟨aBb _ _ _ (by simpa using h2),e3⟩
    ·rw [NT.ht];omega
   ·cases h
  ·split at h
   ·rename_i h1 h2
    obtain ⟨ks,rfl,e2,e3,e4⟩:=ho _ _ h
    refine ⟨?_,?_,?_⟩
    ·rw [NT.words,if_neg (by decide),if_neg (by decide),if_pos rfl,h2,e2];simp
    ·rw [NT.ok];exact ⟨fG 4 _ (Or.inr rfl),e3⟩
    ·rw [NT.ht];omega
   ·split at h
    ·rename_i h1 h2 h3
     obtain ⟨ks,rfl,e2,e3,e4⟩:=hk _ _ h
     refine ⟨?_,?_,?_⟩
     ·rw [NT.words,if_neg (by decide),if_neg (by decide),if_neg (by decide),if_neg (by decide),h3,e2];simp
     ·rw [NT.ok];exact ⟨fG 3 _ (Or.inl rfl),e3⟩
     ·rw [NT.ht];omega
    ·obtain ⟨t',h1,h2⟩:=Option.map_eq_some_iff.1 h
     cases h2
     unfold fS at h1
     split at h1
     ·rename_i hp
      obtain ⟨hc,ht⟩:=aJb hp
      have hb:=qZ wd
      cases hx:Go.Lib.hasPrefix wd [33]
      ·rw [hx] at h1 hb
       cases h1
       refine ⟨?_,?_,?_⟩
       ·have hb':Go.Lib.trimPrefix wd [33]=wd:=by simpa using hb
        rw [NT.words,if_pos (by decide),ht,hb'];rfl
       ·rw [NT.ok];exact ⟨kV _ _ (Or.inl rfl) hc,trivial⟩
       ·simp [NT.ht,htL]
      ·rw [hx] at h1 hb
       cases h1
       refine ⟨?_,?_,?_⟩
       ·have hb':33 :: Go.Lib.trimPrefix wd [33]=wd:=by simpa using hb
        rw [NT.words,if_neg (by decide),if_pos (by decide),ht,hb'];rfl
       ·rw [NT.ok];exact ⟨kV _ _ (Or.inr rfl) hc,trivial⟩
       ·simp [NT.ht,htL]
     ·cases h1
end Go.Proofs.YtonlloiemgdfkaaGreatDoor
namespace Go.Proofs.YtonlloiemgdfkaaGreatDoor
theorem tB : ∀ (x r:List UInt8),(∀ c∈x,c≠32)->Go.Lib.index (x++32 :: r) [32]=x.length
 | [],r,_=>by simp [Go.Lib.index,List.isPrefixOf]
 | c :: x,r,h=>by
  have hc:=h c (by simp)
  have ih:=tB x r (fun d hd=>h d (by simp [hd]))
  rw [List.cons_append,Go.Lib.index,if_neg (by simp [List.isPrefixOf,Ne.symm hc]),ih,if_neg (by simp)]
  simp
theorem aAn : ∀ x:List UInt8,(∀ c∈x,c≠32)->Go.Lib.index x [32] = -1
 | [],_=>by simp [Go.Lib.index]
 | c :: x,h=>by
  have hc:=h c (by simp)
  rw [Go.Lib.index,if_neg (by simp [List.isPrefixOf,Ne.symm hc]),aAn x (fun d hd=>h d (by simp [hd]))]
  rfl
theorem aLe (x:bN):Go.Lib.join [x] [32]=x:=Go.Lib.join_one x _
theorem aFw (x y:bN) (r:List bN):Go.Lib.join (x :: y :: r) [32]=x++32 :: Go.Lib.join (y :: r) [32]:=by
 simp [Go.Lib.join,List.intercalate,List.intersperse]
theorem aIw (k:Nat) (x r:List UInt8) (h : ∀ c∈x,c≠32):Go.Lib.splitK [32] 0 (k+1) (x++32 :: r)=x :: Go.Lib.splitK [32] 0 k r:=by
 rw [Go.Lib.splitK,tB x r h,if_neg (by simp)]
 simp
theorem aBw (k:Nat) (x:List UInt8) (h : ∀ c∈x,c≠32):Go.Lib.splitK [32] 0 k x = [x]:=by
 cases k with
 | zero=>rfl
 | succ k=>rw [Go.Lib.splitK,aAn x h,if_pos (by decide)]
theorem uK : ∀ (ws:List bN),ws ≠ []->(∀ x∈ws,∀ c∈x,c≠32)->Go.Lib.split (Go.Lib.join ws [32]) [32]=ws
 | [],h,_=>absurd rfl h
 | [x],_,h=>by
  rw [aLe];unfold Go.Lib.split
  exact aBw _ x (h x (by simp))
 | x :: y :: r,_,h=>by
  have hx:=h x (by simp)
  have ih:=uK (y :: r) (by simp) (fun z hz=>h z (by simp at hz ⊢;exact Or.inr hz))
  rw [aFw]
  unfold Go.Lib.split at ih ⊢
  rw [Go.Lib.count_hit (i:=x.length) (by simp) (tB x _ hx),Nat.add_comm,aIw _ _ _ hx]
  have e:List.drop (x.length + [(32:UInt8)].length) (x++32 :: Go.Lib.join (y :: r) [32])=Go.Lib.join (y :: r) [32]:=by
   rw [show x++32 :: Go.Lib.join (y :: r) [32]=(x ++ [32])++Go.Lib.join (y :: r) [32] by simp]
   rw [show x.length + [(32:UInt8)].length=(x ++ [32]).length by simp]
   exact List.drop_left
  rw [e,ih]
theorem aIh {l:List UInt8} (h:aO l=true) : ∀ c∈l,c≠32:=fun c hc=>(jV (mY (mX h c hc))).1
mutual
theorem uY : ∀ (t:NT),t.ok->∀ x∈t.words,∀ c∈x,c≠32
 | .node k a fl nt kids,hok,x,hx=>by
  rw [NT.ok] at hok
  rw [NT.words] at hx
  have hend : ∀ l:List bN,x ∈ [40] :: (bK kids ++ [[41]])->∀ c∈x,c≠32:=fun _ hx=>by
   rcases List.mem_cons.1 hx with rfl | hx
   ·decide
   ·rcases List.mem_append.1 hx with hx | hx
    ·exact rJ kids hok.2 x hx
    ·rw [List.mem_singleton.1 hx];decide
  rcases gC hok.1 with ⟨hk,rfl,rfl,rfl,ha⟩ | ⟨hk,rfl,rfl,rfl⟩ | ⟨rfl,rfl,hn⟩
  ·have ht:=pP ha
   rcases hk with rfl | rfl
   ·rw [if_pos rfl] at hx
    rw [List.mem_singleton.1 hx]
    exact fun c hc=>(jV (ht c hc)).1
   ·rw [if_neg (by decide),if_pos rfl] at hx
    rw [List.mem_singleton.1 hx]
    intro c hc
    rcases List.mem_cons.1 hc with rfl | hc
    ·decide
    ·exact (jV (ht c hc)).1
  ·rcases hk with rfl | rfl
   ·rw [if_neg (by decide),if_neg (by decide),if_neg (by decide),if_neg (by decide)] at hx
    exact hend [] hx
   ·rw [if_neg (by decide),if_neg (by decide),if_pos rfl] at hx
    rcases List.mem_append.1 hx with hx | hx
    ·rw [List.mem_singleton.1 hx];decide
    ·exact hend [] hx
  ·rw [if_neg (by decide),if_neg (by decide),if_neg (by decide),if_pos rfl] at hx
   rcases List.mem_append.1 hx with hx | hx
   ·rw [List.mem_singleton.1 hx]
    intro c hc
    rcases List.mem_append.1 hc with hc | hc
    ·split at hc
     ·rw [List.mem_singleton.1 hc];decide
     ·cases hc
    ·rcases List.mem_append.1 hc with hc | hc
     ·exact aIh hn c hc
     ·rw [List.mem_singleton.1 hc];decide
   ·exact hend [] hx
theorem rJ : ∀ (ts:List NT),okL ts->∀ x∈bK ts,∀ c∈x,c≠32
 | [],_,x,hx=>by rw [bK] at hx;cases hx
 | t :: ts,hok,x,hx=>by
  rw [okL] at hok
  rw [bK] at hx
  rcases List.mem_append.1 hx with hx | hx
  ·exact uY t hok.1 x hx
  ·exact rJ ts hok.2 x hx
end
def NT.text (t:NT):List UInt8:=Go.Lib.join t.words [32]
def aGj:List bN->Option NT
 | []=>none
 | wd :: ws=>match aR 4 wd ws with
  | some (t,[])=>some t
  | _=>none
def iU (l:List UInt8):Option NT:=aGj (Go.Lib.split l [32])
def rdE (l:List UInt8):Int:=if 20000<l.length then 2 else match iU l with
 | none=>1
 | some t=>eA t
theorem aBk {t:NT} (h:t.ok) (hh:t.ht<=4):iU t.text=some t:=by
 obtain ⟨wd,r,e,_,hr⟩:=aBm t 4 [] h hh
 unfold iU NT.text
 rw [uK t.words (by rw [e];simp) (uY t h),e,aGj]
 rw [List.append_nil] at hr
 rw [hr]
def iY:List bN->Nat
 | []=>0
 | x :: r=>x.length+1+iY r
theorem lV : ∀ a b:List bN,iY (a++b)=iY a+iY b
 | [],b=>by simp [iY]
 | x :: a,b=>by rw [List.cons_append,iY,iY,lV a b];omega
theorem aAt : ∀ ws:List bN,(Go.Lib.join ws [32]).length<=iY ws
 | []=>by simp [Go.Lib.join,iY]
 | [x]=>by rw [aLe,iY];omega
 | x :: y :: r=>by
  have ih:=aAt (y :: r)
  rw [aFw,iY,List.length_append,List.length_cons];omega
mutual
theorem tN : ∀ t:NT,t.ok->iY t.words<=110*t.size/\t.words.length<=3*t.size
 | .node k a fl nt kids,hok=>by
  rw [NT.ok] at hok
  rw [NT.words,NT.size]
  obtain ⟨ih,ih2⟩:=qY kids hok.2
  have e:iY ([40] :: (bK kids ++ [[41]]))=iY (bK kids)+4:=by rw [iY,lV];simp only [iY,List.length_cons,List.length_nil];omega
  rcases gC hok.1 with ⟨hk,rfl,rfl,rfl,ha⟩ | ⟨hk,rfl,rfl,rfl⟩ | ⟨rfl,rfl,hn⟩
  ·have ht:(eV a).length<=100:=aCc ha
   rcases hk with rfl | rfl
   ·rw [if_pos rfl];simp only [iY,List.length_cons,List.length_nil];omega
   ·rw [if_neg (by decide),if_pos rfl];simp only [iY,List.length_cons,List.length_nil];omega
  ·rcases hk with rfl | rfl
   ·rw [if_neg (by decide),if_neg (by decide),if_neg (by decide),if_neg (by decide),List.nil_append]
    rw [e];simp only [List.length_cons,List.length_append,List.length_nil];omega
   ·rw [if_neg (by decide),if_neg (by decide),if_pos rfl,lV,e];simp only [iY,List.length_cons,List.length_append,List.length_nil];omega
  ·have h8:=pG hn
   rw [if_neg (by decide),if_neg (by decide),if_neg (by decide),if_pos rfl,lV,e]
   simp only [iY,List.length_cons,List.length_append,List.length_nil]
   have:(if nt=true then [(33:UInt8)] else []).length<=1:=by cases nt<;>simp
   omega
theorem qY : ∀ ts:List NT,okL ts->iY (bK ts)<=110*bJ ts/\(bK ts).length<=3*bJ ts
 | [],_=>by rw [bK,iY,bJ];exact ⟨by omega,by simp⟩
 | t :: ts,hok=>by
  rw [okL] at hok
  obtain ⟨h1,h2⟩:=tN t hok.1
  obtain ⟨h3,h4⟩:=qY ts hok.2
  rw [bK,lV,bJ,List.length_append];omega
end
theorem aEo {t:NT} (h:eA t=0):t.text.length<=2200/\t.words.length<=60:=by
 obtain ⟨h1,h2⟩:=cO.1 h
 have:=iV h1
 obtain ⟨h3,h4⟩:=tN t h2
 have h5:=aAt t.words
 unfold NT.text;omega
theorem aMf {t:NT} (h:eA t=0):rdE t.text=0/\iU t.text=some t:=by
 obtain ⟨h1,h2⟩:=cO.1 h
 have e:=aBk h2 (iV h1).2
 refine ⟨?_,e⟩
 unfold rdE
 have:=aEo h
 rw [if_neg (by omega),e]
 exact h
end Go.Proofs.YtonlloiemgdfkaaGreatDoor
