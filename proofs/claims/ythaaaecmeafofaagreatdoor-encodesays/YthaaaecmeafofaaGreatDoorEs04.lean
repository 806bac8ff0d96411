/- Steps of the proof: NeedText. -/
import Derived.Test.YthaaaecmeafofaaGreatDoorEs03
import Derived.Lib.Split
import Derived.Lib.Join
import Derived.Lib.SplitLaws
set_option maxHeartbeats 16000000
set_option maxRecDepth 100000
namespace Go.Proofs.YthaaaecmeafofaaGreatDoor
structure At where
 n:ByteArray
 op:Int
 v:Int
 sl:Int
 f:ByteArray
 on:Bool
inductive NT where
 | node (k:Int) (a:At) (fl:ByteArray) (nt:Bool) (kids:List NT)
def At.zero:At:=⟨⟨#[]⟩,0,0,0,⟨#[]⟩,false⟩
def NT.zero:NT:= .node 0 At.zero ⟨#[]⟩ false []
def NT.kids:NT->List NT
 | .node _ _ _ _ ks=>ks
def fA (a:At):Int:=chk a.n.data.toList a.op a.v a.sl a.f.data.toList a.on
def eI (a:At):List UInt8:=cB a.n.data.toList a.op a.v a.sl a.f.data.toList a.on
def lG (a:At):Bool:=iM a.n a.op a.v a.sl a.f a.on ⟨#[]⟩ 0 0 0 ⟨#[]⟩ false
def bU (k:Int):Bool:=(k==1)||(k==2)
def bP (k:Int) (a:At) (fl:ByteArray) (nt:Bool) (many:Nat):Bool:=
 decide (1<=k)&&decide (k<=5) && !(bU k&&decide (0<many)) && !(!bU k && !lG a)&&((k==5)||(fl.toList.isEmpty && !nt))
def aZ:NT->Int
 | .node k a fl nt kids=>if bP k a fl nt kids.length=false then 4 else if k=5/\aK fl.data.toList=false then 1 else if bU k=true then fA a else 0
mutual
def bV {σ:Type} (inc:Int->Int) (f:σ->NT->Int->σ × Bool):σ->NT->Int->σ × Bool
 | s,.node k a fl nt kids,d=>if (f s (.node k a fl nt kids) d).2=true then bI inc f (f s (.node k a fl nt kids) d).1 kids (inc d) else ((f s (.node k a fl nt kids) d).1,false)
def bI {σ:Type} (inc:Int->Int) (f:σ->NT->Int->σ × Bool):σ->List NT->Int->σ × Bool
 | s,[],_=>(s,true)
 | s,t :: ts,d=>if (bV inc f s t d).2=true then bI inc f (bV inc f s t d).1 ts d else ((bV inc f s t d).1,false)
end
mutual
def NT.size:NT->Nat
 | .node _ _ _ _ kids=>1+aT kids
def aT:List NT->Nat
 | []=>0
 | t :: ts=>t.size+aT ts
end
mutual
def NT.ht:NT->Nat
 | .node _ _ _ _ kids=>1+htL kids
def htL:List NT->Nat
 | []=>0
 | t :: ts=>max t.ht (htL ts)
end
mutual
def NT.ok:NT->Prop
 | .node k a fl nt kids=>aZ (.node k a fl nt kids)=0/\okL kids
def okL:List NT->Prop
 | []=>True
 | t :: ts=>t.ok/\okL ts
end
abbrev bN:=List UInt8
mutual
def NT.words:NT->List bN
 | .node k a fl nt kids=>
  if k=1 then [eI a] else if k=2 then [33 :: eI a]
  else (if k=4 then [[124,124]] else if k=5 then [(if nt then [33] else [])++(fl.data.toList ++ [63])] else [])++([40] :: (bL kids ++ [[41]]))
def bL:List NT->List bN
 | []=> []
 | t :: ts=>t.words++bL ts
end
def uX (s:List UInt8):At:=⟨⟨(nmL s).toArray⟩,opV (veL s),mQ (veL s),gI (slL s),⟨((flL s).drop 1).toArray⟩,onV (flL s)⟩
def fD (wd:bN):Option NT:=
 if jU (Go.Lib.trimPrefix wd [33])=0 then some (.node (if Go.Lib.hasPrefix wd [33] then 2 else 1) (uX (Go.Lib.trimPrefix wd [33])) ⟨#[]⟩ false []) else none
def hG (wd:bN):List UInt8:=Go.Lib.trimPrefix (Go.Lib.trimSuffix wd [63]) [33]
def vN (wd:bN):Bool:=Go.Lib.hasPrefix (Go.Lib.trimSuffix wd [63]) [33]
def dN (rd:bN->List bN->Option (NT × List bN)):Nat->List NT->List bN->Option (List NT × List bN)
 | 0,_,_=>none
 | _+1,_,[]=>none
 | m+1,acc,wd :: ws=>if wd = [41] then some (acc,ws) else match rd wd ws with
  | none=>none
  | some r=>dN rd m (acc ++ [r.1]) r.2
def dE (rd:bN->List bN->Option (NT × List bN)) (mk:List NT->NT) (ws:List bN):Option (NT × List bN):=
 (dN rd (ws.length+1) [] ws).map fun r=>(mk r.1,r.2)
def iQ (rd:bN->List bN->Option (NT × List bN)) (mk:List NT->NT):List bN->Option (NT × List bN)
 | []=>none
 | o :: ws=>if o = [40] then dE rd mk ws else none
def aS:Nat->bN->List bN->Option (NT × List bN)
 | 0,_,_=>none
 | g+1,wd,ws=>
  if Go.Lib.hasSuffix wd [63]=true then
   if aK (hG wd)=true then iQ (aS g) (.node 5 At.zero ⟨(hG wd).toArray⟩ (vN wd)) ws else none
  else if wd = [124,124] then iQ (aS g) (.node 4 At.zero ⟨#[]⟩ false) ws
  else if wd = [40] then dE (aS g) (.node 3 At.zero ⟨#[]⟩ false) ws
  else (fD wd).map fun t=>(t,ws)
def aM (d:Int):Int:=Go.RowKit.wrap64 (d+1)
def fN (s:Int) (_:NT) (d:Int):Int × Bool:=(s+1,decide (s+1<=20)&&decide (d<=4))
def fE (_:Int) (t:NT) (_:Int):Int × Bool:=(aZ t,aZ t==0)
def dB (t:NT):Bool:= !(bV aM fN 0 t 1).2
def cV (t:NT):Int:=if dB t=true then 2 else (bV aM fE 0 t 1).1
end Go.Proofs.YthaaaecmeafofaaGreatDoor
namespace Go.Proofs.YthaaaecmeafofaaGreatDoor
theorem jM {n m:ByteArray} (h:n.data.toList=m.data.toList):n=m:=by
 cases n;cases m;simp at h;rw [h]
theorem cP (n:ByteArray):(⟨n.data.toList.toArray⟩:ByteArray)=n:=jM (by simp)
theorem jL {n:ByteArray} (h:n.data.toList = []):n=⟨#[]⟩:=jM (by rw [h])
theorem sS {a:At}:lG a=true↔a=At.zero:=by
 unfold lG
 rw [aBb]
 constructor
 ·rintro ⟨h1,h2,h3,h4,h5,h6⟩
  obtain ⟨n,op,v,sl,f,on⟩:=a
  simp only at h1 h2 h3 h4 h5 h6
  rw [jL h1,h2,h3,h4,jL h5,h6]
  rfl
 ·rintro rfl
  exact ⟨rfl,rfl,rfl,rfl,rfl,rfl⟩
theorem vJ (b:ByteArray):b.toList.isEmpty=decide (b.data.toList = []):=by
 rw [Go.Lib.toList_data]
 cases h:b.data.toList<;>simp
theorem eN {k:Int} {a:At} {fl:ByteArray} {nt:Bool} {kids:List NT} (h:aZ (.node k a fl nt kids)=0) :
  ((k=1∨k=2)/\kids = []/\fl=⟨#[]⟩/\nt=false/\fA a=0)∨((k=3∨k=4)/\a=At.zero/\fl=⟨#[]⟩/\nt=false)∨(k=5/\a=At.zero/\aK fl.data.toList=true):=by
 rw [aZ] at h
 by_cases hf:bP k a fl nt kids.length=false
 ·rw [if_pos hf] at h;cases h
 ·rw [if_neg hf] at h
  have hf':bP k a fl nt kids.length=true:=by simpa using hf
  unfold bP at hf'
  simp only [Bool.and_eq_true,decide_eq_true_eq,Bool.not_eq_true',Bool.or_eq_true,beq_iff_eq,Bool.and_eq_false_iff,Bool.not_eq_false',decide_eq_false_iff_not,bU,Bool.or_eq_false_iff,vJ,beq_eq_false_iff_ne] at hf'
  obtain ⟨⟨⟨⟨h1,h2⟩,h3⟩,h4⟩,h5⟩:=hf'
  split at h
  ·cases h
  ·rename_i h6
   split at h
   ·rename_i h7
    have h7':k=1∨k=2:=by simpa [bU] using h7
    refine Or.inl ⟨h7',?_,?_,?_,h⟩
    ·have : ¬ 0<kids.length:=h3.resolve_left (by rintro ⟨a1,a2⟩;rcases h7' with e | e;exact a1 e;exact a2 e)
     exact List.length_eq_zero_iff.1 (by omega)
    ·exact jL (h5.resolve_left (by omega)).1
    ·exact (h5.resolve_left (by omega)).2
   ·rename_i h7
    have h7' : ¬ (k=1∨k=2):=by simpa [bU] using h7
    have ha:a=At.zero:=by
     rcases h4 with h4 | h4
     ·exact absurd h4 h7'
     ·exact sS.1 h4
    by_cases hk:k=5
    ·refine Or.inr (Or.inr ⟨hk,ha,?_⟩)
     cases hn:aK fl.data.toList
     ·exact absurd ⟨hk,hn⟩ h6
     ·rfl
    ·exact Or.inr (Or.inl ⟨by omega,ha,jL (h5.resolve_left hk).1,(h5.resolve_left hk).2⟩)
theorem jR (k:Int) (a:At) (hk:k=1∨k=2) (ha:fA a=0):aZ (.node k a ⟨#[]⟩ false [])=0:=by
 rcases hk with rfl | rfl
 ·simp [aZ,bP,bU,ha]
 ·simp [aZ,bP,bU,ha]
theorem oU:lG At.zero=true:=sS.2 rfl
theorem eV (k:Int) (kids:List NT) (hk:k=3∨k=4):aZ (.node k At.zero ⟨#[]⟩ false kids)=0:=by
 rcases hk with rfl | rfl
 ·simp [aZ,bP,bU,oU]
 ·simp [aZ,bP,bU,oU]
theorem xZ (fl:ByteArray) (nt:Bool) (kids:List NT) (h:aK fl.data.toList=true):aZ (.node 5 At.zero fl nt kids)=0:=by
 simp [aZ,bP,bU,oU,h]
mutual
theorem sM (inc:Int->Int) : ∀ (t:NT) (s d:Int),((bV inc fE s t d).2=true/\(bV inc fE s t d).1=0/\t.ok)∨((bV inc fE s t d).2=false/\(bV inc fE s t d).1≠0/\¬ t.ok)
 | .node k a fl nt kids,s,d=>by
  rw [bV]
  by_cases h:aZ (.node k a fl nt kids)=0
  ·have e:(fE s (.node k a fl nt kids) d).2=true:=by simp [fE,h]
   have e1:(fE s (.node k a fl nt kids) d).1=0:=by simp [fE,h]
   rw [if_pos e,e1]
   rcases rB inc kids (inc d) with ⟨h1,h2,h3⟩ | ⟨h1,h2,h3⟩
   ·exact Or.inl ⟨h1,h2,h,h3⟩
   ·exact Or.inr ⟨h1,h2,fun hh=>h3 hh.2⟩
  ·have e : ¬ (fE s (.node k a fl nt kids) d).2=true:=by simp [fE,h]
   rw [if_neg e]
   exact Or.inr ⟨rfl,h,fun hh=>h hh.1⟩
theorem rB (inc:Int->Int) : ∀ (ts:List NT) (d:Int),((bI inc fE 0 ts d).2=true/\(bI inc fE 0 ts d).1=0/\okL ts)∨((bI inc fE 0 ts d).2=false/\(bI inc fE 0 ts d).1≠0/\¬ okL ts)
 | [],d=>Or.inl ⟨by rw [bI],by rw [bI],by rw [okL];trivial⟩
 | t :: ts,d=>by
  rw [bI]
  rcases sM inc t 0 d with ⟨h1,h2,h3⟩ | ⟨h1,h2,h3⟩
  ·rw [if_pos h1,h2]
   rcases rB inc ts d with ⟨h4,h5,h6⟩ | ⟨h4,h5,h6⟩
   ·exact Or.inl ⟨h4,h5,h3,h6⟩
   ·exact Or.inr ⟨h4,h5,fun hh=>h6 hh.2⟩
  ·rw [if_neg (by rw [h1];decide)]
   exact Or.inr ⟨rfl,h2,fun hh=>h3 hh.1⟩
end
theorem gB {d:Int} (h0:0<=d) (h1:d<=100):aM d=d+1:=by
 unfold aM
 unfold Go.RowKit.wrap64
 omega
mutual
theorem sO : ∀ (t:NT) (s d:Int),1<=d->d<=5->(bV aM fN s t d).2=true->(bV aM fN s t d).1=s+t.size/\(bV aM fN s t d).1<=20/\d+t.ht<=5
 | .node k a fl nt kids,s,d,hd,hd5,h=>by
  rw [bV] at h ⊢
  by_cases e:(fN s (.node k a fl nt kids) d).2=true
  ·rw [if_pos e] at h ⊢
   have e':s+1<=20/\d<=4:=by simpa [fN] using e
   rw [gB (by omega) (by omega)] at h ⊢
   obtain ⟨h1,h2,h3⟩:=rD kids (s+1) (d+1) (by omega) (by omega) e'.1 h
   refine ⟨?_,h2,?_⟩
   ·show (bI aM fN (s+1) kids (d+1)).1=_
    rw [h1,NT.size];omega
   ·rw [NT.ht];omega
  ·rw [if_neg e] at h;cases h
theorem rD : ∀ (ts:List NT) (s d:Int),1<=d->d<=5->s<=20->(bI aM fN s ts d).2=true->(bI aM fN s ts d).1=s+aT ts/\(bI aM fN s ts d).1<=20/\d+htL ts<=5
 | [],s,d,hd,hd5,hs,_=>by
  rw [bI,aT,htL];exact ⟨by omega,hs,by omega⟩
 | t :: ts,s,d,hd,hd5,hs,h=>by
  rw [bI] at h ⊢
  by_cases e:(bV aM fN s t d).2=true
  ·rw [if_pos e] at h ⊢
   obtain ⟨h1,h2,h3⟩:=sO t s d hd hd5 e
   obtain ⟨h4,h5,h6⟩:=rD ts _ d hd hd5 h2 h
   refine ⟨?_,h5,?_⟩
   ·rw [h4,h1,aT];omega
   ·rw [htL];omega
  ·rw [if_neg e] at h;cases h
end
theorem fH {t:NT} (h:dB t=false):t.size<=20/\t.ht<=4:=by
 unfold dB at h
 obtain ⟨h1,h2,h3⟩:=sO t 0 1 (by decide) (by decide) (by simpa using h)
 omega
theorem cO {t:NT}:cV t=0↔dB t=false/\t.ok:=by
 unfold cV
 cases h:dB t
 ·rw [if_neg (by decide)]
  rcases sM aM t 0 1 with ⟨h1,h2,h3⟩ | ⟨h1,h2,h3⟩
  ·exact ⟨fun _=>⟨rfl,h3⟩,fun _=>h2⟩
  ·exact ⟨fun e=>absurd e h2,fun e=>absurd e.2 h3⟩
 ·rw [if_pos rfl]
  exact ⟨fun e=>absurd e (by decide),fun e=>absurd e.1 (by decide)⟩
def wC (c:UInt8):Bool:=okB c || [43,45,58,60,61,62].contains c
theorem iV {c:UInt8} (h:wC c=true):c≠32/\c≠33/\c≠40/\c≠41/\c≠63/\c≠124:=by
 refine ⟨?_,?_,?_,?_,?_,?_⟩<;>rintro rfl<;>revert h<;>decide
theorem lR {c:UInt8} (h:okB c=true):wC c=true:=by simp [wC,h]
theorem qZ {i:Int} (h0:0<=i) (h1:i<100) : ∀ c∈Go.Lib.itoa i,wC c=true:=by
 obtain ⟨j,rfl⟩:=Int.eq_ofNat_of_zero_le h0
 rw [eB]
 exact fun c hc=>lR (zW (by omega) c hc)
theorem aIf (op:Int) : ∀ c∈gH op,wC c=true:=by
 unfold gH
 split
 ·decide
 ·split
  ·decide
  ·split
   ·decide
   ·decide
theorem nU {a:At} (h:fA a=0) : ∀ c∈eI a,wC c=true:=by
 obtain ⟨h1,h2,h3,h4,h5,h6,h7,h8⟩:=kI h
 have hn : ∀ c∈a.n.data.toList,wC c=true:=fun c hc=>lR (lQ h1 c hc)
 have hf : ∀ c∈a.f.data.toList,wC c=true:=by
  rcases h2 with h2 | h2
  ·rw [h2];intro c hc;cases hc
  ·exact fun c hc=>lR (lQ h2 c hc)
 intro c hc
 unfold eI cB at hc
 rw [List.mem_append,List.mem_append,List.mem_append] at hc
 rcases hc with ((hc | hc) | hc) | hc
 ·exact hn c hc
 ·split at hc
  ·cases hc
  ·rename_i h0
   rcases List.mem_append.1 hc with hc | hc
   ·exact aIf _ c hc
   ·have:=lF h0 h7
    exact qZ (by omega) (by omega) c hc
 ·split at hc
  ·cases hc
  ·rcases List.mem_cons.1 hc with rfl | hc
   ·decide
   ·exact qZ h5 (by omega) c hc
 ·split at hc
  ·cases hc
  ·rcases List.mem_cons.1 hc with rfl | hc
   ·split<;>decide
   ·exact hf c hc
theorem aFe {a:At} (h:fA a=0) : ∃ c l,eI a=c :: l:=by
 obtain ⟨h1,_⟩:=kI h
 cases hn:a.n.data.toList with
 | nil=>rw [hn] at h1;exact absurd rfl (gS h1)
 | cons c l=>exact ⟨c,_,by unfold eI cB;rw [hn];rfl⟩
theorem uC {l:List UInt8} (h : ∀ c∈l,c≠63):Go.Lib.hasSuffix l [63]=false:=by
 cases e:Go.Lib.hasSuffix l [63]
 ·rfl
 ·unfold Go.Lib.hasSuffix at e
  have:=List.isSuffixOf_iff_suffix.1 e
  exact absurd rfl (h 63 (this.subset (by simp)))
theorem pG (l:List UInt8):Go.Lib.hasSuffix (l ++ [63]) [63]=true/\Go.Lib.trimSuffix (l ++ [63]) [63]=l:=by
 have h:Go.Lib.hasSuffix (l ++ [63]) [63]=true:=List.isSuffixOf_iff_suffix.2 (List.suffix_append _ _)
 refine ⟨h,?_⟩
 unfold Go.Lib.trimSuffix
 rw [if_pos h]
 simp
theorem zA {l:List UInt8} (h:Go.Lib.hasSuffix l [63]=true):Go.Lib.trimSuffix l [63] ++ [63]=l:=by
 obtain ⟨r,rfl⟩:=List.isSuffixOf_iff_suffix.1 h
 rw [(pG r).2]
theorem rT {l:List UInt8} (h : ∀ c∈l,c≠33):Go.Lib.hasPrefix l [33]=false/\Go.Lib.trimPrefix l [33]=l:=by
 have e:Go.Lib.hasPrefix l [33]=false:=by
  cases l with
  | nil=>rfl
  | cons c l=>
   have:=h c (by simp)
   simp [Go.Lib.hasPrefix,List.isPrefixOf,Ne.symm this]
 refine ⟨e,?_⟩
 unfold Go.Lib.trimPrefix
 rw [if_neg (by rw [e];decide)]
theorem kX (l:List UInt8):Go.Lib.hasPrefix (33 :: l) [33]=true/\Go.Lib.trimPrefix (33 :: l) [33]=l:=by
 have e:Go.Lib.hasPrefix (33 :: l) [33]=true:=by simp [Go.Lib.hasPrefix,List.isPrefixOf]
 refine ⟨e,?_⟩
 unfold Go.Lib.trimPrefix
 rw [if_pos e];rfl
theorem pC (l:List UInt8):(if Go.Lib.hasPrefix l [33]=true then [33] else [])++Go.Lib.trimPrefix l [33]=l:=by
 cases h:Go.Lib.hasPrefix l [33]
 ·unfold Go.Lib.trimPrefix
  rw [h];rfl
 ·cases l with
  | nil=>cases h
  | cons c l=>
   have:(33:UInt8)=c:=by simpa [Go.Lib.hasPrefix,List.isPrefixOf] using h
   subst this
   rw [(kX l).2];rfl
theorem aDd {a:At} (h:fA a=0):jU (eI a)=0/\uX (eI a)=a:=by
 obtain ⟨p0,p1,p2,p3,p4,p5,p6⟩:=aAz h
 refine ⟨p0,?_⟩
 unfold uX eI
 rw [p1,p2,p3,p4,p5,p6,cP,cP]
theorem aFd {s:List UInt8} (h:jU s=0):fA (uX s)=0/\eI (uX s)=s:=by
 have:=aBl h
 unfold fA eI uX
 simpa using this
theorem aEj {l:List UInt8} (h:aK l=true) : ∀ c∈l,c≠33:=fun c hc=>(iV (lR (lQ h c hc))).2.1
theorem uB {a:At} (h:fA a=0):fD (eI a)=some (.node 1 a ⟨#[]⟩ false [])/\fD (33 :: eI a)=some (.node 2 a ⟨#[]⟩ false []):=by
 obtain ⟨h1,h2⟩:=rT (l:=eI a) (fun c hc=>(iV (nU h c hc)).2.1)
 obtain ⟨h3,h4⟩:=kX (eI a)
 obtain ⟨p0,p1⟩:=aDd h
 unfold fD
 rw [h1,h2,h3,h4,if_pos p0,if_pos p0,p1]
 exact ⟨rfl,rfl⟩
theorem aDs {fl:List UInt8} (nt:Bool) (h:aK fl=true):Go.Lib.hasSuffix ((if nt then [33] else [])++(fl ++ [63])) [63]=true/\hG ((if nt then [33] else [])++(fl ++ [63]))=fl/\vN ((if nt then [33] else [])++(fl ++ [63]))=nt:=by
 rw [← List.append_assoc]
 obtain ⟨h1,h2⟩:=pG ((if nt then [33] else [])++fl)
 unfold hG vN
 rw [h2]
 cases nt
 ·obtain ⟨h3,h4⟩:=rT (aEj h)
  exact ⟨h1,h4,h3⟩
 ·obtain ⟨h3,h4⟩:=kX fl
  exact ⟨h1,h4,h3⟩
theorem aAe {wd:bN} (h:Go.Lib.hasSuffix wd [63]=true):(if vN wd=true then [33] else [])++(hG wd ++ [63])=wd:=by
 unfold vN hG
 rw [← List.append_assoc,pC,zA h]
theorem uK {a:At} (h:fA a=0) (l:List UInt8) (hl:l=eI a∨l=33 :: eI a):Go.Lib.hasSuffix l [63]=false/\l ≠ [124,124]/\l ≠ [40]/\l ≠ [41]:=by
 have ht:=nU h
 obtain ⟨c,r,e⟩:=aFe h
 have hc:=iV (ht c (by rw [e];simp))
 rcases hl with rfl | rfl
 ·refine ⟨uC fun x hx=>(iV (ht x hx)).2.2.2.2.1,?_,?_,?_⟩
  ·rw [e];intro h';injection h' with h1 _;exact hc.2.2.2.2.2 h1
  ·rw [e];intro h';injection h' with h1 _;exact hc.2.2.1 h1
  ·rw [e];intro h';injection h' with h1 _;exact hc.2.2.2.1 h1
 ·refine ⟨uC fun x hx=> ?_,?_,?_,?_⟩
  ·rcases List.mem_cons.1 hx with rfl | hx
   ·decide
   ·exact (iV (ht x hx)).2.2.2.2.1
  ·intro h';injection h' with h1 _;revert h1;decide
  ·intro h';injection h' with h1 _;revert h1;decide
  ·intro h';injection h' with h1 _;revert h1;decide
theorem uP : ∀ t:NT,∃ wd r,t.words=wd :: r
 | .node k a fl nt kids=>by
  rw [NT.words]
  split
  ·exact ⟨_,_,rfl⟩
  ·split
   ·exact ⟨_,_,rfl⟩
   ·split
    ·exact ⟨_,_,rfl⟩
    ·split
     ·exact ⟨_,_,rfl⟩
     ·exact ⟨_,_,rfl⟩
theorem sQ : ∀ ts:List NT,ts.length<=(bL ts).length
 | []=>Nat.zero_le _
 | t :: ts=>by
  obtain ⟨wd,r,e⟩:=uP t
  have:=sQ ts
  rw [bL,List.length_append,e]
  simp only [List.length_cons];omega
mutual
theorem yK : ∀ (t:NT) (g:Nat) (ws:List bN),t.ok->t.ht<=g->∃ wd r,t.words=wd :: r/\wd ≠ [41]/\aS g wd (r++ws)=some (t,ws)
 | .node k a fl nt kids,g,ws,hok,hg=>by
  rw [NT.ok] at hok
  rw [NT.ht] at hg
  obtain ⟨g,rfl⟩ : ∃ g',g=g'+1:=⟨g-1,by omega⟩
  rw [NT.words]
  have hkids : ∀ (mk:List NT->NT) (ws:List bN),dE (aS g) mk (bL kids ++ [[41]]++ws)=some (mk kids,ws):=fun mk ws=>by
   unfold dE
   have:=rG kids g [] ws ((bL kids ++ [[41]]++ws).length+1) hok.2 (by omega) (by have:=sQ kids;simp only [List.length_append,List.length_cons];omega)
   rw [List.append_assoc,List.singleton_append]
   rw [List.append_assoc,List.singleton_append] at this
   rw [this];rfl
  rcases eN hok.1 with ⟨hk,rfl,rfl,rfl,ha⟩ | ⟨hk,rfl,rfl,rfl⟩ | ⟨rfl,rfl,hn⟩
  ·rcases hk with rfl | rfl
   ·obtain ⟨w1,w2,w3,w4⟩:=uK ha _ (Or.inl rfl)
    refine ⟨eI a,[],by rw [if_pos rfl],w4,?_⟩
    rw [aS,if_neg (by rw [w1];decide),if_neg w2,if_neg w3,(uB ha).1];rfl
   ·obtain ⟨w1,w2,w3,w4⟩:=uK ha _ (Or.inr rfl)
    refine ⟨33 :: eI a,[],by rw [if_neg (by decide),if_pos rfl],w4,?_⟩
    rw [aS,if_neg (by rw [w1];decide),if_neg w2,if_neg w3,(uB ha).2];rfl
  ·rcases hk with rfl | rfl
   ·refine ⟨[40],bL kids ++ [[41]],by rw [if_neg (by decide),if_neg (by decide),if_neg (by decide),if_neg (by decide)];rfl,by decide,?_⟩
    rw [aS,if_neg (by decide),if_neg (by decide),if_pos rfl,hkids]
   ·refine ⟨[124,124],[40] :: (bL kids ++ [[41]]),by rw [if_neg (by decide),if_neg (by decide),if_pos rfl];rfl,by decide,?_⟩
    rw [aS,if_neg (by decide),if_pos rfl,List.cons_append,iQ,if_pos rfl,hkids]
  ·obtain ⟨f1,f2,f3⟩:=aDs nt hn
   refine ⟨(if nt then [33] else [])++(fl.data.toList ++ [63]),[40] :: (bL kids ++ [[41]]),by rw [if_neg (by decide),if_neg (by decide),if_neg (by decide),if_pos rfl];rfl,?_,?_⟩
   ·intro e;rw [e] at f1;revert f1;decide
   ·rw [aS,if_pos f1,f2,f3,if_pos hn,List.cons_append,iQ,if_pos rfl,hkids,cP]
theorem rG : ∀ (ts:List NT) (g:Nat) (acc:List NT) (ws:List bN) (m:Nat),okL ts->htL ts<=g->ts.length<m->dN (aS g) m acc (bL ts ++ [[41]]++ws)=some (acc++ts,ws)
 | [],g,acc,ws,m,_,_,hm=>by
  obtain ⟨m,rfl⟩ : ∃ m',m=m'+1:=⟨m-1,by simp at hm;omega⟩
  rw [bL,List.nil_append,List.singleton_append,dN,if_pos rfl,List.append_nil]
 | t :: ts,g,acc,ws,m,hok,hg,hm=>by
  rw [okL] at hok
  rw [htL] at hg
  obtain ⟨m,rfl⟩ : ∃ m',m=m'+1:=⟨m-1,by simp only [List.length_cons] at hm;omega⟩
  obtain ⟨wd,r,e,hne,hr⟩:=yK t g (bL ts ++ [[41]]++ws) hok.1 (by omega)
  rw [bL,e,List.append_assoc,List.append_assoc,List.cons_append,dN,if_neg hne,← List.append_assoc (bL ts),hr]
  show dN (aS g) m (acc ++ [t]) (bL ts ++ [[41]]++ws)=_
  rw [rG ts g (acc ++ [t]) ws m hok.2 (by omega) (by simp only [List.length_cons] at hm;omega),List.append_assoc,List.singleton_append]
end
theorem uA {rd:bN->List bN->Option (NT × List bN)} {g:Nat} (hrd : ∀ wd ws t rest,rd wd ws=some (t,rest)->wd :: ws=t.words++rest/\t.ok/\t.ht<=g) :
  ∀ (m:Nat) (acc:List NT) (ws:List bN) (ks:List NT) (rest:List bN),dN rd m acc ws=some (ks,rest)->∃ new,ks=acc++new/\ws=bL new++([41] :: rest)/\okL new/\htL new<=g
 | 0,_,_,_,_,h=>by cases h
 | _+1,_,[],_,_,h=>by cases h
 | m+1,acc,wd :: ws,ks,rest,h=>by
  rw [dN] at h
  split at h
  ·rename_i e
   cases h
   exact ⟨[],by simp,by rw [e,bL];rfl,trivial,Nat.zero_le _⟩
  ·split at h
   ·cases h
   ·rename_i r hr
    obtain ⟨t,r2⟩:=r
    obtain ⟨h1,h2,h3⟩:=hrd wd ws t r2 hr
    obtain ⟨new,e1,e2,e3,e4⟩:=uA hrd m (acc ++ [t]) r2 ks rest h
    refine ⟨t :: new,by rw [e1,List.append_assoc];rfl,?_,?_,?_⟩
    ·rw [h1,e2,bL,List.append_assoc]
    ·rw [okL];exact ⟨h2,e3⟩
    ·rw [htL];omega
theorem aCr : ∀ (g:Nat) (wd:bN) (ws:List bN) (t:NT) (rest:List bN),aS g wd ws=some (t,rest)->wd :: ws=t.words++rest/\t.ok/\t.ht<=g
 | 0,_,_,_,_,h=>by cases h
 | g+1,wd,ws,t,rest,h=>by
  have hk : ∀ (mk:List NT->NT) (ws:List bN),dE (aS g) mk ws=some (t,rest)->∃ ks,t=mk ks/\ws=bL ks++([41] :: rest)/\okL ks/\htL ks<=g:=fun mk ws h=>by
   unfold dE at h
   obtain ⟨⟨ks,r⟩,h1,h2⟩:=Option.map_eq_some_iff.1 h
   cases h2
   obtain ⟨new,e1,e2,e3,e4⟩:=uA (aCr g) _ _ _ _ _ h1
   rw [List.nil_append] at e1
   subst e1
   exact ⟨_,rfl,e2,e3,e4⟩
  have ho : ∀ (mk:List NT->NT) (ws:List bN),iQ (aS g) mk ws=some (t,rest)->∃ ks,t=mk ks/\ws = [40] :: (bL ks++([41] :: rest))/\okL ks/\htL ks<=g:=fun mk ws h=>by
   cases ws with
   | nil=>cases h
   | cons o ws=>
    rw [iQ] at h
    split at h
    ·rename_i e
     obtain ⟨ks,h1,h2,h3,h4⟩:=hk mk ws h
     exact ⟨ks,h1,by rw [e,h2],h3,h4⟩
    ·cases h
  rw [aS] at h
  split at h
  ·rename_i h1
   split at h
   ·rename_i h2
    obtain ⟨ks,rfl,e2,e3,e4⟩:=ho _ _ h
    refine ⟨?_,?_,?_⟩
    ·rw [NT.words,if_neg (by decide),if_neg (by decide),if_neg (by decide),if_pos rfl]
     show wd :: ws = [(if vN wd=true then [33] else [])++(hG wd ++ [63])]++([40] :: (bL ks ++ [[41]]))++rest
     rw [aAe h1,e2];simp
    ·rw [NT.ok];exact ⟨xZ _ _ _ (by simpa using h2),e3⟩
    ·rw [NT.ht];omega
   ·cases h
  ·split at h
   ·rename_i h1 h2
    obtain ⟨ks,rfl,e2,e3,e4⟩:=ho _ _ h
    refine ⟨?_,?_,?_⟩
    ·rw [NT.words,if_neg (by decide),if_neg (by decide),if_pos rfl,h2,e2];simp
    ·rw [NT.ok];exact ⟨eV 4 _ (Or.inr rfl),e3⟩
    ·rw [NT.ht];omega
   ·split at h
    ·rename_i h1 h2 h3
     obtain ⟨ks,rfl,e2,e3,e4⟩:=hk _ _ h
     refine ⟨?_,?_,?_⟩
     ·rw [NT.words,if_neg (by decide),if_neg (by decide),if_neg (by decide),if_neg (by decide),h3,e2];simp
     ·rw [NT.ok];exact ⟨eV 3 _ (Or.inl rfl),e3⟩
     ·rw [NT.ht];omega
    ·obtain ⟨t',h1,h2⟩:=Option.map_eq_some_iff.1 h
     cases h2
     unfold fD at h1
     split at h1
     ·rename_i hp
      obtain ⟨hc,ht⟩:=aFd hp
      have hb:=pC wd
      cases hx:Go.Lib.hasPrefix wd [33]
      ·rw [hx] at h1 hb
       cases h1
       refine ⟨?_,?_,?_⟩
       ·have hb':Go.Lib.trimPrefix wd [33]=wd:=by simpa using hb
        rw [NT.words,if_pos (by decide),ht,hb'];rfl
       ·rw [NT.ok];exact ⟨jR _ _ (Or.inl rfl) hc,trivial⟩
       ·simp [NT.ht,htL]
      ·rw [hx] at h1 hb
       cases h1
       refine ⟨?_,?_,?_⟩
       ·have hb':33 :: Go.Lib.trimPrefix wd [33]=wd:=by simpa using hb
        rw [NT.words,if_neg (by decide),if_pos (by decide),ht,hb'];rfl
       ·rw [NT.ok];exact ⟨jR _ _ (Or.inr rfl) hc,trivial⟩
       ·simp [NT.ht,htL]
     ·cases h1
end Go.Proofs.YthaaaecmeafofaaGreatDoor
namespace Go.Proofs.YthaaaecmeafofaaGreatDoor
theorem kN : ∀ (x r:List UInt8),(∀ c∈x,c≠32)->Go.Lib.index (x++32 :: r) [32]=x.length
 | [],r,_=>by simp [Go.Lib.index,List.isPrefixOf]
 | c :: x,r,h=>by
  have hc:=h c (by simp)
  have ih:=kN x r (fun d hd=>h d (by simp [hd]))
  rw [List.cons_append,Go.Lib.index,if_neg (by simp [List.isPrefixOf,Ne.symm hc]),ih,if_neg (by simp)]
  simp
theorem xH : ∀ x:List UInt8,(∀ c∈x,c≠32)->Go.Lib.index x [32] = -1
 | [],_=>by simp [Go.Lib.index]
 | c :: x,h=>by
  have hc:=h c (by simp)
  rw [Go.Lib.index,if_neg (by simp [List.isPrefixOf,Ne.symm hc]),xH x (fun d hd=>h d (by simp [hd]))]
  rfl
theorem aHa (x:bN):Go.Lib.join [x] [32]=x:=Go.Lib.join_one x _
theorem aCg (x y:bN) (r:List bN):Go.Lib.join (x :: y :: r) [32]=x++32 :: Go.Lib.join (y :: r) [32]:=by
 simp [Go.Lib.join,List.intercalate,List.intersperse]
theorem aFa (k:Nat) (x r:List UInt8) (h : ∀ c∈x,c≠32):Go.Lib.splitK [32] 0 (k+1) (x++32 :: r)=x :: Go.Lib.splitK [32] 0 k r:=by
 rw [Go.Lib.splitK,kN x r h,if_neg (by simp)]
 simp
theorem yZ (k:Nat) (x:List UInt8) (h : ∀ c∈x,c≠32):Go.Lib.splitK [32] 0 k x = [x]:=by
 cases k with
 | zero=>rfl
 | succ k=>rw [Go.Lib.splitK,xH x h,if_pos (by decide)]
theorem sD : ∀ (ws:List bN),ws ≠ []->(∀ x∈ws,∀ c∈x,c≠32)->Go.Lib.split (Go.Lib.join ws [32]) [32]=ws
 | [],h,_=>absurd rfl h
 | [x],_,h=>by
  rw [aHa];unfold Go.Lib.split
  exact yZ _ x (h x (by simp))
 | x :: y :: r,_,h=>by
  have hx:=h x (by simp)
  have ih:=sD (y :: r) (by simp) (fun z hz=>h z (by simp at hz ⊢;exact Or.inr hz))
  rw [aCg]
  unfold Go.Lib.split at ih ⊢
  rw [Go.Lib.count_hit (i:=x.length) (by simp) (kN x _ hx),Nat.add_comm,aFa _ _ _ hx]
  have e:List.drop (x.length + [(32:UInt8)].length) (x++32 :: Go.Lib.join (y :: r) [32])=Go.Lib.join (y :: r) [32]:=by
   rw [show x++32 :: Go.Lib.join (y :: r) [32]=(x ++ [32])++Go.Lib.join (y :: r) [32] by simp]
   rw [show x.length + [(32:UInt8)].length=(x ++ [32]).length by simp]
   exact List.drop_left
  rw [e,ih]
theorem aEi {l:List UInt8} (h:aK l=true) : ∀ c∈l,c≠32:=fun c hc=>(iV (lR (lQ h c hc))).1
mutual
theorem sR : ∀ (t:NT),t.ok->∀ x∈t.words,∀ c∈x,c≠32
 | .node k a fl nt kids,hok,x,hx=>by
  rw [NT.ok] at hok
  rw [NT.words] at hx
  have hend : ∀ l:List bN,x ∈ [40] :: (bL kids ++ [[41]])->∀ c∈x,c≠32:=fun _ hx=>by
   rcases List.mem_cons.1 hx with rfl | hx
   ·decide
   ·rcases List.mem_append.1 hx with hx | hx
    ·exact pI kids hok.2 x hx
    ·rw [List.mem_singleton.1 hx];decide
  rcases eN hok.1 with ⟨hk,rfl,rfl,rfl,ha⟩ | ⟨hk,rfl,rfl,rfl⟩ | ⟨rfl,rfl,hn⟩
  ·have ht:=nU ha
   rcases hk with rfl | rfl
   ·rw [if_pos rfl] at hx
    rw [List.mem_singleton.1 hx]
    exact fun c hc=>(iV (ht c hc)).1
   ·rw [if_neg (by decide),if_pos rfl] at hx
    rw [List.mem_singleton.1 hx]
    intro c hc
    rcases List.mem_cons.1 hc with rfl | hc
    ·decide
    ·exact (iV (ht c hc)).1
  ·rcases hk with rfl | rfl
   ·rw [if_neg (by decide),if_neg (by decide),if_neg (by decide),if_neg (by decide)] at hx
    exact hend [] hx
   ·rw [if_neg (by decide),if_neg (by decide),if_pos rfl] at hx
    rcases List.mem_append.1 hx with hx | hx
    ·rw [List.mem_singleton.1 hx];decide
    ·exact hend [] hx
  ·rw [if_neg (by decide),if_neg (by decide),if_neg (by decide),if_pos rfl] at hx
   rcases List.mem_append.1 hx with hx | hx
   ·rw [List.mem_singleton.1 hx]
    intro c hc
    rcases List.mem_append.1 hc with hc | hc
    ·split at hc
     ·rw [List.mem_singleton.1 hc];decide
     ·cases hc
    ·rcases List.mem_append.1 hc with hc | hc
     ·exact aEi hn c hc
     ·rw [List.mem_singleton.1 hc];decide
   ·exact hend [] hx
theorem pI : ∀ (ts:List NT),okL ts->∀ x∈bL ts,∀ c∈x,c≠32
 | [],_,x,hx=>by rw [bL] at hx;cases hx
 | t :: ts,hok,x,hx=>by
  rw [okL] at hok
  rw [bL] at hx
  rcases List.mem_append.1 hx with hx | hx
  ·exact sR t hok.1 x hx
  ·exact pI ts hok.2 x hx
end
def NT.text (t:NT):List UInt8:=Go.Lib.join t.words [32]
def aCp:List bN->Option NT
 | []=>none
 | wd :: ws=>match aS 4 wd ws with
  | some (t,[])=>some t
  | _=>none
def iC (l:List UInt8):Option NT:=aCp (Go.Lib.split l [32])
def rdE (l:List UInt8):Int:=if 20000<l.length then 2 else match iC l with
 | none=>1
 | some t=>cV t
theorem yI {t:NT} (h:t.ok) (hh:t.ht<=4):iC t.text=some t:=by
 obtain ⟨wd,r,e,_,hr⟩:=yK t 4 [] h hh
 unfold iC NT.text
 rw [sD t.words (by rw [e];simp) (sR t h),e,aCp]
 rw [List.append_nil] at hr
 rw [hr]
def iD:List bN->Nat
 | []=>0
 | x :: r=>x.length+1+iD r
theorem kQ : ∀ a b:List bN,iD (a++b)=iD a+iD b
 | [],b=>by simp [iD]
 | x :: a,b=>by rw [List.cons_append,iD,iD,kQ a b];omega
theorem xQ : ∀ ws:List bN,(Go.Lib.join ws [32]).length<=iD ws
 | []=>by simp [Go.Lib.join,iD]
 | [x]=>by rw [aHa,iD];omega
 | x :: y :: r=>by
  have ih:=xQ (y :: r)
  rw [aCg,iD,List.length_append,List.length_cons];omega
mutual
theorem rH : ∀ t:NT,t.ok->iD t.words<=110*t.size/\t.words.length<=3*t.size
 | .node k a fl nt kids,hok=>by
  rw [NT.ok] at hok
  rw [NT.words,NT.size]
  obtain ⟨ih,ih2⟩:=pB kids hok.2
  have e:iD ([40] :: (bL kids ++ [[41]]))=iD (bL kids)+4:=by rw [iD,kQ];simp only [iD,List.length_cons,List.length_nil];omega
  rcases eN hok.1 with ⟨hk,rfl,rfl,rfl,ha⟩ | ⟨hk,rfl,rfl,rfl⟩ | ⟨rfl,rfl,hn⟩
  ·have ht:(eI a).length<=100:=zE ha
   rcases hk with rfl | rfl
   ·rw [if_pos rfl];simp only [iD,List.length_cons,List.length_nil];omega
   ·rw [if_neg (by decide),if_pos rfl];simp only [iD,List.length_cons,List.length_nil];omega
  ·rcases hk with rfl | rfl
   ·rw [if_neg (by decide),if_neg (by decide),if_neg (by decide),if_neg (by decide),List.nil_append]
    rw [e];simp only [List.length_cons,List.length_append,List.length_nil];omega
   ·rw [if_neg (by decide),if_neg (by decide),if_pos rfl,kQ,e];simp only [iD,List.length_cons,List.length_append,List.length_nil];omega
  ·have h8:=kU hn
   rw [if_neg (by decide),if_neg (by decide),if_neg (by decide),if_pos rfl,kQ,e]
   simp only [iD,List.length_cons,List.length_append,List.length_nil]
   have:(if nt=true then [(33:UInt8)] else []).length<=1:=by cases nt<;>simp
   omega
theorem pB : ∀ ts:List NT,okL ts->iD (bL ts)<=110*aT ts/\(bL ts).length<=3*aT ts
 | [],_=>by rw [bL,iD,aT];exact ⟨by omega,by simp⟩
 | t :: ts,hok=>by
  rw [okL] at hok
  obtain ⟨h1,h2⟩:=rH t hok.1
  obtain ⟨h3,h4⟩:=pB ts hok.2
  rw [bL,kQ,aT,List.length_append];omega
end
theorem aBn {t:NT} (h:cV t=0):t.text.length<=2200/\t.words.length<=60:=by
 obtain ⟨h1,h2⟩:=cO.1 h
 have:=fH h1
 obtain ⟨h3,h4⟩:=rH t h2
 have h5:=xQ t.words
 unfold NT.text;omega
theorem aHw {t:NT} (h:cV t=0):rdE t.text=0/\iC t.text=some t:=by
 obtain ⟨h1,h2⟩:=cO.1 h
 have e:=yI h2 (fH h1).2
 refine ⟨?_,e⟩
 unfold rdE
 have:=aBn h
 rw [if_neg (by omega),e]
 exact h
end Go.Proofs.YthaaaecmeafofaaGreatDoor
