/- Steps of the proof: NeedText. -/
import Derived.Test.YthaaaecmeafofaaGreatDoorVs03
import Derived.Lib.Split
import Derived.Lib.Join
import Derived.Lib.SplitLaws
set_option maxHeartbeats 16000000
set_option maxRecDepth 100000
namespace Go.Proofs.YthaaaecmeafofaaGreatDoor
structure At where
 n:ByteArray
 op:Int
 v:Int
 sl:Int
 f:ByteArray
 on:Bool
inductive NT where
 | node (k:Int) (a:At) (fl:ByteArray) (nt:Bool) (kids:List NT)
def At.zero:At:=⟨⟨#[]⟩,0,0,0,⟨#[]⟩,false⟩
def NT.zero:NT:= .node 0 At.zero ⟨#[]⟩ false []
def NT.kids:NT->List NT
 | .node _ _ _ _ ks=>ks
def eT (a:At):Int:=chk a.n.data.toList a.op a.v a.sl a.f.data.toList a.on
def dL (a:At):List UInt8:=bL a.n.data.toList a.op a.v a.sl a.f.data.toList a.on
def iU (a:At):Bool:=gC a.n a.op a.v a.sl a.f a.on ⟨#[]⟩ 0 0 0 ⟨#[]⟩ false
def bH (k:Int):Bool:=(k==1)||(k==2)
def bF (k:Int) (a:At) (fl:ByteArray) (nt:Bool) (many:Nat):Bool:=
 decide (1<=k)&&decide (k<=5) && !(bH k&&decide (0<many)) && !(!bH k && !iU a)&&((k==5)||(fl.toList.isEmpty && !nt))
def aU:NT->Int
 | .node k a fl nt kids=>if bF k a fl nt kids.length=false then 4 else if k=5/\aH fl.data.toList=false then 1 else if bH k=true then eT a else 0
mutual
def bI {σ:Type} (inc:Int->Int) (f:σ->NT->Int->σ × Bool):σ->NT->Int->σ × Bool
 | s,.node k a fl nt kids,d=>if (f s (.node k a fl nt kids) d).2=true then aZ inc f (f s (.node k a fl nt kids) d).1 kids (inc d) else ((f s (.node k a fl nt kids) d).1,false)
def aZ {σ:Type} (inc:Int->Int) (f:σ->NT->Int->σ × Bool):σ->List NT->Int->σ × Bool
 | s,[],_=>(s,true)
 | s,t :: ts,d=>if (bI inc f s t d).2=true then aZ inc f (bI inc f s t d).1 ts d else ((bI inc f s t d).1,false)
end
mutual
def NT.size:NT->Nat
 | .node _ _ _ _ kids=>1+aW kids
def aW:List NT->Nat
 | []=>0
 | t :: ts=>t.size+aW ts
end
mutual
def NT.ht:NT->Nat
 | .node _ _ _ _ kids=>1+htL kids
def htL:List NT->Nat
 | []=>0
 | t :: ts=>max t.ht (htL ts)
end
mutual
def NT.ok:NT->Prop
 | .node k a fl nt kids=>aU (.node k a fl nt kids)=0/\okL kids
def okL:List NT->Prop
 | []=>True
 | t :: ts=>t.ok/\okL ts
end
abbrev bD:=List UInt8
mutual
def NT.words:NT->List bD
 | .node k a fl nt kids=>
  if k=1 then [dL a] else if k=2 then [33 :: dL a]
  else (if k=4 then [[124,124]] else if k=5 then [(if nt then [33] else [])++(fl.data.toList ++ [63])] else [])++([40] :: (bB kids ++ [[41]]))
def bB:List NT->List bD
 | []=> []
 | t :: ts=>t.words++bB ts
end
def pV (s:List UInt8):At:=⟨⟨(nmL s).toArray⟩,opV (veL s),jT (veL s),eQ (slL s),⟨((flL s).drop 1).toArray⟩,onV (flL s)⟩
def dZ (wd:bD):Option NT:=
 if hU (Go.Lib.trimPrefix wd [33])=0 then some (.node (if Go.Lib.hasPrefix wd [33] then 2 else 1) (pV (Go.Lib.trimPrefix wd [33])) ⟨#[]⟩ false []) else none
def fH (wd:bD):List UInt8:=Go.Lib.trimPrefix (Go.Lib.trimSuffix wd [63]) [33]
def qE (wd:bD):Bool:=Go.Lib.hasPrefix (Go.Lib.trimSuffix wd [63]) [33]
def cZ (rd:bD->List bD->Option (NT × List bD)):Nat->List NT->List bD->Option (List NT × List bD)
 | 0,_,_=>none
 | _+1,_,[]=>none
 | m+1,acc,wd :: ws=>if wd = [41] then some (acc,ws) else match rd wd ws with
  | none=>none
  | some r=>cZ rd m (acc ++ [r.1]) r.2
def cP (rd:bD->List bD->Option (NT × List bD)) (mk:List NT->NT) (ws:List bD):Option (NT × List bD):=
 (cZ rd (ws.length+1) [] ws).map fun r=>(mk r.1,r.2)
def gI (rd:bD->List bD->Option (NT × List bD)) (mk:List NT->NT):List bD->Option (NT × List bD)
 | []=>none
 | o :: ws=>if o = [40] then cP rd mk ws else none
def aO:Nat->bD->List bD->Option (NT × List bD)
 | 0,_,_=>none
 | g+1,wd,ws=>
  if Go.Lib.hasSuffix wd [63]=true then
   if aH (fH wd)=true then gI (aO g) (.node 5 At.zero ⟨(fH wd).toArray⟩ (qE wd)) ws else none
  else if wd = [124,124] then gI (aO g) (.node 4 At.zero ⟨#[]⟩ false) ws
  else if wd = [40] then cP (aO g) (.node 3 At.zero ⟨#[]⟩ false) ws
  else (dZ wd).map fun t=>(t,ws)
def aL (d:Int):Int:=Go.RowKit.wrap64 (d+1)
def fN (s:Int) (_:NT) (d:Int):Int × Bool:=(s+1,decide (s+1<=20)&&decide (d<=4))
def fE (_:Int) (t:NT) (_:Int):Int × Bool:=(aU t,aU t==0)
def cO (t:NT):Bool:= !(bI aL fN 0 t 1).2
def cF (t:NT):Int:=if cO t=true then 2 else (bI aL fE 0 t 1).1
end Go.Proofs.YthaaaecmeafofaaGreatDoor
namespace Go.Proofs.YthaaaecmeafofaaGreatDoor
theorem eC {n m:ByteArray} (h:n.data.toList=m.data.toList):n=m:=by
 cases n;cases m;simp at h;rw [h]
theorem bU (n:ByteArray):(⟨n.data.toList.toArray⟩:ByteArray)=n:=eC (by simp)
theorem hI {n:ByteArray} (h:n.data.toList = []):n=⟨#[]⟩:=eC (by rw [h])
theorem oB {a:At}:iU a=true↔a=At.zero:=by
 unfold iU
 rw [uG]
 constructor
 ·rintro ⟨h1,h2,h3,h4,h5,h6⟩
  obtain ⟨n,op,v,sl,f,on⟩:=a
  simp only at h1 h2 h3 h4 h5 h6
  rw [hI h1,h2,h3,h4,hI h5,h6]
  rfl
 ·rintro rfl
  exact ⟨rfl,rfl,rfl,rfl,rfl,rfl⟩
theorem qD (b:ByteArray):b.toList.isEmpty=decide (b.data.toList = []):=by
 rw [Go.Lib.toList_data]
 cases h:b.data.toList<;>simp
theorem eD {k:Int} {a:At} {fl:ByteArray} {nt:Bool} {kids:List NT} (h:aU (.node k a fl nt kids)=0) :
  ((k=1∨k=2)/\kids = []/\fl=⟨#[]⟩/\nt=false/\eT a=0)∨((k=3∨k=4)/\a=At.zero/\fl=⟨#[]⟩/\nt=false)∨(k=5/\a=At.zero/\aH fl.data.toList=true):=by
 rw [aU] at h
 by_cases hf:bF k a fl nt kids.length=false
 ·rw [if_pos hf] at h;cases h
 ·rw [if_neg hf] at h
  have hf':bF k a fl nt kids.length=true:=by simpa using hf
  unfold bF at hf'
  simp only [Bool.and_eq_true,decide_eq_true_eq,Bool.not_eq_true',Bool.or_eq_true,beq_iff_eq,Bool.and_eq_false_iff,Bool.not_eq_false',decide_eq_false_iff_not,bH,Bool.or_eq_false_iff,qD,beq_eq_false_iff_ne] at hf'
  obtain ⟨⟨⟨⟨h1,h2⟩,h3⟩,h4⟩,h5⟩:=hf'
  split at h
  ·cases h
  ·rename_i h6
   split at h
   ·rename_i h7
    have h7':k=1∨k=2:=by simpa [bH] using h7
    refine Or.inl ⟨h7',?_,?_,?_,h⟩
    ·have : ¬ 0<kids.length:=h3.resolve_left (by rintro ⟨a1,a2⟩;rcases h7' with e | e;exact a1 e;exact a2 e)
     exact List.length_eq_zero_iff.1 (by omega)
    ·exact hI (h5.resolve_left (by omega)).1
    ·exact (h5.resolve_left (by omega)).2
   ·rename_i h7
    have h7' : ¬ (k=1∨k=2):=by simpa [bH] using h7
    have ha:a=At.zero:=by
     rcases h4 with h4 | h4
     ·exact absurd h4 h7'
     ·exact oB.1 h4
    by_cases hk:k=5
    ·refine Or.inr (Or.inr ⟨hk,ha,?_⟩)
     cases hn:aH fl.data.toList
     ·exact absurd ⟨hk,hn⟩ h6
     ·rfl
    ·exact Or.inr (Or.inl ⟨by omega,ha,hI (h5.resolve_left hk).1,(h5.resolve_left hk).2⟩)
theorem hP (k:Int) (a:At) (hk:k=1∨k=2) (ha:eT a=0):aU (.node k a ⟨#[]⟩ false [])=0:=by
 rcases hk with rfl | rfl
 ·simp [aU,bF,bH,ha]
 ·simp [aU,bF,bH,ha]
theorem kZ:iU At.zero=true:=oB.2 rfl
theorem dR (k:Int) (kids:List NT) (hk:k=3∨k=4):aU (.node k At.zero ⟨#[]⟩ false kids)=0:=by
 rcases hk with rfl | rfl
 ·simp [aU,bF,bH,kZ]
 ·simp [aU,bF,bH,kZ]
theorem rW (fl:ByteArray) (nt:Bool) (kids:List NT) (h:aH fl.data.toList=true):aU (.node 5 At.zero fl nt kids)=0:=by
 simp [aU,bF,bH,kZ,h]
mutual
theorem nW (inc:Int->Int) : ∀ (t:NT) (s d:Int),((bI inc fE s t d).2=true/\(bI inc fE s t d).1=0/\t.ok)∨((bI inc fE s t d).2=false/\(bI inc fE s t d).1≠0/\¬ t.ok)
 | .node k a fl nt kids,s,d=>by
  rw [bI]
  by_cases h:aU (.node k a fl nt kids)=0
  ·have e:(fE s (.node k a fl nt kids) d).2=true:=by simp [fE,h]
   have e1:(fE s (.node k a fl nt kids) d).1=0:=by simp [fE,h]
   rw [if_pos e,e1]
   rcases mX inc kids (inc d) with ⟨h1,h2,h3⟩ | ⟨h1,h2,h3⟩
   ·exact Or.inl ⟨h1,h2,h,h3⟩
   ·exact Or.inr ⟨h1,h2,fun hh=>h3 hh.2⟩
  ·have e : ¬ (fE s (.node k a fl nt kids) d).2=true:=by simp [fE,h]
   rw [if_neg e]
   exact Or.inr ⟨rfl,h,fun hh=>h hh.1⟩
theorem mX (inc:Int->Int) : ∀ (ts:List NT) (d:Int),((aZ inc fE 0 ts d).2=true/\(aZ inc fE 0 ts d).1=0/\okL ts)∨((aZ inc fE 0 ts d).2=false/\(aZ inc fE 0 ts d).1≠0/\¬ okL ts)
 | [],d=>Or.inl ⟨by rw [aZ],by rw [aZ],by rw [okL];trivial⟩
 | t :: ts,d=>by
  rw [aZ]
  rcases nW inc t 0 d with ⟨h1,h2,h3⟩ | ⟨h1,h2,h3⟩
  ·rw [if_pos h1,h2]
   rcases mX inc ts d with ⟨h4,h5,h6⟩ | ⟨h4,h5,h6⟩
   ·exact Or.inl ⟨h4,h5,h3,h6⟩
   ·exact Or.inr ⟨h4,h5,fun hh=>h6 hh.2⟩
  ·rw [if_neg (by rw [h1];decide)]
   exact Or.inr ⟨rfl,h2,fun hh=>h3 hh.1⟩
end
theorem eK {d:Int} (h0:0<=d) (h1:d<=100):aL d=d+1:=by
 unfold aL
 unfold Go.RowKit.wrap64
 omega
mutual
theorem nY : ∀ (t:NT) (s d:Int),1<=d->d<=5->(bI aL fN s t d).2=true->(bI aL fN s t d).1=s+t.size/\(bI aL fN s t d).1<=20/\d+t.ht<=5
 | .node k a fl nt kids,s,d,hd,hd5,h=>by
  rw [bI] at h ⊢
  by_cases e:(fN s (.node k a fl nt kids) d).2=true
  ·rw [if_pos e] at h ⊢
   have e':s+1<=20/\d<=4:=by simpa [fN] using e
   rw [eK (by omega) (by omega)] at h ⊢
   obtain ⟨h1,h2,h3⟩:=mZ kids (s+1) (d+1) (by omega) (by omega) e'.1 h
   refine ⟨?_,h2,?_⟩
   ·show (aZ aL fN (s+1) kids (d+1)).1=_
    rw [h1,NT.size];omega
   ·rw [NT.ht];omega
  ·rw [if_neg e] at h;cases h
theorem mZ : ∀ (ts:List NT) (s d:Int),1<=d->d<=5->s<=20->(aZ aL fN s ts d).2=true->(aZ aL fN s ts d).1=s+aW ts/\(aZ aL fN s ts d).1<=20/\d+htL ts<=5
 | [],s,d,hd,hd5,hs,_=>by
  rw [aZ,aW,htL];exact ⟨by omega,hs,by omega⟩
 | t :: ts,s,d,hd,hd5,hs,h=>by
  rw [aZ] at h ⊢
  by_cases e:(bI aL fN s t d).2=true
  ·rw [if_pos e] at h ⊢
   obtain ⟨h1,h2,h3⟩:=nY t s d hd hd5 e
   obtain ⟨h4,h5,h6⟩:=mZ ts _ d hd hd5 h2 h
   refine ⟨?_,h5,?_⟩
   ·rw [h4,h1,aW];omega
   ·rw [htL];omega
  ·rw [if_neg e] at h;cases h
end
theorem gW {t:NT} (h:cO t=false):t.size<=20/\t.ht<=4:=by
 unfold cO at h
 obtain ⟨h1,h2,h3⟩:=nY t 0 1 (by decide) (by decide) (by simpa using h)
 omega
theorem dD {t:NT}:cF t=0↔cO t=false/\t.ok:=by
 unfold cF
 cases h:cO t
 ·rw [if_neg (by decide)]
  rcases nW aL t 0 1 with ⟨h1,h2,h3⟩ | ⟨h1,h2,h3⟩
  ·exact ⟨fun _=>⟨rfl,h3⟩,fun _=>h2⟩
  ·exact ⟨fun e=>absurd e h2,fun e=>absurd e.2 h3⟩
 ·rw [if_pos rfl]
  exact ⟨fun e=>absurd e (by decide),fun e=>absurd e.1 (by decide)⟩
def qQ (c:UInt8):Bool:=okB c || [43,45,58,60,61,62].contains c
theorem gM {c:UInt8} (h:qQ c=true):c≠32/\c≠33/\c≠40/\c≠41/\c≠63/\c≠124:=by
 refine ⟨?_,?_,?_,?_,?_,?_⟩<;>rintro rfl<;>revert h<;>decide
theorem jC {c:UInt8} (h:okB c=true):qQ c=true:=by simp [qQ,h]
theorem mV {i:Int} (h0:0<=i) (h1:i<100) : ∀ c∈Go.Lib.itoa i,qQ c=true:=by
 obtain ⟨j,rfl⟩:=Int.eq_ofNat_of_zero_le h0
 rw [dG]
 exact fun c hc=>jC (tJ (by omega) c hc)
theorem zF (op:Int) : ∀ c∈eO op,qQ c=true:=by
 unfold eO
 split
 ·decide
 ·split
  ·decide
  ·split
   ·decide
   ·decide
theorem kJ {a:At} (h:eT a=0) : ∀ c∈dL a,qQ c=true:=by
 obtain ⟨h1,h2,h3,h4,h5,h6,h7,h8⟩:=iG h
 have hn : ∀ c∈a.n.data.toList,qQ c=true:=fun c hc=>jC (jB h1 c hc)
 have hf : ∀ c∈a.f.data.toList,qQ c=true:=by
  rcases h2 with h2 | h2
  ·rw [h2];intro c hc;cases hc
  ·exact fun c hc=>jC (jB h2 c hc)
 intro c hc
 unfold dL bL at hc
 rw [List.mem_append,List.mem_append,List.mem_append] at hc
 rcases hc with ((hc | hc) | hc) | hc
 ·exact hn c hc
 ·split at hc
  ·cases hc
  ·rename_i h0
   rcases List.mem_append.1 hc with hc | hc
   ·exact zF _ c hc
   ·have:=iT h0 h7
    exact mV (by omega) (by omega) c hc
 ·split at hc
  ·cases hc
  ·rcases List.mem_cons.1 hc with rfl | hc
   ·decide
   ·exact mV h5 (by omega) c hc
 ·split at hc
  ·cases hc
  ·rcases List.mem_cons.1 hc with rfl | hc
   ·split<;>decide
   ·exact hf c hc
theorem xI {a:At} (h:eT a=0) : ∃ c l,dL a=c :: l:=by
 obtain ⟨h1,_⟩:=iG h
 cases hn:a.n.data.toList with
 | nil=>rw [hn] at h1;exact absurd rfl (eX h1)
 | cons c l=>exact ⟨c,_,by unfold dL bL;rw [hn];rfl⟩
theorem pD {l:List UInt8} (h : ∀ c∈l,c≠63):Go.Lib.hasSuffix l [63]=false:=by
 cases e:Go.Lib.hasSuffix l [63]
 ·rfl
 ·unfold Go.Lib.hasSuffix at e
  have:=List.isSuffixOf_iff_suffix.1 e
  exact absurd rfl (h 63 (this.subset (by simp)))
theorem lN (l:List UInt8):Go.Lib.hasSuffix (l ++ [63]) [63]=true/\Go.Lib.trimSuffix (l ++ [63]) [63]=l:=by
 have h:Go.Lib.hasSuffix (l ++ [63]) [63]=true:=List.isSuffixOf_iff_suffix.2 (List.suffix_append _ _)
 refine ⟨h,?_⟩
 unfold Go.Lib.trimSuffix
 rw [if_pos h]
 simp
theorem sM {l:List UInt8} (h:Go.Lib.hasSuffix l [63]=true):Go.Lib.trimSuffix l [63] ++ [63]=l:=by
 obtain ⟨r,rfl⟩:=List.isSuffixOf_iff_suffix.1 h
 rw [(lN r).2]
theorem nI {l:List UInt8} (h : ∀ c∈l,c≠33):Go.Lib.hasPrefix l [33]=false/\Go.Lib.trimPrefix l [33]=l:=by
 have e:Go.Lib.hasPrefix l [33]=false:=by
  cases l with
  | nil=>rfl
  | cons c l=>
   have:=h c (by simp)
   simp [Go.Lib.hasPrefix,List.isPrefixOf,Ne.symm this]
 refine ⟨e,?_⟩
 unfold Go.Lib.trimPrefix
 rw [if_neg (by rw [e];decide)]
theorem iP (l:List UInt8):Go.Lib.hasPrefix (33 :: l) [33]=true/\Go.Lib.trimPrefix (33 :: l) [33]=l:=by
 have e:Go.Lib.hasPrefix (33 :: l) [33]=true:=by simp [Go.Lib.hasPrefix,List.isPrefixOf]
 refine ⟨e,?_⟩
 unfold Go.Lib.trimPrefix
 rw [if_pos e];rfl
theorem lJ (l:List UInt8):(if Go.Lib.hasPrefix l [33]=true then [33] else [])++Go.Lib.trimPrefix l [33]=l:=by
 cases h:Go.Lib.hasPrefix l [33]
 ·unfold Go.Lib.trimPrefix
  rw [h];rfl
 ·cases l with
  | nil=>cases h
  | cons c l=>
   have:(33:UInt8)=c:=by simpa [Go.Lib.hasPrefix,List.isPrefixOf] using h
   subst this
   rw [(iP l).2];rfl
theorem vN {a:At} (h:eT a=0):hU (dL a)=0/\pV (dL a)=a:=by
 obtain ⟨p0,p1,p2,p3,p4,p5,p6⟩:=uE h
 refine ⟨p0,?_⟩
 unfold pV dL
 rw [p1,p2,p3,p4,p5,p6,bU,bU]
theorem xH {s:List UInt8} (h:hU s=0):eT (pV s)=0/\dL (pV s)=s:=by
 have:=uL h
 unfold eT dL pV
 simpa using this
theorem wP {l:List UInt8} (h:aH l=true) : ∀ c∈l,c≠33:=fun c hc=>(gM (jC (jB h c hc))).2.1
theorem pC {a:At} (h:eT a=0):dZ (dL a)=some (.node 1 a ⟨#[]⟩ false [])/\dZ (33 :: dL a)=some (.node 2 a ⟨#[]⟩ false []):=by
 obtain ⟨h1,h2⟩:=nI (l:=dL a) (fun c hc=>(gM (kJ h c hc)).2.1)
 obtain ⟨h3,h4⟩:=iP (dL a)
 obtain ⟨p0,p1⟩:=vN h
 unfold dZ
 rw [h1,h2,h3,h4,if_pos p0,if_pos p0,p1]
 exact ⟨rfl,rfl⟩
theorem wC {fl:List UInt8} (nt:Bool) (h:aH fl=true):Go.Lib.hasSuffix ((if nt then [33] else [])++(fl ++ [63])) [63]=true/\fH ((if nt then [33] else [])++(fl ++ [63]))=fl/\qE ((if nt then [33] else [])++(fl ++ [63]))=nt:=by
 rw [← List.append_assoc]
 obtain ⟨h1,h2⟩:=lN ((if nt then [33] else [])++fl)
 unfold fH qE
 rw [h2]
 cases nt
 ·obtain ⟨h3,h4⟩:=nI (wP h)
  exact ⟨h1,h4,h3⟩
 ·obtain ⟨h3,h4⟩:=iP fl
  exact ⟨h1,h4,h3⟩
theorem tO {wd:bD} (h:Go.Lib.hasSuffix wd [63]=true):(if qE wd=true then [33] else [])++(fH wd ++ [63])=wd:=by
 unfold qE fH
 rw [← List.append_assoc,lJ,sM h]
theorem pJ {a:At} (h:eT a=0) (l:List UInt8) (hl:l=dL a∨l=33 :: dL a):Go.Lib.hasSuffix l [63]=false/\l ≠ [124,124]/\l ≠ [40]/\l ≠ [41]:=by
 have ht:=kJ h
 obtain ⟨c,r,e⟩:=xI h
 have hc:=gM (ht c (by rw [e];simp))
 rcases hl with rfl | rfl
 ·refine ⟨pD fun x hx=>(gM (ht x hx)).2.2.2.2.1,?_,?_,?_⟩
  ·rw [e];intro h';injection h' with h1 _;exact hc.2.2.2.2.2 h1
  ·rw [e];intro h';injection h' with h1 _;exact hc.2.2.1 h1
  ·rw [e];intro h';injection h' with h1 _;exact hc.2.2.2.1 h1
 ·refine ⟨pD fun x hx=> ?_,?_,?_,?_⟩
  ·rcases List.mem_cons.1 hx with rfl | hx
   ·decide
   ·exact (gM (ht x hx)).2.2.2.2.1
  ·intro h';injection h' with h1 _;revert h1;decide
  ·intro h';injection h' with h1 _;revert h1;decide
  ·intro h';injection h' with h1 _;revert h1;decide
theorem pO : ∀ t:NT,∃ wd r,t.words=wd :: r
 | .node k a fl nt kids=>by
  rw [NT.words]
  split
  ·exact ⟨_,_,rfl⟩
  ·split
   ·exact ⟨_,_,rfl⟩
   ·split
    ·exact ⟨_,_,rfl⟩
    ·split
     ·exact ⟨_,_,rfl⟩
     ·exact ⟨_,_,rfl⟩
theorem nZ : ∀ ts:List NT,ts.length<=(bB ts).length
 | []=>Nat.zero_le _
 | t :: ts=>by
  obtain ⟨wd,r,e⟩:=pO t
  have:=nZ ts
  rw [bB,List.length_append,e]
  simp only [List.length_cons];omega
mutual
theorem sC : ∀ (t:NT) (g:Nat) (ws:List bD),t.ok->t.ht<=g->∃ wd r,t.words=wd :: r/\wd ≠ [41]/\aO g wd (r++ws)=some (t,ws)
 | .node k a fl nt kids,g,ws,hok,hg=>by
  rw [NT.ok] at hok
  rw [NT.ht] at hg
  obtain ⟨g,rfl⟩ : ∃ g',g=g'+1:=⟨g-1,by omega⟩
  rw [NT.words]
  have hkids : ∀ (mk:List NT->NT) (ws:List bD),cP (aO g) mk (bB kids ++ [[41]]++ws)=some (mk kids,ws):=fun mk ws=>by
   unfold cP
   have:=nC kids g [] ws ((bB kids ++ [[41]]++ws).length+1) hok.2 (by omega) (by have:=nZ kids;simp only [List.length_append,List.length_cons];omega)
   rw [List.append_assoc,List.singleton_append]
   rw [List.append_assoc,List.singleton_append] at this
   rw [this];rfl
  rcases eD hok.1 with ⟨hk,rfl,rfl,rfl,ha⟩ | ⟨hk,rfl,rfl,rfl⟩ | ⟨rfl,rfl,hn⟩
  ·rcases hk with rfl | rfl
   ·obtain ⟨w1,w2,w3,w4⟩:=pJ ha _ (Or.inl rfl)
    refine ⟨dL a,[],by rw [if_pos rfl],w4,?_⟩
    rw [aO,if_neg (by rw [w1];decide),if_neg w2,if_neg w3,(pC ha).1];rfl
   ·obtain ⟨w1,w2,w3,w4⟩:=pJ ha _ (Or.inr rfl)
    refine ⟨33 :: dL a,[],by rw [if_neg (by decide),if_pos rfl],w4,?_⟩
    rw [aO,if_neg (by rw [w1];decide),if_neg w2,if_neg w3,(pC ha).2];rfl
  ·rcases hk with rfl | rfl
   ·refine ⟨[40],bB kids ++ [[41]],by rw [if_neg (by decide),if_neg (by decide),if_neg (by decide),if_neg (by decide)];rfl,by decide,?_⟩
    rw [aO,if_neg (by decide),if_neg (by decide),if_pos rfl,hkids]
   ·refine ⟨[124,124],[40] :: (bB kids ++ [[41]]),by rw [if_neg (by decide),if_neg (by decide),if_pos rfl];rfl,by decide,?_⟩
    rw [aO,if_neg (by decide),if_pos rfl,List.cons_append,gI,if_pos rfl,hkids]
  ·obtain ⟨f1,f2,f3⟩:=wC nt hn
   refine ⟨(if nt then [33] else [])++(fl.data.toList ++ [63]),[40] :: (bB kids ++ [[41]]),by rw [if_neg (by decide),if_neg (by decide),if_neg (by decide),if_pos rfl];rfl,?_,?_⟩
   ·intro e;rw [e] at f1;revert f1;decide
   ·rw [aO,if_pos f1,f2,f3,if_pos hn,List.cons_append,gI,if_pos rfl,hkids,bU]
theorem nC : ∀ (ts:List NT) (g:Nat) (acc:List NT) (ws:List bD) (m:Nat),okL ts->htL ts<=g->ts.length<m->cZ (aO g) m acc (bB ts ++ [[41]]++ws)=some (acc++ts,ws)
 | [],g,acc,ws,m,_,_,hm=>by
  obtain ⟨m,rfl⟩ : ∃ m',m=m'+1:=⟨m-1,by simp at hm;omega⟩
  rw [bB,List.nil_append,List.singleton_append,cZ,if_pos rfl,List.append_nil]
 | t :: ts,g,acc,ws,m,hok,hg,hm=>by
  rw [okL] at hok
  rw [htL] at hg
  obtain ⟨m,rfl⟩ : ∃ m',m=m'+1:=⟨m-1,by simp only [List.length_cons] at hm;omega⟩
  obtain ⟨wd,r,e,hne,hr⟩:=sC t g (bB ts ++ [[41]]++ws) hok.1 (by omega)
  rw [bB,e,List.append_assoc,List.append_assoc,List.cons_append,cZ,if_neg hne,← List.append_assoc (bB ts),hr]
  show cZ (aO g) m (acc ++ [t]) (bB ts ++ [[41]]++ws)=_
  rw [nC ts g (acc ++ [t]) ws m hok.2 (by omega) (by simp only [List.length_cons] at hm;omega),List.append_assoc,List.singleton_append]
end
theorem pB {rd:bD->List bD->Option (NT × List bD)} {g:Nat} (hrd : ∀ wd ws t rest,rd wd ws=some (t,rest)->wd :: ws=t.words++rest/\t.ok/\t.ht<=g) :
  ∀ (m:Nat) (acc:List NT) (ws:List bD) (ks:List NT) (rest:List bD),cZ rd m acc ws=some (ks,rest)->∃ new,ks=acc++new/\ws=bB new++([41] :: rest)/\okL new/\htL new<=g
 | 0,_,_,_,_,h=>by cases h
 | _+1,_,[],_,_,h=>by cases h
 | m+1,acc,wd :: ws,ks,rest,h=>by
  rw [cZ] at h
  split at h
  ·rename_i e
   cases h
   exact ⟨[],by simp,by rw [e,bB];rfl,trivial,Nat.zero_le _⟩
  ·split at h
   ·cases h
   ·rename_i r hr
    obtain ⟨t,r2⟩:=r
    obtain ⟨h1,h2,h3⟩:=hrd wd ws t r2 hr
    obtain ⟨new,e1,e2,e3,e4⟩:=pB hrd m (acc ++ [t]) r2 ks rest h
    refine ⟨t :: new,by rw [e1,List.append_assoc];rfl,?_,?_,?_⟩
    ·rw [h1,e2,bB,List.append_assoc]
    ·rw [okL];exact ⟨h2,e3⟩
    ·rw [htL];omega
theorem vG : ∀ (g:Nat) (wd:bD) (ws:List bD) (t:NT) (rest:List bD),aO g wd ws=some (t,rest)->wd :: ws=t.words++rest/\t.ok/\t.ht<=g
 | 0,_,_,_,_,h=>by cases h
 | g+1,wd,ws,t,rest,h=>by
  have hk : ∀ (mk:List NT->NT) (ws:List bD),cP (aO g) mk ws=some (t,rest)->∃ ks,t=mk ks/\ws=bB ks++([41] :: rest)/\okL ks/\htL ks<=g:=fun mk ws h=>by
   unfold cP at h
   obtain ⟨⟨ks,r⟩,h1,h2⟩:=Option.map_eq_some_iff.1 h
   cases h2
   obtain ⟨new,e1,e2,e3,e4⟩:=pB (vG g) _ _ _ _ _ h1
   rw [List.nil_append] at e1
   subst e1
   exact ⟨_,rfl,e2,e3,e4⟩
  have ho : ∀ (mk:List NT->NT) (ws:List bD),gI (aO g) mk ws=some (t,rest)->∃ ks,t=mk ks/\ws = [40] :: (bB ks++([41] :: rest))/\okL ks/\htL ks<=g:=fun mk ws h=>by
   cases ws with
   | nil=>cases h
   | cons o ws=>
    rw [gI] at h
    split at h
    ·rename_i e
     obtain ⟨ks,h1,h2,h3,h4⟩:=hk mk ws h
     exact ⟨ks,h1,by rw [e,h2],h3,h4⟩
    ·cases h
  rw [aO] at h
  split at h
  ·rename_i h1
   split at h
   ·rename_i h2
    obtain ⟨ks,rfl,e2,e3,e4⟩:=ho _ _ h
    refine ⟨?_,?_,?_⟩
    ·rw [NT.words,if_neg (by decide),if_neg (by decide),if_neg (by decide),if_pos rfl]
     show wd :: ws = [(if qE wd=true then [33] else [])++(fH wd ++ [63])]++([40] :: (bB ks ++ [[41]]))++rest
     rw [tO h1,e2];simp
    ·rw [NT.ok];exact ⟨rW _ _ _ (by simpa using h2),e3⟩
    ·rw [NT.ht];omega
   ·cases h
  ·split at h
   ·rename_i h1 h2
    obtain ⟨ks,rfl,e2,e3,e4⟩:=ho _ _ h
    refine ⟨?_,?_,?_⟩
    ·rw [NT.words,if_neg (by decide),if_neg (by decide),if_pos rfl,h2,e2];simp
    ·rw [NT.ok];exact ⟨dR 4 _ (Or.inr rfl),e3⟩
    ·rw [NT.ht];omega
   ·split at h
    ·rename_i h1 h2 h3
     obtain ⟨ks,rfl,e2,e3,e4⟩:=hk _ _ h
     refine ⟨?_,?_,?_⟩
     ·rw [NT.words,if_neg (by decide),if_neg (by decide),if_neg (by decide),if_neg (by decide),h3,e2];simp
     ·rw [NT.ok];exact ⟨dR 3 _ (Or.inl rfl),e3⟩
     ·rw [NT.ht];omega
    ·obtain ⟨t',h1,h2⟩:=Option.map_eq_some_iff.1 h
     cases h2
     unfold dZ at h1
     split at h1
     ·rename_i hp
      obtain ⟨hc,ht⟩:=xH hp
      have hb:=lJ wd
      cases hx:Go.Lib.hasPrefix wd [33]
      ·rw [hx] at h1 hb
       cases h1
       refine ⟨?_,?_,?_⟩
       ·have hb':Go.Lib.trimPrefix wd [33]=wd:=by simpa using hb
        rw [NT.words,if_pos (by decide),ht,hb'];rfl
       ·rw [NT.ok];exact ⟨hP _ _ (Or.inl rfl) hc,trivial⟩
       ·simp [NT.ht,htL]
      ·rw [hx] at h1 hb
       cases h1
       refine ⟨?_,?_,?_⟩
       ·have hb':33 :: Go.Lib.trimPrefix wd [33]=wd:=by simpa using hb
        rw [NT.words,if_neg (by decide),if_pos (by decide),ht,hb'];rfl
       ·rw [NT.ok];exact ⟨hP _ _ (Or.inr rfl) hc,trivial⟩
       ·simp [NT.ht,htL]
     ·cases h1
end Go.Proofs.YthaaaecmeafofaaGreatDoor
namespace Go.Proofs.YthaaaecmeafofaaGreatDoor
theorem tU : ∀ (x r:List UInt8),(∀ c∈x,c≠32)->Go.Lib.index (x++32 :: r) [32]=x.length
 | [],r,_=>by simp [Go.Lib.index,List.isPrefixOf]
 | c :: x,r,h=>by
  have hc:=h c (by simp)
  have ih:=tU x r (fun d hd=>h d (by simp [hd]))
  rw [List.cons_append,Go.Lib.index,if_neg (by simp [List.isPrefixOf,Ne.symm hc]),ih,if_neg (by simp)]
  simp
theorem rN : ∀ x:List UInt8,(∀ c∈x,c≠32)->Go.Lib.index x [32] = -1
 | [],_=>by simp [Go.Lib.index]
 | c :: x,h=>by
  have hc:=h c (by simp)
  rw [Go.Lib.index,if_neg (by simp [List.isPrefixOf,Ne.symm hc]),rN x (fun d hd=>h d (by simp [hd]))]
  rfl
theorem yL (x:bD):Go.Lib.join [x] [32]=x:=Go.Lib.join_one x _
theorem uZ (x y:bD) (r:List bD):Go.Lib.join (x :: y :: r) [32]=x++32 :: Go.Lib.join (y :: r) [32]:=by
 simp [Go.Lib.join,List.intercalate,List.intersperse]
theorem xG (k:Nat) (x r:List UInt8) (h : ∀ c∈x,c≠32):Go.Lib.splitK [32] 0 (k+1) (x++32 :: r)=x :: Go.Lib.splitK [32] 0 k r:=by
 rw [Go.Lib.splitK,tU x r h,if_neg (by simp)]
 simp
theorem sL (k:Nat) (x:List UInt8) (h : ∀ c∈x,c≠32):Go.Lib.splitK [32] 0 k x = [x]:=by
 cases k with
 | zero=>rfl
 | succ k=>rw [Go.Lib.splitK,rN x h,if_pos (by decide)]
theorem nO : ∀ (ws:List bD),ws ≠ []->(∀ x∈ws,∀ c∈x,c≠32)->Go.Lib.split (Go.Lib.join ws [32]) [32]=ws
 | [],h,_=>absurd rfl h
 | [x],_,h=>by
  rw [yL];unfold Go.Lib.split
  exact sL _ x (h x (by simp))
 | x :: y :: r,_,h=>by
  have hx:=h x (by simp)
  have ih:=nO (y :: r) (by simp) (fun z hz=>h z (by simp at hz ⊢;exact Or.inr hz))
  rw [uZ]
  unfold Go.Lib.split at ih ⊢
  rw [Go.Lib.count_hit (i:=x.length) (by simp) (tU x _ hx),Nat.add_comm,xG _ _ _ hx]
  have e:List.drop (x.length + [(32:UInt8)].length) (x++32 :: Go.Lib.join (y :: r) [32])=Go.Lib.join (y :: r) [32]:=by
   rw [show x++32 :: Go.Lib.join (y :: r) [32]=(x ++ [32])++Go.Lib.join (y :: r) [32] by simp]
   rw [show x.length + [(32:UInt8)].length=(x ++ [32]).length by simp]
   exact List.drop_left
  rw [e,ih]
theorem wO {l:List UInt8} (h:aH l=true) : ∀ c∈l,c≠32:=fun c hc=>(gM (jC (jB h c hc))).1
mutual
theorem oA : ∀ (t:NT),t.ok->∀ x∈t.words,∀ c∈x,c≠32
 | .node k a fl nt kids,hok,x,hx=>by
  rw [NT.ok] at hok
  rw [NT.words] at hx
  have hend : ∀ l:List bD,x ∈ [40] :: (bB kids ++ [[41]])->∀ c∈x,c≠32:=fun _ hx=>by
   rcases List.mem_cons.1 hx with rfl | hx
   ·decide
   ·rcases List.mem_append.1 hx with hx | hx
    ·exact lP kids hok.2 x hx
    ·rw [List.mem_singleton.1 hx];decide
  rcases eD hok.1 with ⟨hk,rfl,rfl,rfl,ha⟩ | ⟨hk,rfl,rfl,rfl⟩ | ⟨rfl,rfl,hn⟩
  ·have ht:=kJ ha
   rcases hk with rfl | rfl
   ·rw [if_pos rfl] at hx
    rw [List.mem_singleton.1 hx]
    exact fun c hc=>(gM (ht c hc)).1
   ·rw [if_neg (by decide),if_pos rfl] at hx
    rw [List.mem_singleton.1 hx]
    intro c hc
    rcases List.mem_cons.1 hc with rfl | hc
    ·decide
    ·exact (gM (ht c hc)).1
  ·rcases hk with rfl | rfl
   ·rw [if_neg (by decide),if_neg (by decide),if_neg (by decide),if_neg (by decide)] at hx
    exact hend [] hx
   ·rw [if_neg (by decide),if_neg (by decide),if_pos rfl] at hx
    rcases List.mem_append.1 hx with hx | hx
    ·rw [List.mem_singleton.1 hx];decide
    ·exact hend [] hx
  ·rw [if_neg (by decide),if_neg (by decide),if_neg (by decide),if_pos rfl] at hx
   rcases List.mem_append.1 hx with hx | hx
   ·rw [List.mem_singleton.1 hx]
    intro c hc
    rcases List.mem_append.1 hc with hc | hc
    ·split at hc
     ·rw [List.mem_singleton.1 hc];decide
     ·cases hc
    ·rcases List.mem_append.1 hc with hc | hc
     ·exact wO hn c hc
     ·rw [List.mem_singleton.1 hc];decide
   ·exact hend [] hx
theorem lP : ∀ (ts:List NT),okL ts->∀ x∈bB ts,∀ c∈x,c≠32
 | [],_,x,hx=>by rw [bB] at hx;cases hx
 | t :: ts,hok,x,hx=>by
  rw [okL] at hok
  rw [bB] at hx
  rcases List.mem_append.1 hx with hx | hx
  ·exact oA t hok.1 x hx
  ·exact lP ts hok.2 x hx
end
def NT.text (t:NT):List UInt8:=Go.Lib.join t.words [32]
def vE:List bD->Option NT
 | []=>none
 | wd :: ws=>match aO 4 wd ws with
  | some (t,[])=>some t
  | _=>none
def fO (l:List UInt8):Option NT:=vE (Go.Lib.split l [32])
def rdE (l:List UInt8):Int:=if 20000<l.length then 2 else match fO l with
 | none=>1
 | some t=>cF t
theorem sA {t:NT} (h:t.ok) (hh:t.ht<=4):fO t.text=some t:=by
 obtain ⟨wd,r,e,_,hr⟩:=sC t 4 [] h hh
 unfold fO NT.text
 rw [nO t.words (by rw [e];simp) (oA t h),e,vE]
 rw [List.append_nil] at hr
 rw [hr]
def fQ:List bD->Nat
 | []=>0
 | x :: r=>x.length+1+fQ r
theorem iL : ∀ a b:List bD,fQ (a++b)=fQ a+fQ b
 | [],b=>by simp [fQ]
 | x :: a,b=>by rw [List.cons_append,fQ,fQ,iL a b];omega
theorem rS : ∀ ws:List bD,(Go.Lib.join ws [32]).length<=fQ ws
 | []=>by simp [Go.Lib.join,fQ]
 | [x]=>by rw [yL,fQ];omega
 | x :: y :: r=>by
  have ih:=rS (y :: r)
  rw [uZ,fQ,List.length_append,List.length_cons];omega
mutual
theorem nD : ∀ t:NT,t.ok->fQ t.words<=110*t.size/\t.words.length<=3*t.size
 | .node k a fl nt kids,hok=>by
  rw [NT.ok] at hok
  rw [NT.words,NT.size]
  obtain ⟨ih,ih2⟩:=lH kids hok.2
  have e:fQ ([40] :: (bB kids ++ [[41]]))=fQ (bB kids)+4:=by rw [fQ,iL];simp only [fQ,List.length_cons,List.length_nil];omega
  rcases eD hok.1 with ⟨hk,rfl,rfl,rfl,ha⟩ | ⟨hk,rfl,rfl,rfl⟩ | ⟨rfl,rfl,hn⟩
  ·have ht:(dL a).length<=100:=sQ ha
   rcases hk with rfl | rfl
   ·rw [if_pos rfl];simp only [fQ,List.length_cons,List.length_nil];omega
   ·rw [if_neg (by decide),if_pos rfl];simp only [fQ,List.length_cons,List.length_nil];omega
  ·rcases hk with rfl | rfl
   ·rw [if_neg (by decide),if_neg (by decide),if_neg (by decide),if_neg (by decide),List.nil_append]
    rw [e];simp only [List.length_cons,List.length_append,List.length_nil];omega
   ·rw [if_neg (by decide),if_neg (by decide),if_pos rfl,iL,e];simp only [fQ,List.length_cons,List.length_append,List.length_nil];omega
  ·have h8:=iO hn
   rw [if_neg (by decide),if_neg (by decide),if_neg (by decide),if_pos rfl,iL,e]
   simp only [fQ,List.length_cons,List.length_append,List.length_nil]
   have:(if nt=true then [(33:UInt8)] else []).length<=1:=by cases nt<;>simp
   omega
theorem lH : ∀ ts:List NT,okL ts->fQ (bB ts)<=110*aW ts/\(bB ts).length<=3*aW ts
 | [],_=>by rw [bB,fQ,aW];exact ⟨by omega,by simp⟩
 | t :: ts,hok=>by
  rw [okL] at hok
  obtain ⟨h1,h2⟩:=nD t hok.1
  obtain ⟨h3,h4⟩:=lH ts hok.2
  rw [bB,iL,aW,List.length_append];omega
end
theorem uN {t:NT} (h:cF t=0):t.text.length<=2200/\t.words.length<=60:=by
 obtain ⟨h1,h2⟩:=dD.1 h
 have:=gW h1
 obtain ⟨h3,h4⟩:=nD t h2
 have h5:=rS t.words
 unfold NT.text;omega
theorem zA {t:NT} (h:cF t=0):rdE t.text=0/\fO t.text=some t:=by
 obtain ⟨h1,h2⟩:=dD.1 h
 have e:=sA h2 (gW h1).2
 refine ⟨?_,e⟩
 unfold rdE
 have:=uN h
 rw [if_neg (by omega),e]
 exact h
end Go.Proofs.YthaaaecmeafofaaGreatDoor
