/- Steps of the proof: NeedText. -/
import Derived.Test.YtonlloiemgdfkaaGreatDoorOf03
import Derived.Lib.Split
import Derived.Lib.Join
import Derived.Lib.SplitLaws
set_option maxHeartbeats 16000000
set_option maxRecDepth 100000
namespace Go.Proofs.YtonlloiemgdfkaaGreatDoor
structure At where
 n:ByteArray
 op:Int
 v:Int
 sl:Int
 f:ByteArray
 on:Bool
inductive NT where
 | node (k:Int) (a:At) (fl:ByteArray) (nt:Bool) (kids:List NT)
def At.zero:At:=⟨⟨#[]⟩,0,0,0,⟨#[]⟩,false⟩
def NT.zero:NT:= .node 0 At.zero ⟨#[]⟩ false []
def NT.kids:NT->List NT
 | .node _ _ _ _ ks=>ks
def mI (a:At):Int:=chk a.n.data.toList a.op a.v a.sl a.f.data.toList a.on
def cZ (a:At):List UInt8:=bE a.n.data.toList a.op a.v a.sl a.f.data.toList a.on
def lP (a:At):Bool:=lG a.n a.op a.v a.sl a.f a.on ⟨#[]⟩ 0 0 0 ⟨#[]⟩ false
def bU (k:Int):Bool:=(k==1)||(k==2)
def bT (k:Int) (a:At) (fl:ByteArray) (nt:Bool) (many:Nat):Bool:=
 decide (1<=k)&&decide (k<=5) && !(bU k&&decide (0<many)) && !(!bU k && !lP a)&&((k==5)||(fl.toList.isEmpty && !nt))
def cA:NT->Int
 | .node k a fl nt kids=>if bT k a fl nt kids.length=false then 4 else if k=5/\aI fl.data.toList=false then 1 else if bU k=true then mI a else 0
mutual
def bD {σ:Type} (inc:Int->Int) (f:σ->NT->Int->σ × Bool):σ->NT->Int->σ × Bool
 | s,.node k a fl nt kids,d=>if (f s (.node k a fl nt kids) d).2=true then bC inc f (f s (.node k a fl nt kids) d).1 kids (inc d) else ((f s (.node k a fl nt kids) d).1,false)
def bC {σ:Type} (inc:Int->Int) (f:σ->NT->Int->σ × Bool):σ->List NT->Int->σ × Bool
 | s,[],_=>(s,true)
 | s,t :: ts,d=>if (bD inc f s t d).2=true then bC inc f (bD inc f s t d).1 ts d else ((bD inc f s t d).1,false)
end
mutual
def NT.size:NT->Nat
 | .node _ _ _ _ kids=>1+bB kids
def bB:List NT->Nat
 | []=>0
 | t :: ts=>t.size+bB ts
end
mutual
def NT.ht:NT->Nat
 | .node _ _ _ _ kids=>1+htL kids
def htL:List NT->Nat
 | []=>0
 | t :: ts=>max t.ht (htL ts)
end
mutual
def NT.ok:NT->Prop
 | .node k a fl nt kids=>cA (.node k a fl nt kids)=0/\okL kids
def okL:List NT->Prop
 | []=>True
 | t :: ts=>t.ok/\okL ts
end
abbrev aX:=List UInt8
mutual
def NT.words:NT->List aX
 | .node k a fl nt kids=>
  if k=1 then [cZ a] else if k=2 then [33 :: cZ a]
  else (if k=4 then [[124,124]] else if k=5 then [(if nt then [33] else [])++(fl.data.toList ++ [63])] else [])++([40] :: (aV kids ++ [[41]]))
def aV:List NT->List aX
 | []=> []
 | t :: ts=>t.words++aV ts
end
def pZ (s:List UInt8):At:=⟨⟨(nmL s).toArray⟩,opV (veL s),jI (veL s),eM (slL s),⟨((flL s).drop 1).toArray⟩,onV (flL s)⟩
def dS (wd:aX):Option NT:=
 if gT (Go.Lib.trimPrefix wd [33])=0 then some (.node (if Go.Lib.hasPrefix wd [33] then 2 else 1) (pZ (Go.Lib.trimPrefix wd [33])) ⟨#[]⟩ false []) else none
def eX (wd:aX):List UInt8:=Go.Lib.trimPrefix (Go.Lib.trimSuffix wd [63]) [33]
def qL (wd:aX):Bool:=Go.Lib.hasPrefix (Go.Lib.trimSuffix wd [63]) [33]
def cF (rd:aX->List aX->Option (NT × List aX)):Nat->List NT->List aX->Option (List NT × List aX)
 | 0,_,_=>none
 | _+1,_,[]=>none
 | m+1,acc,wd :: ws=>if wd = [41] then some (acc,ws) else match rd wd ws with
  | none=>none
  | some r=>cF rd m (acc ++ [r.1]) r.2
def cB (rd:aX->List aX->Option (NT × List aX)) (mk:List NT->NT) (ws:List aX):Option (NT × List aX):=
 (cF rd (ws.length+1) [] ws).map fun r=>(mk r.1,r.2)
def fY (rd:aX->List aX->Option (NT × List aX)) (mk:List NT->NT):List aX->Option (NT × List aX)
 | []=>none
 | o :: ws=>if o = [40] then cB rd mk ws else none
def aK:Nat->aX->List aX->Option (NT × List aX)
 | 0,_,_=>none
 | g+1,wd,ws=>
  if Go.Lib.hasSuffix wd [63]=true then
   if aI (eX wd)=true then fY (aK g) (.node 5 At.zero ⟨(eX wd).toArray⟩ (qL wd)) ws else none
  else if wd = [124,124] then fY (aK g) (.node 4 At.zero ⟨#[]⟩ false) ws
  else if wd = [40] then cB (aK g) (.node 3 At.zero ⟨#[]⟩ false) ws
  else (dS wd).map fun t=>(t,ws)
def aH (d:Int):Int:=Go.RowKit.wrap64 (d+1)
def fN (s:Int) (_:NT) (d:Int):Int × Bool:=(s+1,decide (s+1<=20)&&decide (d<=4))
def fE (_:Int) (t:NT) (_:Int):Int × Bool:=(cA t,cA t==0)
def dE (t:NT):Bool:= !(bD aH fN 0 t 1).2
def cS (t:NT):Int:=if dE t=true then 2 else (bD aH fE 0 t 1).1
end Go.Proofs.YtonlloiemgdfkaaGreatDoor
namespace Go.Proofs.YtonlloiemgdfkaaGreatDoor
theorem jA {n m:ByteArray} (h:n.data.toList=m.data.toList):n=m:=by
 cases n;cases m;simp at h;rw [h]
theorem bM (n:ByteArray):(⟨n.data.toList.toArray⟩:ByteArray)=n:=jA (by simp)
theorem gK {n:ByteArray} (h:n.data.toList = []):n=⟨#[]⟩:=jA (by rw [h])
theorem oE {a:At}:lP a=true↔a=At.zero:=by
 unfold lP
 rw [uK]
 constructor
 ·rintro ⟨h1,h2,h3,h4,h5,h6⟩
  obtain ⟨n,op,v,sl,f,on⟩:=a
  simp only at h1 h2 h3 h4 h5 h6
  rw [gK h1,h2,h3,h4,gK h5,h6]
  rfl
 ·rintro rfl
  exact ⟨rfl,rfl,rfl,rfl,rfl,rfl⟩
theorem qJ (b:ByteArray):b.toList.isEmpty=decide (b.data.toList = []):=by
 rw [Go.Lib.toList_data]
 cases h:b.data.toList<;>simp
theorem fC {k:Int} {a:At} {fl:ByteArray} {nt:Bool} {kids:List NT} (h:cA (.node k a fl nt kids)=0) :
  ((k=1∨k=2)/\kids = []/\fl=⟨#[]⟩/\nt=false/\mI a=0)∨((k=3∨k=4)/\a=At.zero/\fl=⟨#[]⟩/\nt=false)∨(k=5/\a=At.zero/\aI fl.data.toList=true):=by
 rw [cA] at h
 by_cases hf:bT k a fl nt kids.length=false
 ·rw [if_pos hf] at h;cases h
 ·rw [if_neg hf] at h
  have hf':bT k a fl nt kids.length=true:=by simpa using hf
  unfold bT at hf'
  simp only [Bool.and_eq_true,decide_eq_true_eq,Bool.not_eq_true',Bool.or_eq_true,beq_iff_eq,Bool.and_eq_false_iff,Bool.not_eq_false',decide_eq_false_iff_not,bU,Bool.or_eq_false_iff,qJ,beq_eq_false_iff_ne] at hf'
  obtain ⟨⟨⟨⟨h1,h2⟩,h3⟩,h4⟩,h5⟩:=hf'
  split at h
  ·cases h
  ·rename_i h6
   split at h
   ·rename_i h7
    have h7':k=1∨k=2:=by simpa [bU] using h7
    refine Or.inl ⟨h7',?_,?_,?_,h⟩
    ·have : ¬ 0<kids.length:=h3.resolve_left (by rintro ⟨a1,a2⟩;rcases h7' with e | e;exact a1 e;exact a2 e)
     exact List.length_eq_zero_iff.1 (by omega)
    ·exact gK (h5.resolve_left (by omega)).1
    ·exact (h5.resolve_left (by omega)).2
   ·rename_i h7
    have h7' : ¬ (k=1∨k=2):=by simpa [bU] using h7
    have ha:a=At.zero:=by
     rcases h4 with h4 | h4
     ·exact absurd h4 h7'
     ·exact oE.1 h4
    by_cases hk:k=5
    ·refine Or.inr (Or.inr ⟨hk,ha,?_⟩)
     cases hn:aI fl.data.toList
     ·exact absurd ⟨hk,hn⟩ h6
     ·rfl
    ·exact Or.inr (Or.inl ⟨by omega,ha,gK (h5.resolve_left hk).1,(h5.resolve_left hk).2⟩)
theorem gQ (k:Int) (a:At) (hk:k=1∨k=2) (ha:mI a=0):cA (.node k a ⟨#[]⟩ false [])=0:=by
 rcases hk with rfl | rfl
 ·simp [cA,bT,bU,ha]
 ·simp [cA,bT,bU,ha]
theorem kU:lP At.zero=true:=oE.2 rfl
theorem dJ (k:Int) (kids:List NT) (hk:k=3∨k=4):cA (.node k At.zero ⟨#[]⟩ false kids)=0:=by
 rcases hk with rfl | rfl
 ·simp [cA,bT,bU,kU]
 ·simp [cA,bT,bU,kU]
theorem sB (fl:ByteArray) (nt:Bool) (kids:List NT) (h:aI fl.data.toList=true):cA (.node 5 At.zero fl nt kids)=0:=by
 simp [cA,bT,bU,kU,h]
mutual
theorem oA (inc:Int->Int) : ∀ (t:NT) (s d:Int),((bD inc fE s t d).2=true/\(bD inc fE s t d).1=0/\t.ok)∨((bD inc fE s t d).2=false/\(bD inc fE s t d).1≠0/\¬ t.ok)
 | .node k a fl nt kids,s,d=>by
  rw [bD]
  by_cases h:cA (.node k a fl nt kids)=0
  ·have e:(fE s (.node k a fl nt kids) d).2=true:=by simp [fE,h]
   have e1:(fE s (.node k a fl nt kids) d).1=0:=by simp [fE,h]
   rw [if_pos e,e1]
   rcases nA inc kids (inc d) with ⟨h1,h2,h3⟩ | ⟨h1,h2,h3⟩
   ·exact Or.inl ⟨h1,h2,h,h3⟩
   ·exact Or.inr ⟨h1,h2,fun hh=>h3 hh.2⟩
  ·have e : ¬ (fE s (.node k a fl nt kids) d).2=true:=by simp [fE,h]
   rw [if_neg e]
   exact Or.inr ⟨rfl,h,fun hh=>h hh.1⟩
theorem nA (inc:Int->Int) : ∀ (ts:List NT) (d:Int),((bC inc fE 0 ts d).2=true/\(bC inc fE 0 ts d).1=0/\okL ts)∨((bC inc fE 0 ts d).2=false/\(bC inc fE 0 ts d).1≠0/\¬ okL ts)
 | [],d=>Or.inl ⟨by rw [bC],by rw [bC],by rw [okL];trivial⟩
 | t :: ts,d=>by
  rw [bC]
  rcases oA inc t 0 d with ⟨h1,h2,h3⟩ | ⟨h1,h2,h3⟩
  ·rw [if_pos h1,h2]
   rcases nA inc ts d with ⟨h4,h5,h6⟩ | ⟨h4,h5,h6⟩
   ·exact Or.inl ⟨h4,h5,h3,h6⟩
   ·exact Or.inr ⟨h4,h5,fun hh=>h6 hh.2⟩
  ·rw [if_neg (by rw [h1];decide)]
   exact Or.inr ⟨rfl,h2,fun hh=>h3 hh.1⟩
end
theorem fR {d:Int} (h0:0<=d) (h1:d<=100):aH d=d+1:=by
 unfold aH
 unfold Go.RowKit.wrap64
 omega
mutual
theorem oB : ∀ (t:NT) (s d:Int),1<=d->d<=5->(bD aH fN s t d).2=true->(bD aH fN s t d).1=s+t.size/\(bD aH fN s t d).1<=20/\d+t.ht<=5
 | .node k a fl nt kids,s,d,hd,hd5,h=>by
  rw [bD] at h ⊢
  by_cases e:(fN s (.node k a fl nt kids) d).2=true
  ·rw [if_pos e] at h ⊢
   have e':s+1<=20/\d<=4:=by simpa [fN] using e
   rw [fR (by omega) (by omega)] at h ⊢
   obtain ⟨h1,h2,h3⟩:=nB kids (s+1) (d+1) (by omega) (by omega) e'.1 h
   refine ⟨?_,h2,?_⟩
   ·show (bC aH fN (s+1) kids (d+1)).1=_
    rw [h1,NT.size];omega
   ·rw [NT.ht];omega
  ·rw [if_neg e] at h;cases h
theorem nB : ∀ (ts:List NT) (s d:Int),1<=d->d<=5->s<=20->(bC aH fN s ts d).2=true->(bC aH fN s ts d).1=s+bB ts/\(bC aH fN s ts d).1<=20/\d+htL ts<=5
 | [],s,d,hd,hd5,hs,_=>by
  rw [bC,bB,htL];exact ⟨by omega,hs,by omega⟩
 | t :: ts,s,d,hd,hd5,hs,h=>by
  rw [bC] at h ⊢
  by_cases e:(bD aH fN s t d).2=true
  ·rw [if_pos e] at h ⊢
   obtain ⟨h1,h2,h3⟩:=oB t s d hd hd5 e
   obtain ⟨h4,h5,h6⟩:=nB ts _ d hd hd5 h2 h
   refine ⟨?_,h5,?_⟩
   ·rw [h4,h1,bB];omega
   ·rw [htL];omega
  ·rw [if_neg e] at h;cases h
end
theorem iJ {t:NT} (h:dE t=false):t.size<=20/\t.ht<=4:=by
 unfold dE at h
 obtain ⟨h1,h2,h3⟩:=oB t 0 1 (by decide) (by decide) (by simpa using h)
 omega
theorem cN {t:NT}:cS t=0↔dE t=false/\t.ok:=by
 unfold cS
 cases h:dE t
 ·rw [if_neg (by decide)]
  rcases oA aH t 0 1 with ⟨h1,h2,h3⟩ | ⟨h1,h2,h3⟩
  ·exact ⟨fun _=>⟨rfl,h3⟩,fun _=>h2⟩
  ·exact ⟨fun e=>absurd e h2,fun e=>absurd e.2 h3⟩
 ·rw [if_pos rfl]
  exact ⟨fun e=>absurd e (by decide),fun e=>absurd e.1 (by decide)⟩
def qX (c:UInt8):Bool:=okB c || [43,45,58,60,61,62].contains c
theorem fZ {c:UInt8} (h:qX c=true):c≠32/\c≠33/\c≠40/\c≠41/\c≠63/\c≠124:=by
 refine ⟨?_,?_,?_,?_,?_,?_⟩<;>rintro rfl<;>revert h<;>decide
theorem iT {c:UInt8} (h:okB c=true):qX c=true:=by simp [qX,h]
theorem mX {i:Int} (h0:0<=i) (h1:i<100) : ∀ c∈Go.Lib.itoa i,qX c=true:=by
 obtain ⟨j,rfl⟩:=Int.eq_ofNat_of_zero_le h0
 rw [cT]
 exact fun c hc=>iT (tK (by omega) c hc)
theorem zY (op:Int) : ∀ c∈eL op,qX c=true:=by
 unfold eL
 split
 ·decide
 ·split
  ·decide
  ·split
   ·decide
   ·decide
theorem kC {a:At} (h:mI a=0) : ∀ c∈cZ a,qX c=true:=by
 obtain ⟨h1,h2,h3,h4,h5,h6,h7,h8⟩:=hP h
 have hn : ∀ c∈a.n.data.toList,qX c=true:=fun c hc=>iT (iS h1 c hc)
 have hf : ∀ c∈a.f.data.toList,qX c=true:=by
  rcases h2 with h2 | h2
  ·rw [h2];intro c hc;cases hc
  ·exact fun c hc=>iT (iS h2 c hc)
 intro c hc
 unfold cZ bE at hc
 rw [List.mem_append,List.mem_append,List.mem_append] at hc
 rcases hc with ((hc | hc) | hc) | hc
 ·exact hn c hc
 ·split at hc
  ·cases hc
  ·rename_i h0
   rcases List.mem_append.1 hc with hc | hc
   ·exact zY _ c hc
   ·have:=kE h0 h7
    exact mX (by omega) (by omega) c hc
 ·split at hc
  ·cases hc
  ·rcases List.mem_cons.1 hc with rfl | hc
   ·decide
   ·exact mX h5 (by omega) c hc
 ·split at hc
  ·cases hc
  ·rcases List.mem_cons.1 hc with rfl | hc
   ·split<;>decide
   ·exact hf c hc
theorem xH {a:At} (h:mI a=0) : ∃ c l,cZ a=c :: l:=by
 obtain ⟨h1,_⟩:=hP h
 cases hn:a.n.data.toList with
 | nil=>rw [hn] at h1;exact absurd rfl (iR h1)
 | cons c l=>exact ⟨c,_,by unfold cZ bE;rw [hn];rfl⟩
theorem pF {l:List UInt8} (h : ∀ c∈l,c≠63):Go.Lib.hasSuffix l [63]=false:=by
 cases e:Go.Lib.hasSuffix l [63]
 ·rfl
 ·unfold Go.Lib.hasSuffix at e
  have:=List.isSuffixOf_iff_suffix.1 e
  exact absurd rfl (h 63 (this.subset (by simp)))
theorem lK (l:List UInt8):Go.Lib.hasSuffix (l ++ [63]) [63]=true/\Go.Lib.trimSuffix (l ++ [63]) [63]=l:=by
 have h:Go.Lib.hasSuffix (l ++ [63]) [63]=true:=List.isSuffixOf_iff_suffix.2 (List.suffix_append _ _)
 refine ⟨h,?_⟩
 unfold Go.Lib.trimSuffix
 rw [if_pos h]
 simp
theorem sT {l:List UInt8} (h:Go.Lib.hasSuffix l [63]=true):Go.Lib.trimSuffix l [63] ++ [63]=l:=by
 obtain ⟨r,rfl⟩:=List.isSuffixOf_iff_suffix.1 h
 rw [(lK r).2]
theorem nS {l:List UInt8} (h : ∀ c∈l,c≠33):Go.Lib.hasPrefix l [33]=false/\Go.Lib.trimPrefix l [33]=l:=by
 have e:Go.Lib.hasPrefix l [33]=false:=by
  cases l with
  | nil=>rfl
  | cons c l=>
   have:=h c (by simp)
   simp [Go.Lib.hasPrefix,List.isPrefixOf,Ne.symm this]
 refine ⟨e,?_⟩
 unfold Go.Lib.trimPrefix
 rw [if_neg (by rw [e];decide)]
theorem iG (l:List UInt8):Go.Lib.hasPrefix (33 :: l) [33]=true/\Go.Lib.trimPrefix (33 :: l) [33]=l:=by
 have e:Go.Lib.hasPrefix (33 :: l) [33]=true:=by simp [Go.Lib.hasPrefix,List.isPrefixOf]
 refine ⟨e,?_⟩
 unfold Go.Lib.trimPrefix
 rw [if_pos e];rfl
theorem lF (l:List UInt8):(if Go.Lib.hasPrefix l [33]=true then [33] else [])++Go.Lib.trimPrefix l [33]=l:=by
 cases h:Go.Lib.hasPrefix l [33]
 ·unfold Go.Lib.trimPrefix
  rw [h];rfl
 ·cases l with
  | nil=>cases h
  | cons c l=>
   have:(33:UInt8)=c:=by simpa [Go.Lib.hasPrefix,List.isPrefixOf] using h
   subst this
   rw [(iG l).2];rfl
theorem vQ {a:At} (h:mI a=0):gT (cZ a)=0/\pZ (cZ a)=a:=by
 obtain ⟨p0,p1,p2,p3,p4,p5,p6⟩:=uH h
 refine ⟨p0,?_⟩
 unfold pZ cZ
 rw [p1,p2,p3,p4,p5,p6,bM,bM]
theorem xG {s:List UInt8} (h:gT s=0):mI (pZ s)=0/\cZ (pZ s)=s:=by
 have:=uO h
 unfold mI cZ pZ
 simpa using this
theorem wR {l:List UInt8} (h:aI l=true) : ∀ c∈l,c≠33:=fun c hc=>(fZ (iT (iS h c hc))).2.1
theorem pC {a:At} (h:mI a=0):dS (cZ a)=some (.node 1 a ⟨#[]⟩ false [])/\dS (33 :: cZ a)=some (.node 2 a ⟨#[]⟩ false []):=by
 obtain ⟨h1,h2⟩:=nS (l:=cZ a) (fun c hc=>(fZ (kC h c hc)).2.1)
 obtain ⟨h3,h4⟩:=iG (cZ a)
 obtain ⟨p0,p1⟩:=vQ h
 unfold dS
 rw [h1,h2,h3,h4,if_pos p0,if_pos p0,p1]
 exact ⟨rfl,rfl⟩
theorem wA {fl:List UInt8} (nt:Bool) (h:aI fl=true):Go.Lib.hasSuffix ((if nt then [33] else [])++(fl ++ [63])) [63]=true/\eX ((if nt then [33] else [])++(fl ++ [63]))=fl/\qL ((if nt then [33] else [])++(fl ++ [63]))=nt:=by
 rw [← List.append_assoc]
 obtain ⟨h1,h2⟩:=lK ((if nt then [33] else [])++fl)
 unfold eX qL
 rw [h2]
 cases nt
 ·obtain ⟨h3,h4⟩:=nS (wR h)
  exact ⟨h1,h4,h3⟩
 ·obtain ⟨h3,h4⟩:=iG fl
  exact ⟨h1,h4,h3⟩
theorem tR {wd:aX} (h:Go.Lib.hasSuffix wd [63]=true):(if qL wd=true then [33] else [])++(eX wd ++ [63])=wd:=by
 unfold qL eX
 rw [← List.append_assoc,lF,sT h]
theorem pN {a:At} (h:mI a=0) (l:List UInt8) (hl:l=cZ a∨l=33 :: cZ a):Go.Lib.hasSuffix l [63]=false/\l ≠ [124,124]/\l ≠ [40]/\l ≠ [41]:=by
 have ht:=kC h
 obtain ⟨c,r,e⟩:=xH h
 have hc:=fZ (ht c (by rw [e];simp))
 rcases hl with rfl | rfl
 ·refine ⟨pF fun x hx=>(fZ (ht x hx)).2.2.2.2.1,?_,?_,?_⟩
  ·rw [e];intro h';injection h' with h1 _;exact hc.2.2.2.2.2 h1
  ·rw [e];intro h';injection h' with h1 _;exact hc.2.2.1 h1
  ·rw [e];intro h';injection h' with h1 _;exact hc.2.2.2.1 h1
 ·refine ⟨pF fun x hx=> ?_,?_,?_,?_⟩
  ·rcases List.mem_cons.1 hx with rfl | hx
   ·decide
   ·exact (fZ (ht x hx)).2.2.2.2.1
  ·intro h';injection h' with h1 _;revert h1;decide
  ·intro h';injection h' with h1 _;revert h1;decide
  ·intro h';injection h' with h1 _;revert h1;decide
theorem pR : ∀ t:NT,∃ wd r,t.words=wd :: r
 | .node k a fl nt kids=>by
  rw [NT.words]
  split
  ·exact ⟨_,_,rfl⟩
  ·split
   ·exact ⟨_,_,rfl⟩
   ·split
    ·exact ⟨_,_,rfl⟩
    ·split
     ·exact ⟨_,_,rfl⟩
     ·exact ⟨_,_,rfl⟩
theorem oC : ∀ ts:List NT,ts.length<=(aV ts).length
 | []=>Nat.zero_le _
 | t :: ts=>by
  obtain ⟨wd,r,e⟩:=pR t
  have:=oC ts
  rw [aV,List.length_append,e]
  simp only [List.length_cons];omega
mutual
theorem sO : ∀ (t:NT) (g:Nat) (ws:List aX),t.ok->t.ht<=g->∃ wd r,t.words=wd :: r/\wd ≠ [41]/\aK g wd (r++ws)=some (t,ws)
 | .node k a fl nt kids,g,ws,hok,hg=>by
  rw [NT.ok] at hok
  rw [NT.ht] at hg
  obtain ⟨g,rfl⟩ : ∃ g',g=g'+1:=⟨g-1,by omega⟩
  rw [NT.words]
  have hkids : ∀ (mk:List NT->NT) (ws:List aX),cB (aK g) mk (aV kids ++ [[41]]++ws)=some (mk kids,ws):=fun mk ws=>by
   unfold cB
   have:=nE kids g [] ws ((aV kids ++ [[41]]++ws).length+1) hok.2 (by omega) (by have:=oC kids;simp only [List.length_append,List.length_cons];omega)
   rw [List.append_assoc,List.singleton_append]
   rw [List.append_assoc,List.singleton_append] at this
   rw [this];rfl
  rcases fC hok.1 with ⟨hk,rfl,rfl,rfl,ha⟩ | ⟨hk,rfl,rfl,rfl⟩ | ⟨rfl,rfl,hn⟩
  ·rcases hk with rfl | rfl
   ·obtain ⟨w1,w2,w3,w4⟩:=pN ha _ (Or.inl rfl)
    refine ⟨cZ a,[],by rw [if_pos rfl],w4,?_⟩
    rw [aK,if_neg (by rw [w1];decide),if_neg w2,if_neg w3,(pC ha).1];rfl
   ·obtain ⟨w1,w2,w3,w4⟩:=pN ha _ (Or.inr rfl)
    refine ⟨33 :: cZ a,[],by rw [if_neg (by decide),if_pos rfl],w4,?_⟩
    rw [aK,if_neg (by rw [w1];decide),if_neg w2,if_neg w3,(pC ha).2];rfl
  ·rcases hk with rfl | rfl
   ·refine ⟨[40],aV kids ++ [[41]],by rw [if_neg (by decide),if_neg (by decide),if_neg (by decide),if_neg (by decide)];rfl,by decide,?_⟩
    rw [aK,if_neg (by decide),if_neg (by decide),if_pos rfl,hkids]
   ·refine ⟨[124,124],[40] :: (aV kids ++ [[41]]),by rw [if_neg (by decide),if_neg (by decide),if_pos rfl];rfl,by decide,?_⟩
    rw [aK,if_neg (by decide),if_pos rfl,List.cons_append,fY,if_pos rfl,hkids]
  ·obtain ⟨f1,f2,f3⟩:=wA nt hn
   refine ⟨(if nt then [33] else [])++(fl.data.toList ++ [63]),[40] :: (aV kids ++ [[41]]),by rw [if_neg (by decide),if_neg (by decide),if_neg (by decide),if_pos rfl];rfl,?_,?_⟩
   ·intro e;rw [e] at f1;revert f1;decide
   ·rw [aK,if_pos f1,f2,f3,if_pos hn,List.cons_append,fY,if_pos rfl,hkids,bM]
theorem nE : ∀ (ts:List NT) (g:Nat) (acc:List NT) (ws:List aX) (m:Nat),okL ts->htL ts<=g->ts.length<m->cF (aK g) m acc (aV ts ++ [[41]]++ws)=some (acc++ts,ws)
 | [],g,acc,ws,m,_,_,hm=>by
  obtain ⟨m,rfl⟩ : ∃ m',m=m'+1:=⟨m-1,by simp at hm;omega⟩
  rw [aV,List.nil_append,List.singleton_append,cF,if_pos rfl,List.append_nil]
 | t :: ts,g,acc,ws,m,hok,hg,hm=>by
  rw [okL] at hok
  rw [htL] at hg
  obtain ⟨m,rfl⟩ : ∃ m',m=m'+1:=⟨m-1,by simp only [List.length_cons] at hm;omega⟩
  obtain ⟨wd,r,e,hne,hr⟩:=sO t g (aV ts ++ [[41]]++ws) hok.1 (by omega)
  rw [aV,e,List.append_assoc,List.append_assoc,List.cons_append,cF,if_neg hne,← List.append_assoc (aV ts),hr]
  show cF (aK g) m (acc ++ [t]) (aV ts ++ [[41]]++ws)=_
  rw [nE ts g (acc ++ [t]) ws m hok.2 (by omega) (by simp only [List.length_cons] at hm;omega),List.append_assoc,List.singleton_append]
end
theorem pB {rd:aX->List aX->Option (NT × List aX)} {g:Nat} (hrd : ∀ wd ws t rest,rd wd ws=some (t,rest)->wd :: ws=t.words++rest/\t.ok/\t.ht<=g) :
  ∀ (m:Nat) (acc:List NT) (ws:List aX) (ks:List NT) (rest:List aX),cF rd m acc ws=some (ks,rest)->∃ new,ks=acc++new/\ws=aV new++([41] :: rest)/\okL new/\htL new<=g
 | 0,_,_,_,_,h=>by cases h
 | _+1,_,[],_,_,h=>by cases h
 | m+1,acc,wd :: ws,ks,rest,h=>by
  rw [cF] at h
  split at h
  ·rename_i e
   cases h
   exact ⟨[],by simp,by rw [e,aV];rfl,trivial,Nat.zero_le _⟩
  ·split at h
   ·cases h
   ·rename_i r hr
    obtain ⟨t,r2⟩:=r
    obtain ⟨h1,h2,h3⟩:=hrd wd ws t r2 hr
    obtain ⟨new,e1,e2,e3,e4⟩:=pB hrd m (acc ++ [t]) r2 ks rest h
    refine ⟨t :: new,by rw [e1,List.append_assoc];rfl,?_,?_,?_⟩
    ·rw [h1,e2,aV,List.append_assoc]
    ·rw [okL];exact ⟨h2,e3⟩
    ·rw [htL];omega
theorem vL : ∀ (g:Nat) (wd:aX) (ws:List aX) (t:NT) (rest:List aX),aK g wd ws=some (t,rest)->wd :: ws=t.words++rest/\t.ok/\t.ht<=g
 | 0,_,_,_,_,h=>by cases h
 | g+1,wd,ws,t,rest,h=>by
  have hk : ∀ (mk:List NT->NT) (ws:List aX),cB (aK g) mk ws=some (t,rest)->∃ ks,t=mk ks/\ws=aV ks++([41] :: rest)/\okL ks/\htL ks<=g:=fun mk ws h=>by
   unfold cB at h
   obtain ⟨⟨ks,r⟩,h1,h2⟩:=Option.map_eq_some_iff.1 h
   cases h2
   obtain ⟨new,e1,e2,e3,e4⟩:=pB (vL g) _ _ _ _ _ h1
   rw [List.nil_append] at e1
   subst e1
   exact ⟨_,rfl,e2,e3,e4⟩
  have ho : ∀ (mk:List NT->NT) (ws:List aX),fY (aK g) mk ws=some (t,rest)->∃ ks,t=mk ks/\ws = [40] :: (aV ks++([41] :: rest))/\okL ks/\htL ks<=g:=fun mk ws h=>by
   cases ws with
   | nil=>cases h
   | cons o ws=>
    rw [fY] at h
    split at h
    ·rename_i e
     obtain ⟨ks,h1,h2,h3,h4⟩:=hk mk ws h
     exact ⟨ks,h1,by rw [e,h2],h3,h4⟩
    ·cases h
  rw [aK] at h
  split at h
  ·rename_i h1
   split at h
   ·rename_i h2
    obtain ⟨ks,rfl,e2,e3,e4⟩:=ho _ _ h
    refine ⟨?_,?_,?_⟩
    ·rw [NT.words,if_neg (by decide),if_neg (by decide),if_neg (by decide),if_pos rfl]
     show wd :: ws = [(if qL wd=true then [33] else [])++(eX wd ++ [63])]++([40] :: (aV ks ++ [[41]]))++rest
     rw [tR h1,e2];simp
    ·rw [NT.ok];exact ⟨sB _ _ _ (by simpa using h2),e3⟩
    ·rw [NT.ht];omega
   ·cases h
  ·split at h
   ·rename_i h1 h2
    obtain ⟨ks,rfl,e2,e3,e4⟩:=ho _ _ h
    refine ⟨?_,?_,?_⟩
    ·rw [NT.words,if_neg (by decide),if_neg (by decide),if_pos rfl,h2,e2];simp
    ·rw [NT.ok];exact ⟨dJ 4 _ (Or.inr rfl),e3⟩
    ·rw [NT.ht];omega
   ·split at h
    ·rename_i h1 h2 h3
     obtain ⟨ks,rfl,e2,e3,e4⟩:=hk _ _ h
     refine ⟨?_,?_,?_⟩
     ·rw [NT.words,if_neg (by decide),if_neg (by decide),if_neg (by decide),if_neg (by decide),h3,e2];simp
     ·rw [NT.ok];exact ⟨dJ 3 _ (Or.inl rfl),e3⟩
     ·rw [NT.ht];omega
    ·obtain ⟨t',h1,h2⟩:=Option.map_eq_some_iff.1 h
     cases h2
     unfold dS at h1
     split at h1
     ·rename_i hp
      obtain ⟨hc,ht⟩:=xG hp
      have hb:=lF wd
      cases hx:Go.Lib.hasPrefix wd [33]
      ·rw [hx] at h1 hb
       cases h1
       refine ⟨?_,?_,?_⟩
       ·have hb':Go.Lib.trimPrefix wd [33]=wd:=by simpa using hb
        rw [NT.words,if_pos (by decide),ht,hb'];rfl
       ·rw [NT.ok];exact ⟨gQ _ _ (Or.inl rfl) hc,trivial⟩
       ·simp [NT.ht,htL]
      ·rw [hx] at h1 hb
       cases h1
       refine ⟨?_,?_,?_⟩
       ·have hb':33 :: Go.Lib.trimPrefix wd [33]=wd:=by simpa using hb
        rw [NT.words,if_neg (by decide),if_pos (by decide),ht,hb'];rfl
       ·rw [NT.ok];exact ⟨gQ _ _ (Or.inr rfl) hc,trivial⟩
       ·simp [NT.ht,htL]
     ·cases h1
end Go.Proofs.YtonlloiemgdfkaaGreatDoor
namespace Go.Proofs.YtonlloiemgdfkaaGreatDoor
theorem tV : ∀ (x r:List UInt8),(∀ c∈x,c≠32)->Go.Lib.index (x++32 :: r) [32]=x.length
 | [],r,_=>by simp [Go.Lib.index,List.isPrefixOf]
 | c :: x,r,h=>by
  have hc:=h c (by simp)
  have ih:=tV x r (fun d hd=>h d (by simp [hd]))
  rw [List.cons_append,Go.Lib.index,if_neg (by simp [List.isPrefixOf,Ne.symm hc]),ih,if_neg (by simp)]
  simp
theorem rS : ∀ x:List UInt8,(∀ c∈x,c≠32)->Go.Lib.index x [32] = -1
 | [],_=>by simp [Go.Lib.index]
 | c :: x,h=>by
  have hc:=h c (by simp)
  rw [Go.Lib.index,if_neg (by simp [List.isPrefixOf,Ne.symm hc]),rS x (fun d hd=>h d (by simp [hd]))]
  rfl
theorem yV (x:aX):Go.Lib.join [x] [32]=x:=Go.Lib.join_one x _
theorem vD (x y:aX) (r:List aX):Go.Lib.join (x :: y :: r) [32]=x++32 :: Go.Lib.join (y :: r) [32]:=by
 simp [Go.Lib.join,List.intercalate,List.intersperse]
theorem xE (k:Nat) (x r:List UInt8) (h : ∀ c∈x,c≠32):Go.Lib.splitK [32] 0 (k+1) (x++32 :: r)=x :: Go.Lib.splitK [32] 0 k r:=by
 rw [Go.Lib.splitK,tV x r h,if_neg (by simp)]
 simp
theorem sS (k:Nat) (x:List UInt8) (h : ∀ c∈x,c≠32):Go.Lib.splitK [32] 0 k x = [x]:=by
 cases k with
 | zero=>rfl
 | succ k=>rw [Go.Lib.splitK,rS x h,if_pos (by decide)]
theorem nU : ∀ (ws:List aX),ws ≠ []->(∀ x∈ws,∀ c∈x,c≠32)->Go.Lib.split (Go.Lib.join ws [32]) [32]=ws
 | [],h,_=>absurd rfl h
 | [x],_,h=>by
  rw [yV];unfold Go.Lib.split
  exact sS _ x (h x (by simp))
 | x :: y :: r,_,h=>by
  have hx:=h x (by simp)
  have ih:=nU (y :: r) (by simp) (fun z hz=>h z (by simp at hz ⊢;exact Or.inr hz))
  rw [vD]
  unfold Go.Lib.split at ih ⊢
  rw [Go.Lib.count_hit (i:=x.length) (by simp) (tV x _ hx),Nat.add_comm,xE _ _ _ hx]
  have e:List.drop (x.length + [(32:UInt8)].length) (x++32 :: Go.Lib.join (y :: r) [32])=Go.Lib.join (y :: r) [32]:=by
   rw [show x++32 :: Go.Lib.join (y :: r) [32]=(x ++ [32])++Go.Lib.join (y :: r) [32] by simp]
   rw [show x.length + [(32:UInt8)].length=(x ++ [32]).length by simp]
   exact List.drop_left
  rw [e,ih]
theorem wQ {l:List UInt8} (h:aI l=true) : ∀ c∈l,c≠32:=fun c hc=>(fZ (iT (iS h c hc))).1
mutual
theorem oD : ∀ (t:NT),t.ok->∀ x∈t.words,∀ c∈x,c≠32
 | .node k a fl nt kids,hok,x,hx=>by
  rw [NT.ok] at hok
  rw [NT.words] at hx
  have hend : ∀ l:List aX,x ∈ [40] :: (aV kids ++ [[41]])->∀ c∈x,c≠32:=fun _ hx=>by
   rcases List.mem_cons.1 hx with rfl | hx
   ·decide
   ·rcases List.mem_append.1 hx with hx | hx
    ·exact lN kids hok.2 x hx
    ·rw [List.mem_singleton.1 hx];decide
  rcases fC hok.1 with ⟨hk,rfl,rfl,rfl,ha⟩ | ⟨hk,rfl,rfl,rfl⟩ | ⟨rfl,rfl,hn⟩
  ·have ht:=kC ha
   rcases hk with rfl | rfl
   ·rw [if_pos rfl] at hx
    rw [List.mem_singleton.1 hx]
    exact fun c hc=>(fZ (ht c hc)).1
   ·rw [if_neg (by decide),if_pos rfl] at hx
    rw [List.mem_singleton.1 hx]
    intro c hc
    rcases List.mem_cons.1 hc with rfl | hc
    ·decide
    ·exact (fZ (ht c hc)).1
  ·rcases hk with rfl | rfl
   ·rw [if_neg (by decide),if_neg (by decide),if_neg (by decide),if_neg (by decide)] at hx
    exact hend [] hx
   ·rw [if_neg (by decide),if_neg (by decide),if_pos rfl] at hx
    rcases List.mem_append.1 hx with hx | hx
    ·rw [List.mem_singleton.1 hx];decide
    ·exact hend [] hx
  ·rw [if_neg (by decide),if_neg (by decide),if_neg (by decide),if_pos rfl] at hx
   rcases List.mem_append.1 hx with hx | hx
   ·rw [List.mem_singleton.1 hx]
    intro c hc
    rcases List.mem_append.1 hc with hc | hc
    ·split at hc
     ·rw [List.mem_singleton.1 hc];decide
     ·cases hc
    ·rcases List.mem_append.1 hc with hc | hc
     ·exact wQ hn c hc
     ·rw [List.mem_singleton.1 hc];decide
   ·exact hend [] hx
theorem lN : ∀ (ts:List NT),okL ts->∀ x∈aV ts,∀ c∈x,c≠32
 | [],_,x,hx=>by rw [aV] at hx;cases hx
 | t :: ts,hok,x,hx=>by
  rw [okL] at hok
  rw [aV] at hx
  rcases List.mem_append.1 hx with hx | hx
  ·exact oD t hok.1 x hx
  ·exact lN ts hok.2 x hx
end
def NT.text (t:NT):List UInt8:=Go.Lib.join t.words [32]
def vJ:List aX->Option NT
 | []=>none
 | wd :: ws=>match aK 4 wd ws with
  | some (t,[])=>some t
  | _=>none
def fH (l:List UInt8):Option NT:=vJ (Go.Lib.split l [32])
def rdE (l:List UInt8):Int:=if 20000<l.length then 2 else match fH l with
 | none=>1
 | some t=>cS t
theorem sM {t:NT} (h:t.ok) (hh:t.ht<=4):fH t.text=some t:=by
 obtain ⟨wd,r,e,_,hr⟩:=sO t 4 [] h hh
 unfold fH NT.text
 rw [nU t.words (by rw [e];simp) (oD t h),e,vJ]
 rw [List.append_nil] at hr
 rw [hr]
def fJ:List aX->Nat
 | []=>0
 | x :: r=>x.length+1+fJ r
theorem hY : ∀ a b:List aX,fJ (a++b)=fJ a+fJ b
 | [],b=>by simp [fJ]
 | x :: a,b=>by rw [List.cons_append,fJ,fJ,hY a b];omega
theorem rX : ∀ ws:List aX,(Go.Lib.join ws [32]).length<=fJ ws
 | []=>by simp [Go.Lib.join,fJ]
 | [x]=>by rw [yV,fJ];omega
 | x :: y :: r=>by
  have ih:=rX (y :: r)
  rw [vD,fJ,List.length_append,List.length_cons];omega
mutual
theorem nG : ∀ t:NT,t.ok->fJ t.words<=110*t.size/\t.words.length<=3*t.size
 | .node k a fl nt kids,hok=>by
  rw [NT.ok] at hok
  rw [NT.words,NT.size]
  obtain ⟨ih,ih2⟩:=lD kids hok.2
  have e:fJ ([40] :: (aV kids ++ [[41]]))=fJ (aV kids)+4:=by rw [fJ,hY];simp only [fJ,List.length_cons,List.length_nil];omega
  rcases fC hok.1 with ⟨hk,rfl,rfl,rfl,ha⟩ | ⟨hk,rfl,rfl,rfl⟩ | ⟨rfl,rfl,hn⟩
  ·have ht:(cZ a).length<=100:=sV ha
   rcases hk with rfl | rfl
   ·rw [if_pos rfl];simp only [fJ,List.length_cons,List.length_nil];omega
   ·rw [if_neg (by decide),if_pos rfl];simp only [fJ,List.length_cons,List.length_nil];omega
  ·rcases hk with rfl | rfl
   ·rw [if_neg (by decide),if_neg (by decide),if_neg (by decide),if_neg (by decide),List.nil_append]
    rw [e];simp only [List.length_cons,List.length_append,List.length_nil];omega
   ·rw [if_neg (by decide),if_neg (by decide),if_pos rfl,hY,e];simp only [fJ,List.length_cons,List.length_append,List.length_nil];omega
  ·have h8:=jW hn
   rw [if_neg (by decide),if_neg (by decide),if_neg (by decide),if_pos rfl,hY,e]
   simp only [fJ,List.length_cons,List.length_append,List.length_nil]
   have:(if nt=true then [(33:UInt8)] else []).length<=1:=by cases nt<;>simp
   omega
theorem lD : ∀ ts:List NT,okL ts->fJ (aV ts)<=110*bB ts/\(aV ts).length<=3*bB ts
 | [],_=>by rw [aV,fJ,bB];exact ⟨by omega,by simp⟩
 | t :: ts,hok=>by
  rw [okL] at hok
  obtain ⟨h1,h2⟩:=nG t hok.1
  obtain ⟨h3,h4⟩:=lD ts hok.2
  rw [aV,hY,bB,List.length_append];omega
end
theorem uQ {t:NT} (h:cS t=0):t.text.length<=2200/\t.words.length<=60:=by
 obtain ⟨h1,h2⟩:=cN.1 h
 have:=iJ h1
 obtain ⟨h3,h4⟩:=nG t h2
 have h5:=rX t.words
 unfold NT.text;omega
theorem zP {t:NT} (h:cS t=0):rdE t.text=0/\fH t.text=some t:=by
 obtain ⟨h1,h2⟩:=cN.1 h
 have e:=sM h2 (iJ h1).2
 refine ⟨?_,e⟩
 unfold rdE
 have:=uQ h
 rw [if_neg (by omega),e]
 exact h
end Go.Proofs.YtonlloiemgdfkaaGreatDoor
