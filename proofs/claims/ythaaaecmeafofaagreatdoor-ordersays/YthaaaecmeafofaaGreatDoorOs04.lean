/- Steps of the proof: NeedText. -/
import Derived.Test.YthaaaecmeafofaaGreatDoorOs03
import Derived.Lib.Split
import Derived.Lib.Join
import Derived.Lib.SplitLaws
set_option maxHeartbeats 16000000
set_option maxRecDepth 100000
namespace Go.Proofs.YthaaaecmeafofaaGreatDoor
structure At where
 n:ByteArray
 op:Int
 v:Int
 sl:Int
 f:ByteArray
 on:Bool
inductive NT where
 | node (k:Int) (a:At) (fl:ByteArray) (nt:Bool) (kids:List NT)
def At.zero:At:=⟨⟨#[]⟩,0,0,0,⟨#[]⟩,false⟩
def NT.zero:NT:= .node 0 At.zero ⟨#[]⟩ false []
def NT.kids:NT->List NT
 | .node _ _ _ _ ks=>ks
def mA (a:At):Int:=chk a.n.data.toList a.op a.v a.sl a.f.data.toList a.on
def eD (a:At):List UInt8:=bR a.n.data.toList a.op a.v a.sl a.f.data.toList a.on
def kI (a:At):Bool:=hY a.n a.op a.v a.sl a.f a.on ⟨#[]⟩ 0 0 0 ⟨#[]⟩ false
def bL (k:Int):Bool:=(k==1)||(k==2)
def bJ (k:Int) (a:At) (fl:ByteArray) (nt:Bool) (many:Nat):Bool:=
 decide (1<=k)&&decide (k<=5) && !(bL k&&decide (0<many)) && !(!bL k && !kI a)&&((k==5)||(fl.toList.isEmpty && !nt))
def aU:NT->Int
 | .node k a fl nt kids=>if bJ k a fl nt kids.length=false then 4 else if k=5/\aI fl.data.toList=false then 1 else if bL k=true then mA a else 0
mutual
def bM {σ:Type} (inc:Int->Int) (f:σ->NT->Int->σ × Bool):σ->NT->Int->σ × Bool
 | s,.node k a fl nt kids,d=>if (f s (.node k a fl nt kids) d).2=true then bD inc f (f s (.node k a fl nt kids) d).1 kids (inc d) else ((f s (.node k a fl nt kids) d).1,false)
def bD {σ:Type} (inc:Int->Int) (f:σ->NT->Int->σ × Bool):σ->List NT->Int->σ × Bool
 | s,[],_=>(s,true)
 | s,t :: ts,d=>if (bM inc f s t d).2=true then bD inc f (bM inc f s t d).1 ts d else ((bM inc f s t d).1,false)
end
mutual
def NT.size:NT->Nat
 | .node _ _ _ _ kids=>1+aS kids
def aS:List NT->Nat
 | []=>0
 | t :: ts=>t.size+aS ts
end
mutual
def NT.ht:NT->Nat
 | .node _ _ _ _ kids=>1+htL kids
def htL:List NT->Nat
 | []=>0
 | t :: ts=>max t.ht (htL ts)
end
mutual
def NT.ok:NT->Prop
 | .node k a fl nt kids=>aU (.node k a fl nt kids)=0/\okL kids
def okL:List NT->Prop
 | []=>True
 | t :: ts=>t.ok/\okL ts
end
abbrev bH:=List UInt8
mutual
def NT.words:NT->List bH
 | .node k a fl nt kids=>
  if k=1 then [eD a] else if k=2 then [33 :: eD a]
  else (if k=4 then [[124,124]] else if k=5 then [(if nt then [33] else [])++(fl.data.toList ++ [63])] else [])++([40] :: (bF kids ++ [[41]]))
def bF:List NT->List bH
 | []=> []
 | t :: ts=>t.words++bF ts
end
def sU (s:List UInt8):At:=⟨⟨(nmL s).toArray⟩,opV (veL s),lS (veL s),fX (slL s),⟨((flL s).drop 1).toArray⟩,onV (flL s)⟩
def eX (wd:bH):Option NT:=
 if iX (Go.Lib.trimPrefix wd [33])=0 then some (.node (if Go.Lib.hasPrefix wd [33] then 2 else 1) (sU (Go.Lib.trimPrefix wd [33])) ⟨#[]⟩ false []) else none
def gL (wd:bH):List UInt8:=Go.Lib.trimPrefix (Go.Lib.trimSuffix wd [63]) [33]
def tG (wd:bH):Bool:=Go.Lib.hasPrefix (Go.Lib.trimSuffix wd [63]) [33]
def dL (rd:bH->List bH->Option (NT × List bH)):Nat->List NT->List bH->Option (List NT × List bH)
 | 0,_,_=>none
 | _+1,_,[]=>none
 | m+1,acc,wd :: ws=>if wd = [41] then some (acc,ws) else match rd wd ws with
  | none=>none
  | some r=>dL rd m (acc ++ [r.1]) r.2
def dB (rd:bH->List bH->Option (NT × List bH)) (mk:List NT->NT) (ws:List bH):Option (NT × List bH):=
 (dL rd (ws.length+1) [] ws).map fun r=>(mk r.1,r.2)
def iA (rd:bH->List bH->Option (NT × List bH)) (mk:List NT->NT):List bH->Option (NT × List bH)
 | []=>none
 | o :: ws=>if o = [40] then dB rd mk ws else none
def aQ:Nat->bH->List bH->Option (NT × List bH)
 | 0,_,_=>none
 | g+1,wd,ws=>
  if Go.Lib.hasSuffix wd [63]=true then
   if aI (gL wd)=true then iA (aQ g) (.node 5 At.zero ⟨(gL wd).toArray⟩ (tG wd)) ws else none
  else if wd = [124,124] then iA (aQ g) (.node 4 At.zero ⟨#[]⟩ false) ws
  else if wd = [40] then dB (aQ g) (.node 3 At.zero ⟨#[]⟩ false) ws
  else (eX wd).map fun t=>(t,ws)
def aK (d:Int):Int:=Go.RowKit.wrap64 (d+1)
def fN (s:Int) (_:NT) (d:Int):Int × Bool:=(s+1,decide (s+1<=20)&&decide (d<=4))
def fE (_:Int) (t:NT) (_:Int):Int × Bool:=(aU t,aU t==0)
def cX (t:NT):Bool:= !(bM aK fN 0 t 1).2
def cJ (t:NT):Int:=if cX t=true then 2 else (bM aK fE 0 t 1).1
end Go.Proofs.YthaaaecmeafofaaGreatDoor
namespace Go.Proofs.YthaaaecmeafofaaGreatDoor
theorem gJ {n m:ByteArray} (h:n.data.toList=m.data.toList):n=m:=by
 cases n;cases m;simp at h;rw [h]
theorem cB (n:ByteArray):(⟨n.data.toList.toArray⟩:ByteArray)=n:=gJ (by simp)
theorem iQ {n:ByteArray} (h:n.data.toList = []):n=⟨#[]⟩:=gJ (by rw [h])
theorem qX {a:At}:kI a=true↔a=At.zero:=by
 unfold kI
 rw [xV]
 constructor
 ·rintro ⟨h1,h2,h3,h4,h5,h6⟩
  obtain ⟨n,op,v,sl,f,on⟩:=a
  simp only at h1 h2 h3 h4 h5 h6
  rw [iQ h1,h2,h3,h4,iQ h5,h6]
  rfl
 ·rintro rfl
  exact ⟨rfl,rfl,rfl,rfl,rfl,rfl⟩
theorem tD (b:ByteArray):b.toList.isEmpty=decide (b.data.toList = []):=by
 rw [Go.Lib.toList_data]
 cases h:b.data.toList<;>simp
theorem eI {k:Int} {a:At} {fl:ByteArray} {nt:Bool} {kids:List NT} (h:aU (.node k a fl nt kids)=0) :
  ((k=1∨k=2)/\kids = []/\fl=⟨#[]⟩/\nt=false/\mA a=0)∨((k=3∨k=4)/\a=At.zero/\fl=⟨#[]⟩/\nt=false)∨(k=5/\a=At.zero/\aI fl.data.toList=true):=by
 rw [aU] at h
 by_cases hf:bJ k a fl nt kids.length=false
 ·rw [if_pos hf] at h;cases h
 ·rw [if_neg hf] at h
  have hf':bJ k a fl nt kids.length=true:=by simpa using hf
  unfold bJ at hf'
  simp only [Bool.and_eq_true,decide_eq_true_eq,Bool.not_eq_true',Bool.or_eq_true,beq_iff_eq,Bool.and_eq_false_iff,Bool.not_eq_false',decide_eq_false_iff_not,bL,Bool.or_eq_false_iff,tD,beq_eq_false_iff_ne] at hf'
  obtain ⟨⟨⟨⟨h1,h2⟩,h3⟩,h4⟩,h5⟩:=hf'
  split at h
  ·cases h
  ·rename_i h6
   split at h
   ·rename_i h7
    have h7':k=1∨k=2:=by simpa [bL] using h7
    refine Or.inl ⟨h7',?_,?_,?_,h⟩
    ·have : ¬ 0<kids.length:=h3.resolve_left (by rintro ⟨a1,a2⟩;rcases h7' with e | e;exact a1 e;exact a2 e)
     exact List.length_eq_zero_iff.1 (by omega)
    ·exact iQ (h5.resolve_left (by omega)).1
    ·exact (h5.resolve_left (by omega)).2
   ·rename_i h7
    have h7' : ¬ (k=1∨k=2):=by simpa [bL] using h7
    have ha:a=At.zero:=by
     rcases h4 with h4 | h4
     ·exact absurd h4 h7'
     ·exact qX.1 h4
    by_cases hk:k=5
    ·refine Or.inr (Or.inr ⟨hk,ha,?_⟩)
     cases hn:aI fl.data.toList
     ·exact absurd ⟨hk,hn⟩ h6
     ·rfl
    ·exact Or.inr (Or.inl ⟨by omega,ha,iQ (h5.resolve_left hk).1,(h5.resolve_left hk).2⟩)
theorem iU (k:Int) (a:At) (hk:k=1∨k=2) (ha:mA a=0):aU (.node k a ⟨#[]⟩ false [])=0:=by
 rcases hk with rfl | rfl
 ·simp [aU,bJ,bL,ha]
 ·simp [aU,bJ,bL,ha]
theorem nS:kI At.zero=true:=qX.2 rfl
theorem eO (k:Int) (kids:List NT) (hk:k=3∨k=4):aU (.node k At.zero ⟨#[]⟩ false kids)=0:=by
 rcases hk with rfl | rfl
 ·simp [aU,bJ,bL,nS]
 ·simp [aU,bJ,bL,nS]
theorem vA (fl:ByteArray) (nt:Bool) (kids:List NT) (h:aI fl.data.toList=true):aU (.node 5 At.zero fl nt kids)=0:=by
 simp [aU,bJ,bL,nS,h]
mutual
theorem qS (inc:Int->Int) : ∀ (t:NT) (s d:Int),((bM inc fE s t d).2=true/\(bM inc fE s t d).1=0/\t.ok)∨((bM inc fE s t d).2=false/\(bM inc fE s t d).1≠0/\¬ t.ok)
 | .node k a fl nt kids,s,d=>by
  rw [bM]
  by_cases h:aU (.node k a fl nt kids)=0
  ·have e:(fE s (.node k a fl nt kids) d).2=true:=by simp [fE,h]
   have e1:(fE s (.node k a fl nt kids) d).1=0:=by simp [fE,h]
   rw [if_pos e,e1]
   rcases pQ inc kids (inc d) with ⟨h1,h2,h3⟩ | ⟨h1,h2,h3⟩
   ·exact Or.inl ⟨h1,h2,h,h3⟩
   ·exact Or.inr ⟨h1,h2,fun hh=>h3 hh.2⟩
  ·have e : ¬ (fE s (.node k a fl nt kids) d).2=true:=by simp [fE,h]
   rw [if_neg e]
   exact Or.inr ⟨rfl,h,fun hh=>h hh.1⟩
theorem pQ (inc:Int->Int) : ∀ (ts:List NT) (d:Int),((bD inc fE 0 ts d).2=true/\(bD inc fE 0 ts d).1=0/\okL ts)∨((bD inc fE 0 ts d).2=false/\(bD inc fE 0 ts d).1≠0/\¬ okL ts)
 | [],d=>Or.inl ⟨by rw [bD],by rw [bD],by rw [okL];trivial⟩
 | t :: ts,d=>by
  rw [bD]
  rcases qS inc t 0 d with ⟨h1,h2,h3⟩ | ⟨h1,h2,h3⟩
  ·rw [if_pos h1,h2]
   rcases pQ inc ts d with ⟨h4,h5,h6⟩ | ⟨h4,h5,h6⟩
   ·exact Or.inl ⟨h4,h5,h3,h6⟩
   ·exact Or.inr ⟨h4,h5,fun hh=>h6 hh.2⟩
  ·rw [if_neg (by rw [h1];decide)]
   exact Or.inr ⟨rfl,h2,fun hh=>h3 hh.1⟩
end
theorem fM {d:Int} (h0:0<=d) (h1:d<=100):aK d=d+1:=by
 unfold aK
 unfold Go.RowKit.wrap64
 omega
mutual
theorem qU : ∀ (t:NT) (s d:Int),1<=d->d<=5->(bM aK fN s t d).2=true->(bM aK fN s t d).1=s+t.size/\(bM aK fN s t d).1<=20/\d+t.ht<=5
 | .node k a fl nt kids,s,d,hd,hd5,h=>by
  rw [bM] at h ⊢
  by_cases e:(fN s (.node k a fl nt kids) d).2=true
  ·rw [if_pos e] at h ⊢
   have e':s+1<=20/\d<=4:=by simpa [fN] using e
   rw [fM (by omega) (by omega)] at h ⊢
   obtain ⟨h1,h2,h3⟩:=pS kids (s+1) (d+1) (by omega) (by omega) e'.1 h
   refine ⟨?_,h2,?_⟩
   ·show (bD aK fN (s+1) kids (d+1)).1=_
    rw [h1,NT.size];omega
   ·rw [NT.ht];omega
  ·rw [if_neg e] at h;cases h
theorem pS : ∀ (ts:List NT) (s d:Int),1<=d->d<=5->s<=20->(bD aK fN s ts d).2=true->(bD aK fN s ts d).1=s+aS ts/\(bD aK fN s ts d).1<=20/\d+htL ts<=5
 | [],s,d,hd,hd5,hs,_=>by
  rw [bD,aS,htL];exact ⟨by omega,hs,by omega⟩
 | t :: ts,s,d,hd,hd5,hs,h=>by
  rw [bD] at h ⊢
  by_cases e:(bM aK fN s t d).2=true
  ·rw [if_pos e] at h ⊢
   obtain ⟨h1,h2,h3⟩:=qU t s d hd hd5 e
   obtain ⟨h4,h5,h6⟩:=pS ts _ d hd hd5 h2 h
   refine ⟨?_,h5,?_⟩
   ·rw [h4,h1,aS];omega
   ·rw [htL];omega
  ·rw [if_neg e] at h;cases h
end
theorem gU {t:NT} (h:cX t=false):t.size<=20/\t.ht<=4:=by
 unfold cX at h
 obtain ⟨h1,h2,h3⟩:=qU t 0 1 (by decide) (by decide) (by simpa using h)
 omega
theorem cQ {t:NT}:cJ t=0↔cX t=false/\t.ok:=by
 unfold cJ
 cases h:cX t
 ·rw [if_neg (by decide)]
  rcases qS aK t 0 1 with ⟨h1,h2,h3⟩ | ⟨h1,h2,h3⟩
  ·exact ⟨fun _=>⟨rfl,h3⟩,fun _=>h2⟩
  ·exact ⟨fun e=>absurd e h2,fun e=>absurd e.2 h3⟩
 ·rw [if_pos rfl]
  exact ⟨fun e=>absurd e (by decide),fun e=>absurd e.1 (by decide)⟩
def tV (c:UInt8):Bool:=okB c || [43,45,58,60,61,62].contains c
theorem iC {c:UInt8} (h:tV c=true):c≠32/\c≠33/\c≠40/\c≠41/\c≠63/\c≠124:=by
 refine ⟨?_,?_,?_,?_,?_,?_⟩<;>rintro rfl<;>revert h<;>decide
theorem kT {c:UInt8} (h:okB c=true):tV c=true:=by simp [tV,h]
theorem pO {i:Int} (h0:0<=i) (h1:i<100) : ∀ c∈Go.Lib.itoa i,tV c=true:=by
 obtain ⟨j,rfl⟩:=Int.eq_ofNat_of_zero_le h0
 rw [dV]
 exact fun c hc=>kT (wR (by omega) c hc)
theorem aDz (op:Int) : ∀ c∈fW op,tV c=true:=by
 unfold fW
 split
 ·decide
 ·split
  ·decide
  ·split
   ·decide
   ·decide
theorem mU {a:At} (h:mA a=0) : ∀ c∈eD a,tV c=true:=by
 obtain ⟨h1,h2,h3,h4,h5,h6,h7,h8⟩:=jI h
 have hn : ∀ c∈a.n.data.toList,tV c=true:=fun c hc=>kT (kS h1 c hc)
 have hf : ∀ c∈a.f.data.toList,tV c=true:=by
  rcases h2 with h2 | h2
  ·rw [h2];intro c hc;cases hc
  ·exact fun c hc=>kT (kS h2 c hc)
 intro c hc
 unfold eD bR at hc
 rw [List.mem_append,List.mem_append,List.mem_append] at hc
 rcases hc with ((hc | hc) | hc) | hc
 ·exact hn c hc
 ·split at hc
  ·cases hc
  ·rename_i h0
   rcases List.mem_append.1 hc with hc | hc
   ·exact aDz _ c hc
   ·have:=kG h0 h7
    exact pO (by omega) (by omega) c hc
 ·split at hc
  ·cases hc
  ·rcases List.mem_cons.1 hc with rfl | hc
   ·decide
   ·exact pO h5 (by omega) c hc
 ·split at hc
  ·cases hc
  ·rcases List.mem_cons.1 hc with rfl | hc
   ·split<;>decide
   ·exact hf c hc
theorem aBe {a:At} (h:mA a=0) : ∃ c l,eD a=c :: l:=by
 obtain ⟨h1,_⟩:=jI h
 cases hn:a.n.data.toList with
 | nil=>rw [hn] at h1;exact absurd rfl (gD h1)
 | cons c l=>exact ⟨c,_,by unfold eD bR;rw [hn];rfl⟩
theorem sA {l:List UInt8} (h : ∀ c∈l,c≠63):Go.Lib.hasSuffix l [63]=false:=by
 cases e:Go.Lib.hasSuffix l [63]
 ·rfl
 ·unfold Go.Lib.hasSuffix at e
  have:=List.isSuffixOf_iff_suffix.1 e
  exact absurd rfl (h 63 (this.subset (by simp)))
theorem oF (l:List UInt8):Go.Lib.hasSuffix (l ++ [63]) [63]=true/\Go.Lib.trimSuffix (l ++ [63]) [63]=l:=by
 have h:Go.Lib.hasSuffix (l ++ [63]) [63]=true:=List.isSuffixOf_iff_suffix.2 (List.suffix_append _ _)
 refine ⟨h,?_⟩
 unfold Go.Lib.trimSuffix
 rw [if_pos h]
 simp
theorem vX {l:List UInt8} (h:Go.Lib.hasSuffix l [63]=true):Go.Lib.trimSuffix l [63] ++ [63]=l:=by
 obtain ⟨r,rfl⟩:=List.isSuffixOf_iff_suffix.1 h
 rw [(oF r).2]
theorem qH {l:List UInt8} (h : ∀ c∈l,c≠33):Go.Lib.hasPrefix l [33]=false/\Go.Lib.trimPrefix l [33]=l:=by
 have e:Go.Lib.hasPrefix l [33]=false:=by
  cases l with
  | nil=>rfl
  | cons c l=>
   have:=h c (by simp)
   simp [Go.Lib.hasPrefix,List.isPrefixOf,Ne.symm this]
 refine ⟨e,?_⟩
 unfold Go.Lib.trimPrefix
 rw [if_neg (by rw [e];decide)]
theorem kD (l:List UInt8):Go.Lib.hasPrefix (33 :: l) [33]=true/\Go.Lib.trimPrefix (33 :: l) [33]=l:=by
 have e:Go.Lib.hasPrefix (33 :: l) [33]=true:=by simp [Go.Lib.hasPrefix,List.isPrefixOf]
 refine ⟨e,?_⟩
 unfold Go.Lib.trimPrefix
 rw [if_pos e];rfl
theorem oB (l:List UInt8):(if Go.Lib.hasPrefix l [33]=true then [33] else [])++Go.Lib.trimPrefix l [33]=l:=by
 cases h:Go.Lib.hasPrefix l [33]
 ·unfold Go.Lib.trimPrefix
  rw [h];rfl
 ·cases l with
  | nil=>cases h
  | cons c l=>
   have:(33:UInt8)=c:=by simpa [Go.Lib.hasPrefix,List.isPrefixOf] using h
   subst this
   rw [(kD l).2];rfl
theorem zC {a:At} (h:mA a=0):iX (eD a)=0/\sU (eD a)=a:=by
 obtain ⟨p0,p1,p2,p3,p4,p5,p6⟩:=xS h
 refine ⟨p0,?_⟩
 unfold sU eD
 rw [p1,p2,p3,p4,p5,p6,cB,cB]
theorem aBd {s:List UInt8} (h:iX s=0):mA (sU s)=0/\eD (sU s)=s:=by
 have:=yB h
 unfold mA eD sU
 simpa using this
theorem aAh {l:List UInt8} (h:aI l=true) : ∀ c∈l,c≠33:=fun c hc=>(iC (kT (kS h c hc))).2.1
theorem rU {a:At} (h:mA a=0):eX (eD a)=some (.node 1 a ⟨#[]⟩ false [])/\eX (33 :: eD a)=some (.node 2 a ⟨#[]⟩ false []):=by
 obtain ⟨h1,h2⟩:=qH (l:=eD a) (fun c hc=>(iC (mU h c hc)).2.1)
 obtain ⟨h3,h4⟩:=kD (eD a)
 obtain ⟨p0,p1⟩:=zC h
 unfold eX
 rw [h1,h2,h3,h4,if_pos p0,if_pos p0,p1]
 exact ⟨rfl,rfl⟩
theorem zR {fl:List UInt8} (nt:Bool) (h:aI fl=true):Go.Lib.hasSuffix ((if nt then [33] else [])++(fl ++ [63])) [63]=true/\gL ((if nt then [33] else [])++(fl ++ [63]))=fl/\tG ((if nt then [33] else [])++(fl ++ [63]))=nt:=by
 rw [← List.append_assoc]
 obtain ⟨h1,h2⟩:=oF ((if nt then [33] else [])++fl)
 unfold gL tG
 rw [h2]
 cases nt
 ·obtain ⟨h3,h4⟩:=qH (aAh h)
  exact ⟨h1,h4,h3⟩
 ·obtain ⟨h3,h4⟩:=kD fl
  exact ⟨h1,h4,h3⟩
theorem xB {wd:bH} (h:Go.Lib.hasSuffix wd [63]=true):(if tG wd=true then [33] else [])++(gL wd ++ [63])=wd:=by
 unfold tG gL
 rw [← List.append_assoc,oB,vX h]
theorem sI {a:At} (h:mA a=0) (l:List UInt8) (hl:l=eD a∨l=33 :: eD a):Go.Lib.hasSuffix l [63]=false/\l ≠ [124,124]/\l ≠ [40]/\l ≠ [41]:=by
 have ht:=mU h
 obtain ⟨c,r,e⟩:=aBe h
 have hc:=iC (ht c (by rw [e];simp))
 rcases hl with rfl | rfl
 ·refine ⟨sA fun x hx=>(iC (ht x hx)).2.2.2.2.1,?_,?_,?_⟩
  ·rw [e];intro h';injection h' with h1 _;exact hc.2.2.2.2.2 h1
  ·rw [e];intro h';injection h' with h1 _;exact hc.2.2.1 h1
  ·rw [e];intro h';injection h' with h1 _;exact hc.2.2.2.1 h1
 ·refine ⟨sA fun x hx=> ?_,?_,?_,?_⟩
  ·rcases List.mem_cons.1 hx with rfl | hx
   ·decide
   ·exact (iC (ht x hx)).2.2.2.2.1
  ·intro h';injection h' with h1 _;revert h1;decide
  ·intro h';injection h' with h1 _;revert h1;decide
  ·intro h';injection h' with h1 _;revert h1;decide
theorem sN : ∀ t:NT,∃ wd r,t.words=wd :: r
 | .node k a fl nt kids=>by
  rw [NT.words]
  split
  ·exact ⟨_,_,rfl⟩
  ·split
   ·exact ⟨_,_,rfl⟩
   ·split
    ·exact ⟨_,_,rfl⟩
    ·split
     ·exact ⟨_,_,rfl⟩
     ·exact ⟨_,_,rfl⟩
theorem qV : ∀ ts:List NT,ts.length<=(bF ts).length
 | []=>Nat.zero_le _
 | t :: ts=>by
  obtain ⟨wd,r,e⟩:=sN t
  have:=qV ts
  rw [bF,List.length_append,e]
  simp only [List.length_cons];omega
mutual
theorem vN : ∀ (t:NT) (g:Nat) (ws:List bH),t.ok->t.ht<=g->∃ wd r,t.words=wd :: r/\wd ≠ [41]/\aQ g wd (r++ws)=some (t,ws)
 | .node k a fl nt kids,g,ws,hok,hg=>by
  rw [NT.ok] at hok
  rw [NT.ht] at hg
  obtain ⟨g,rfl⟩ : ∃ g',g=g'+1:=⟨g-1,by omega⟩
  rw [NT.words]
  have hkids : ∀ (mk:List NT->NT) (ws:List bH),dB (aQ g) mk (bF kids ++ [[41]]++ws)=some (mk kids,ws):=fun mk ws=>by
   unfold dB
   have:=pV kids g [] ws ((bF kids ++ [[41]]++ws).length+1) hok.2 (by omega) (by have:=qV kids;simp only [List.length_append,List.length_cons];omega)
   rw [List.append_assoc,List.singleton_append]
   rw [List.append_assoc,List.singleton_append] at this
   rw [this];rfl
  rcases eI hok.1 with ⟨hk,rfl,rfl,rfl,ha⟩ | ⟨hk,rfl,rfl,rfl⟩ | ⟨rfl,rfl,hn⟩
  ·rcases hk with rfl | rfl
   ·obtain ⟨w1,w2,w3,w4⟩:=sI ha _ (Or.inl rfl)
    refine ⟨eD a,[],by rw [if_pos rfl],w4,?_⟩
    rw [aQ,if_neg (by rw [w1];decide),if_neg w2,if_neg w3,(rU ha).1];rfl
   ·obtain ⟨w1,w2,w3,w4⟩:=sI ha _ (Or.inr rfl)
    refine ⟨33 :: eD a,[],by rw [if_neg (by decide),if_pos rfl],w4,?_⟩
    rw [aQ,if_neg (by rw [w1];decide),if_neg w2,if_neg w3,(rU ha).2];rfl
  ·rcases hk with rfl | rfl
   ·refine ⟨[40],bF kids ++ [[41]],by rw [if_neg (by decide),if_neg (by decide),if_neg (by decide),if_neg (by decide)];rfl,by decide,?_⟩
    rw [aQ,if_neg (by decide),if_neg (by decide),if_pos rfl,hkids]
   ·refine ⟨[124,124],[40] :: (bF kids ++ [[41]]),by rw [if_neg (by decide),if_neg (by decide),if_pos rfl];rfl,by decide,?_⟩
    rw [aQ,if_neg (by decide),if_pos rfl,List.cons_append,iA,if_pos rfl,hkids]
  ·obtain ⟨f1,f2,f3⟩:=zR nt hn
   refine ⟨(if nt then [33] else [])++(fl.data.toList ++ [63]),[40] :: (bF kids ++ [[41]]),by rw [if_neg (by decide),if_neg (by decide),if_neg (by decide),if_pos rfl];rfl,?_,?_⟩
   ·intro e;rw [e] at f1;revert f1;decide
   ·rw [aQ,if_pos f1,f2,f3,if_pos hn,List.cons_append,iA,if_pos rfl,hkids,cB]
theorem pV : ∀ (ts:List NT) (g:Nat) (acc:List NT) (ws:List bH) (m:Nat),okL ts->htL ts<=g->ts.length<m->dL (aQ g) m acc (bF ts ++ [[41]]++ws)=some (acc++ts,ws)
 | [],g,acc,ws,m,_,_,hm=>by
  obtain ⟨m,rfl⟩ : ∃ m',m=m'+1:=⟨m-1,by simp at hm;omega⟩
  rw [bF,List.nil_append,List.singleton_append,dL,if_pos rfl,List.append_nil]
 | t :: ts,g,acc,ws,m,hok,hg,hm=>by
  rw [okL] at hok
  rw [htL] at hg
  obtain ⟨m,rfl⟩ : ∃ m',m=m'+1:=⟨m-1,by simp only [List.length_cons] at hm;omega⟩
  obtain ⟨wd,r,e,hne,hr⟩:=vN t g (bF ts ++ [[41]]++ws) hok.1 (by omega)
  rw [bF,e,List.append_assoc,List.append_assoc,List.cons_append,dL,if_neg hne,← List.append_assoc (bF ts),hr]
  show dL (aQ g) m (acc ++ [t]) (bF ts ++ [[41]]++ws)=_
  rw [pV ts g (acc ++ [t]) ws m hok.2 (by omega) (by simp only [List.length_cons] at hm;omega),List.append_assoc,List.singleton_append]
end
theorem rT {rd:bH->List bH->Option (NT × List bH)} {g:Nat} (hrd : ∀ wd ws t rest,rd wd ws=some (t,rest)->wd :: ws=t.words++rest/\t.ok/\t.ht<=g) :
  ∀ (m:Nat) (acc:List NT) (ws:List bH) (ks:List NT) (rest:List bH),dL rd m acc ws=some (ks,rest)->∃ new,ks=acc++new/\ws=bF new++([41] :: rest)/\okL new/\htL new<=g
 | 0,_,_,_,_,h=>by cases h
 | _+1,_,[],_,_,h=>by cases h
 | m+1,acc,wd :: ws,ks,rest,h=>by
  rw [dL] at h
  split at h
  ·rename_i e
   cases h
   exact ⟨[],by simp,by rw [e,bF];rfl,trivial,Nat.zero_le _⟩
  ·split at h
   ·cases h
   ·rename_i r hr
    obtain ⟨t,r2⟩:=r
    obtain ⟨h1,h2,h3⟩:=hrd wd ws t r2 hr
    obtain ⟨new,e1,e2,e3,e4⟩:=rT hrd m (acc ++ [t]) r2 ks rest h
    refine ⟨t :: new,by rw [e1,List.append_assoc];rfl,?_,?_,?_⟩
    ·rw [h1,e2,bF,List.append_assoc]
    ·rw [okL];exact ⟨h2,e3⟩
    ·rw [htL];omega
theorem yW : ∀ (g:Nat) (wd:bH) (ws:List bH) (t:NT) (rest:List bH),aQ g wd ws=some (t,rest)->wd :: ws=t.words++rest/\t.ok/\t.ht<=g
 | 0,_,_,_,_,h=>by cases h
 | g+1,wd,ws,t,rest,h=>by
  have hk : ∀ (mk:List NT->NT) (ws:List bH),dB (aQ g) mk ws=some (t,rest)->∃ ks,t=mk ks/\ws=bF ks++([41] :: rest)/\okL ks/\htL ks<=g:=fun mk ws h=>by
   unfold dB at h
   obtain ⟨⟨ks,r⟩,h1,h2⟩:=Option.map_eq_some_iff.1 h
   cases h2
   obtain ⟨new,e1,e2,e3,e4⟩:=rT (yW g) _ _ _ _ _ h1
   rw [List.nil_append] at e1
   subst e1
   exact ⟨_,rfl,e2,e3,e4⟩
  have ho : ∀ (mk:List NT->NT) (ws:List bH),iA (aQ g) mk ws=some (t,rest)->∃ ks,t=mk ks/\ws = [40] :: (bF ks++([41] :: rest))/\okL ks/\htL ks<=g:=fun mk ws h=>by
   cases ws with
   | nil=>cases h
   | cons o ws=>
    rw [iA] at h
    split at h
    ·rename_i e
     obtain ⟨ks,h1,h2,h3,h4⟩:=hk mk ws h
     exact ⟨ks,h1,by rw [e,h2],h3,h4⟩
    ·cases h
  rw [aQ] at h
  split at h
  ·rename_i h1
   split at h
   ·rename_i h2
    obtain ⟨ks,rfl,e2,e3,e4⟩:=ho _ _ h
    refine ⟨?_,?_,?_⟩
    ·rw [NT.words,if_neg (by decide),if_neg (by decide),if_neg (by decide),if_pos rfl]
     show wd :: ws = [(if tG wd=true then [33] else [])++(gL wd ++ [63])]++([40] :: (bF ks ++ [[41]]))++rest
     rw [xB h1,e2];simp
    ·rw [NT.ok];exact ⟨vA _ _ _ (by simpa using h2),e3⟩
    ·rw [NT.ht];omega
   ·cases h
  ·split at h
   ·rename_i h1 h2
    obtain ⟨ks,rfl,e2,e3,e4⟩:=ho _ _ h
    refine ⟨?_,?_,?_⟩
    ·rw [NT.words,if_neg (by decide),if_neg (by decide),if_pos rfl,h2,e2];simp
    ·rw [NT.ok];exact ⟨eO 4 _ (Or.inr rfl),e3⟩
    ·rw [NT.ht];omega
   ·split at h
    ·rename_i h1 h2 h3
     obtain ⟨ks,rfl,e2,e3,e4⟩:=hk _ _ h
     refine ⟨?_,?_,?_⟩
     ·rw [NT.words,if_neg (by decide),if_neg (by decide),if_neg (by decide),if_neg (by decide),h3,e2];simp
     ·rw [NT.ok];exact ⟨eO 3 _ (Or.inl rfl),e3⟩
     ·rw [NT.ht];omega
    ·obtain ⟨t',h1,h2⟩:=Option.map_eq_some_iff.1 h
     cases h2
     unfold eX at h1
     split at h1
     ·rename_i hp
      obtain ⟨hc,ht⟩:=aBd hp
      have hb:=oB wd
      cases hx:Go.Lib.hasPrefix wd [33]
      ·rw [hx] at h1 hb
       cases h1
       refine ⟨?_,?_,?_⟩
       ·have hb':Go.Lib.trimPrefix wd [33]=wd:=by simpa using hb
        rw [NT.words,if_pos (by decide),ht,hb'];rfl
       ·rw [NT.ok];exact ⟨iU _ _ (Or.inl rfl) hc,trivial⟩
       ·simp [NT.ht,htL]
      ·rw [hx] at h1 hb
       cases h1
       refine ⟨?_,?_,?_⟩
       ·have hb':33 :: Go.Lib.trimPrefix wd [33]=wd:=by simpa using hb
        rw [NT.words,if_neg (by decide),if_pos (by decide),ht,hb'];rfl
       ·rw [NT.ok];exact ⟨iU _ _ (Or.inr rfl) hc,trivial⟩
       ·simp [NT.ht,htL]
     ·cases h1
end Go.Proofs.YthaaaecmeafofaaGreatDoor
namespace Go.Proofs.YthaaaecmeafofaaGreatDoor
theorem xF : ∀ (x r:List UInt8),(∀ c∈x,c≠32)->Go.Lib.index (x++32 :: r) [32]=x.length
 | [],r,_=>by simp [Go.Lib.index,List.isPrefixOf]
 | c :: x,r,h=>by
  have hc:=h c (by simp)
  have ih:=xF x r (fun d hd=>h d (by simp [hd]))
  rw [List.cons_append,Go.Lib.index,if_neg (by simp [List.isPrefixOf,Ne.symm hc]),ih,if_neg (by simp)]
  simp
theorem uO : ∀ x:List UInt8,(∀ c∈x,c≠32)->Go.Lib.index x [32] = -1
 | [],_=>by simp [Go.Lib.index]
 | c :: x,h=>by
  have hc:=h c (by simp)
  rw [Go.Lib.index,if_neg (by simp [List.isPrefixOf,Ne.symm hc]),uO x (fun d hd=>h d (by simp [hd]))]
  rfl
theorem aCw (x:bH):Go.Lib.join [x] [32]=x:=Go.Lib.join_one x _
theorem yP (x y:bH) (r:List bH):Go.Lib.join (x :: y :: r) [32]=x++32 :: Go.Lib.join (y :: r) [32]:=by
 simp [Go.Lib.join,List.intercalate,List.intersperse]
theorem aBc (k:Nat) (x r:List UInt8) (h : ∀ c∈x,c≠32):Go.Lib.splitK [32] 0 (k+1) (x++32 :: r)=x :: Go.Lib.splitK [32] 0 k r:=by
 rw [Go.Lib.splitK,xF x r h,if_neg (by simp)]
 simp
theorem vW (k:Nat) (x:List UInt8) (h : ∀ c∈x,c≠32):Go.Lib.splitK [32] 0 k x = [x]:=by
 cases k with
 | zero=>rfl
 | succ k=>rw [Go.Lib.splitK,uO x h,if_pos (by decide)]
theorem qL : ∀ (ws:List bH),ws ≠ []->(∀ x∈ws,∀ c∈x,c≠32)->Go.Lib.split (Go.Lib.join ws [32]) [32]=ws
 | [],h,_=>absurd rfl h
 | [x],_,h=>by
  rw [aCw];unfold Go.Lib.split
  exact vW _ x (h x (by simp))
 | x :: y :: r,_,h=>by
  have hx:=h x (by simp)
  have ih:=qL (y :: r) (by simp) (fun z hz=>h z (by simp at hz ⊢;exact Or.inr hz))
  rw [yP]
  unfold Go.Lib.split at ih ⊢
  rw [Go.Lib.count_hit (i:=x.length) (by simp) (xF x _ hx),Nat.add_comm,aBc _ _ _ hx]
  have e:List.drop (x.length + [(32:UInt8)].length) (x++32 :: Go.Lib.join (y :: r) [32])=Go.Lib.join (y :: r) [32]:=by
   rw [show x++32 :: Go.Lib.join (y :: r) [32]=(x ++ [32])++Go.Lib.join (y :: r) [32] by simp]
   rw [show x.length + [(32:UInt8)].length=(x ++ [32]).length by simp]
   exact List.drop_left
  rw [e,ih]
theorem aAg {l:List UInt8} (h:aI l=true) : ∀ c∈l,c≠32:=fun c hc=>(iC (kT (kS h c hc))).1
mutual
theorem qW : ∀ (t:NT),t.ok->∀ x∈t.words,∀ c∈x,c≠32
 | .node k a fl nt kids,hok,x,hx=>by
  rw [NT.ok] at hok
  rw [NT.words] at hx
  have hend : ∀ l:List bH,x ∈ [40] :: (bF kids ++ [[41]])->∀ c∈x,c≠32:=fun _ hx=>by
   rcases List.mem_cons.1 hx with rfl | hx
   ·decide
   ·rcases List.mem_append.1 hx with hx | hx
    ·exact oH kids hok.2 x hx
    ·rw [List.mem_singleton.1 hx];decide
  rcases eI hok.1 with ⟨hk,rfl,rfl,rfl,ha⟩ | ⟨hk,rfl,rfl,rfl⟩ | ⟨rfl,rfl,hn⟩
  ·have ht:=mU ha
   rcases hk with rfl | rfl
   ·rw [if_pos rfl] at hx
    rw [List.mem_singleton.1 hx]
    exact fun c hc=>(iC (ht c hc)).1
   ·rw [if_neg (by decide),if_pos rfl] at hx
    rw [List.mem_singleton.1 hx]
    intro c hc
    rcases List.mem_cons.1 hc with rfl | hc
    ·decide
    ·exact (iC (ht c hc)).1
  ·rcases hk with rfl | rfl
   ·rw [if_neg (by decide),if_neg (by decide),if_neg (by decide),if_neg (by decide)] at hx
    exact hend [] hx
   ·rw [if_neg (by decide),if_neg (by decide),if_pos rfl] at hx
    rcases List.mem_append.1 hx with hx | hx
    ·rw [List.mem_singleton.1 hx];decide
    ·exact hend [] hx
  ·rw [if_neg (by decide),if_neg (by decide),if_neg (by decide),if_pos rfl] at hx
   rcases List.mem_append.1 hx with hx | hx
   ·rw [List.mem_singleton.1 hx]
    intro c hc
    rcases List.mem_append.1 hc with hc | hc
    ·split at hc
     ·rw [List.mem_singleton.1 hc];decide
     ·cases hc
    ·rcases List.mem_append.1 hc with hc | hc
     ·exact aAg hn c hc
     ·rw [List.mem_singleton.1 hc];decide
   ·exact hend [] hx
theorem oH : ∀ (ts:List NT),okL ts->∀ x∈bF ts,∀ c∈x,c≠32
 | [],_,x,hx=>by rw [bF] at hx;cases hx
 | t :: ts,hok,x,hx=>by
  rw [okL] at hok
  rw [bF] at hx
  rcases List.mem_append.1 hx with hx | hx
  ·exact qW t hok.1 x hx
  ·exact oH ts hok.2 x hx
end
def NT.text (t:NT):List UInt8:=Go.Lib.join t.words [32]
def yU:List bH->Option NT
 | []=>none
 | wd :: ws=>match aQ 4 wd ws with
  | some (t,[])=>some t
  | _=>none
def gS (l:List UInt8):Option NT:=yU (Go.Lib.split l [32])
def rdE (l:List UInt8):Int:=if 20000<l.length then 2 else match gS l with
 | none=>1
 | some t=>cJ t
theorem vL {t:NT} (h:t.ok) (hh:t.ht<=4):gS t.text=some t:=by
 obtain ⟨wd,r,e,_,hr⟩:=vN t 4 [] h hh
 unfold gS NT.text
 rw [qL t.words (by rw [e];simp) (qW t h),e,yU]
 rw [List.append_nil] at hr
 rw [hr]
def gV:List bH->Nat
 | []=>0
 | x :: r=>x.length+1+gV r
theorem jQ : ∀ a b:List bH,gV (a++b)=gV a+gV b
 | [],b=>by simp [gV]
 | x :: a,b=>by rw [List.cons_append,gV,gV,jQ a b];omega
theorem uU : ∀ ws:List bH,(Go.Lib.join ws [32]).length<=gV ws
 | []=>by simp [Go.Lib.join,gV]
 | [x]=>by rw [aCw,gV];omega
 | x :: y :: r=>by
  have ih:=uU (y :: r)
  rw [yP,gV,List.length_append,List.length_cons];omega
mutual
theorem pY : ∀ t:NT,t.ok->gV t.words<=110*t.size/\t.words.length<=3*t.size
 | .node k a fl nt kids,hok=>by
  rw [NT.ok] at hok
  rw [NT.words,NT.size]
  obtain ⟨ih,ih2⟩:=oA kids hok.2
  have e:gV ([40] :: (bF kids ++ [[41]]))=gV (bF kids)+4:=by rw [gV,jQ];simp only [gV,List.length_cons,List.length_nil];omega
  rcases eI hok.1 with ⟨hk,rfl,rfl,rfl,ha⟩ | ⟨hk,rfl,rfl,rfl⟩ | ⟨rfl,rfl,hn⟩
  ·have ht:(eD a).length<=100:=wB ha
   rcases hk with rfl | rfl
   ·rw [if_pos rfl];simp only [gV,List.length_cons,List.length_nil];omega
   ·rw [if_neg (by decide),if_pos rfl];simp only [gV,List.length_cons,List.length_nil];omega
  ·rcases hk with rfl | rfl
   ·rw [if_neg (by decide),if_neg (by decide),if_neg (by decide),if_neg (by decide),List.nil_append]
    rw [e];simp only [List.length_cons,List.length_append,List.length_nil];omega
   ·rw [if_neg (by decide),if_neg (by decide),if_pos rfl,jQ,e];simp only [gV,List.length_cons,List.length_append,List.length_nil];omega
  ·have h8:=jY hn
   rw [if_neg (by decide),if_neg (by decide),if_neg (by decide),if_pos rfl,jQ,e]
   simp only [gV,List.length_cons,List.length_append,List.length_nil]
   have:(if nt=true then [(33:UInt8)] else []).length<=1:=by cases nt<;>simp
   omega
theorem oA : ∀ ts:List NT,okL ts->gV (bF ts)<=110*aS ts/\(bF ts).length<=3*aS ts
 | [],_=>by rw [bF,gV,aS];exact ⟨by omega,by simp⟩
 | t :: ts,hok=>by
  rw [okL] at hok
  obtain ⟨h1,h2⟩:=pY t hok.1
  obtain ⟨h3,h4⟩:=oA ts hok.2
  rw [bF,jQ,aS,List.length_append];omega
end
theorem yD {t:NT} (h:cJ t=0):t.text.length<=2200/\t.words.length<=60:=by
 obtain ⟨h1,h2⟩:=cQ.1 h
 have:=gU h1
 obtain ⟨h3,h4⟩:=pY t h2
 have h5:=uU t.words
 unfold NT.text;omega
theorem aDp {t:NT} (h:cJ t=0):rdE t.text=0/\gS t.text=some t:=by
 obtain ⟨h1,h2⟩:=cQ.1 h
 have e:=vL h2 (gU h1).2
 refine ⟨?_,e⟩
 unfold rdE
 have:=yD h
 rw [if_neg (by omega),e]
 exact h
end Go.Proofs.YthaaaecmeafofaaGreatDoor
