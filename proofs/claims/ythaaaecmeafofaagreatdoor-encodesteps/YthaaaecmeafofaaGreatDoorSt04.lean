/- Steps of the proof: NeedText. -/
import Derived.Test.YthaaaecmeafofaaGreatDoorSt03
import Derived.Lib.Split
import Derived.Lib.Join
import Derived.Lib.SplitLaws
set_option maxHeartbeats 16000000
set_option maxRecDepth 100000
namespace Go.Proofs.YthaaaecmeafofaaGreatDoor
structure At where
 n:ByteArray
 op:Int
 v:Int
 sl:Int
 f:ByteArray
 on:Bool
inductive NT where
 | node (k:Int) (a:At) (fl:ByteArray) (nt:Bool) (kids:List NT)
def At.zero:At:=⟨⟨#[]⟩,0,0,0,⟨#[]⟩,false⟩
def NT.zero:NT:= .node 0 At.zero ⟨#[]⟩ false []
def NT.kids:NT->List NT
 | .node _ _ _ _ ks=>ks
def iN (a:At):Int:=chk a.n.data.toList a.op a.v a.sl a.f.data.toList a.on
def eK (a:At):List UInt8:=bW a.n.data.toList a.op a.v a.sl a.f.data.toList a.on
def rB (a:At):Bool:=qT a.n a.op a.v a.sl a.f a.on ⟨#[]⟩ 0 0 0 ⟨#[]⟩ false
def cV (k:Int):Bool:=(k==1)||(k==2)
def cU (k:Int) (a:At) (fl:ByteArray) (nt:Bool) (many:Nat):Bool:=
 decide (1<=k)&&decide (k<=5) && !(cV k&&decide (0<many)) && !(!cV k && !rB a)&&((k==5)||(fl.toList.isEmpty && !nt))
def dF:NT->Int
 | .node k a fl nt kids=>if cU k a fl nt kids.length=false then 4 else if k=5/\aQ fl.data.toList=false then 1 else if cV k=true then iN a else 0
mutual
def bU {σ:Type} (inc:Int->Int) (f:σ->NT->Int->σ × Bool):σ->NT->Int->σ × Bool
 | s,.node k a fl nt kids,d=>if (f s (.node k a fl nt kids) d).2=true then bS inc f (f s (.node k a fl nt kids) d).1 kids (inc d) else ((f s (.node k a fl nt kids) d).1,false)
def bS {σ:Type} (inc:Int->Int) (f:σ->NT->Int->σ × Bool):σ->List NT->Int->σ × Bool
 | s,[],_=>(s,true)
 | s,t :: ts,d=>if (bU inc f s t d).2=true then bS inc f (bU inc f s t d).1 ts d else ((bU inc f s t d).1,false)
end
mutual
def NT.size:NT->Nat
 | .node _ _ _ _ kids=>1+bL kids
def bL:List NT->Nat
 | []=>0
 | t :: ts=>t.size+bL ts
end
mutual
def NT.ht:NT->Nat
 | .node _ _ _ _ kids=>1+htL kids
def htL:List NT->Nat
 | []=>0
 | t :: ts=>max t.ht (htL ts)
end
mutual
def NT.ok:NT->Prop
 | .node k a fl nt kids=>dF (.node k a fl nt kids)=0/\okL kids
def okL:List NT->Prop
 | []=>True
 | t :: ts=>t.ok/\okL ts
end
abbrev bP:=List UInt8
mutual
def NT.words:NT->List bP
 | .node k a fl nt kids=>
  if k=1 then [eK a] else if k=2 then [33 :: eK a]
  else (if k=4 then [[124,124]] else if k=5 then [(if nt then [33] else [])++(fl.data.toList ++ [63])] else [])++([40] :: (bN kids ++ [[41]]))
def bN:List NT->List bP
 | []=> []
 | t :: ts=>t.words++bN ts
end
def wU (s:List UInt8):At:=⟨⟨(nmL s).toArray⟩,opV (veL s),oA (veL s),gM (slL s),⟨((flL s).drop 1).toArray⟩,onV (flL s)⟩
def fK (wd:bP):Option NT:=
 if kV (Go.Lib.trimPrefix wd [33])=0 then some (.node (if Go.Lib.hasPrefix wd [33] then 2 else 1) (wU (Go.Lib.trimPrefix wd [33])) ⟨#[]⟩ false []) else none
def gZ (wd:bP):List UInt8:=Go.Lib.trimPrefix (Go.Lib.trimSuffix wd [63]) [33]
def xM (wd:bP):Bool:=Go.Lib.hasPrefix (Go.Lib.trimSuffix wd [63]) [33]
def dR (rd:bP->List bP->Option (NT × List bP)):Nat->List NT->List bP->Option (List NT × List bP)
 | 0,_,_=>none
 | _+1,_,[]=>none
 | m+1,acc,wd :: ws=>if wd = [41] then some (acc,ws) else match rd wd ws with
  | none=>none
  | some r=>dR rd m (acc ++ [r.1]) r.2
def dJ (rd:bP->List bP->Option (NT × List bP)) (mk:List NT->NT) (ws:List bP):Option (NT × List bP):=
 (dR rd (ws.length+1) [] ws).map fun r=>(mk r.1,r.2)
def jJ (rd:bP->List bP->Option (NT × List bP)) (mk:List NT->NT):List bP->Option (NT × List bP)
 | []=>none
 | o :: ws=>if o = [40] then dJ rd mk ws else none
def aR:Nat->bP->List bP->Option (NT × List bP)
 | 0,_,_=>none
 | g+1,wd,ws=>
  if Go.Lib.hasSuffix wd [63]=true then
   if aQ (gZ wd)=true then jJ (aR g) (.node 5 At.zero ⟨(gZ wd).toArray⟩ (xM wd)) ws else none
  else if wd = [124,124] then jJ (aR g) (.node 4 At.zero ⟨#[]⟩ false) ws
  else if wd = [40] then dJ (aR g) (.node 3 At.zero ⟨#[]⟩ false) ws
  else (fK wd).map fun t=>(t,ws)
def aO (d:Int):Int:=Go.RowKit.wrap64 (d+1)
def fN (s:Int) (_:NT) (d:Int):Int × Bool:=(s+1,decide (s+1<=20)&&decide (d<=4))
def fE (_:Int) (t:NT) (_:Int):Int × Bool:=(dF t,dF t==0)
def eR (t:NT):Bool:= !(bU aO fN 0 t 1).2
def eB (t:NT):Int:=if eR t=true then 2 else (bU aO fE 0 t 1).1
end Go.Proofs.YthaaaecmeafofaaGreatDoor
namespace Go.Proofs.YthaaaecmeafofaaGreatDoor
theorem nK {n m:ByteArray} (h:n.data.toList=m.data.toList):n=m:=by
 cases n;cases m;simp at h;rw [h]
theorem cF (n:ByteArray):(⟨n.data.toList.toArray⟩:ByteArray)=n:=nK (by simp)
theorem kK {n:ByteArray} (h:n.data.toList = []):n=⟨#[]⟩:=nK (by rw [h])
theorem uL {a:At}:rB a=true↔a=At.zero:=by
 unfold rB
 rw [aDu]
 constructor
 ·rintro ⟨h1,h2,h3,h4,h5,h6⟩
  obtain ⟨n,op,v,sl,f,on⟩:=a
  simp only at h1 h2 h3 h4 h5 h6
  rw [kK h1,h2,h3,h4,kK h5,h6]
  rfl
 ·rintro rfl
  exact ⟨rfl,rfl,rfl,rfl,rfl,rfl⟩
theorem xF (b:ByteArray):b.toList.isEmpty=decide (b.data.toList = []):=by
 rw [Go.Lib.toList_data]
 cases h:b.data.toList<;>simp
theorem fV {k:Int} {a:At} {fl:ByteArray} {nt:Bool} {kids:List NT} (h:dF (.node k a fl nt kids)=0) :
  ((k=1∨k=2)/\kids = []/\fl=⟨#[]⟩/\nt=false/\iN a=0)∨((k=3∨k=4)/\a=At.zero/\fl=⟨#[]⟩/\nt=false)∨(k=5/\a=At.zero/\aQ fl.data.toList=true):=by
 rw [dF] at h
 by_cases hf:cU k a fl nt kids.length=false
 ·rw [if_pos hf] at h;cases h
 ·rw [if_neg hf] at h
  have hf':cU k a fl nt kids.length=true:=by simpa using hf
  unfold cU at hf'
  simp only [Bool.and_eq_true,decide_eq_true_eq,Bool.not_eq_true',Bool.or_eq_true,beq_iff_eq,Bool.and_eq_false_iff,Bool.not_eq_false',decide_eq_false_iff_not,cV,Bool.or_eq_false_iff,xF,beq_eq_false_iff_ne] at hf'
  obtain ⟨⟨⟨⟨h1,h2⟩,h3⟩,h4⟩,h5⟩:=hf'
  split at h
  ·cases h
  ·rename_i h6
   split at h
   ·rename_i h7
    have h7':k=1∨k=2:=by simpa [cV] using h7
    refine Or.inl ⟨h7',?_,?_,?_,h⟩
    ·have : ¬ 0<kids.length:=h3.resolve_left (by rintro ⟨a1,a2⟩;rcases h7' with e | e;exact a1 e;exact a2 e)
     exact List.length_eq_zero_iff.1 (by omega)
    ·exact kK (h5.resolve_left (by omega)).1
    ·exact (h5.resolve_left (by omega)).2
   ·rename_i h7
    have h7' : ¬ (k=1∨k=2):=by simpa [cV] using h7
    have ha:a=At.zero:=by
     rcases h4 with h4 | h4
     ·exact absurd h4 h7'
     ·exact uL.1 h4
    by_cases hk:k=5
    ·refine Or.inr (Or.inr ⟨hk,ha,?_⟩)
     cases hn:aQ fl.data.toList
     ·exact absurd ⟨hk,hn⟩ h6
     ·rfl
    ·exact Or.inr (Or.inl ⟨by omega,ha,kK (h5.resolve_left hk).1,(h5.resolve_left hk).2⟩)
theorem kS (k:Int) (a:At) (hk:k=1∨k=2) (ha:iN a=0):dF (.node k a ⟨#[]⟩ false [])=0:=by
 rcases hk with rfl | rfl
 ·simp [dF,cU,cV,ha]
 ·simp [dF,cU,cV,ha]
theorem qH:rB At.zero=true:=uL.2 rfl
theorem eY (k:Int) (kids:List NT) (hk:k=3∨k=4):dF (.node k At.zero ⟨#[]⟩ false kids)=0:=by
 rcases hk with rfl | rfl
 ·simp [dF,cU,cV,qH]
 ·simp [dF,cU,cV,qH]
theorem aAr (fl:ByteArray) (nt:Bool) (kids:List NT) (h:aQ fl.data.toList=true):dF (.node 5 At.zero fl nt kids)=0:=by
 simp [dF,cU,cV,qH,h]
mutual
theorem uG (inc:Int->Int) : ∀ (t:NT) (s d:Int),((bU inc fE s t d).2=true/\(bU inc fE s t d).1=0/\t.ok)∨((bU inc fE s t d).2=false/\(bU inc fE s t d).1≠0/\¬ t.ok)
 | .node k a fl nt kids,s,d=>by
  rw [bU]
  by_cases h:dF (.node k a fl nt kids)=0
  ·have e:(fE s (.node k a fl nt kids) d).2=true:=by simp [fE,h]
   have e1:(fE s (.node k a fl nt kids) d).1=0:=by simp [fE,h]
   rw [if_pos e,e1]
   rcases sX inc kids (inc d) with ⟨h1,h2,h3⟩ | ⟨h1,h2,h3⟩
   ·exact Or.inl ⟨h1,h2,h,h3⟩
   ·exact Or.inr ⟨h1,h2,fun hh=>h3 hh.2⟩
  ·have e : ¬ (fE s (.node k a fl nt kids) d).2=true:=by simp [fE,h]
   rw [if_neg e]
   exact Or.inr ⟨rfl,h,fun hh=>h hh.1⟩
theorem sX (inc:Int->Int) : ∀ (ts:List NT) (d:Int),((bS inc fE 0 ts d).2=true/\(bS inc fE 0 ts d).1=0/\okL ts)∨((bS inc fE 0 ts d).2=false/\(bS inc fE 0 ts d).1≠0/\¬ okL ts)
 | [],d=>Or.inl ⟨by rw [bS],by rw [bS],by rw [okL];trivial⟩
 | t :: ts,d=>by
  rw [bS]
  rcases uG inc t 0 d with ⟨h1,h2,h3⟩ | ⟨h1,h2,h3⟩
  ·rw [if_pos h1,h2]
   rcases sX inc ts d with ⟨h4,h5,h6⟩ | ⟨h4,h5,h6⟩
   ·exact Or.inl ⟨h4,h5,h3,h6⟩
   ·exact Or.inr ⟨h4,h5,fun hh=>h6 hh.2⟩
  ·rw [if_neg (by rw [h1];decide)]
   exact Or.inr ⟨rfl,h2,fun hh=>h3 hh.1⟩
end
theorem iX {d:Int} (h0:0<=d) (h1:d<=100):aO d=d+1:=by
 unfold aO
 unfold Go.RowKit.wrap64
 omega
mutual
theorem uH : ∀ (t:NT) (s d:Int),1<=d->d<=5->(bU aO fN s t d).2=true->(bU aO fN s t d).1=s+t.size/\(bU aO fN s t d).1<=20/\d+t.ht<=5
 | .node k a fl nt kids,s,d,hd,hd5,h=>by
  rw [bU] at h ⊢
  by_cases e:(fN s (.node k a fl nt kids) d).2=true
  ·rw [if_pos e] at h ⊢
   have e':s+1<=20/\d<=4:=by simpa [fN] using e
   rw [iX (by omega) (by omega)] at h ⊢
   obtain ⟨h1,h2,h3⟩:=sY kids (s+1) (d+1) (by omega) (by omega) e'.1 h
   refine ⟨?_,h2,?_⟩
   ·show (bS aO fN (s+1) kids (d+1)).1=_
    rw [h1,NT.size];omega
   ·rw [NT.ht];omega
  ·rw [if_neg e] at h;cases h
theorem sY : ∀ (ts:List NT) (s d:Int),1<=d->d<=5->s<=20->(bS aO fN s ts d).2=true->(bS aO fN s ts d).1=s+bL ts/\(bS aO fN s ts d).1<=20/\d+htL ts<=5
 | [],s,d,hd,hd5,hs,_=>by
  rw [bS,bL,htL];exact ⟨by omega,hs,by omega⟩
 | t :: ts,s,d,hd,hd5,hs,h=>by
  rw [bS] at h ⊢
  by_cases e:(bU aO fN s t d).2=true
  ·rw [if_pos e] at h ⊢
   obtain ⟨h1,h2,h3⟩:=uH t s d hd hd5 e
   obtain ⟨h4,h5,h6⟩:=sY ts _ d hd hd5 h2 h
   refine ⟨?_,h5,?_⟩
   ·rw [h4,h1,bL];omega
   ·rw [htL];omega
  ·rw [if_neg e] at h;cases h
end
theorem iJ {t:NT} (h:eR t=false):t.size<=20/\t.ht<=4:=by
 unfold eR at h
 obtain ⟨h1,h2,h3⟩:=uH t 0 1 (by decide) (by decide) (by simpa using h)
 omega
theorem cN {t:NT}:eB t=0↔eR t=false/\t.ok:=by
 unfold eB
 cases h:eR t
 ·rw [if_neg (by decide)]
  rcases uG aO t 0 1 with ⟨h1,h2,h3⟩ | ⟨h1,h2,h3⟩
  ·exact ⟨fun _=>⟨rfl,h3⟩,fun _=>h2⟩
  ·exact ⟨fun e=>absurd e h2,fun e=>absurd e.2 h3⟩
 ·rw [if_pos rfl]
  exact ⟨fun e=>absurd e (by decide),fun e=>absurd e.1 (by decide)⟩
def yI (c:UInt8):Bool:=okB c || [43,45,58,60,61,62].contains c
theorem jN {c:UInt8} (h:yI c=true):c≠32/\c≠33/\c≠40/\c≠41/\c≠63/\c≠124:=by
 refine ⟨?_,?_,?_,?_,?_,?_⟩<;>rintro rfl<;>revert h<;>decide
theorem mR {c:UInt8} (h:okB c=true):yI c=true:=by simp [yI,h]
theorem sV {i:Int} (h0:0<=i) (h1:i<100) : ∀ c∈Go.Lib.itoa i,yI c=true:=by
 obtain ⟨j,rfl⟩:=Int.eq_ofNat_of_zero_le h0
 rw [eC]
 exact fun c hc=>mR (aCn (by omega) c hc)
theorem aLo (op:Int) : ∀ c∈gL op,yI c=true:=by
 unfold gL
 split
 ·decide
 ·split
  ·decide
  ·split
   ·decide
   ·decide
theorem pI {a:At} (h:iN a=0) : ∀ c∈eK a,yI c=true:=by
 obtain ⟨h1,h2,h3,h4,h5,h6,h7,h8⟩:=lI h
 have hn : ∀ c∈a.n.data.toList,yI c=true:=fun c hc=>mR (mQ h1 c hc)
 have hf : ∀ c∈a.f.data.toList,yI c=true:=by
  rcases h2 with h2 | h2
  ·rw [h2];intro c hc;cases hc
  ·exact fun c hc=>mR (mQ h2 c hc)
 intro c hc
 unfold eK bW at hc
 rw [List.mem_append,List.mem_append,List.mem_append] at hc
 rcases hc with ((hc | hc) | hc) | hc
 ·exact hn c hc
 ·split at hc
  ·cases hc
  ·rename_i h0
   rcases List.mem_append.1 hc with hc | hc
   ·exact aLo _ c hc
   ·have:=pM h0 h7
    exact sV (by omega) (by omega) c hc
 ·split at hc
  ·cases hc
  ·rcases List.mem_cons.1 hc with rfl | hc
   ·decide
   ·exact sV h5 (by omega) c hc
 ·split at hc
  ·cases hc
  ·rcases List.mem_cons.1 hc with rfl | hc
   ·split<;>decide
   ·exact hf c hc
theorem aIm {a:At} (h:iN a=0) : ∃ c l,eK a=c :: l:=by
 obtain ⟨h1,_⟩:=lI h
 cases hn:a.n.data.toList with
 | nil=>rw [hn] at h1;exact absurd rfl (mP h1)
 | cons c l=>exact ⟨c,_,by unfold eK bW;rw [hn];rfl⟩
theorem vV {l:List UInt8} (h : ∀ c∈l,c≠63):Go.Lib.hasSuffix l [63]=false:=by
 cases e:Go.Lib.hasSuffix l [63]
 ·rfl
 ·unfold Go.Lib.hasSuffix at e
  have:=List.isSuffixOf_iff_suffix.1 e
  exact absurd rfl (h 63 (this.subset (by simp)))
theorem qX (l:List UInt8):Go.Lib.hasSuffix (l ++ [63]) [63]=true/\Go.Lib.trimSuffix (l ++ [63]) [63]=l:=by
 have h:Go.Lib.hasSuffix (l ++ [63]) [63]=true:=List.isSuffixOf_iff_suffix.2 (List.suffix_append _ _)
 refine ⟨h,?_⟩
 unfold Go.Lib.trimSuffix
 rw [if_pos h]
 simp
theorem aBp {l:List UInt8} (h:Go.Lib.hasSuffix l [63]=true):Go.Lib.trimSuffix l [63] ++ [63]=l:=by
 obtain ⟨r,rfl⟩:=List.isSuffixOf_iff_suffix.1 h
 rw [(qX r).2]
theorem tO {l:List UInt8} (h : ∀ c∈l,c≠33):Go.Lib.hasPrefix l [33]=false/\Go.Lib.trimPrefix l [33]=l:=by
 have e:Go.Lib.hasPrefix l [33]=false:=by
  cases l with
  | nil=>rfl
  | cons c l=>
   have:=h c (by simp)
   simp [Go.Lib.hasPrefix,List.isPrefixOf,Ne.symm this]
 refine ⟨e,?_⟩
 unfold Go.Lib.trimPrefix
 rw [if_neg (by rw [e];decide)]
theorem lY (l:List UInt8):Go.Lib.hasPrefix (33 :: l) [33]=true/\Go.Lib.trimPrefix (33 :: l) [33]=l:=by
 have e:Go.Lib.hasPrefix (33 :: l) [33]=true:=by simp [Go.Lib.hasPrefix,List.isPrefixOf]
 refine ⟨e,?_⟩
 unfold Go.Lib.trimPrefix
 rw [if_pos e];rfl
theorem qR (l:List UInt8):(if Go.Lib.hasPrefix l [33]=true then [33] else [])++Go.Lib.trimPrefix l [33]=l:=by
 cases h:Go.Lib.hasPrefix l [33]
 ·unfold Go.Lib.trimPrefix
  rw [h];rfl
 ·cases l with
  | nil=>cases h
  | cons c l=>
   have:(33:UInt8)=c:=by simpa [Go.Lib.hasPrefix,List.isPrefixOf] using h
   subst this
   rw [(lY l).2];rfl
theorem aGe {a:At} (h:iN a=0):kV (eK a)=0/\wU (eK a)=a:=by
 obtain ⟨p0,p1,p2,p3,p4,p5,p6⟩:=aDr h
 refine ⟨p0,?_⟩
 unfold wU eK
 rw [p1,p2,p3,p4,p5,p6,cF,cF]
theorem aIl {s:List UInt8} (h:kV s=0):iN (wU s)=0/\eK (wU s)=s:=by
 have:=aEf h
 unfold iN eK wU
 simpa using this
theorem aHr {l:List UInt8} (h:aQ l=true) : ∀ c∈l,c≠33:=fun c hc=>(jN (mR (mQ h c hc))).2.1
theorem vS {a:At} (h:iN a=0):fK (eK a)=some (.node 1 a ⟨#[]⟩ false [])/\fK (33 :: eK a)=some (.node 2 a ⟨#[]⟩ false []):=by
 obtain ⟨h1,h2⟩:=tO (l:=eK a) (fun c hc=>(jN (pI h c hc)).2.1)
 obtain ⟨h3,h4⟩:=lY (eK a)
 obtain ⟨p0,p1⟩:=aGe h
 unfold fK
 rw [h1,h2,h3,h4,if_pos p0,if_pos p0,p1]
 exact ⟨rfl,rfl⟩
theorem aGw {fl:List UInt8} (nt:Bool) (h:aQ fl=true):Go.Lib.hasSuffix ((if nt then [33] else [])++(fl ++ [63])) [63]=true/\gZ ((if nt then [33] else [])++(fl ++ [63]))=fl/\xM ((if nt then [33] else [])++(fl ++ [63]))=nt:=by
 rw [← List.append_assoc]
 obtain ⟨h1,h2⟩:=qX ((if nt then [33] else [])++fl)
 unfold gZ xM
 rw [h2]
 cases nt
 ·obtain ⟨h3,h4⟩:=tO (aHr h)
  exact ⟨h1,h4,h3⟩
 ·obtain ⟨h3,h4⟩:=lY fl
  exact ⟨h1,h4,h3⟩
theorem aCv {wd:bP} (h:Go.Lib.hasSuffix wd [63]=true):(if xM wd=true then [33] else [])++(gZ wd ++ [63])=wd:=by
 unfold xM gZ
 rw [← List.append_assoc,qR,aBp h]
theorem wI {a:At} (h:iN a=0) (l:List UInt8) (hl:l=eK a∨l=33 :: eK a):Go.Lib.hasSuffix l [63]=false/\l ≠ [124,124]/\l ≠ [40]/\l ≠ [41]:=by
 have ht:=pI h
 obtain ⟨c,r,e⟩:=aIm h
 have hc:=jN (ht c (by rw [e];simp))
 rcases hl with rfl | rfl
 ·refine ⟨vV fun x hx=>(jN (ht x hx)).2.2.2.2.1,?_,?_,?_⟩
  ·rw [e];intro h';injection h' with h1 _;exact hc.2.2.2.2.2 h1
  ·rw [e];intro h';injection h' with h1 _;exact hc.2.2.1 h1
  ·rw [e];intro h';injection h' with h1 _;exact hc.2.2.2.1 h1
 ·refine ⟨vV fun x hx=> ?_,?_,?_,?_⟩
  ·rcases List.mem_cons.1 hx with rfl | hx
   ·decide
   ·exact (jN (ht x hx)).2.2.2.2.1
  ·intro h';injection h' with h1 _;revert h1;decide
  ·intro h';injection h' with h1 _;revert h1;decide
  ·intro h';injection h' with h1 _;revert h1;decide
theorem wM : ∀ t:NT,∃ wd r,t.words=wd :: r
 | .node k a fl nt kids=>by
  rw [NT.words]
  split
  ·exact ⟨_,_,rfl⟩
  ·split
   ·exact ⟨_,_,rfl⟩
   ·split
    ·exact ⟨_,_,rfl⟩
    ·split
     ·exact ⟨_,_,rfl⟩
     ·exact ⟨_,_,rfl⟩
theorem uJ : ∀ ts:List NT,ts.length<=(bN ts).length
 | []=>Nat.zero_le _
 | t :: ts=>by
  obtain ⟨wd,r,e⟩:=wM t
  have:=uJ ts
  rw [bN,List.length_append,e]
  simp only [List.length_cons];omega
mutual
theorem aBf : ∀ (t:NT) (g:Nat) (ws:List bP),t.ok->t.ht<=g->∃ wd r,t.words=wd :: r/\wd ≠ [41]/\aR g wd (r++ws)=some (t,ws)
 | .node k a fl nt kids,g,ws,hok,hg=>by
  rw [NT.ok] at hok
  rw [NT.ht] at hg
  obtain ⟨g,rfl⟩ : ∃ g',g=g'+1:=⟨g-1,by omega⟩
  rw [NT.words]
  have hkids : ∀ (mk:List NT->NT) (ws:List bP),dJ (aR g) mk (bN kids ++ [[41]]++ws)=some (mk kids,ws):=fun mk ws=>by
   unfold dJ
   have:=tB kids g [] ws ((bN kids ++ [[41]]++ws).length+1) hok.2 (by omega) (by have:=uJ kids;simp only [List.length_append,List.length_cons];omega)
   rw [List.append_assoc,List.singleton_append]
   rw [List.append_assoc,List.singleton_append] at this
   rw [this];rfl
  rcases fV hok.1 with ⟨hk,rfl,rfl,rfl,ha⟩ | ⟨hk,rfl,rfl,rfl⟩ | ⟨rfl,rfl,hn⟩
  ·rcases hk with rfl | rfl
   ·obtain ⟨w1,w2,w3,w4⟩:=wI ha _ (Or.inl rfl)
    refine ⟨eK a,[],by rw [if_pos rfl],w4,?_⟩
    rw [aR,if_neg (by rw [w1];decide),if_neg w2,if_neg w3,(vS ha).1];rfl
   ·obtain ⟨w1,w2,w3,w4⟩:=wI ha _ (Or.inr rfl)
    refine ⟨33 :: eK a,[],by rw [if_neg (by decide),if_pos rfl],w4,?_⟩
    rw [aR,if_neg (by rw [w1];decide),if_neg w2,if_neg w3,(vS ha).2];rfl
  ·rcases hk with rfl | rfl
   ·refine ⟨[40],bN kids ++ [[41]],by rw [if_neg (by decide),if_neg (by decide),if_neg (by decide),if_neg (by decide)];rfl,by decide,?_⟩
    rw [aR,if_neg (by decide),if_neg (by decide),if_pos rfl,hkids]
   ·refine ⟨[124,124],[40] :: (bN kids ++ [[41]]),by rw [if_neg (by decide),if_neg (by decide),if_pos rfl];rfl,by decide,?_⟩
    rw [aR,if_neg (by decide),if_pos rfl,List.cons_append,jJ,if_pos rfl,hkids]
  ·obtain ⟨f1,f2,f3⟩:=aGw nt hn
   refine ⟨(if nt then [33] else [])++(fl.data.toList ++ [63]),[40] :: (bN kids ++ [[41]]),by rw [if_neg (by decide),if_neg (by decide),if_neg (by decide),if_pos rfl];rfl,?_,?_⟩
   ·intro e;rw [e] at f1;revert f1;decide
   ·rw [aR,if_pos f1,f2,f3,if_pos hn,List.cons_append,jJ,if_pos rfl,hkids,cF]
theorem tB : ∀ (ts:List NT) (g:Nat) (acc:List NT) (ws:List bP) (m:Nat),okL ts->htL ts<=g->ts.length<m->dR (aR g) m acc (bN ts ++ [[41]]++ws)=some (acc++ts,ws)
 | [],g,acc,ws,m,_,_,hm=>by
  obtain ⟨m,rfl⟩ : ∃ m',m=m'+1:=⟨m-1,by simp at hm;omega⟩
  rw [bN,List.nil_append,List.singleton_append,dR,if_pos rfl,List.append_nil]
 | t :: ts,g,acc,ws,m,hok,hg,hm=>by
  rw [okL] at hok
  rw [htL] at hg
  obtain ⟨m,rfl⟩ : ∃ m',m=m'+1:=⟨m-1,by simp only [List.length_cons] at hm;omega⟩
  obtain ⟨wd,r,e,hne,hr⟩:=aBf t g (bN ts ++ [[41]]++ws) hok.1 (by omega)
  rw [bN,e,List.append_assoc,List.append_assoc,List.cons_append,dR,if_neg hne,← List.append_assoc (bN ts),hr]
  show dR (aR g) m (acc ++ [t]) (bN ts ++ [[41]]++ws)=_
  rw [tB ts g (acc ++ [t]) ws m hok.2 (by omega) (by simp only [List.length_cons] at hm;omega),List.append_assoc,List.singleton_append]
end
theorem vR {rd:bP->List bP->Option (NT × List bP)} {g:Nat} (hrd : ∀ wd ws t rest,rd wd ws=some (t,rest)->wd :: ws=t.words++rest/\t.ok/\t.ht<=g) :
  ∀ (m:Nat) (acc:List NT) (ws:List bP) (ks:List NT) (rest:List bP),dR rd m acc ws=some (ks,rest)->∃ new,ks=acc++new/\ws=bN new++([41] :: rest)/\okL new/\htL new<=g
 | 0,_,_,_,_,h=>by cases h
 | _+1,_,[],_,_,h=>by cases h
 | m+1,acc,wd :: ws,ks,rest,h=>by
  rw [dR] at h
  split at h
  ·rename_i e
   cases h
   exact ⟨[],by simp,by rw [e,bN];rfl,trivial,Nat.zero_le _⟩
  ·split at h
   ·cases h
   ·rename_i r hr
    obtain ⟨t,r2⟩:=r
    obtain ⟨h1,h2,h3⟩:=hrd wd ws t r2 hr
    obtain ⟨new,e1,e2,e3,e4⟩:=vR hrd m (acc ++ [t]) r2 ks rest h
    refine ⟨t :: new,by rw [e1,List.append_assoc];rfl,?_,?_,?_⟩
    ·rw [h1,e2,bN,List.append_assoc]
    ·rw [okL];exact ⟨h2,e3⟩
    ·rw [htL];omega
theorem aFu : ∀ (g:Nat) (wd:bP) (ws:List bP) (t:NT) (rest:List bP),aR g wd ws=some (t,rest)->wd :: ws=t.words++rest/\t.ok/\t.ht<=g
 | 0,_,_,_,_,h=>by cases h
 | g+1,wd,ws,t,rest,h=>by
  have hk : ∀ (mk:List NT->NT) (ws:List bP),dJ (aR g) mk ws=some (t,rest)->∃ ks,t=mk ks/\ws=bN ks++([41] :: rest)/\okL ks/\htL ks<=g:=fun mk ws h=>by
   unfold dJ at h
   obtain ⟨⟨ks,r⟩,h1,h2⟩:=Option.map_eq_some_iff.1 h
   cases h2
   obtain ⟨new,e1,e2,e3,e4⟩:=vR (aFu g) _ _ _ _ _ h1
   rw [List.nil_append] at e1
   subst e1
   exact ⟨_,rfl,e2,e3,e4⟩
  have ho : ∀ (mk:List NT->NT) (ws:List bP),jJ (aR g) mk ws=some (t,rest)->∃ ks,t=mk ks/\ws = [40] :: (bN ks++([41] :: rest))/\okL ks/\htL ks<=g:=fun mk ws h=>by
   cases ws with
   | nil=>cases h
   | cons o ws=>
    rw [jJ] at h
    split at h
    ·rename_i e
     obtain ⟨ks,h1,h2,h3,h4⟩:=hk mk ws h
     exact ⟨ks,h1,by rw [e,h2],h3,h4⟩
    ·cases h
  rw [aR] at h
  split at h
  ·rename_i h1
   split at h
   ·rename_i h2
    obtain ⟨ks,rfl,e2,e3,e4⟩:=ho _ _ h
    refine ⟨?_,?_,?_⟩
    ·rw [NT.words,if_neg (by decide),if_neg (by decide),if_neg (by decide),if_pos rfl]
     show wd :: ws = [(if xM wd=true then [33] else [])++(gZ wd ++ [63])]++([40] :: (bN ks ++ [[41]]))++rest
     rw [aCv h1,e2];simp
    ·rw [NT.ok];exact ⟨aAr _ _ _ (by simpa using h2),e3⟩
    ·rw [NT.ht];omega
   ·cases h
  ·split at h
   ·rename_i h1 h2
    obtain ⟨ks,rfl,e2,e3,e4⟩:=ho _ _ h
    refine ⟨?_,?_,?_⟩
    ·rw [NT.words,if_neg (by decide),if_neg (by decide),if_pos rfl,h2,e2];simp
    ·rw [NT.ok];exact ⟨eY 4 _ (Or.inr rfl),e3⟩
    ·rw [NT.ht];omega
   ·split at h
    ·rename_i h1 h2 h3
     obtain ⟨ks,rfl,e2,e3,e4⟩:=hk _ _ h
     refine ⟨?_,?_,?_⟩
     ·rw [NT.words,if_neg (by decide),if_neg (by decide),if_neg (by decide),if_neg (by decide),h3,e2];simp
     ·rw [NT.ok];exact ⟨eY 3 _ (Or.inl rfl),e3⟩
     ·rw [NT.ht];omega
    ·obtain ⟨t',h1,h2⟩:=Option.map_eq_some_iff.1 h
     cases h2
     unfold fK at h1
     split at h1
     ·rename_i hp
      obtain ⟨hc,ht⟩:=aIl hp
      have hb:=qR wd
      cases hx:Go.Lib.hasPrefix wd [33]
      ·rw [hx] at h1 hb
       cases h1
       refine ⟨?_,?_,?_⟩
       ·have hb':Go.Lib.trimPrefix wd [33]=wd:=by simpa using hb
        rw [NT.words,if_pos (by decide),ht,hb'];rfl
       ·rw [NT.ok];exact ⟨kS _ _ (Or.inl rfl) hc,trivial⟩
       ·simp [NT.ht,htL]
      ·rw [hx] at h1 hb
       cases h1
       refine ⟨?_,?_,?_⟩
       ·have hb':33 :: Go.Lib.trimPrefix wd [33]=wd:=by simpa using hb
        rw [NT.words,if_neg (by decide),if_pos (by decide),ht,hb'];rfl
       ·rw [NT.ok];exact ⟨kS _ _ (Or.inr rfl) hc,trivial⟩
       ·simp [NT.ht,htL]
     ·cases h1
end Go.Proofs.YthaaaecmeafofaaGreatDoor
namespace Go.Proofs.YthaaaecmeafofaaGreatDoor
theorem pT : ∀ (x r:List UInt8),(∀ c∈x,c≠32)->Go.Lib.index (x++32 :: r) [32]=x.length
 | [],r,_=>by simp [Go.Lib.index,List.isPrefixOf]
 | c :: x,r,h=>by
  have hc:=h c (by simp)
  have ih:=pT x r (fun d hd=>h d (by simp [hd]))
  rw [List.cons_append,Go.Lib.index,if_neg (by simp [List.isPrefixOf,Ne.symm hc]),ih,if_neg (by simp)]
  simp
theorem aAa : ∀ x:List UInt8,(∀ c∈x,c≠32)->Go.Lib.index x [32] = -1
 | [],_=>by simp [Go.Lib.index]
 | c :: x,h=>by
  have hc:=h c (by simp)
  rw [Go.Lib.index,if_neg (by simp [List.isPrefixOf,Ne.symm hc]),aAa x (fun d hd=>h d (by simp [hd]))]
  rfl
theorem aKj (x:bP):Go.Lib.join [x] [32]=x:=Go.Lib.join_one x _
theorem aFi (x y:bP) (r:List bP):Go.Lib.join (x :: y :: r) [32]=x++32 :: Go.Lib.join (y :: r) [32]:=by
 simp [Go.Lib.join,List.intercalate,List.intersperse]
theorem aIh (k:Nat) (x r:List UInt8) (h : ∀ c∈x,c≠32):Go.Lib.splitK [32] 0 (k+1) (x++32 :: r)=x :: Go.Lib.splitK [32] 0 k r:=by
 rw [Go.Lib.splitK,pT x r h,if_neg (by simp)]
 simp
theorem aBo (k:Nat) (x:List UInt8) (h : ∀ c∈x,c≠32):Go.Lib.splitK [32] 0 k x = [x]:=by
 cases k with
 | zero=>rfl
 | succ k=>rw [Go.Lib.splitK,aAa x h,if_pos (by decide)]
theorem tV : ∀ (ws:List bP),ws ≠ []->(∀ x∈ws,∀ c∈x,c≠32)->Go.Lib.split (Go.Lib.join ws [32]) [32]=ws
 | [],h,_=>absurd rfl h
 | [x],_,h=>by
  rw [aKj];unfold Go.Lib.split
  exact aBo _ x (h x (by simp))
 | x :: y :: r,_,h=>by
  have hx:=h x (by simp)
  have ih:=tV (y :: r) (by simp) (fun z hz=>h z (by simp at hz ⊢;exact Or.inr hz))
  rw [aFi]
  unfold Go.Lib.split at ih ⊢
  rw [Go.Lib.count_hit (i:=x.length) (by simp) (pT x _ hx),Nat.add_comm,aIh _ _ _ hx]
  have e:List.drop (x.length + [(32:UInt8)].length) (x++32 :: Go.Lib.join (y :: r) [32])=Go.Lib.join (y :: r) [32]:=by
   rw [show x++32 :: Go.Lib.join (y :: r) [32]=(x ++ [32])++Go.Lib.join (y :: r) [32] by simp]
   rw [show x.length + [(32:UInt8)].length=(x ++ [32]).length by simp]
   exact List.drop_left
  rw [e,ih]
theorem aHq {l:List UInt8} (h:aQ l=true) : ∀ c∈l,c≠32:=fun c hc=>(jN (mR (mQ h c hc))).1
mutual
theorem uK : ∀ (t:NT),t.ok->∀ x∈t.words,∀ c∈x,c≠32
 | .node k a fl nt kids,hok,x,hx=>by
  rw [NT.ok] at hok
  rw [NT.words] at hx
  have hend : ∀ l:List bP,x ∈ [40] :: (bN kids ++ [[41]])->∀ c∈x,c≠32:=fun _ hx=>by
   rcases List.mem_cons.1 hx with rfl | hx
   ·decide
   ·rcases List.mem_append.1 hx with hx | hx
    ·exact qZ kids hok.2 x hx
    ·rw [List.mem_singleton.1 hx];decide
  rcases fV hok.1 with ⟨hk,rfl,rfl,rfl,ha⟩ | ⟨hk,rfl,rfl,rfl⟩ | ⟨rfl,rfl,hn⟩
  ·have ht:=pI ha
   rcases hk with rfl | rfl
   ·rw [if_pos rfl] at hx
    rw [List.mem_singleton.1 hx]
    exact fun c hc=>(jN (ht c hc)).1
   ·rw [if_neg (by decide),if_pos rfl] at hx
    rw [List.mem_singleton.1 hx]
    intro c hc
    rcases List.mem_cons.1 hc with rfl | hc
    ·decide
    ·exact (jN (ht c hc)).1
  ·rcases hk with rfl | rfl
   ·rw [if_neg (by decide),if_neg (by decide),if_neg (by decide),if_neg (by decide)] at hx
    exact hend [] hx
   ·rw [if_neg (by decide),if_neg (by decide),if_pos rfl] at hx
    rcases List.mem_append.1 hx with hx | hx
    ·rw [List.mem_singleton.1 hx];decide
    ·exact hend [] hx
  ·rw [if_neg (by decide),if_neg (by decide),if_neg (by decide),if_pos rfl] at hx
   rcases List.mem_append.1 hx with hx | hx
   ·rw [List.mem_singleton.1 hx]
    intro c hc
    rcases List.mem_append.1 hc with hc | hc
    ·split at hc
     ·rw [List.mem_singleton.1 hc];decide
     ·cases hc
    ·rcases List.mem_append.1 hc with hc | hc
     ·exact aHq hn c hc
     ·rw [List.mem_singleton.1 hc];decide
   ·exact hend [] hx
theorem qZ : ∀ (ts:List NT),okL ts->∀ x∈bN ts,∀ c∈x,c≠32
 | [],_,x,hx=>by rw [bN] at hx;cases hx
 | t :: ts,hok,x,hx=>by
  rw [okL] at hok
  rw [bN] at hx
  rcases List.mem_append.1 hx with hx | hx
  ·exact uK t hok.1 x hx
  ·exact qZ ts hok.2 x hx
end
def NT.text (t:NT):List UInt8:=Go.Lib.join t.words [32]
def aFs:List bP->Option NT
 | []=>none
 | wd :: ws=>match aR 4 wd ws with
  | some (t,[])=>some t
  | _=>none
def iI (l:List UInt8):Option NT:=aFs (Go.Lib.split l [32])
def rdE (l:List UInt8):Int:=if 20000<l.length then 2 else match iI l with
 | none=>1
 | some t=>eB t
theorem aBd {t:NT} (h:t.ok) (hh:t.ht<=4):iI t.text=some t:=by
 obtain ⟨wd,r,e,_,hr⟩:=aBf t 4 [] h hh
 unfold iI NT.text
 rw [tV t.words (by rw [e];simp) (uK t h),e,aFs]
 rw [List.append_nil] at hr
 rw [hr]
def iO:List bP->Nat
 | []=>0
 | x :: r=>x.length+1+iO r
theorem lP : ∀ a b:List bP,iO (a++b)=iO a+iO b
 | [],b=>by simp [iO]
 | x :: a,b=>by rw [List.cons_append,iO,iO,lP a b];omega
theorem aAj : ∀ ws:List bP,(Go.Lib.join ws [32]).length<=iO ws
 | []=>by simp [Go.Lib.join,iO]
 | [x]=>by rw [aKj,iO];omega
 | x :: y :: r=>by
  have ih:=aAj (y :: r)
  rw [aFi,iO,List.length_append,List.length_cons];omega
mutual
theorem tC : ∀ t:NT,t.ok->iO t.words<=110*t.size/\t.words.length<=3*t.size
 | .node k a fl nt kids,hok=>by
  rw [NT.ok] at hok
  rw [NT.words,NT.size]
  obtain ⟨ih,ih2⟩:=qQ kids hok.2
  have e:iO ([40] :: (bN kids ++ [[41]]))=iO (bN kids)+4:=by rw [iO,lP];simp only [iO,List.length_cons,List.length_nil];omega
  rcases fV hok.1 with ⟨hk,rfl,rfl,rfl,ha⟩ | ⟨hk,rfl,rfl,rfl⟩ | ⟨rfl,rfl,hn⟩
  ·have ht:(eK a).length<=100:=aBt ha
   rcases hk with rfl | rfl
   ·rw [if_pos rfl];simp only [iO,List.length_cons,List.length_nil];omega
   ·rw [if_neg (by decide),if_pos rfl];simp only [iO,List.length_cons,List.length_nil];omega
  ·rcases hk with rfl | rfl
   ·rw [if_neg (by decide),if_neg (by decide),if_neg (by decide),if_neg (by decide),List.nil_append]
    rw [e];simp only [List.length_cons,List.length_append,List.length_nil];omega
   ·rw [if_neg (by decide),if_neg (by decide),if_pos rfl,lP,e];simp only [iO,List.length_cons,List.length_append,List.length_nil];omega
  ·have h8:=pC hn
   rw [if_neg (by decide),if_neg (by decide),if_neg (by decide),if_pos rfl,lP,e]
   simp only [iO,List.length_cons,List.length_append,List.length_nil]
   have:(if nt=true then [(33:UInt8)] else []).length<=1:=by cases nt<;>simp
   omega
theorem qQ : ∀ ts:List NT,okL ts->iO (bN ts)<=110*bL ts/\(bN ts).length<=3*bL ts
 | [],_=>by rw [bN,iO,bL];exact ⟨by omega,by simp⟩
 | t :: ts,hok=>by
  rw [okL] at hok
  obtain ⟨h1,h2⟩:=tC t hok.1
  obtain ⟨h3,h4⟩:=qQ ts hok.2
  rw [bN,lP,bL,List.length_append];omega
end
theorem aEh {t:NT} (h:eB t=0):t.text.length<=2200/\t.words.length<=60:=by
 obtain ⟨h1,h2⟩:=cN.1 h
 have:=iJ h1
 obtain ⟨h3,h4⟩:=tC t h2
 have h5:=aAj t.words
 unfold NT.text;omega
theorem aLh {t:NT} (h:eB t=0):rdE t.text=0/\iI t.text=some t:=by
 obtain ⟨h1,h2⟩:=cN.1 h
 have e:=aBd h2 (iJ h1).2
 refine ⟨?_,e⟩
 unfold rdE
 have:=aEh h
 rw [if_neg (by omega),e]
 exact h
end Go.Proofs.YthaaaecmeafofaaGreatDoor
