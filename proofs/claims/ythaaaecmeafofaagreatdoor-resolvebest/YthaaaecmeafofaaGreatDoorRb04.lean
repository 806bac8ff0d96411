/- Steps of the proof: NeedText. -/
import Derived.Test.YthaaaecmeafofaaGreatDoorRb03
import Derived.Lib.Split
import Derived.Lib.Join
import Derived.Lib.SplitLaws
set_option maxHeartbeats 16000000
set_option maxRecDepth 100000
namespace Go.Proofs.YthaaaecmeafofaaGreatDoor
structure At where
 n:ByteArray
 op:Int
 v:Int
 sl:Int
 f:ByteArray
 on:Bool
inductive NT where
 | node (k:Int) (a:At) (fl:ByteArray) (nt:Bool) (kids:List NT)
def At.zero:At:=⟨⟨#[]⟩,0,0,0,⟨#[]⟩,false⟩
def NT.zero:NT:= .node 0 At.zero ⟨#[]⟩ false []
def NT.kids:NT->List NT
 | .node _ _ _ _ ks=>ks
def iE (a:At):Int:=chk a.n.data.toList a.op a.v a.sl a.f.data.toList a.on
def fB (a:At):List UInt8:=cA a.n.data.toList a.op a.v a.sl a.f.data.toList a.on
def sP (a:At):Bool:=sH a.n a.op a.v a.sl a.f a.on ⟨#[]⟩ 0 0 0 ⟨#[]⟩ false
def dI (k:Int):Bool:=(k==1)||(k==2)
def dH (k:Int) (a:At) (fl:ByteArray) (nt:Bool) (many:Nat):Bool:=
 decide (1<=k)&&decide (k<=5) && !(dI k&&decide (0<many)) && !(!dI k && !sP a)&&((k==5)||(fl.toList.isEmpty && !nt))
def dF:NT->Int
 | .node k a fl nt kids=>if dH k a fl nt kids.length=false then 4 else if k=5/\aQ fl.data.toList=false then 1 else if dI k=true then iE a else 0
mutual
def bW {σ:Type} (inc:Int->Int) (f:σ->NT->Int->σ × Bool):σ->NT->Int->σ × Bool
 | s,.node k a fl nt kids,d=>if (f s (.node k a fl nt kids) d).2=true then bT inc f (f s (.node k a fl nt kids) d).1 kids (inc d) else ((f s (.node k a fl nt kids) d).1,false)
def bT {σ:Type} (inc:Int->Int) (f:σ->NT->Int->σ × Bool):σ->List NT->Int->σ × Bool
 | s,[],_=>(s,true)
 | s,t :: ts,d=>if (bW inc f s t d).2=true then bT inc f (bW inc f s t d).1 ts d else ((bW inc f s t d).1,false)
end
mutual
def NT.size:NT->Nat
 | .node _ _ _ _ kids=>1+bO kids
def bO:List NT->Nat
 | []=>0
 | t :: ts=>t.size+bO ts
end
mutual
def NT.ht:NT->Nat
 | .node _ _ _ _ kids=>1+htL kids
def htL:List NT->Nat
 | []=>0
 | t :: ts=>max t.ht (htL ts)
end
mutual
def NT.ok:NT->Prop
 | .node k a fl nt kids=>dF (.node k a fl nt kids)=0/\okL kids
def okL:List NT->Prop
 | []=>True
 | t :: ts=>t.ok/\okL ts
end
abbrev bR:=List UInt8
mutual
def NT.words:NT->List bR
 | .node k a fl nt kids=>
  if k=1 then [fB a] else if k=2 then [33 :: fB a]
  else (if k=4 then [[124,124]] else if k=5 then [(if nt then [33] else [])++(fl.data.toList ++ [63])] else [])++([40] :: (bP kids ++ [[41]]))
def bP:List NT->List bR
 | []=> []
 | t :: ts=>t.words++bP ts
end
def yO (s:List UInt8):At:=⟨⟨(nmL s).toArray⟩,opV (veL s),pK (veL s),iI (slL s),⟨((flL s).drop 1).toArray⟩,onV (flL s)⟩
def gE (wd:bR):Option NT:=
 if lW (Go.Lib.trimPrefix wd [33])=0 then some (.node (if Go.Lib.hasPrefix wd [33] then 2 else 1) (yO (Go.Lib.trimPrefix wd [33])) ⟨#[]⟩ false []) else none
def jA (wd:bR):List UInt8:=Go.Lib.trimPrefix (Go.Lib.trimSuffix wd [63]) [33]
def zI (wd:bR):Bool:=Go.Lib.hasPrefix (Go.Lib.trimSuffix wd [63]) [33]
def eA (rd:bR->List bR->Option (NT × List bR)):Nat->List NT->List bR->Option (List NT × List bR)
 | 0,_,_=>none
 | _+1,_,[]=>none
 | m+1,acc,wd :: ws=>if wd = [41] then some (acc,ws) else match rd wd ws with
  | none=>none
  | some r=>eA rd m (acc ++ [r.1]) r.2
def dS (rd:bR->List bR->Option (NT × List bR)) (mk:List NT->NT) (ws:List bR):Option (NT × List bR):=
 (eA rd (ws.length+1) [] ws).map fun r=>(mk r.1,r.2)
def kO (rd:bR->List bR->Option (NT × List bR)) (mk:List NT->NT):List bR->Option (NT × List bR)
 | []=>none
 | o :: ws=>if o = [40] then dS rd mk ws else none
def aR:Nat->bR->List bR->Option (NT × List bR)
 | 0,_,_=>none
 | g+1,wd,ws=>
  if Go.Lib.hasSuffix wd [63]=true then
   if aQ (jA wd)=true then kO (aR g) (.node 5 At.zero ⟨(jA wd).toArray⟩ (zI wd)) ws else none
  else if wd = [124,124] then kO (aR g) (.node 4 At.zero ⟨#[]⟩ false) ws
  else if wd = [40] then dS (aR g) (.node 3 At.zero ⟨#[]⟩ false) ws
  else (gE wd).map fun t=>(t,ws)
def aP (d:Int):Int:=Go.RowKit.wrap64 (d+1)
def fN (s:Int) (_:NT) (d:Int):Int × Bool:=(s+1,decide (s+1<=20)&&decide (d<=4))
def fE (_:Int) (t:NT) (_:Int):Int × Bool:=(dF t,dF t==0)
def fI (t:NT):Bool:= !(bW aP fN 0 t 1).2
def eH (t:NT):Int:=if fI t=true then 2 else (bW aP fE 0 t 1).1
end Go.Proofs.YthaaaecmeafofaaGreatDoor
namespace Go.Proofs.YthaaaecmeafofaaGreatDoor
theorem oU {n m:ByteArray} (h:n.data.toList=m.data.toList):n=m:=by
 cases n;cases m;simp at h;rw [h]
theorem cL (n:ByteArray):(⟨n.data.toList.toArray⟩:ByteArray)=n:=oU (by simp)
theorem lM {n:ByteArray} (h:n.data.toList = []):n=⟨#[]⟩:=oU (by rw [h])
theorem wA {a:At}:sP a=true↔a=At.zero:=by
 unfold sP
 rw [aGa]
 constructor
 ·rintro ⟨h1,h2,h3,h4,h5,h6⟩
  obtain ⟨n,op,v,sl,f,on⟩:=a
  simp only at h1 h2 h3 h4 h5 h6
  rw [lM h1,h2,h3,h4,lM h5,h6]
  rfl
 ·rintro rfl
  exact ⟨rfl,rfl,rfl,rfl,rfl,rfl⟩
theorem zA (b:ByteArray):b.toList.isEmpty=decide (b.data.toList = []):=by
 rw [Go.Lib.toList_data]
 cases h:b.data.toList<;>simp
theorem gQ {k:Int} {a:At} {fl:ByteArray} {nt:Bool} {kids:List NT} (h:dF (.node k a fl nt kids)=0) :
  ((k=1∨k=2)/\kids = []/\fl=⟨#[]⟩/\nt=false/\iE a=0)∨((k=3∨k=4)/\a=At.zero/\fl=⟨#[]⟩/\nt=false)∨(k=5/\a=At.zero/\aQ fl.data.toList=true):=by
 rw [dF] at h
 by_cases hf:dH k a fl nt kids.length=false
 ·rw [if_pos hf] at h;cases h
 ·rw [if_neg hf] at h
  have hf':dH k a fl nt kids.length=true:=by simpa using hf
  unfold dH at hf'
  simp only [Bool.and_eq_true,decide_eq_true_eq,Bool.not_eq_true',Bool.or_eq_true,beq_iff_eq,Bool.and_eq_false_iff,Bool.not_eq_false',decide_eq_false_iff_not,dI,Bool.or_eq_false_iff,zA,beq_eq_false_iff_ne] at hf'
  obtain ⟨⟨⟨⟨h1,h2⟩,h3⟩,h4⟩,h5⟩:=hf'
  split at h
  ·cases h
  ·rename_i h6
   split at h
   ·rename_i h7
    have h7':k=1∨k=2:=by simpa [dI] using h7
    refine Or.inl ⟨h7',?_,?_,?_,h⟩
    ·have : ¬ 0<kids.length:=h3.resolve_left (by rintro ⟨a1,a2⟩;rcases h7' with e | e;exact a1 e;exact a2 e)
     exact List.length_eq_zero_iff.1 (by omega)
    ·exact lM (h5.resolve_left (by omega)).1
    ·exact (h5.resolve_left (by omega)).2
   ·rename_i h7
    have h7' : ¬ (k=1∨k=2):=by simpa [dI] using h7
    have ha:a=At.zero:=by
     rcases h4 with h4 | h4
     ·exact absurd h4 h7'
     ·exact wA.1 h4
    by_cases hk:k=5
    ·refine Or.inr (Or.inr ⟨hk,ha,?_⟩)
     cases hn:aQ fl.data.toList
     ·exact absurd ⟨hk,hn⟩ h6
     ·rfl
    ·exact Or.inr (Or.inl ⟨by omega,ha,lM (h5.resolve_left hk).1,(h5.resolve_left hk).2⟩)
theorem lT (k:Int) (a:At) (hk:k=1∨k=2) (ha:iE a=0):dF (.node k a ⟨#[]⟩ false [])=0:=by
 rcases hk with rfl | rfl
 ·simp [dF,dH,dI,ha]
 ·simp [dF,dH,dI,ha]
theorem rS:sP At.zero=true:=wA.2 rfl
theorem fR (k:Int) (kids:List NT) (hk:k=3∨k=4):dF (.node k At.zero ⟨#[]⟩ false kids)=0:=by
 rcases hk with rfl | rfl
 ·simp [dF,dH,dI,rS]
 ·simp [dF,dH,dI,rS]
theorem aCr (fl:ByteArray) (nt:Bool) (kids:List NT) (h:aQ fl.data.toList=true):dF (.node 5 At.zero fl nt kids)=0:=by
 simp [dF,dH,dI,rS,h]
mutual
theorem vW (inc:Int->Int) : ∀ (t:NT) (s d:Int),((bW inc fE s t d).2=true/\(bW inc fE s t d).1=0/\t.ok)∨((bW inc fE s t d).2=false/\(bW inc fE s t d).1≠0/\¬ t.ok)
 | .node k a fl nt kids,s,d=>by
  rw [bW]
  by_cases h:dF (.node k a fl nt kids)=0
  ·have e:(fE s (.node k a fl nt kids) d).2=true:=by simp [fE,h]
   have e1:(fE s (.node k a fl nt kids) d).1=0:=by simp [fE,h]
   rw [if_pos e,e1]
   rcases uL inc kids (inc d) with ⟨h1,h2,h3⟩ | ⟨h1,h2,h3⟩
   ·exact Or.inl ⟨h1,h2,h,h3⟩
   ·exact Or.inr ⟨h1,h2,fun hh=>h3 hh.2⟩
  ·have e : ¬ (fE s (.node k a fl nt kids) d).2=true:=by simp [fE,h]
   rw [if_neg e]
   exact Or.inr ⟨rfl,h,fun hh=>h hh.1⟩
theorem uL (inc:Int->Int) : ∀ (ts:List NT) (d:Int),((bT inc fE 0 ts d).2=true/\(bT inc fE 0 ts d).1=0/\okL ts)∨((bT inc fE 0 ts d).2=false/\(bT inc fE 0 ts d).1≠0/\¬ okL ts)
 | [],d=>Or.inl ⟨by rw [bT],by rw [bT],by rw [okL];trivial⟩
 | t :: ts,d=>by
  rw [bT]
  rcases vW inc t 0 d with ⟨h1,h2,h3⟩ | ⟨h1,h2,h3⟩
  ·rw [if_pos h1,h2]
   rcases uL inc ts d with ⟨h4,h5,h6⟩ | ⟨h4,h5,h6⟩
   ·exact Or.inl ⟨h4,h5,h3,h6⟩
   ·exact Or.inr ⟨h4,h5,fun hh=>h6 hh.2⟩
  ·rw [if_neg (by rw [h1];decide)]
   exact Or.inr ⟨rfl,h2,fun hh=>h3 hh.1⟩
end
theorem kF {d:Int} (h0:0<=d) (h1:d<=100):aP d=d+1:=by
 unfold aP
 unfold Go.RowKit.wrap64
 omega
mutual
theorem vX : ∀ (t:NT) (s d:Int),1<=d->d<=5->(bW aP fN s t d).2=true->(bW aP fN s t d).1=s+t.size/\(bW aP fN s t d).1<=20/\d+t.ht<=5
 | .node k a fl nt kids,s,d,hd,hd5,h=>by
  rw [bW] at h ⊢
  by_cases e:(fN s (.node k a fl nt kids) d).2=true
  ·rw [if_pos e] at h ⊢
   have e':s+1<=20/\d<=4:=by simpa [fN] using e
   rw [kF (by omega) (by omega)] at h ⊢
   obtain ⟨h1,h2,h3⟩:=uM kids (s+1) (d+1) (by omega) (by omega) e'.1 h
   refine ⟨?_,h2,?_⟩
   ·show (bT aP fN (s+1) kids (d+1)).1=_
    rw [h1,NT.size];omega
   ·rw [NT.ht];omega
  ·rw [if_neg e] at h;cases h
theorem uM : ∀ (ts:List NT) (s d:Int),1<=d->d<=5->s<=20->(bT aP fN s ts d).2=true->(bT aP fN s ts d).1=s+bO ts/\(bT aP fN s ts d).1<=20/\d+htL ts<=5
 | [],s,d,hd,hd5,hs,_=>by
  rw [bT,bO,htL];exact ⟨by omega,hs,by omega⟩
 | t :: ts,s,d,hd,hd5,hs,h=>by
  rw [bT] at h ⊢
  by_cases e:(bW aP fN s t d).2=true
  ·rw [if_pos e] at h ⊢
   obtain ⟨h1,h2,h3⟩:=vX t s d hd hd5 e
   obtain ⟨h4,h5,h6⟩:=uM ts _ d hd hd5 h2 h
   refine ⟨?_,h5,?_⟩
   ·rw [h4,h1,bO];omega
   ·rw [htL];omega
  ·rw [if_neg e] at h;cases h
end
theorem jN {t:NT} (h:fI t=false):t.size<=20/\t.ht<=4:=by
 unfold fI at h
 obtain ⟨h1,h2,h3⟩:=vX t 0 1 (by decide) (by decide) (by simpa using h)
 omega
theorem cZ {t:NT}:eH t=0↔fI t=false/\t.ok:=by
 unfold eH
 cases h:fI t
 ·rw [if_neg (by decide)]
  rcases vW aP t 0 1 with ⟨h1,h2,h3⟩ | ⟨h1,h2,h3⟩
  ·exact ⟨fun _=>⟨rfl,h3⟩,fun _=>h2⟩
  ·exact ⟨fun e=>absurd e h2,fun e=>absurd e.2 h3⟩
 ·rw [if_pos rfl]
  exact ⟨fun e=>absurd e (by decide),fun e=>absurd e.1 (by decide)⟩
def aAh (c:UInt8):Bool:=okB c || [43,45,58,60,61,62].contains c
theorem kT {c:UInt8} (h:aAh c=true):c≠32/\c≠33/\c≠40/\c≠41/\c≠63/\c≠124:=by
 refine ⟨?_,?_,?_,?_,?_,?_⟩<;>rintro rfl<;>revert h<;>decide
theorem nW {c:UInt8} (h:okB c=true):aAh c=true:=by simp [aAh,h]
theorem uJ {i:Int} (h0:0<=i) (h1:i<100) : ∀ c∈Go.Lib.itoa i,aAh c=true:=by
 obtain ⟨j,rfl⟩:=Int.eq_ofNat_of_zero_le h0
 rw [eR]
 exact fun c hc=>nW (aEs (by omega) c hc)
theorem aOj (op:Int) : ∀ c∈iH op,aAh c=true:=by
 unfold iH
 split
 ·decide
 ·split
  ·decide
  ·split
   ·decide
   ·decide
theorem qW {a:At} (h:iE a=0) : ∀ c∈fB a,aAh c=true:=by
 obtain ⟨h1,h2,h3,h4,h5,h6,h7,h8⟩:=mM h
 have hn : ∀ c∈a.n.data.toList,aAh c=true:=fun c hc=>nW (nV h1 c hc)
 have hf : ∀ c∈a.f.data.toList,aAh c=true:=by
  rcases h2 with h2 | h2
  ·rw [h2];intro c hc;cases hc
  ·exact fun c hc=>nW (nV h2 c hc)
 intro c hc
 unfold fB cA at hc
 rw [List.mem_append,List.mem_append,List.mem_append] at hc
 rcases hc with ((hc | hc) | hc) | hc
 ·exact hn c hc
 ·split at hc
  ·cases hc
  ·rename_i h0
   rcases List.mem_append.1 hc with hc | hc
   ·exact aOj _ c hc
   ·have:=rA h0 h7
    exact uJ (by omega) (by omega) c hc
 ·split at hc
  ·cases hc
  ·rcases List.mem_cons.1 hc with rfl | hc
   ·decide
   ·exact uJ h5 (by omega) c hc
 ·split at hc
  ·cases hc
  ·rcases List.mem_cons.1 hc with rfl | hc
   ·split<;>decide
   ·exact hf c hc
theorem aLc {a:At} (h:iE a=0) : ∃ c l,fB a=c :: l:=by
 obtain ⟨h1,_⟩:=mM h
 cases hn:a.n.data.toList with
 | nil=>rw [hn] at h1;exact absurd rfl (nU h1)
 | cons c l=>exact ⟨c,_,by unfold fB cA;rw [hn];rfl⟩
theorem xN {l:List UInt8} (h : ∀ c∈l,c≠63):Go.Lib.hasSuffix l [63]=false:=by
 cases e:Go.Lib.hasSuffix l [63]
 ·rfl
 ·unfold Go.Lib.hasSuffix at e
  have:=List.isSuffixOf_iff_suffix.1 e
  exact absurd rfl (h 63 (this.subset (by simp)))
theorem sL (l:List UInt8):Go.Lib.hasSuffix (l ++ [63]) [63]=true/\Go.Lib.trimSuffix (l ++ [63]) [63]=l:=by
 have h:Go.Lib.hasSuffix (l ++ [63]) [63]=true:=List.isSuffixOf_iff_suffix.2 (List.suffix_append _ _)
 refine ⟨h,?_⟩
 unfold Go.Lib.trimSuffix
 rw [if_pos h]
 simp
theorem aDq {l:List UInt8} (h:Go.Lib.hasSuffix l [63]=true):Go.Lib.trimSuffix l [63] ++ [63]=l:=by
 obtain ⟨r,rfl⟩:=List.isSuffixOf_iff_suffix.1 h
 rw [(sL r).2]
theorem vF {l:List UInt8} (h : ∀ c∈l,c≠33):Go.Lib.hasPrefix l [33]=false/\Go.Lib.trimPrefix l [33]=l:=by
 have e:Go.Lib.hasPrefix l [33]=false:=by
  cases l with
  | nil=>rfl
  | cons c l=>
   have:=h c (by simp)
   simp [Go.Lib.hasPrefix,List.isPrefixOf,Ne.symm this]
 refine ⟨e,?_⟩
 unfold Go.Lib.trimPrefix
 rw [if_neg (by rw [e];decide)]
theorem nC (l:List UInt8):Go.Lib.hasPrefix (33 :: l) [33]=true/\Go.Lib.trimPrefix (33 :: l) [33]=l:=by
 have e:Go.Lib.hasPrefix (33 :: l) [33]=true:=by simp [Go.Lib.hasPrefix,List.isPrefixOf]
 refine ⟨e,?_⟩
 unfold Go.Lib.trimPrefix
 rw [if_pos e];rfl
theorem sF (l:List UInt8):(if Go.Lib.hasPrefix l [33]=true then [33] else [])++Go.Lib.trimPrefix l [33]=l:=by
 cases h:Go.Lib.hasPrefix l [33]
 ·unfold Go.Lib.trimPrefix
  rw [h];rfl
 ·cases l with
  | nil=>cases h
  | cons c l=>
   have:(33:UInt8)=c:=by simpa [Go.Lib.hasPrefix,List.isPrefixOf] using h
   subst this
   rw [(nC l).2];rfl
theorem aIw {a:At} (h:iE a=0):lW (fB a)=0/\yO (fB a)=a:=by
 obtain ⟨p0,p1,p2,p3,p4,p5,p6⟩:=aFw h
 refine ⟨p0,?_⟩
 unfold yO fB
 rw [p1,p2,p3,p4,p5,p6,cL,cL]
theorem aLb {s:List UInt8} (h:lW s=0):iE (yO s)=0/\fB (yO s)=s:=by
 have:=aGl h
 unfold iE fB yO
 simpa using this
theorem aKe {l:List UInt8} (h:aQ l=true) : ∀ c∈l,c≠33:=fun c hc=>(kT (nW (nV h c hc))).2.1
theorem xJ {a:At} (h:iE a=0):gE (fB a)=some (.node 1 a ⟨#[]⟩ false [])/\gE (33 :: fB a)=some (.node 2 a ⟨#[]⟩ false []):=by
 obtain ⟨h1,h2⟩:=vF (l:=fB a) (fun c hc=>(kT (qW h c hc)).2.1)
 obtain ⟨h3,h4⟩:=nC (fB a)
 obtain ⟨p0,p1⟩:=aIw h
 unfold gE
 rw [h1,h2,h3,h4,if_pos p0,if_pos p0,p1]
 exact ⟨rfl,rfl⟩
theorem aJj {fl:List UInt8} (nt:Bool) (h:aQ fl=true):Go.Lib.hasSuffix ((if nt then [33] else [])++(fl ++ [63])) [63]=true/\jA ((if nt then [33] else [])++(fl ++ [63]))=fl/\zI ((if nt then [33] else [])++(fl ++ [63]))=nt:=by
 rw [← List.append_assoc]
 obtain ⟨h1,h2⟩:=sL ((if nt then [33] else [])++fl)
 unfold jA zI
 rw [h2]
 cases nt
 ·obtain ⟨h3,h4⟩:=vF (aKe h)
  exact ⟨h1,h4,h3⟩
 ·obtain ⟨h3,h4⟩:=nC fl
  exact ⟨h1,h4,h3⟩
theorem aFb {wd:bR} (h:Go.Lib.hasSuffix wd [63]=true):(if zI wd=true then [33] else [])++(jA wd ++ [63])=wd:=by
 unfold zI jA
 rw [← List.append_assoc,sF,aDq h]
theorem yA {a:At} (h:iE a=0) (l:List UInt8) (hl:l=fB a∨l=33 :: fB a):Go.Lib.hasSuffix l [63]=false/\l ≠ [124,124]/\l ≠ [40]/\l ≠ [41]:=by
 have ht:=qW h
 obtain ⟨c,r,e⟩:=aLc h
 have hc:=kT (ht c (by rw [e];simp))
 rcases hl with rfl | rfl
 ·refine ⟨xN fun x hx=>(kT (ht x hx)).2.2.2.2.1,?_,?_,?_⟩
  ·rw [e];intro h';injection h' with h1 _;exact hc.2.2.2.2.2 h1
  ·rw [e];intro h';injection h' with h1 _;exact hc.2.2.1 h1
  ·rw [e];intro h';injection h' with h1 _;exact hc.2.2.2.1 h1
 ·refine ⟨xN fun x hx=> ?_,?_,?_,?_⟩
  ·rcases List.mem_cons.1 hx with rfl | hx
   ·decide
   ·exact (kT (ht x hx)).2.2.2.2.1
  ·intro h';injection h' with h1 _;revert h1;decide
  ·intro h';injection h' with h1 _;revert h1;decide
  ·intro h';injection h' with h1 _;revert h1;decide
theorem yF : ∀ t:NT,∃ wd r,t.words=wd :: r
 | .node k a fl nt kids=>by
  rw [NT.words]
  split
  ·exact ⟨_,_,rfl⟩
  ·split
   ·exact ⟨_,_,rfl⟩
   ·split
    ·exact ⟨_,_,rfl⟩
    ·split
     ·exact ⟨_,_,rfl⟩
     ·exact ⟨_,_,rfl⟩
theorem vY : ∀ ts:List NT,ts.length<=(bP ts).length
 | []=>Nat.zero_le _
 | t :: ts=>by
  obtain ⟨wd,r,e⟩:=yF t
  have:=vY ts
  rw [bP,List.length_append,e]
  simp only [List.length_cons];omega
mutual
theorem aDd : ∀ (t:NT) (g:Nat) (ws:List bR),t.ok->t.ht<=g->∃ wd r,t.words=wd :: r/\wd ≠ [41]/\aR g wd (r++ws)=some (t,ws)
 | .node k a fl nt kids,g,ws,hok,hg=>by
  rw [NT.ok] at hok
  rw [NT.ht] at hg
  obtain ⟨g,rfl⟩ : ∃ g',g=g'+1:=⟨g-1,by omega⟩
  rw [NT.words]
  have hkids : ∀ (mk:List NT->NT) (ws:List bR),dS (aR g) mk (bP kids ++ [[41]]++ws)=some (mk kids,ws):=fun mk ws=>by
   unfold dS
   have:=uP kids g [] ws ((bP kids ++ [[41]]++ws).length+1) hok.2 (by omega) (by have:=vY kids;simp only [List.length_append,List.length_cons];omega)
   rw [List.append_assoc,List.singleton_append]
   rw [List.append_assoc,List.singleton_append] at this
   rw [this];rfl
  rcases gQ hok.1 with ⟨hk,rfl,rfl,rfl,ha⟩ | ⟨hk,rfl,rfl,rfl⟩ | ⟨rfl,rfl,hn⟩
  ·rcases hk with rfl | rfl
   ·obtain ⟨w1,w2,w3,w4⟩:=yA ha _ (Or.inl rfl)
    refine ⟨fB a,[],by rw [if_pos rfl],w4,?_⟩
    rw [aR,if_neg (by rw [w1];decide),if_neg w2,if_neg w3,(xJ ha).1];rfl
   ·obtain ⟨w1,w2,w3,w4⟩:=yA ha _ (Or.inr rfl)
    refine ⟨33 :: fB a,[],by rw [if_neg (by decide),if_pos rfl],w4,?_⟩
    rw [aR,if_neg (by rw [w1];decide),if_neg w2,if_neg w3,(xJ ha).2];rfl
  ·rcases hk with rfl | rfl
   ·refine ⟨[40],bP kids ++ [[41]],by rw [if_neg (by decide),if_neg (by decide),if_neg (by decide),if_neg (by decide)];rfl,by decide,?_⟩
    rw [aR,if_neg (by decide),if_neg (by decide),if_pos rfl,hkids]
   ·refine ⟨[124,124],[40] :: (bP kids ++ [[41]]),by rw [if_neg (by decide),if_neg (by decide),if_pos rfl];rfl,by decide,?_⟩
    rw [aR,if_neg (by decide),if_pos rfl,List.cons_append,kO,if_pos rfl,hkids]
  ·obtain ⟨f1,f2,f3⟩:=aJj nt hn
   refine ⟨(if nt then [33] else [])++(fl.data.toList ++ [63]),[40] :: (bP kids ++ [[41]]),by rw [if_neg (by decide),if_neg (by decide),if_neg (by decide),if_pos rfl];rfl,?_,?_⟩
   ·intro e;rw [e] at f1;revert f1;decide
   ·rw [aR,if_pos f1,f2,f3,if_pos hn,List.cons_append,kO,if_pos rfl,hkids,cL]
theorem uP : ∀ (ts:List NT) (g:Nat) (acc:List NT) (ws:List bR) (m:Nat),okL ts->htL ts<=g->ts.length<m->eA (aR g) m acc (bP ts ++ [[41]]++ws)=some (acc++ts,ws)
 | [],g,acc,ws,m,_,_,hm=>by
  obtain ⟨m,rfl⟩ : ∃ m',m=m'+1:=⟨m-1,by simp at hm;omega⟩
  rw [bP,List.nil_append,List.singleton_append,eA,if_pos rfl,List.append_nil]
 | t :: ts,g,acc,ws,m,hok,hg,hm=>by
  rw [okL] at hok
  rw [htL] at hg
  obtain ⟨m,rfl⟩ : ∃ m',m=m'+1:=⟨m-1,by simp only [List.length_cons] at hm;omega⟩
  obtain ⟨wd,r,e,hne,hr⟩:=aDd t g (bP ts ++ [[41]]++ws) hok.1 (by omega)
  rw [bP,e,List.append_assoc,List.append_assoc,List.cons_append,eA,if_neg hne,← List.append_assoc (bP ts),hr]
  show eA (aR g) m (acc ++ [t]) (bP ts ++ [[41]]++ws)=_
  rw [uP ts g (acc ++ [t]) ws m hok.2 (by omega) (by simp only [List.length_cons] at hm;omega),List.append_assoc,List.singleton_append]
end
theorem xI {rd:bR->List bR->Option (NT × List bR)} {g:Nat} (hrd : ∀ wd ws t rest,rd wd ws=some (t,rest)->wd :: ws=t.words++rest/\t.ok/\t.ht<=g) :
  ∀ (m:Nat) (acc:List NT) (ws:List bR) (ks:List NT) (rest:List bR),eA rd m acc ws=some (ks,rest)->∃ new,ks=acc++new/\ws=bP new++([41] :: rest)/\okL new/\htL new<=g
 | 0,_,_,_,_,h=>by cases h
 | _+1,_,[],_,_,h=>by cases h
 | m+1,acc,wd :: ws,ks,rest,h=>by
  rw [eA] at h
  split at h
  ·rename_i e
   cases h
   exact ⟨[],by simp,by rw [e,bP];rfl,trivial,Nat.zero_le _⟩
  ·split at h
   ·cases h
   ·rename_i r hr
    obtain ⟨t,r2⟩:=r
    obtain ⟨h1,h2,h3⟩:=hrd wd ws t r2 hr
    obtain ⟨new,e1,e2,e3,e4⟩:=xI hrd m (acc ++ [t]) r2 ks rest h
    refine ⟨t :: new,by rw [e1,List.append_assoc];rfl,?_,?_,?_⟩
    ·rw [h1,e2,bP,List.append_assoc]
    ·rw [okL];exact ⟨h2,e3⟩
    ·rw [htL];omega
theorem aIj : ∀ (g:Nat) (wd:bR) (ws:List bR) (t:NT) (rest:List bR),aR g wd ws=some (t,rest)->wd :: ws=t.words++rest/\t.ok/\t.ht<=g
 | 0,_,_,_,_,h=>by cases h
 | g+1,wd,ws,t,rest,h=>by
  have hk : ∀ (mk:List NT->NT) (ws:List bR),dS (aR g) mk ws=some (t,rest)->∃ ks,t=mk ks/\ws=bP ks++([41] :: rest)/\okL ks/\htL ks<=g:=fun mk ws h=>by
   unfold dS at h
   obtain ⟨⟨ks,r⟩,h1,h2⟩:=Option.map_eq_some_iff.1 h
   cases h2
   obtain ⟨new,e1,e2,e3,e4⟩:=xI (aIj g) _ _ _ _ _ h1
   rw [List.nil_append] at e1
   subst e1
   exact ⟨_,rfl,e2,e3,e4⟩
  have ho : ∀ (mk:List NT->NT) (ws:List bR),kO (aR g) mk ws=some (t,rest)->∃ ks,t=mk ks/\ws = [40] :: (bP ks++([41] :: rest))/\okL ks/\htL ks<=g:=fun mk ws h=>by
   cases ws with
   | nil=>cases h
   | cons o ws=>
    rw [kO] at h
    split at h
    ·rename_i e
     obtain ⟨ks,h1,h2,h3,h4⟩:=hk mk ws h
     exact ⟨ks,h1,by rw [e,h2],h3,h4⟩
    ·cases h
  rw [aR] at h
  split at h
  ·rename_i h1
   split at h
   ·rename_i h2
    obtain ⟨ks,rfl,e2,e3,e4⟩:=ho _ _ h
    refine ⟨?_,?_,?_⟩
    ·rw [NT.words,if_neg (by decide),if_neg (by decide),if_neg (by decide),if_pos rfl]
     show wd :: ws = [(if zI wd=true then [33] else [])++(jA wd ++ [63])]++([40] :: (bP ks ++ [[41]]))++rest
     rw [aFb h1,e2];simp
    ·rw [NT.ok];exact ⟨aCr _ _ _ (by simpa using h2),e3⟩
    ·rw [NT.ht];omega
   ·cases h
  ·split at h
   ·rename_i h1 h2
    obtain ⟨ks,rfl,e2,e3,e4⟩:=ho _ _ h
    refine ⟨?_,?_,?_⟩
    ·rw [NT.words,if_neg (by decide),if_neg (by decide),if_pos rfl,h2,e2];simp
    ·rw [NT.ok];exact ⟨fR 4 _ (Or.inr rfl),e3⟩
    ·rw [NT.ht];omega
   ·split at h
    ·rename_i h1 h2 h3
     obtain ⟨ks,rfl,e2,e3,e4⟩:=hk _ _ h
     refine ⟨?_,?_,?_⟩
     ·rw [NT.words,if_neg (by decide),if_neg (by decide),if_neg (by decide),if_neg (by decide),h3,e2];simp
     ·rw [NT.ok];exact ⟨fR 3 _ (Or.inl rfl),e3⟩
     ·rw [NT.ht];omega
    ·obtain ⟨t',h1,h2⟩:=Option.map_eq_some_iff.1 h
     cases h2
     unfold gE at h1
     split at h1
     ·rename_i hp
      obtain ⟨hc,ht⟩:=aLb hp
      have hb:=sF wd
      cases hx:Go.Lib.hasPrefix wd [33]
      ·rw [hx] at h1 hb
       cases h1
       refine ⟨?_,?_,?_⟩
       ·have hb':Go.Lib.trimPrefix wd [33]=wd:=by simpa using hb
        rw [NT.words,if_pos (by decide),ht,hb'];rfl
       ·rw [NT.ok];exact ⟨lT _ _ (Or.inl rfl) hc,trivial⟩
       ·simp [NT.ht,htL]
      ·rw [hx] at h1 hb
       cases h1
       refine ⟨?_,?_,?_⟩
       ·have hb':33 :: Go.Lib.trimPrefix wd [33]=wd:=by simpa using hb
        rw [NT.words,if_neg (by decide),if_pos (by decide),ht,hb'];rfl
       ·rw [NT.ok];exact ⟨lT _ _ (Or.inr rfl) hc,trivial⟩
       ·simp [NT.ht,htL]
     ·cases h1
end Go.Proofs.YthaaaecmeafofaaGreatDoor
namespace Go.Proofs.YthaaaecmeafofaaGreatDoor
theorem pA : ∀ (x r:List UInt8),(∀ c∈x,c≠32)->Go.Lib.index (x++32 :: r) [32]=x.length
 | [],r,_=>by simp [Go.Lib.index,List.isPrefixOf]
 | c :: x,r,h=>by
  have hc:=h c (by simp)
  have ih:=pA x r (fun d hd=>h d (by simp [hd]))
  rw [List.cons_append,Go.Lib.index,if_neg (by simp [List.isPrefixOf,Ne.symm hc]),ih,if_neg (by simp)]
  simp
theorem aCc : ∀ x:List UInt8,(∀ c∈x,c≠32)->Go.Lib.index x [32] = -1
 | [],_=>by simp [Go.Lib.index]
 | c :: x,h=>by
  have hc:=h c (by simp)
  rw [Go.Lib.index,if_neg (by simp [List.isPrefixOf,Ne.symm hc]),aCc x (fun d hd=>h d (by simp [hd]))]
  rfl
theorem aMv (x:bR):Go.Lib.join [x] [32]=x:=Go.Lib.join_one x _
theorem aHt (x y:bR) (r:List bR):Go.Lib.join (x :: y :: r) [32]=x++32 :: Go.Lib.join (y :: r) [32]:=by
 simp [Go.Lib.join,List.intercalate,List.intersperse]
theorem aKw (k:Nat) (x r:List UInt8) (h : ∀ c∈x,c≠32):Go.Lib.splitK [32] 0 (k+1) (x++32 :: r)=x :: Go.Lib.splitK [32] 0 k r:=by
 rw [Go.Lib.splitK,pA x r h,if_neg (by simp)]
 simp
theorem aDp (k:Nat) (x:List UInt8) (h : ∀ c∈x,c≠32):Go.Lib.splitK [32] 0 k x = [x]:=by
 cases k with
 | zero=>rfl
 | succ k=>rw [Go.Lib.splitK,aCc x h,if_pos (by decide)]
theorem vM : ∀ (ws:List bR),ws ≠ []->(∀ x∈ws,∀ c∈x,c≠32)->Go.Lib.split (Go.Lib.join ws [32]) [32]=ws
 | [],h,_=>absurd rfl h
 | [x],_,h=>by
  rw [aMv];unfold Go.Lib.split
  exact aDp _ x (h x (by simp))
 | x :: y :: r,_,h=>by
  have hx:=h x (by simp)
  have ih:=vM (y :: r) (by simp) (fun z hz=>h z (by simp at hz ⊢;exact Or.inr hz))
  rw [aHt]
  unfold Go.Lib.split at ih ⊢
  rw [Go.Lib.count_hit (i:=x.length) (by simp) (pA x _ hx),Nat.add_comm,aKw _ _ _ hx]
  have e:List.drop (x.length + [(32:UInt8)].length) (x++32 :: Go.Lib.join (y :: r) [32])=Go.Lib.join (y :: r) [32]:=by
   rw [show x++32 :: Go.Lib.join (y :: r) [32]=(x ++ [32])++Go.Lib.join (y :: r) [32] by simp]
   rw [show x.length + [(32:UInt8)].length=(x ++ [32]).length by simp]
   exact List.drop_left
  rw [e,ih]
theorem aKd {l:List UInt8} (h:aQ l=true) : ∀ c∈l,c≠32:=fun c hc=>(kT (nW (nV h c hc))).1
mutual
theorem vZ : ∀ (t:NT),t.ok->∀ x∈t.words,∀ c∈x,c≠32
 | .node k a fl nt kids,hok,x,hx=>by
  rw [NT.ok] at hok
  rw [NT.words] at hx
  have hend : ∀ l:List bR,x ∈ [40] :: (bP kids ++ [[41]])->∀ c∈x,c≠32:=fun _ hx=>by
   rcases List.mem_cons.1 hx with rfl | hx
   ·decide
   ·rcases List.mem_append.1 hx with hx | hx
    ·exact sN kids hok.2 x hx
    ·rw [List.mem_singleton.1 hx];decide
  rcases gQ hok.1 with ⟨hk,rfl,rfl,rfl,ha⟩ | ⟨hk,rfl,rfl,rfl⟩ | ⟨rfl,rfl,hn⟩
  ·have ht:=qW ha
   rcases hk with rfl | rfl
   ·rw [if_pos rfl] at hx
    rw [List.mem_singleton.1 hx]
    exact fun c hc=>(kT (ht c hc)).1
   ·rw [if_neg (by decide),if_pos rfl] at hx
    rw [List.mem_singleton.1 hx]
    intro c hc
    rcases List.mem_cons.1 hc with rfl | hc
    ·decide
    ·exact (kT (ht c hc)).1
  ·rcases hk with rfl | rfl
   ·rw [if_neg (by decide),if_neg (by decide),if_neg (by decide),if_neg (by decide)] at hx
    exact hend [] hx
   ·rw [if_neg (by decide),if_neg (by decide),if_pos rfl] at hx
    rcases List.mem_append.1 hx with hx | hx
    ·rw [List.mem_singleton.1 hx];decide
    ·exact hend [] hx
  ·rw [if_neg (by decide),if_neg (by decide),if_neg (by decide),if_pos rfl] at hx
   rcases List.mem_append.1 hx with hx | hx
   ·rw [List.mem_singleton.1 hx]
    intro c hc
    rcases List.mem_append.1 hc with hc | hc
    ·split at hc
     ·rw [List.mem_singleton.1 hc];decide
     ·cases hc
    ·rcases List.mem_append.1 hc with hc | hc
     ·exact aKd hn c hc
     ·rw [List.mem_singleton.1 hc];decide
   ·exact hend [] hx
theorem sN : ∀ (ts:List NT),okL ts->∀ x∈bP ts,∀ c∈x,c≠32
 | [],_,x,hx=>by rw [bP] at hx;cases hx
 | t :: ts,hok,x,hx=>by
  rw [okL] at hok
  rw [bP] at hx
  rcases List.mem_append.1 hx with hx | hx
  ·exact vZ t hok.1 x hx
  ·exact sN ts hok.2 x hx
end
def NT.text (t:NT):List UInt8:=Go.Lib.join t.words [32]
def aIh:List bR->Option NT
 | []=>none
 | wd :: ws=>match aR 4 wd ws with
  | some (t,[])=>some t
  | _=>none
def jL (l:List UInt8):Option NT:=aIh (Go.Lib.split l [32])
def rdE (l:List UInt8):Int:=if 20000<l.length then 2 else match jL l with
 | none=>1
 | some t=>eH t
theorem aDb {t:NT} (h:t.ok) (hh:t.ht<=4):jL t.text=some t:=by
 obtain ⟨wd,r,e,_,hr⟩:=aDd t 4 [] h hh
 unfold jL NT.text
 rw [vM t.words (by rw [e];simp) (vZ t h),e,aIh]
 rw [List.append_nil] at hr
 rw [hr]
def jR:List bR->Nat
 | []=>0
 | x :: r=>x.length+1+jR r
theorem mS : ∀ a b:List bR,jR (a++b)=jR a+jR b
 | [],b=>by simp [jR]
 | x :: a,b=>by rw [List.cons_append,jR,jR,mS a b];omega
theorem aCj : ∀ ws:List bR,(Go.Lib.join ws [32]).length<=jR ws
 | []=>by simp [Go.Lib.join,jR]
 | [x]=>by rw [aMv,jR];omega
 | x :: y :: r=>by
  have ih:=aCj (y :: r)
  rw [aHt,jR,List.length_append,List.length_cons];omega
mutual
theorem uQ : ∀ t:NT,t.ok->jR t.words<=110*t.size/\t.words.length<=3*t.size
 | .node k a fl nt kids,hok=>by
  rw [NT.ok] at hok
  rw [NT.words,NT.size]
  obtain ⟨ih,ih2⟩:=sE kids hok.2
  have e:jR ([40] :: (bP kids ++ [[41]]))=jR (bP kids)+4:=by rw [jR,mS];simp only [jR,List.length_cons,List.length_nil];omega
  rcases gQ hok.1 with ⟨hk,rfl,rfl,rfl,ha⟩ | ⟨hk,rfl,rfl,rfl⟩ | ⟨rfl,rfl,hn⟩
  ·have ht:(fB a).length<=100:=aDu ha
   rcases hk with rfl | rfl
   ·rw [if_pos rfl];simp only [jR,List.length_cons,List.length_nil];omega
   ·rw [if_neg (by decide),if_pos rfl];simp only [jR,List.length_cons,List.length_nil];omega
  ·rcases hk with rfl | rfl
   ·rw [if_neg (by decide),if_neg (by decide),if_neg (by decide),if_neg (by decide),List.nil_append]
    rw [e];simp only [List.length_cons,List.length_append,List.length_nil];omega
   ·rw [if_neg (by decide),if_neg (by decide),if_pos rfl,mS,e];simp only [jR,List.length_cons,List.length_append,List.length_nil];omega
  ·have h8:=qK hn
   rw [if_neg (by decide),if_neg (by decide),if_neg (by decide),if_pos rfl,mS,e]
   simp only [jR,List.length_cons,List.length_append,List.length_nil]
   have:(if nt=true then [(33:UInt8)] else []).length<=1:=by cases nt<;>simp
   omega
theorem sE : ∀ ts:List NT,okL ts->jR (bP ts)<=110*bO ts/\(bP ts).length<=3*bO ts
 | [],_=>by rw [bP,jR,bO];exact ⟨by omega,by simp⟩
 | t :: ts,hok=>by
  rw [okL] at hok
  obtain ⟨h1,h2⟩:=uQ t hok.1
  obtain ⟨h3,h4⟩:=sE ts hok.2
  rw [bP,mS,bO,List.length_append];omega
end
theorem aGn {t:NT} (h:eH t=0):t.text.length<=2200/\t.words.length<=60:=by
 obtain ⟨h1,h2⟩:=cZ.1 h
 have:=jN h1
 obtain ⟨h3,h4⟩:=uQ t h2
 have h5:=aCj t.words
 unfold NT.text;omega
theorem aOa {t:NT} (h:eH t=0):rdE t.text=0/\jL t.text=some t:=by
 obtain ⟨h1,h2⟩:=cZ.1 h
 have e:=aDb h2 (jN h1).2
 refine ⟨?_,e⟩
 unfold rdE
 have:=aGn h
 rw [if_neg (by omega),e]
 exact h
end Go.Proofs.YthaaaecmeafofaaGreatDoor
