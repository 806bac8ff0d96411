/- Steps of the proof: NeedText. -/
import Derived.Test.YtonlloiemgdfkaaGreatDoorOm03
import Derived.Lib.Split
import Derived.Lib.Join
import Derived.Lib.SplitLaws
set_option maxHeartbeats 16000000
set_option maxRecDepth 100000
namespace Go.Proofs.YtonlloiemgdfkaaGreatDoor
structure At where
 n:ByteArray
 op:Int
 v:Int
 sl:Int
 f:ByteArray
 on:Bool
inductive NT where
 | node (k:Int) (a:At) (fl:ByteArray) (nt:Bool) (kids:List NT)
def At.zero:At:=⟨⟨#[]⟩,0,0,0,⟨#[]⟩,false⟩
def NT.zero:NT:= .node 0 At.zero ⟨#[]⟩ false []
def NT.kids:NT->List NT
 | .node _ _ _ _ ks=>ks
def mV (a:At):Int:=chk a.n.data.toList a.op a.v a.sl a.f.data.toList a.on
def dH (a:At):List UInt8:=bG a.n.data.toList a.op a.v a.sl a.f.data.toList a.on
def mD (a:At):Bool:=lU a.n a.op a.v a.sl a.f a.on ⟨#[]⟩ 0 0 0 ⟨#[]⟩ false
def bW (k:Int):Bool:=(k==1)||(k==2)
def bV (k:Int) (a:At) (fl:ByteArray) (nt:Bool) (many:Nat):Bool:=
 decide (1<=k)&&decide (k<=5) && !(bW k&&decide (0<many)) && !(!bW k && !mD a)&&((k==5)||(fl.toList.isEmpty && !nt))
def cC:NT->Int
 | .node k a fl nt kids=>if bV k a fl nt kids.length=false then 4 else if k=5/\aK fl.data.toList=false then 1 else if bW k=true then mV a else 0
mutual
def bF {σ:Type} (inc:Int->Int) (f:σ->NT->Int->σ × Bool):σ->NT->Int->σ × Bool
 | s,.node k a fl nt kids,d=>if (f s (.node k a fl nt kids) d).2=true then bE inc f (f s (.node k a fl nt kids) d).1 kids (inc d) else ((f s (.node k a fl nt kids) d).1,false)
def bE {σ:Type} (inc:Int->Int) (f:σ->NT->Int->σ × Bool):σ->List NT->Int->σ × Bool
 | s,[],_=>(s,true)
 | s,t :: ts,d=>if (bF inc f s t d).2=true then bE inc f (bF inc f s t d).1 ts d else ((bF inc f s t d).1,false)
end
mutual
def NT.size:NT->Nat
 | .node _ _ _ _ kids=>1+bD kids
def bD:List NT->Nat
 | []=>0
 | t :: ts=>t.size+bD ts
end
mutual
def NT.ht:NT->Nat
 | .node _ _ _ _ kids=>1+htL kids
def htL:List NT->Nat
 | []=>0
 | t :: ts=>max t.ht (htL ts)
end
mutual
def NT.ok:NT->Prop
 | .node k a fl nt kids=>cC (.node k a fl nt kids)=0/\okL kids
def okL:List NT->Prop
 | []=>True
 | t :: ts=>t.ok/\okL ts
end
abbrev bB:=List UInt8
mutual
def NT.words:NT->List bB
 | .node k a fl nt kids=>
  if k=1 then [dH a] else if k=2 then [33 :: dH a]
  else (if k=4 then [[124,124]] else if k=5 then [(if nt then [33] else [])++(fl.data.toList ++ [63])] else [])++([40] :: (aX kids ++ [[41]]))
def aX:List NT->List bB
 | []=> []
 | t :: ts=>t.words++aX ts
end
def qR (s:List UInt8):At:=⟨⟨(nmL s).toArray⟩,opV (veL s),jW (veL s),eS (slL s),⟨((flL s).drop 1).toArray⟩,onV (flL s)⟩
def dY (wd:bB):Option NT:=
 if hJ (Go.Lib.trimPrefix wd [33])=0 then some (.node (if Go.Lib.hasPrefix wd [33] then 2 else 1) (qR (Go.Lib.trimPrefix wd [33])) ⟨#[]⟩ false []) else none
def fH (wd:bB):List UInt8:=Go.Lib.trimPrefix (Go.Lib.trimSuffix wd [63]) [33]
def rG (wd:bB):Bool:=Go.Lib.hasPrefix (Go.Lib.trimSuffix wd [63]) [33]
def cK (rd:bB->List bB->Option (NT × List bB)):Nat->List NT->List bB->Option (List NT × List bB)
 | 0,_,_=>none
 | _+1,_,[]=>none
 | m+1,acc,wd :: ws=>if wd = [41] then some (acc,ws) else match rd wd ws with
  | none=>none
  | some r=>cK rd m (acc ++ [r.1]) r.2
def cD (rd:bB->List bB->Option (NT × List bB)) (mk:List NT->NT) (ws:List bB):Option (NT × List bB):=
 (cK rd (ws.length+1) [] ws).map fun r=>(mk r.1,r.2)
def gG (rd:bB->List bB->Option (NT × List bB)) (mk:List NT->NT):List bB->Option (NT × List bB)
 | []=>none
 | o :: ws=>if o = [40] then cD rd mk ws else none
def aL:Nat->bB->List bB->Option (NT × List bB)
 | 0,_,_=>none
 | g+1,wd,ws=>
  if Go.Lib.hasSuffix wd [63]=true then
   if aK (fH wd)=true then gG (aL g) (.node 5 At.zero ⟨(fH wd).toArray⟩ (rG wd)) ws else none
  else if wd = [124,124] then gG (aL g) (.node 4 At.zero ⟨#[]⟩ false) ws
  else if wd = [40] then cD (aL g) (.node 3 At.zero ⟨#[]⟩ false) ws
  else (dY wd).map fun t=>(t,ws)
def aI (d:Int):Int:=Go.RowKit.wrap64 (d+1)
def fN (s:Int) (_:NT) (d:Int):Int × Bool:=(s+1,decide (s+1<=20)&&decide (d<=4))
def fE (_:Int) (t:NT) (_:Int):Int × Bool:=(cC t,cC t==0)
def dK (t:NT):Bool:= !(bF aI fN 0 t 1).2
def cY (t:NT):Int:=if dK t=true then 2 else (bF aI fE 0 t 1).1
end Go.Proofs.YtonlloiemgdfkaaGreatDoor
namespace Go.Proofs.YtonlloiemgdfkaaGreatDoor
theorem gT {n m:ByteArray} (h:n.data.toList=m.data.toList):n=m:=by
 cases n;cases m;simp at h;rw [h]
theorem bN (n:ByteArray):(⟨n.data.toList.toArray⟩:ByteArray)=n:=gT (by simp)
theorem gS {n:ByteArray} (h:n.data.toList = []):n=⟨#[]⟩:=gT (by rw [h])
theorem oT {a:At}:mD a=true↔a=At.zero:=by
 unfold mD
 rw [vG]
 constructor
 ·rintro ⟨h1,h2,h3,h4,h5,h6⟩
  obtain ⟨n,op,v,sl,f,on⟩:=a
  simp only at h1 h2 h3 h4 h5 h6
  rw [gS h1,h2,h3,h4,gS h5,h6]
  rfl
 ·rintro rfl
  exact ⟨rfl,rfl,rfl,rfl,rfl,rfl⟩
theorem rE (b:ByteArray):b.toList.isEmpty=decide (b.data.toList = []):=by
 rw [Go.Lib.toList_data]
 cases h:b.data.toList<;>simp
theorem fM {k:Int} {a:At} {fl:ByteArray} {nt:Bool} {kids:List NT} (h:cC (.node k a fl nt kids)=0) :
  ((k=1∨k=2)/\kids = []/\fl=⟨#[]⟩/\nt=false/\mV a=0)∨((k=3∨k=4)/\a=At.zero/\fl=⟨#[]⟩/\nt=false)∨(k=5/\a=At.zero/\aK fl.data.toList=true):=by
 rw [cC] at h
 by_cases hf:bV k a fl nt kids.length=false
 ·rw [if_pos hf] at h;cases h
 ·rw [if_neg hf] at h
  have hf':bV k a fl nt kids.length=true:=by simpa using hf
  unfold bV at hf'
  simp only [Bool.and_eq_true,decide_eq_true_eq,Bool.not_eq_true',Bool.or_eq_true,beq_iff_eq,Bool.and_eq_false_iff,Bool.not_eq_false',decide_eq_false_iff_not,bW,Bool.or_eq_false_iff,rE,beq_eq_false_iff_ne] at hf'
  obtain ⟨⟨⟨⟨h1,h2⟩,h3⟩,h4⟩,h5⟩:=hf'
  split at h
  ·cases h
  ·rename_i h6
   split at h
   ·rename_i h7
    have h7':k=1∨k=2:=by simpa [bW] using h7
    refine Or.inl ⟨h7',?_,?_,?_,h⟩
    ·have : ¬ 0<kids.length:=h3.resolve_left (by rintro ⟨a1,a2⟩;rcases h7' with e | e;exact a1 e;exact a2 e)
     exact List.length_eq_zero_iff.1 (by omega)
    ·exact gS (h5.resolve_left (by omega)).1
    ·exact (h5.resolve_left (by omega)).2
   ·rename_i h7
    have h7' : ¬ (k=1∨k=2):=by simpa [bW] using h7
    have ha:a=At.zero:=by
     rcases h4 with h4 | h4
     ·exact absurd h4 h7'
     ·exact oT.1 h4
    by_cases hk:k=5
    ·refine Or.inr (Or.inr ⟨hk,ha,?_⟩)
     cases hn:aK fl.data.toList
     ·exact absurd ⟨hk,hn⟩ h6
     ·rfl
    ·exact Or.inr (Or.inl ⟨by omega,ha,gS (h5.resolve_left hk).1,(h5.resolve_left hk).2⟩)
theorem gY (k:Int) (a:At) (hk:k=1∨k=2) (ha:mV a=0):cC (.node k a ⟨#[]⟩ false [])=0:=by
 rcases hk with rfl | rfl
 ·simp [cC,bV,bW,ha]
 ·simp [cC,bV,bW,ha]
theorem lK:mD At.zero=true:=oT.2 rfl
theorem dP (k:Int) (kids:List NT) (hk:k=3∨k=4):cC (.node k At.zero ⟨#[]⟩ false kids)=0:=by
 rcases hk with rfl | rfl
 ·simp [cC,bV,bW,lK]
 ·simp [cC,bV,bW,lK]
theorem sZ (fl:ByteArray) (nt:Bool) (kids:List NT) (h:aK fl.data.toList=true):cC (.node 5 At.zero fl nt kids)=0:=by
 simp [cC,bV,bW,lK,h]
mutual
theorem oP (inc:Int->Int) : ∀ (t:NT) (s d:Int),((bF inc fE s t d).2=true/\(bF inc fE s t d).1=0/\t.ok)∨((bF inc fE s t d).2=false/\(bF inc fE s t d).1≠0/\¬ t.ok)
 | .node k a fl nt kids,s,d=>by
  rw [bF]
  by_cases h:cC (.node k a fl nt kids)=0
  ·have e:(fE s (.node k a fl nt kids) d).2=true:=by simp [fE,h]
   have e1:(fE s (.node k a fl nt kids) d).1=0:=by simp [fE,h]
   rw [if_pos e,e1]
   rcases nM inc kids (inc d) with ⟨h1,h2,h3⟩ | ⟨h1,h2,h3⟩
   ·exact Or.inl ⟨h1,h2,h,h3⟩
   ·exact Or.inr ⟨h1,h2,fun hh=>h3 hh.2⟩
  ·have e : ¬ (fE s (.node k a fl nt kids) d).2=true:=by simp [fE,h]
   rw [if_neg e]
   exact Or.inr ⟨rfl,h,fun hh=>h hh.1⟩
theorem nM (inc:Int->Int) : ∀ (ts:List NT) (d:Int),((bE inc fE 0 ts d).2=true/\(bE inc fE 0 ts d).1=0/\okL ts)∨((bE inc fE 0 ts d).2=false/\(bE inc fE 0 ts d).1≠0/\¬ okL ts)
 | [],d=>Or.inl ⟨by rw [bE],by rw [bE],by rw [okL];trivial⟩
 | t :: ts,d=>by
  rw [bE]
  rcases oP inc t 0 d with ⟨h1,h2,h3⟩ | ⟨h1,h2,h3⟩
  ·rw [if_pos h1,h2]
   rcases nM inc ts d with ⟨h4,h5,h6⟩ | ⟨h4,h5,h6⟩
   ·exact Or.inl ⟨h4,h5,h3,h6⟩
   ·exact Or.inr ⟨h4,h5,fun hh=>h6 hh.2⟩
  ·rw [if_neg (by rw [h1];decide)]
   exact Or.inr ⟨rfl,h2,fun hh=>h3 hh.1⟩
end
theorem gA {d:Int} (h0:0<=d) (h1:d<=100):aI d=d+1:=by
 unfold aI
 unfold Go.RowKit.wrap64
 omega
mutual
theorem oQ : ∀ (t:NT) (s d:Int),1<=d->d<=5->(bF aI fN s t d).2=true->(bF aI fN s t d).1=s+t.size/\(bF aI fN s t d).1<=20/\d+t.ht<=5
 | .node k a fl nt kids,s,d,hd,hd5,h=>by
  rw [bF] at h ⊢
  by_cases e:(fN s (.node k a fl nt kids) d).2=true
  ·rw [if_pos e] at h ⊢
   have e':s+1<=20/\d<=4:=by simpa [fN] using e
   rw [gA (by omega) (by omega)] at h ⊢
   obtain ⟨h1,h2,h3⟩:=nN kids (s+1) (d+1) (by omega) (by omega) e'.1 h
   refine ⟨?_,h2,?_⟩
   ·show (bE aI fN (s+1) kids (d+1)).1=_
    rw [h1,NT.size];omega
   ·rw [NT.ht];omega
  ·rw [if_neg e] at h;cases h
theorem nN : ∀ (ts:List NT) (s d:Int),1<=d->d<=5->s<=20->(bE aI fN s ts d).2=true->(bE aI fN s ts d).1=s+bD ts/\(bE aI fN s ts d).1<=20/\d+htL ts<=5
 | [],s,d,hd,hd5,hs,_=>by
  rw [bE,bD,htL];exact ⟨by omega,hs,by omega⟩
 | t :: ts,s,d,hd,hd5,hs,h=>by
  rw [bE] at h ⊢
  by_cases e:(bF aI fN s t d).2=true
  ·rw [if_pos e] at h ⊢
   obtain ⟨h1,h2,h3⟩:=oQ t s d hd hd5 e
   obtain ⟨h4,h5,h6⟩:=nN ts _ d hd hd5 h2 h
   refine ⟨?_,h5,?_⟩
   ·rw [h4,h1,bD];omega
   ·rw [htL];omega
  ·rw [if_neg e] at h;cases h
end
theorem iV {t:NT} (h:dK t=false):t.size<=20/\t.ht<=4:=by
 unfold dK at h
 obtain ⟨h1,h2,h3⟩:=oQ t 0 1 (by decide) (by decide) (by simpa using h)
 omega
theorem cU {t:NT}:cY t=0↔dK t=false/\t.ok:=by
 unfold cY
 cases h:dK t
 ·rw [if_neg (by decide)]
  rcases oP aI t 0 1 with ⟨h1,h2,h3⟩ | ⟨h1,h2,h3⟩
  ·exact ⟨fun _=>⟨rfl,h3⟩,fun _=>h2⟩
  ·exact ⟨fun e=>absurd e h2,fun e=>absurd e.2 h3⟩
 ·rw [if_pos rfl]
  exact ⟨fun e=>absurd e (by decide),fun e=>absurd e.1 (by decide)⟩
def rU (c:UInt8):Bool:=okB c || [43,45,58,60,61,62].contains c
theorem gH {c:UInt8} (h:rU c=true):c≠32/\c≠33/\c≠40/\c≠41/\c≠63/\c≠124:=by
 refine ⟨?_,?_,?_,?_,?_,?_⟩<;>rintro rfl<;>revert h<;>decide
theorem jF {c:UInt8} (h:okB c=true):rU c=true:=by simp [rU,h]
theorem nK {i:Int} (h0:0<=i) (h1:i<100) : ∀ c∈Go.Lib.itoa i,rU c=true:=by
 obtain ⟨j,rfl⟩:=Int.eq_ofNat_of_zero_le h0
 rw [dA]
 exact fun c hc=>jF (uG (by omega) c hc)
theorem aBc (op:Int) : ∀ c∈eR op,rU c=true:=by
 unfold eR
 split
 ·decide
 ·split
  ·decide
  ·split
   ·decide
   ·decide
theorem kS {a:At} (h:mV a=0) : ∀ c∈dH a,rU c=true:=by
 obtain ⟨h1,h2,h3,h4,h5,h6,h7,h8⟩:=iE h
 have hn : ∀ c∈a.n.data.toList,rU c=true:=fun c hc=>jF (jE h1 c hc)
 have hf : ∀ c∈a.f.data.toList,rU c=true:=by
  rcases h2 with h2 | h2
  ·rw [h2];intro c hc;cases hc
  ·exact fun c hc=>jF (jE h2 c hc)
 intro c hc
 unfold dH bG at hc
 rw [List.mem_append,List.mem_append,List.mem_append] at hc
 rcases hc with ((hc | hc) | hc) | hc
 ·exact hn c hc
 ·split at hc
  ·cases hc
  ·rename_i h0
   rcases List.mem_append.1 hc with hc | hc
   ·exact aBc _ c hc
   ·have:=kU h0 h7
    exact nK (by omega) (by omega) c hc
 ·split at hc
  ·cases hc
  ·rcases List.mem_cons.1 hc with rfl | hc
   ·decide
   ·exact nK h5 (by omega) c hc
 ·split at hc
  ·cases hc
  ·rcases List.mem_cons.1 hc with rfl | hc
   ·split<;>decide
   ·exact hf c hc
theorem yN {a:At} (h:mV a=0) : ∃ c l,dH a=c :: l:=by
 obtain ⟨h1,_⟩:=iE h
 cases hn:a.n.data.toList with
 | nil=>rw [hn] at h1;exact absurd rfl (jD h1)
 | cons c l=>exact ⟨c,_,by unfold dH bG;rw [hn];rfl⟩
theorem pW {l:List UInt8} (h : ∀ c∈l,c≠63):Go.Lib.hasSuffix l [63]=false:=by
 cases e:Go.Lib.hasSuffix l [63]
 ·rfl
 ·unfold Go.Lib.hasSuffix at e
  have:=List.isSuffixOf_iff_suffix.1 e
  exact absurd rfl (h 63 (this.subset (by simp)))
theorem lY (l:List UInt8):Go.Lib.hasSuffix (l ++ [63]) [63]=true/\Go.Lib.trimSuffix (l ++ [63]) [63]=l:=by
 have h:Go.Lib.hasSuffix (l ++ [63]) [63]=true:=List.isSuffixOf_iff_suffix.2 (List.suffix_append _ _)
 refine ⟨h,?_⟩
 unfold Go.Lib.trimSuffix
 rw [if_pos h]
 simp
theorem tP {l:List UInt8} (h:Go.Lib.hasSuffix l [63]=true):Go.Lib.trimSuffix l [63] ++ [63]=l:=by
 obtain ⟨r,rfl⟩:=List.isSuffixOf_iff_suffix.1 h
 rw [(lY r).2]
theorem oF {l:List UInt8} (h : ∀ c∈l,c≠33):Go.Lib.hasPrefix l [33]=false/\Go.Lib.trimPrefix l [33]=l:=by
 have e:Go.Lib.hasPrefix l [33]=false:=by
  cases l with
  | nil=>rfl
  | cons c l=>
   have:=h c (by simp)
   simp [Go.Lib.hasPrefix,List.isPrefixOf,Ne.symm this]
 refine ⟨e,?_⟩
 unfold Go.Lib.trimPrefix
 rw [if_neg (by rw [e];decide)]
theorem iS (l:List UInt8):Go.Lib.hasPrefix (33 :: l) [33]=true/\Go.Lib.trimPrefix (33 :: l) [33]=l:=by
 have e:Go.Lib.hasPrefix (33 :: l) [33]=true:=by simp [Go.Lib.hasPrefix,List.isPrefixOf]
 refine ⟨e,?_⟩
 unfold Go.Lib.trimPrefix
 rw [if_pos e];rfl
theorem lT (l:List UInt8):(if Go.Lib.hasPrefix l [33]=true then [33] else [])++Go.Lib.trimPrefix l [33]=l:=by
 cases h:Go.Lib.hasPrefix l [33]
 ·unfold Go.Lib.trimPrefix
  rw [h];rfl
 ·cases l with
  | nil=>cases h
  | cons c l=>
   have:(33:UInt8)=c:=by simpa [Go.Lib.hasPrefix,List.isPrefixOf] using h
   subst this
   rw [(iS l).2];rfl
theorem wO {a:At} (h:mV a=0):hJ (dH a)=0/\qR (dH a)=a:=by
 obtain ⟨p0,p1,p2,p3,p4,p5,p6⟩:=vE h
 refine ⟨p0,?_⟩
 unfold qR dH
 rw [p1,p2,p3,p4,p5,p6,bN,bN]
theorem yM {s:List UInt8} (h:hJ s=0):mV (qR s)=0/\dH (qR s)=s:=by
 have:=vJ h
 unfold mV dH qR
 simpa using this
theorem xS {l:List UInt8} (h:aK l=true) : ∀ c∈l,c≠33:=fun c hc=>(gH (jF (jE h c hc))).2.1
theorem pT {a:At} (h:mV a=0):dY (dH a)=some (.node 1 a ⟨#[]⟩ false [])/\dY (33 :: dH a)=some (.node 2 a ⟨#[]⟩ false []):=by
 obtain ⟨h1,h2⟩:=oF (l:=dH a) (fun c hc=>(gH (kS h c hc)).2.1)
 obtain ⟨h3,h4⟩:=iS (dH a)
 obtain ⟨p0,p1⟩:=wO h
 unfold dY
 rw [h1,h2,h3,h4,if_pos p0,if_pos p0,p1]
 exact ⟨rfl,rfl⟩
theorem wZ {fl:List UInt8} (nt:Bool) (h:aK fl=true):Go.Lib.hasSuffix ((if nt then [33] else [])++(fl ++ [63])) [63]=true/\fH ((if nt then [33] else [])++(fl ++ [63]))=fl/\rG ((if nt then [33] else [])++(fl ++ [63]))=nt:=by
 rw [← List.append_assoc]
 obtain ⟨h1,h2⟩:=lY ((if nt then [33] else [])++fl)
 unfold fH rG
 rw [h2]
 cases nt
 ·obtain ⟨h3,h4⟩:=oF (xS h)
  exact ⟨h1,h4,h3⟩
 ·obtain ⟨h3,h4⟩:=iS fl
  exact ⟨h1,h4,h3⟩
theorem uN {wd:bB} (h:Go.Lib.hasSuffix wd [63]=true):(if rG wd=true then [33] else [])++(fH wd ++ [63])=wd:=by
 unfold rG fH
 rw [← List.append_assoc,lT,tP h]
theorem qF {a:At} (h:mV a=0) (l:List UInt8) (hl:l=dH a∨l=33 :: dH a):Go.Lib.hasSuffix l [63]=false/\l ≠ [124,124]/\l ≠ [40]/\l ≠ [41]:=by
 have ht:=kS h
 obtain ⟨c,r,e⟩:=yN h
 have hc:=gH (ht c (by rw [e];simp))
 rcases hl with rfl | rfl
 ·refine ⟨pW fun x hx=>(gH (ht x hx)).2.2.2.2.1,?_,?_,?_⟩
  ·rw [e];intro h';injection h' with h1 _;exact hc.2.2.2.2.2 h1
  ·rw [e];intro h';injection h' with h1 _;exact hc.2.2.1 h1
  ·rw [e];intro h';injection h' with h1 _;exact hc.2.2.2.1 h1
 ·refine ⟨pW fun x hx=> ?_,?_,?_,?_⟩
  ·rcases List.mem_cons.1 hx with rfl | hx
   ·decide
   ·exact (gH (ht x hx)).2.2.2.2.1
  ·intro h';injection h' with h1 _;revert h1;decide
  ·intro h';injection h' with h1 _;revert h1;decide
  ·intro h';injection h' with h1 _;revert h1;decide
theorem qJ : ∀ t:NT,∃ wd r,t.words=wd :: r
 | .node k a fl nt kids=>by
  rw [NT.words]
  split
  ·exact ⟨_,_,rfl⟩
  ·split
   ·exact ⟨_,_,rfl⟩
   ·split
    ·exact ⟨_,_,rfl⟩
    ·split
     ·exact ⟨_,_,rfl⟩
     ·exact ⟨_,_,rfl⟩
theorem oR : ∀ ts:List NT,ts.length<=(aX ts).length
 | []=>Nat.zero_le _
 | t :: ts=>by
  obtain ⟨wd,r,e⟩:=qJ t
  have:=oR ts
  rw [aX,List.length_append,e]
  simp only [List.length_cons];omega
mutual
theorem tK : ∀ (t:NT) (g:Nat) (ws:List bB),t.ok->t.ht<=g->∃ wd r,t.words=wd :: r/\wd ≠ [41]/\aL g wd (r++ws)=some (t,ws)
 | .node k a fl nt kids,g,ws,hok,hg=>by
  rw [NT.ok] at hok
  rw [NT.ht] at hg
  obtain ⟨g,rfl⟩ : ∃ g',g=g'+1:=⟨g-1,by omega⟩
  rw [NT.words]
  have hkids : ∀ (mk:List NT->NT) (ws:List bB),cD (aL g) mk (aX kids ++ [[41]]++ws)=some (mk kids,ws):=fun mk ws=>by
   unfold cD
   have:=nQ kids g [] ws ((aX kids ++ [[41]]++ws).length+1) hok.2 (by omega) (by have:=oR kids;simp only [List.length_append,List.length_cons];omega)
   rw [List.append_assoc,List.singleton_append]
   rw [List.append_assoc,List.singleton_append] at this
   rw [this];rfl
  rcases fM hok.1 with ⟨hk,rfl,rfl,rfl,ha⟩ | ⟨hk,rfl,rfl,rfl⟩ | ⟨rfl,rfl,hn⟩
  ·rcases hk with rfl | rfl
   ·obtain ⟨w1,w2,w3,w4⟩:=qF ha _ (Or.inl rfl)
    refine ⟨dH a,[],by rw [if_pos rfl],w4,?_⟩
    rw [aL,if_neg (by rw [w1];decide),if_neg w2,if_neg w3,(pT ha).1];rfl
   ·obtain ⟨w1,w2,w3,w4⟩:=qF ha _ (Or.inr rfl)
    refine ⟨33 :: dH a,[],by rw [if_neg (by decide),if_pos rfl],w4,?_⟩
    rw [aL,if_neg (by rw [w1];decide),if_neg w2,if_neg w3,(pT ha).2];rfl
  ·rcases hk with rfl | rfl
   ·refine ⟨[40],aX kids ++ [[41]],by rw [if_neg (by decide),if_neg (by decide),if_neg (by decide),if_neg (by decide)];rfl,by decide,?_⟩
    rw [aL,if_neg (by decide),if_neg (by decide),if_pos rfl,hkids]
   ·refine ⟨[124,124],[40] :: (aX kids ++ [[41]]),by rw [if_neg (by decide),if_neg (by decide),if_pos rfl];rfl,by decide,?_⟩
    rw [aL,if_neg (by decide),if_pos rfl,List.cons_append,gG,if_pos rfl,hkids]
  ·obtain ⟨f1,f2,f3⟩:=wZ nt hn
   refine ⟨(if nt then [33] else [])++(fl.data.toList ++ [63]),[40] :: (aX kids ++ [[41]]),by rw [if_neg (by decide),if_neg (by decide),if_neg (by decide),if_pos rfl];rfl,?_,?_⟩
   ·intro e;rw [e] at f1;revert f1;decide
   ·rw [aL,if_pos f1,f2,f3,if_pos hn,List.cons_append,gG,if_pos rfl,hkids,bN]
theorem nQ : ∀ (ts:List NT) (g:Nat) (acc:List NT) (ws:List bB) (m:Nat),okL ts->htL ts<=g->ts.length<m->cK (aL g) m acc (aX ts ++ [[41]]++ws)=some (acc++ts,ws)
 | [],g,acc,ws,m,_,_,hm=>by
  obtain ⟨m,rfl⟩ : ∃ m',m=m'+1:=⟨m-1,by simp at hm;omega⟩
  rw [aX,List.nil_append,List.singleton_append,cK,if_pos rfl,List.append_nil]
 | t :: ts,g,acc,ws,m,hok,hg,hm=>by
  rw [okL] at hok
  rw [htL] at hg
  obtain ⟨m,rfl⟩ : ∃ m',m=m'+1:=⟨m-1,by simp only [List.length_cons] at hm;omega⟩
  obtain ⟨wd,r,e,hne,hr⟩:=tK t g (aX ts ++ [[41]]++ws) hok.1 (by omega)
  rw [aX,e,List.append_assoc,List.append_assoc,List.cons_append,cK,if_neg hne,← List.append_assoc (aX ts),hr]
  show cK (aL g) m (acc ++ [t]) (aX ts ++ [[41]]++ws)=_
  rw [nQ ts g (acc ++ [t]) ws m hok.2 (by omega) (by simp only [List.length_cons] at hm;omega),List.append_assoc,List.singleton_append]
end
theorem pS {rd:bB->List bB->Option (NT × List bB)} {g:Nat} (hrd : ∀ wd ws t rest,rd wd ws=some (t,rest)->wd :: ws=t.words++rest/\t.ok/\t.ht<=g) :
  ∀ (m:Nat) (acc:List NT) (ws:List bB) (ks:List NT) (rest:List bB),cK rd m acc ws=some (ks,rest)->∃ new,ks=acc++new/\ws=aX new++([41] :: rest)/\okL new/\htL new<=g
 | 0,_,_,_,_,h=>by cases h
 | _+1,_,[],_,_,h=>by cases h
 | m+1,acc,wd :: ws,ks,rest,h=>by
  rw [cK] at h
  split at h
  ·rename_i e
   cases h
   exact ⟨[],by simp,by rw [e,aX];rfl,trivial,Nat.zero_le _⟩
  ·split at h
   ·cases h
   ·rename_i r hr
    obtain ⟨t,r2⟩:=r
    obtain ⟨h1,h2,h3⟩:=hrd wd ws t r2 hr
    obtain ⟨new,e1,e2,e3,e4⟩:=pS hrd m (acc ++ [t]) r2 ks rest h
    refine ⟨t :: new,by rw [e1,List.append_assoc];rfl,?_,?_,?_⟩
    ·rw [h1,e2,aX,List.append_assoc]
    ·rw [okL];exact ⟨h2,e3⟩
    ·rw [htL];omega
theorem wG : ∀ (g:Nat) (wd:bB) (ws:List bB) (t:NT) (rest:List bB),aL g wd ws=some (t,rest)->wd :: ws=t.words++rest/\t.ok/\t.ht<=g
 | 0,_,_,_,_,h=>by cases h
 | g+1,wd,ws,t,rest,h=>by
  have hk : ∀ (mk:List NT->NT) (ws:List bB),cD (aL g) mk ws=some (t,rest)->∃ ks,t=mk ks/\ws=aX ks++([41] :: rest)/\okL ks/\htL ks<=g:=fun mk ws h=>by
   unfold cD at h
   obtain ⟨⟨ks,r⟩,h1,h2⟩:=Option.map_eq_some_iff.1 h
   cases h2
   obtain ⟨new,e1,e2,e3,e4⟩:=pS (wG g) _ _ _ _ _ h1
   rw [List.nil_append] at e1
   subst e1
   exact ⟨_,rfl,e2,e3,e4⟩
  have ho : ∀ (mk:List NT->NT) (ws:List bB),gG (aL g) mk ws=some (t,rest)->∃ ks,t=mk ks/\ws = [40] :: (aX ks++([41] :: rest))/\okL ks/\htL ks<=g:=fun mk ws h=>by
   cases ws with
   | nil=>cases h
   | cons o ws=>
    rw [gG] at h
    split at h
    ·rename_i e
     obtain ⟨ks,h1,h2,h3,h4⟩:=hk mk ws h
     exact ⟨ks,h1,by rw [e,h2],h3,h4⟩
    ·cases h
  rw [aL] at h
  split at h
  ·rename_i h1
   split at h
   ·rename_i h2
    obtain ⟨ks,rfl,e2,e3,e4⟩:=ho _ _ h
    refine ⟨?_,?_,?_⟩
    ·rw [NT.words,if_neg (by decide),if_neg (by decide),if_neg (by decide),if_pos rfl]
     show wd :: ws = [(if rG wd=true then [33] else [])++(fH wd ++ [63])]++([40] :: (aX ks ++ [[41]]))++rest
     rw [uN h1,e2];simp
    ·rw [NT.ok];exact ⟨sZ _ _ _ (by simpa using h2),e3⟩
    ·rw [NT.ht];omega
   ·cases h
  ·split at h
   ·rename_i h1 h2
    obtain ⟨ks,rfl,e2,e3,e4⟩:=ho _ _ h
    refine ⟨?_,?_,?_⟩
    ·rw [NT.words,if_neg (by decide),if_neg (by decide),if_pos rfl,h2,e2];simp
    ·rw [NT.ok];exact ⟨dP 4 _ (Or.inr rfl),e3⟩
    ·rw [NT.ht];omega
   ·split at h
    ·rename_i h1 h2 h3
     obtain ⟨ks,rfl,e2,e3,e4⟩:=hk _ _ h
     refine ⟨?_,?_,?_⟩
     ·rw [NT.words,if_neg (by decide),if_neg (by decide),if_neg (by decide),if_neg (by decide),h3,e2];simp
     ·rw [NT.ok];exact ⟨dP 3 _ (Or.inl rfl),e3⟩
     ·rw [NT.ht];omega
    ·obtain ⟨t',h1,h2⟩:=Option.map_eq_some_iff.1 h
     cases h2
     unfold dY at h1
     split at h1
     ·rename_i hp
      obtain ⟨hc,ht⟩:=yM hp
      have hb:=lT wd
      cases hx:Go.Lib.hasPrefix wd [33]
      ·rw [hx] at h1 hb
       cases h1
       refine ⟨?_,?_,?_⟩
       ·have hb':Go.Lib.trimPrefix wd [33]=wd:=by simpa using hb
        rw [NT.words,if_pos (by decide),ht,hb'];rfl
       ·rw [NT.ok];exact ⟨gY _ _ (Or.inl rfl) hc,trivial⟩
       ·simp [NT.ht,htL]
      ·rw [hx] at h1 hb
       cases h1
       refine ⟨?_,?_,?_⟩
       ·have hb':33 :: Go.Lib.trimPrefix wd [33]=wd:=by simpa using hb
        rw [NT.words,if_neg (by decide),if_pos (by decide),ht,hb'];rfl
       ·rw [NT.ok];exact ⟨gY _ _ (Or.inr rfl) hc,trivial⟩
       ·simp [NT.ht,htL]
     ·cases h1
end Go.Proofs.YtonlloiemgdfkaaGreatDoor
namespace Go.Proofs.YtonlloiemgdfkaaGreatDoor
theorem uR : ∀ (x r:List UInt8),(∀ c∈x,c≠32)->Go.Lib.index (x++32 :: r) [32]=x.length
 | [],r,_=>by simp [Go.Lib.index,List.isPrefixOf]
 | c :: x,r,h=>by
  have hc:=h c (by simp)
  have ih:=uR x r (fun d hd=>h d (by simp [hd]))
  rw [List.cons_append,Go.Lib.index,if_neg (by simp [List.isPrefixOf,Ne.symm hc]),ih,if_neg (by simp)]
  simp
theorem sQ : ∀ x:List UInt8,(∀ c∈x,c≠32)->Go.Lib.index x [32] = -1
 | [],_=>by simp [Go.Lib.index]
 | c :: x,h=>by
  have hc:=h c (by simp)
  rw [Go.Lib.index,if_neg (by simp [List.isPrefixOf,Ne.symm hc]),sQ x (fun d hd=>h d (by simp [hd]))]
  rfl
theorem aAa (x:bB):Go.Lib.join [x] [32]=x:=Go.Lib.join_one x _
theorem vY (x y:bB) (r:List bB):Go.Lib.join (x :: y :: r) [32]=x++32 :: Go.Lib.join (y :: r) [32]:=by
 simp [Go.Lib.join,List.intercalate,List.intersperse]
theorem yJ (k:Nat) (x r:List UInt8) (h : ∀ c∈x,c≠32):Go.Lib.splitK [32] 0 (k+1) (x++32 :: r)=x :: Go.Lib.splitK [32] 0 k r:=by
 rw [Go.Lib.splitK,uR x r h,if_neg (by simp)]
 simp
theorem tO (k:Nat) (x:List UInt8) (h : ∀ c∈x,c≠32):Go.Lib.splitK [32] 0 k x = [x]:=by
 cases k with
 | zero=>rfl
 | succ k=>rw [Go.Lib.splitK,sQ x h,if_pos (by decide)]
theorem oI : ∀ (ws:List bB),ws ≠ []->(∀ x∈ws,∀ c∈x,c≠32)->Go.Lib.split (Go.Lib.join ws [32]) [32]=ws
 | [],h,_=>absurd rfl h
 | [x],_,h=>by
  rw [aAa];unfold Go.Lib.split
  exact tO _ x (h x (by simp))
 | x :: y :: r,_,h=>by
  have hx:=h x (by simp)
  have ih:=oI (y :: r) (by simp) (fun z hz=>h z (by simp at hz ⊢;exact Or.inr hz))
  rw [vY]
  unfold Go.Lib.split at ih ⊢
  rw [Go.Lib.count_hit (i:=x.length) (by simp) (uR x _ hx),Nat.add_comm,yJ _ _ _ hx]
  have e:List.drop (x.length + [(32:UInt8)].length) (x++32 :: Go.Lib.join (y :: r) [32])=Go.Lib.join (y :: r) [32]:=by
   rw [show x++32 :: Go.Lib.join (y :: r) [32]=(x ++ [32])++Go.Lib.join (y :: r) [32] by simp]
   rw [show x.length + [(32:UInt8)].length=(x ++ [32]).length by simp]
   exact List.drop_left
  rw [e,ih]
theorem xR {l:List UInt8} (h:aK l=true) : ∀ c∈l,c≠32:=fun c hc=>(gH (jF (jE h c hc))).1
mutual
theorem oS : ∀ (t:NT),t.ok->∀ x∈t.words,∀ c∈x,c≠32
 | .node k a fl nt kids,hok,x,hx=>by
  rw [NT.ok] at hok
  rw [NT.words] at hx
  have hend : ∀ l:List bB,x ∈ [40] :: (aX kids ++ [[41]])->∀ c∈x,c≠32:=fun _ hx=>by
   rcases List.mem_cons.1 hx with rfl | hx
   ·decide
   ·rcases List.mem_append.1 hx with hx | hx
    ·exact mB kids hok.2 x hx
    ·rw [List.mem_singleton.1 hx];decide
  rcases fM hok.1 with ⟨hk,rfl,rfl,rfl,ha⟩ | ⟨hk,rfl,rfl,rfl⟩ | ⟨rfl,rfl,hn⟩
  ·have ht:=kS ha
   rcases hk with rfl | rfl
   ·rw [if_pos rfl] at hx
    rw [List.mem_singleton.1 hx]
    exact fun c hc=>(gH (ht c hc)).1
   ·rw [if_neg (by decide),if_pos rfl] at hx
    rw [List.mem_singleton.1 hx]
    intro c hc
    rcases List.mem_cons.1 hc with rfl | hc
    ·decide
    ·exact (gH (ht c hc)).1
  ·rcases hk with rfl | rfl
   ·rw [if_neg (by decide),if_neg (by decide),if_neg (by decide),if_neg (by decide)] at hx
    exact hend [] hx
   ·rw [if_neg (by decide),if_neg (by decide),if_pos rfl] at hx
    rcases List.mem_append.1 hx with hx | hx
    ·rw [List.mem_singleton.1 hx];decide
    ·exact hend [] hx
  ·rw [if_neg (by decide),if_neg (by decide),if_neg (by decide),if_pos rfl] at hx
   rcases List.mem_append.1 hx with hx | hx
   ·rw [List.mem_singleton.1 hx]
    intro c hc
    rcases List.mem_append.1 hc with hc | hc
    ·split at hc
     ·rw [List.mem_singleton.1 hc];decide
     ·cases hc
    ·rcases List.mem_append.1 hc with hc | hc
     ·exact xR hn c hc
     ·rw [List.mem_singleton.1 hc];decide
   ·exact hend [] hx
theorem mB : ∀ (ts:List NT),okL ts->∀ x∈aX ts,∀ c∈x,c≠32
 | [],_,x,hx=>by rw [aX] at hx;cases hx
 | t :: ts,hok,x,hx=>by
  rw [okL] at hok
  rw [aX] at hx
  rcases List.mem_append.1 hx with hx | hx
  ·exact oS t hok.1 x hx
  ·exact mB ts hok.2 x hx
end
def NT.text (t:NT):List UInt8:=Go.Lib.join t.words [32]
def wE:List bB->Option NT
 | []=>none
 | wd :: ws=>match aL 4 wd ws with
  | some (t,[])=>some t
  | _=>none
def fP (l:List UInt8):Option NT:=wE (Go.Lib.split l [32])
def rdE (l:List UInt8):Int:=if 20000<l.length then 2 else match fP l with
 | none=>1
 | some t=>cY t
theorem tI {t:NT} (h:t.ok) (hh:t.ht<=4):fP t.text=some t:=by
 obtain ⟨wd,r,e,_,hr⟩:=tK t 4 [] h hh
 unfold fP NT.text
 rw [oI t.words (by rw [e];simp) (oS t h),e,wE]
 rw [List.append_nil] at hr
 rw [hr]
def fS:List bB->Nat
 | []=>0
 | x :: r=>x.length+1+fS r
theorem iI : ∀ a b:List bB,fS (a++b)=fS a+fS b
 | [],b=>by simp [fS]
 | x :: a,b=>by rw [List.cons_append,fS,fS,iI a b];omega
theorem sV : ∀ ws:List bB,(Go.Lib.join ws [32]).length<=fS ws
 | []=>by simp [Go.Lib.join,fS]
 | [x]=>by rw [aAa,fS];omega
 | x :: y :: r=>by
  have ih:=sV (y :: r)
  rw [vY,fS,List.length_append,List.length_cons];omega
mutual
theorem nT : ∀ t:NT,t.ok->fS t.words<=110*t.size/\t.words.length<=3*t.size
 | .node k a fl nt kids,hok=>by
  rw [NT.ok] at hok
  rw [NT.words,NT.size]
  obtain ⟨ih,ih2⟩:=lS kids hok.2
  have e:fS ([40] :: (aX kids ++ [[41]]))=fS (aX kids)+4:=by rw [fS,iI];simp only [fS,List.length_cons,List.length_nil];omega
  rcases fM hok.1 with ⟨hk,rfl,rfl,rfl,ha⟩ | ⟨hk,rfl,rfl,rfl⟩ | ⟨rfl,rfl,hn⟩
  ·have ht:(dH a).length<=100:=tR ha
   rcases hk with rfl | rfl
   ·rw [if_pos rfl];simp only [fS,List.length_cons,List.length_nil];omega
   ·rw [if_neg (by decide),if_pos rfl];simp only [fS,List.length_cons,List.length_nil];omega
  ·rcases hk with rfl | rfl
   ·rw [if_neg (by decide),if_neg (by decide),if_neg (by decide),if_neg (by decide),List.nil_append]
    rw [e];simp only [List.length_cons,List.length_append,List.length_nil];omega
   ·rw [if_neg (by decide),if_neg (by decide),if_pos rfl,iI,e];simp only [fS,List.length_cons,List.length_append,List.length_nil];omega
  ·have h8:=iO hn
   rw [if_neg (by decide),if_neg (by decide),if_neg (by decide),if_pos rfl,iI,e]
   simp only [fS,List.length_cons,List.length_append,List.length_nil]
   have:(if nt=true then [(33:UInt8)] else []).length<=1:=by cases nt<;>simp
   omega
theorem lS : ∀ ts:List NT,okL ts->fS (aX ts)<=110*bD ts/\(aX ts).length<=3*bD ts
 | [],_=>by rw [aX,fS,bD];exact ⟨by omega,by simp⟩
 | t :: ts,hok=>by
  rw [okL] at hok
  obtain ⟨h1,h2⟩:=nT t hok.1
  obtain ⟨h3,h4⟩:=lS ts hok.2
  rw [aX,iI,bD,List.length_append];omega
end
theorem vL {t:NT} (h:cY t=0):t.text.length<=2200/\t.words.length<=60:=by
 obtain ⟨h1,h2⟩:=cU.1 h
 have:=iV h1
 obtain ⟨h3,h4⟩:=nT t h2
 have h5:=sV t.words
 unfold NT.text;omega
theorem aAu {t:NT} (h:cY t=0):rdE t.text=0/\fP t.text=some t:=by
 obtain ⟨h1,h2⟩:=cU.1 h
 have e:=tI h2 (iV h1).2
 refine ⟨?_,e⟩
 unfold rdE
 have:=vL h
 rw [if_neg (by omega),e]
 exact h
end Go.Proofs.YtonlloiemgdfkaaGreatDoor
