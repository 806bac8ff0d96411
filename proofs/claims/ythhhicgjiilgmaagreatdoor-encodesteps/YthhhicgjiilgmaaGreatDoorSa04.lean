/- Steps of the proof: NeedText. -/
import Derived.Test.YthhhicgjiilgmaaGreatDoorSa03
import Derived.Lib.Split
import Derived.Lib.Join
import Derived.Lib.SplitLaws
namespace Go.Proofs.YthhhicgjiilgmaaGreatDoor
structure At where
 n:ByteArray
 op:Int
 v:Int
 sl:Int
 f:ByteArray
 on:Bool
inductive NT where
 | node (k:Int) (a:At) (fl:ByteArray) (nt:Bool) (kids:List NT)
def At.zero:At:=⟨⟨#[]⟩,0,0,0,⟨#[]⟩,false⟩
def NT.zero:NT:= .node 0 At.zero ⟨#[]⟩ false []
def NT.kids:NT->List NT
 | .node _ _ _ _ ks=>ks
def chkA (a:At):Int:=chk a.n.data.toList a.op a.v a.sl a.f.data.toList a.on
def textA (a:At):List UInt8:=textOf a.n.data.toList a.op a.v a.sl a.f.data.toList a.on
def zeroB (a:At):Bool:=sameB a.n a.op a.v a.sl a.f a.on ⟨#[]⟩ 0 0 0 ⟨#[]⟩ false
def leafB (k:Int):Bool:=(k==1)||(k==2)
def formB (k:Int) (a:At) (fl:ByteArray) (nt:Bool) (many:Nat):Bool:=
 decide (1<=k)&&decide (k<=5) && !(leafB k&&decide (0<many)) && !(!leafB k && !zeroB a)&&((k==5)||(fl.toList.isEmpty && !nt))
def nodeE:NT->Int
 | .node k a fl nt kids=>if formB k a fl nt kids.length=false then 4 else if k=5/\nameB fl.data.toList=false then 1 else if leafB k=true then chkA a else 0
mutual
def walkS {σ:Type} (inc:Int->Int) (f:σ->NT->Int->σ × Bool):σ->NT->Int->σ × Bool
 | s,.node k a fl nt kids,d=>if (f s (.node k a fl nt kids) d).2=true then kidsS inc f (f s (.node k a fl nt kids) d).1 kids (inc d) else ((f s (.node k a fl nt kids) d).1,false)
def kidsS {σ:Type} (inc:Int->Int) (f:σ->NT->Int->σ × Bool):σ->List NT->Int->σ × Bool
 | s,[],_=>(s,true)
 | s,t :: ts,d=>if (walkS inc f s t d).2=true then kidsS inc f (walkS inc f s t d).1 ts d else ((walkS inc f s t d).1,false)
end
mutual
def NT.size:NT->Nat
 | .node _ _ _ _ kids=>1+sizeL kids
def sizeL:List NT->Nat
 | []=>0
 | t :: ts=>t.size+sizeL ts
end
mutual
def NT.ht:NT->Nat
 | .node _ _ _ _ kids=>1+htL kids
def htL:List NT->Nat
 | []=>0
 | t :: ts=>max t.ht (htL ts)
end
mutual
def NT.ok:NT->Prop
 | .node k a fl nt kids=>nodeE (.node k a fl nt kids)=0/\okL kids
def okL:List NT->Prop
 | []=>True
 | t :: ts=>t.ok/\okL ts
end
abbrev Word:=List UInt8
mutual
def NT.words:NT->List Word
 | .node k a fl nt kids=>
  if k=1 then [textA a] else if k=2 then [33 :: textA a]
  else (if k=4 then [[124,124]] else if k=5 then [(if nt then [33] else [])++(fl.data.toList ++ [63])] else [])++([40] :: (wordsL kids ++ [[41]]))
def wordsL:List NT->List Word
 | []=> []
 | t :: ts=>t.words++wordsL ts
end
def atOf (s:List UInt8):At:=⟨⟨(nmL s).toArray⟩,opV (veL s),verV (veL s),slotV (slL s),⟨((flL s).drop 1).toArray⟩,onV (flL s)⟩
def rdLeaf (wd:Word):Option NT:=
 if prsE (Go.Lib.trimPrefix wd [33])=0 then some (.node (if Go.Lib.hasPrefix wd [33] then 2 else 1) (atOf (Go.Lib.trimPrefix wd [33])) ⟨#[]⟩ false []) else none
def flagW (wd:Word):List UInt8:=Go.Lib.trimPrefix (Go.Lib.trimSuffix wd [63]) [33]
def notW (wd:Word):Bool:=Go.Lib.hasPrefix (Go.Lib.trimSuffix wd [63]) [33]
def kidsBy (rd:Word->List Word->Option (NT × List Word)):Nat->List NT->List Word->Option (List NT × List Word)
 | 0,_,_=>none
 | _+1,_,[]=>none
 | m+1,acc,wd :: ws=>if wd = [41] then some (acc,ws) else match rd wd ws with
  | none=>none
  | some r=>kidsBy rd m (acc ++ [r.1]) r.2
def kidsAll (rd:Word->List Word->Option (NT × List Word)) (mk:List NT->NT) (ws:List Word):Option (NT × List Word):=
 (kidsBy rd (ws.length+1) [] ws).map fun r=>(mk r.1,r.2)
def openBy (rd:Word->List Word->Option (NT × List Word)) (mk:List NT->NT):List Word->Option (NT × List Word)
 | []=>none
 | o :: ws=>if o = [40] then kidsAll rd mk ws else none
def rdNeed:Nat->Word->List Word->Option (NT × List Word)
 | 0,_,_=>none
 | g+1,wd,ws=>
  if Go.Lib.hasSuffix wd [63]=true then
   if nameB (flagW wd)=true then openBy (rdNeed g) (.node 5 At.zero ⟨(flagW wd).toArray⟩ (notW wd)) ws else none
  else if wd = [124,124] then openBy (rdNeed g) (.node 4 At.zero ⟨#[]⟩ false) ws
  else if wd = [40] then kidsAll (rdNeed g) (.node 3 At.zero ⟨#[]⟩ false) ws
  else (rdLeaf wd).map fun t=>(t,ws)
def inc64 (d:Int):Int:=Go.RowKit.wrap64 (d+1)
def fN (s:Int) (_:NT) (d:Int):Int × Bool:=(s+1,decide (s+1<=20)&&decide (d<=4))
def fE (_:Int) (t:NT) (_:Int):Int × Bool:=(nodeE t,nodeE t==0)
def largeB (t:NT):Bool:= !(walkS inc64 fN 0 t 1).2
def chkN (t:NT):Int:=if largeB t=true then 2 else (walkS inc64 fE 0 t 1).1
end Go.Proofs.YthhhicgjiilgmaaGreatDoor
namespace Go.Proofs.YthhhicgjiilgmaaGreatDoor
theorem bytes_same {n m:ByteArray} (h:n.data.toList=m.data.toList):n=m:=by
 cases n;cases m;simp at h;rw [h]
theorem bytes_back (n:ByteArray):(⟨n.data.toList.toArray⟩:ByteArray)=n:=bytes_same (by simp)
theorem bytes_none {n:ByteArray} (h:n.data.toList = []):n=⟨#[]⟩:=bytes_same (by rw [h])
theorem zeroB_true {a:At}:zeroB a=true↔a=At.zero:=by
 unfold zeroB
 rw [sameB_true]
 constructor
 ·rintro ⟨h1,h2,h3,h4,h5,h6⟩
  obtain ⟨n,op,v,sl,f,on⟩:=a
  simp only at h1 h2 h3 h4 h5 h6
  rw [bytes_none h1,h2,h3,h4,bytes_none h5,h6]
  rfl
 ·rintro rfl
  exact ⟨rfl,rfl,rfl,rfl,rfl,rfl⟩
theorem isEmpty_list (b:ByteArray):b.toList.isEmpty=decide (b.data.toList = []):=by
 rw [Go.Lib.toList_data]
 cases h:b.data.toList<;>simp
theorem nodeE_zero {k:Int} {a:At} {fl:ByteArray} {nt:Bool} {kids:List NT} (h:nodeE (.node k a fl nt kids)=0) :
  ((k=1∨k=2)/\kids = []/\fl=⟨#[]⟩/\nt=false/\chkA a=0)∨((k=3∨k=4)/\a=At.zero/\fl=⟨#[]⟩/\nt=false)∨(k=5/\a=At.zero/\nameB fl.data.toList=true):=by
 rw [nodeE] at h
 by_cases hf:formB k a fl nt kids.length=false
 ·rw [if_pos hf] at h;cases h
 ·rw [if_neg hf] at h
  have hf':formB k a fl nt kids.length=true:=by simpa using hf
  unfold formB at hf'
  simp only [Bool.and_eq_true,decide_eq_true_eq,Bool.not_eq_true',Bool.or_eq_true,beq_iff_eq,Bool.and_eq_false_iff,Bool.not_eq_false',decide_eq_false_iff_not,leafB,Bool.or_eq_false_iff,isEmpty_list,beq_eq_false_iff_ne] at hf'
  obtain ⟨⟨⟨⟨h1,h2⟩,h3⟩,h4⟩,h5⟩:=hf'
  split at h
  ·cases h
  ·rename_i h6
   split at h
   ·rename_i h7
    have h7':k=1∨k=2:=by simpa [leafB] using h7
    refine Or.inl ⟨h7',?_,?_,?_,h⟩
    ·have : ¬ 0<kids.length:=h3.resolve_left (by rintro ⟨a1,a2⟩;rcases h7' with e | e;exact a1 e;exact a2 e)
     exact List.length_eq_zero_iff.1 (by omega)
    ·exact bytes_none (h5.resolve_left (by omega)).1
    ·exact (h5.resolve_left (by omega)).2
   ·rename_i h7
    have h7' : ¬ (k=1∨k=2):=by simpa [leafB] using h7
    have ha:a=At.zero:=by
     rcases h4 with h4 | h4
     ·exact absurd h4 h7'
     ·exact zeroB_true.1 h4
    by_cases hk:k=5
    ·refine Or.inr (Or.inr ⟨hk,ha,?_⟩)
     cases hn:nameB fl.data.toList
     ·exact absurd ⟨hk,hn⟩ h6
     ·rfl
    ·exact Or.inr (Or.inl ⟨by omega,ha,bytes_none (h5.resolve_left hk).1,(h5.resolve_left hk).2⟩)
theorem nodeE_leaf (k:Int) (a:At) (hk:k=1∨k=2) (ha:chkA a=0):nodeE (.node k a ⟨#[]⟩ false [])=0:=by
 rcases hk with rfl | rfl
 ·simp [nodeE,formB,leafB,ha]
 ·simp [nodeE,formB,leafB,ha]
theorem zero_zero:zeroB At.zero=true:=zeroB_true.2 rfl
theorem nodeE_group (k:Int) (kids:List NT) (hk:k=3∨k=4):nodeE (.node k At.zero ⟨#[]⟩ false kids)=0:=by
 rcases hk with rfl | rfl
 ·simp [nodeE,formB,leafB,zero_zero]
 ·simp [nodeE,formB,leafB,zero_zero]
theorem nodeE_if (fl:ByteArray) (nt:Bool) (kids:List NT) (h:nameB fl.data.toList=true):nodeE (.node 5 At.zero fl nt kids)=0:=by
 simp [nodeE,formB,leafB,zero_zero,h]
mutual
theorem walkE_spec (inc:Int->Int) : ∀ (t:NT) (s d:Int),((walkS inc fE s t d).2=true/\(walkS inc fE s t d).1=0/\t.ok)∨((walkS inc fE s t d).2=false/\(walkS inc fE s t d).1≠0/\¬ t.ok)
 | .node k a fl nt kids,s,d=>by
  rw [walkS]
  by_cases h:nodeE (.node k a fl nt kids)=0
  ·have e:(fE s (.node k a fl nt kids) d).2=true:=by simp [fE,h]
   have e1:(fE s (.node k a fl nt kids) d).1=0:=by simp [fE,h]
   rw [if_pos e,e1]
   rcases kidsE_spec inc kids (inc d) with ⟨h1,h2,h3⟩ | ⟨h1,h2,h3⟩
   ·exact Or.inl ⟨h1,h2,h,h3⟩
   ·exact Or.inr ⟨h1,h2,fun hh=>h3 hh.2⟩
  ·have e : ¬ (fE s (.node k a fl nt kids) d).2=true:=by simp [fE,h]
   rw [if_neg e]
   exact Or.inr ⟨rfl,h,fun hh=>h hh.1⟩
theorem kidsE_spec (inc:Int->Int) : ∀ (ts:List NT) (d:Int),((kidsS inc fE 0 ts d).2=true/\(kidsS inc fE 0 ts d).1=0/\okL ts)∨((kidsS inc fE 0 ts d).2=false/\(kidsS inc fE 0 ts d).1≠0/\¬ okL ts)
 | [],d=>Or.inl ⟨by rw [kidsS],by rw [kidsS],by rw [okL];trivial⟩
 | t :: ts,d=>by
  rw [kidsS]
  rcases walkE_spec inc t 0 d with ⟨h1,h2,h3⟩ | ⟨h1,h2,h3⟩
  ·rw [if_pos h1,h2]
   rcases kidsE_spec inc ts d with ⟨h4,h5,h6⟩ | ⟨h4,h5,h6⟩
   ·exact Or.inl ⟨h4,h5,h3,h6⟩
   ·exact Or.inr ⟨h4,h5,fun hh=>h6 hh.2⟩
  ·rw [if_neg (by rw [h1];decide)]
   exact Or.inr ⟨rfl,h2,fun hh=>h3 hh.1⟩
end
theorem inc64_small {d:Int} (h0:0<=d) (h1:d<=100):inc64 d=d+1:=by
 unfold inc64
 unfold Go.RowKit.wrap64
 omega
mutual
theorem walkN_spec : ∀ (t:NT) (s d:Int),1<=d->d<=5->(walkS inc64 fN s t d).2=true->(walkS inc64 fN s t d).1=s+t.size/\(walkS inc64 fN s t d).1<=20/\d+t.ht<=5
 | .node k a fl nt kids,s,d,hd,hd5,h=>by
  rw [walkS] at h ⊢
  by_cases e:(fN s (.node k a fl nt kids) d).2=true
  ·rw [if_pos e] at h ⊢
   have e':s+1<=20/\d<=4:=by simpa [fN] using e
   rw [inc64_small (by omega) (by omega)] at h ⊢
   obtain ⟨h1,h2,h3⟩:=kidsN_spec kids (s+1) (d+1) (by omega) (by omega) e'.1 h
   refine ⟨?_,h2,?_⟩
   ·show (kidsS inc64 fN (s+1) kids (d+1)).1=_
    rw [h1,NT.size];omega
   ·rw [NT.ht];omega
  ·rw [if_neg e] at h;cases h
theorem kidsN_spec : ∀ (ts:List NT) (s d:Int),1<=d->d<=5->s<=20->(kidsS inc64 fN s ts d).2=true->(kidsS inc64 fN s ts d).1=s+sizeL ts/\(kidsS inc64 fN s ts d).1<=20/\d+htL ts<=5
 | [],s,d,hd,hd5,hs,_=>by
  rw [kidsS,sizeL,htL];exact ⟨by omega,hs,by omega⟩
 | t :: ts,s,d,hd,hd5,hs,h=>by
  rw [kidsS] at h ⊢
  by_cases e:(walkS inc64 fN s t d).2=true
  ·rw [if_pos e] at h ⊢
   obtain ⟨h1,h2,h3⟩:=walkN_spec t s d hd hd5 e
   obtain ⟨h4,h5,h6⟩:=kidsN_spec ts _ d hd hd5 h2 h
   refine ⟨?_,h5,?_⟩
   ·rw [h4,h1,sizeL];omega
   ·rw [htL];omega
  ·rw [if_neg e] at h;cases h
end
theorem small_of {t:NT} (h:largeB t=false):t.size<=20/\t.ht<=4:=by
 unfold largeB at h
 obtain ⟨h1,h2,h3⟩:=walkN_spec t 0 1 (by decide) (by decide) (by simpa using h)
 omega
theorem chkN_zero {t:NT}:chkN t=0↔largeB t=false/\t.ok:=by
 unfold chkN
 cases h:largeB t
 ·rw [if_neg (by decide)]
  rcases walkE_spec inc64 t 0 1 with ⟨h1,h2,h3⟩ | ⟨h1,h2,h3⟩
  ·exact ⟨fun _=>⟨rfl,h3⟩,fun _=>h2⟩
  ·exact ⟨fun e=>absurd e h2,fun e=>absurd e.2 h3⟩
 ·rw [if_pos rfl]
  exact ⟨fun e=>absurd e (by decide),fun e=>absurd e.1 (by decide)⟩
def txtB (c:UInt8):Bool:=okB c || [43,45,58,60,61,62].contains c
theorem txt_ne {c:UInt8} (h:txtB c=true):c≠32/\c≠33/\c≠40/\c≠41/\c≠63/\c≠124:=by
 refine ⟨?_,?_,?_,?_,?_,?_⟩<;>rintro rfl<;>revert h<;>decide
theorem okB_txt {c:UInt8} (h:okB c=true):txtB c=true:=by simp [txtB,h]
theorem itoa_txt {i:Int} (h0:0<=i) (h1:i<100) : ∀ c∈Go.Lib.itoa i,txtB c=true:=by
 obtain ⟨j,rfl⟩:=Int.eq_ofNat_of_zero_le h0
 rw [itoa_nat]
 exact fun c hc=>okB_txt (dig_ok (by omega) c hc)
theorem sign_txt (op:Int) : ∀ c∈signL op,txtB c=true:=by
 unfold signL
 split
 ·decide
 ·split
  ·decide
  ·split
   ·decide
   ·decide
theorem text_txt {a:At} (h:chkA a=0) : ∀ c∈textA a,txtB c=true:=by
 obtain ⟨h1,h2,h3,h4,h5,h6,h7,h8⟩:=chk_zero h
 have hn : ∀ c∈a.n.data.toList,txtB c=true:=fun c hc=>okB_txt (name_ok h1 c hc)
 have hf : ∀ c∈a.f.data.toList,txtB c=true:=by
  rcases h2 with h2 | h2
  ·rw [h2];intro c hc;cases hc
  ·exact fun c hc=>okB_txt (name_ok h2 c hc)
 intro c hc
 unfold textA textOf at hc
 rw [List.mem_append,List.mem_append,List.mem_append] at hc
 rcases hc with ((hc | hc) | hc) | hc
 ·exact hn c hc
 ·split at hc
  ·cases hc
  ·rename_i h0
   rcases List.mem_append.1 hc with hc | hc
   ·exact sign_txt _ c hc
   ·have:=verB_pos h0 h7
    exact itoa_txt (by omega) (by omega) c hc
 ·split at hc
  ·cases hc
  ·rcases List.mem_cons.1 hc with rfl | hc
   ·decide
   ·exact itoa_txt h5 (by omega) c hc
 ·split at hc
  ·cases hc
  ·rcases List.mem_cons.1 hc with rfl | hc
   ·split<;>decide
   ·exact hf c hc
theorem text_cons {a:At} (h:chkA a=0) : ∃ c l,textA a=c :: l:=by
 obtain ⟨h1,_⟩:=chk_zero h
 cases hn:a.n.data.toList with
 | nil=>rw [hn] at h1;exact absurd rfl (nameB_pos h1)
 | cons c l=>exact ⟨c,_,by unfold textA textOf;rw [hn];rfl⟩
theorem no_suffix {l:List UInt8} (h : ∀ c∈l,c≠63):Go.Lib.hasSuffix l [63]=false:=by
 cases e:Go.Lib.hasSuffix l [63]
 ·rfl
 ·unfold Go.Lib.hasSuffix at e
  have:=List.isSuffixOf_iff_suffix.1 e
  exact absurd rfl (h 63 (this.subset (by simp)))
theorem suffix_snoc (l:List UInt8):Go.Lib.hasSuffix (l ++ [63]) [63]=true/\Go.Lib.trimSuffix (l ++ [63]) [63]=l:=by
 have h:Go.Lib.hasSuffix (l ++ [63]) [63]=true:=List.isSuffixOf_iff_suffix.2 (List.suffix_append _ _)
 refine ⟨h,?_⟩
 unfold Go.Lib.trimSuffix
 rw [if_pos h]
 simp
theorem suffix_back {l:List UInt8} (h:Go.Lib.hasSuffix l [63]=true):Go.Lib.trimSuffix l [63] ++ [63]=l:=by
 obtain ⟨r,rfl⟩:=List.isSuffixOf_iff_suffix.1 h
 rw [(suffix_snoc r).2]
theorem prefix_not {l:List UInt8} (h : ∀ c∈l,c≠33):Go.Lib.hasPrefix l [33]=false/\Go.Lib.trimPrefix l [33]=l:=by
 have e:Go.Lib.hasPrefix l [33]=false:=by
  cases l with
  | nil=>rfl
  | cons c l=>
   have:=h c (by simp)
   simp [Go.Lib.hasPrefix,List.isPrefixOf,Ne.symm this]
 refine ⟨e,?_⟩
 unfold Go.Lib.trimPrefix
 rw [if_neg (by rw [e];decide)]
theorem prefix_cons (l:List UInt8):Go.Lib.hasPrefix (33 :: l) [33]=true/\Go.Lib.trimPrefix (33 :: l) [33]=l:=by
 have e:Go.Lib.hasPrefix (33 :: l) [33]=true:=by simp [Go.Lib.hasPrefix,List.isPrefixOf]
 refine ⟨e,?_⟩
 unfold Go.Lib.trimPrefix
 rw [if_pos e];rfl
theorem prefix_back (l:List UInt8):(if Go.Lib.hasPrefix l [33]=true then [33] else [])++Go.Lib.trimPrefix l [33]=l:=by
 cases h:Go.Lib.hasPrefix l [33]
 ·unfold Go.Lib.trimPrefix
  rw [h];rfl
 ·cases l with
  | nil=>cases h
  | cons c l=>
   have:(33:UInt8)=c:=by simpa [Go.Lib.hasPrefix,List.isPrefixOf] using h
   subst this
   rw [(prefix_cons l).2];rfl
theorem atOf_text {a:At} (h:chkA a=0):prsE (textA a)=0/\atOf (textA a)=a:=by
 obtain ⟨p0,p1,p2,p3,p4,p5,p6⟩:=parse_text h
 refine ⟨p0,?_⟩
 unfold atOf textA
 rw [p1,p2,p3,p4,p5,p6,bytes_back,bytes_back]
theorem text_atOf {s:List UInt8} (h:prsE s=0):chkA (atOf s)=0/\textA (atOf s)=s:=by
 have:=text_parse h
 unfold chkA textA atOf
 simpa using this
theorem name_no33 {l:List UInt8} (h:nameB l=true) : ∀ c∈l,c≠33:=fun c hc=>(txt_ne (okB_txt (name_ok h c hc))).2.1
theorem leaf_back {a:At} (h:chkA a=0):rdLeaf (textA a)=some (.node 1 a ⟨#[]⟩ false [])/\rdLeaf (33 :: textA a)=some (.node 2 a ⟨#[]⟩ false []):=by
 obtain ⟨h1,h2⟩:=prefix_not (l:=textA a) (fun c hc=>(txt_ne (text_txt h c hc)).2.1)
 obtain ⟨h3,h4⟩:=prefix_cons (textA a)
 obtain ⟨p0,p1⟩:=atOf_text h
 unfold rdLeaf
 rw [h1,h2,h3,h4,if_pos p0,if_pos p0,p1]
 exact ⟨rfl,rfl⟩
theorem flag_back {fl:List UInt8} (nt:Bool) (h:nameB fl=true):Go.Lib.hasSuffix ((if nt then [33] else [])++(fl ++ [63])) [63]=true/\flagW ((if nt then [33] else [])++(fl ++ [63]))=fl/\notW ((if nt then [33] else [])++(fl ++ [63]))=nt:=by
 rw [← List.append_assoc]
 obtain ⟨h1,h2⟩:=suffix_snoc ((if nt then [33] else [])++fl)
 unfold flagW notW
 rw [h2]
 cases nt
 ·obtain ⟨h3,h4⟩:=prefix_not (name_no33 h)
  exact ⟨h1,h4,h3⟩
 ·obtain ⟨h3,h4⟩:=prefix_cons fl
  exact ⟨h1,h4,h3⟩
theorem flag_forth {wd:Word} (h:Go.Lib.hasSuffix wd [63]=true):(if notW wd=true then [33] else [])++(flagW wd ++ [63])=wd:=by
 unfold notW flagW
 rw [← List.append_assoc,prefix_back,suffix_back h]
theorem text_word {a:At} (h:chkA a=0) (l:List UInt8) (hl:l=textA a∨l=33 :: textA a):Go.Lib.hasSuffix l [63]=false/\l ≠ [124,124]/\l ≠ [40]/\l ≠ [41]:=by
 have ht:=text_txt h
 obtain ⟨c,r,e⟩:=text_cons h
 have hc:=txt_ne (ht c (by rw [e];simp))
 rcases hl with rfl | rfl
 ·refine ⟨no_suffix fun x hx=>(txt_ne (ht x hx)).2.2.2.2.1,?_,?_,?_⟩
  ·rw [e];intro h';injection h' with h1 _;exact hc.2.2.2.2.2 h1
  ·rw [e];intro h';injection h' with h1 _;exact hc.2.2.1 h1
  ·rw [e];intro h';injection h' with h1 _;exact hc.2.2.2.1 h1
 ·refine ⟨no_suffix fun x hx=> ?_,?_,?_,?_⟩
  ·rcases List.mem_cons.1 hx with rfl | hx
   ·decide
   ·exact (txt_ne (ht x hx)).2.2.2.2.1
  ·intro h';injection h' with h1 _;revert h1;decide
  ·intro h';injection h' with h1 _;revert h1;decide
  ·intro h';injection h' with h1 _;revert h1;decide
theorem words_pos : ∀ t:NT,∃ wd r,t.words=wd :: r
 | .node k a fl nt kids=>by
  rw [NT.words]
  split
  ·exact ⟨_,_,rfl⟩
  ·split
   ·exact ⟨_,_,rfl⟩
   ·split
    ·exact ⟨_,_,rfl⟩
    ·split
     ·exact ⟨_,_,rfl⟩
     ·exact ⟨_,_,rfl⟩
theorem wordsL_len : ∀ ts:List NT,ts.length<=(wordsL ts).length
 | []=>Nat.zero_le _
 | t :: ts=>by
  obtain ⟨wd,r,e⟩:=words_pos t
  have:=wordsL_len ts
  rw [wordsL,List.length_append,e]
  simp only [List.length_cons];omega
mutual
theorem rd_words : ∀ (t:NT) (g:Nat) (ws:List Word),t.ok->t.ht<=g->∃ wd r,t.words=wd :: r/\wd ≠ [41]/\rdNeed g wd (r++ws)=some (t,ws)
 | .node k a fl nt kids,g,ws,hok,hg=>by
  rw [NT.ok] at hok
  rw [NT.ht] at hg
  obtain ⟨g,rfl⟩ : ∃ g',g=g'+1:=⟨g-1,by omega⟩
  rw [NT.words]
  have hkids : ∀ (mk:List NT->NT) (ws:List Word),kidsAll (rdNeed g) mk (wordsL kids ++ [[41]]++ws)=some (mk kids,ws):=fun mk ws=>by
   unfold kidsAll
   have:=kids_words kids g [] ws ((wordsL kids ++ [[41]]++ws).length+1) hok.2 (by omega) (by have:=wordsL_len kids;simp only [List.length_append,List.length_cons];omega)
   rw [List.append_assoc,List.singleton_append]
   rw [List.append_assoc,List.singleton_append] at this
   rw [this];rfl
  rcases nodeE_zero hok.1 with ⟨hk,rfl,rfl,rfl,ha⟩ | ⟨hk,rfl,rfl,rfl⟩ | ⟨rfl,rfl,hn⟩
  ·rcases hk with rfl | rfl
   ·obtain ⟨w1,w2,w3,w4⟩:=text_word ha _ (Or.inl rfl)
    refine ⟨textA a,[],by rw [if_pos rfl],w4,?_⟩
    rw [rdNeed,if_neg (by rw [w1];decide),if_neg w2,if_neg w3,(leaf_back ha).1];rfl
   ·obtain ⟨w1,w2,w3,w4⟩:=text_word ha _ (Or.inr rfl)
    refine ⟨33 :: textA a,[],by rw [if_neg (by decide),if_pos rfl],w4,?_⟩
    rw [rdNeed,if_neg (by rw [w1];decide),if_neg w2,if_neg w3,(leaf_back ha).2];rfl
  ·rcases hk with rfl | rfl
   ·refine ⟨[40],wordsL kids ++ [[41]],by rw [if_neg (by decide),if_neg (by decide),if_neg (by decide),if_neg (by decide)];rfl,by decide,?_⟩
    rw [rdNeed,if_neg (by decide),if_neg (by decide),if_pos rfl,hkids]
   ·refine ⟨[124,124],[40] :: (wordsL kids ++ [[41]]),by rw [if_neg (by decide),if_neg (by decide),if_pos rfl];rfl,by decide,?_⟩
    rw [rdNeed,if_neg (by decide),if_pos rfl,List.cons_append,openBy,if_pos rfl,hkids]
  ·obtain ⟨f1,f2,f3⟩:=flag_back nt hn
   refine ⟨(if nt then [33] else [])++(fl.data.toList ++ [63]),[40] :: (wordsL kids ++ [[41]]),by rw [if_neg (by decide),if_neg (by decide),if_neg (by decide),if_pos rfl];rfl,?_,?_⟩
   ·intro e;rw [e] at f1;revert f1;decide
   ·rw [rdNeed,if_pos f1,f2,f3,if_pos hn,List.cons_append,openBy,if_pos rfl,hkids,bytes_back]
theorem kids_words : ∀ (ts:List NT) (g:Nat) (acc:List NT) (ws:List Word) (m:Nat),okL ts->htL ts<=g->ts.length<m->kidsBy (rdNeed g) m acc (wordsL ts ++ [[41]]++ws)=some (acc++ts,ws)
 | [],g,acc,ws,m,_,_,hm=>by
  obtain ⟨m,rfl⟩ : ∃ m',m=m'+1:=⟨m-1,by simp at hm;omega⟩
  rw [wordsL,List.nil_append,List.singleton_append,kidsBy,if_pos rfl,List.append_nil]
 | t :: ts,g,acc,ws,m,hok,hg,hm=>by
  rw [okL] at hok
  rw [htL] at hg
  obtain ⟨m,rfl⟩ : ∃ m',m=m'+1:=⟨m-1,by simp only [List.length_cons] at hm;omega⟩
  obtain ⟨wd,r,e,hne,hr⟩:=rd_words t g (wordsL ts ++ [[41]]++ws) hok.1 (by omega)
  rw [wordsL,e,List.append_assoc,List.append_assoc,List.cons_append,kidsBy,if_neg hne,← List.append_assoc (wordsL ts),hr]
  show kidsBy (rdNeed g) m (acc ++ [t]) (wordsL ts ++ [[41]]++ws)=_
  rw [kids_words ts g (acc ++ [t]) ws m hok.2 (by omega) (by simp only [List.length_cons] at hm;omega),List.append_assoc,List.singleton_append]
end
theorem kids_read {rd:Word->List Word->Option (NT × List Word)} {g:Nat} (hrd : ∀ wd ws t rest,rd wd ws=some (t,rest)->wd :: ws=t.words++rest/\t.ok/\t.ht<=g) :
  ∀ (m:Nat) (acc:List NT) (ws:List Word) (ks:List NT) (rest:List Word),kidsBy rd m acc ws=some (ks,rest)->∃ new,ks=acc++new/\ws=wordsL new++([41] :: rest)/\okL new/\htL new<=g
 | 0,_,_,_,_,h=>by cases h
 | _+1,_,[],_,_,h=>by cases h
 | m+1,acc,wd :: ws,ks,rest,h=>by
  rw [kidsBy] at h
  split at h
  ·rename_i e
   cases h
   exact ⟨[],by simp,by rw [e,wordsL];rfl,trivial,Nat.zero_le _⟩
  ·split at h
   ·cases h
   ·rename_i r hr
    obtain ⟨t,r2⟩:=r
    obtain ⟨h1,h2,h3⟩:=hrd wd ws t r2 hr
    obtain ⟨new,e1,e2,e3,e4⟩:=kids_read hrd m (acc ++ [t]) r2 ks rest h
    refine ⟨t :: new,by rw [e1,List.append_assoc];rfl,?_,?_,?_⟩
    ·rw [h1,e2,wordsL,List.append_assoc]
    ·rw [okL];exact ⟨h2,e3⟩
    ·rw [htL];omega
theorem rd_read : ∀ (g:Nat) (wd:Word) (ws:List Word) (t:NT) (rest:List Word),rdNeed g wd ws=some (t,rest)->wd :: ws=t.words++rest/\t.ok/\t.ht<=g
 | 0,_,_,_,_,h=>by cases h
 | g+1,wd,ws,t,rest,h=>by
  have hk : ∀ (mk:List NT->NT) (ws:List Word),kidsAll (rdNeed g) mk ws=some (t,rest)->∃ ks,t=mk ks/\ws=wordsL ks++([41] :: rest)/\okL ks/\htL ks<=g:=fun mk ws h=>by
   unfold kidsAll at h
   obtain ⟨⟨ks,r⟩,h1,h2⟩:=Option.map_eq_some_iff.1 h
   cases h2
   obtain ⟨new,e1,e2,e3,e4⟩:=kids_read (rd_read g) _ _ _ _ _ h1
   rw [List.nil_append] at e1
   subst e1
   exact ⟨_,rfl,e2,e3,e4⟩
  have ho : ∀ (mk:List NT->NT) (ws:List Word),openBy (rdNeed g) mk ws=some (t,rest)->∃ ks,t=mk ks/\ws = [40] :: (wordsL ks++([41] :: rest))/\okL ks/\htL ks<=g:=fun mk ws h=>by
   cases ws with
   | nil=>cases h
   | cons o ws=>
    rw [openBy] at h
    split at h
    ·rename_i e
     obtain ⟨ks,h1,h2,h3,h4⟩:=hk mk ws h
     exact ⟨ks,h1,by rw [e,h2],h3,h4⟩
    ·cases h
  rw [rdNeed] at h
  split at h
  ·rename_i h1
   split at h
   ·rename_i h2
    obtain ⟨ks,rfl,e2,e3,e4⟩:=ho _ _ h
    refine ⟨?_,?_,?_⟩
    ·rw [NT.words,if_neg (by decide),if_neg (by decide),if_neg (by decide),if_pos rfl]
     show wd :: ws = [(if notW wd=true then [33] else [])++(flagW wd ++ [63])]++([40] :: (wordsL ks ++ [[41]]))++rest
     rw [flag_forth h1,e2];simp
    ·rw [NT.ok];exact ⟨nodeE_if _ _ _ (by simpa using h2),e3⟩
    ·rw [NT.ht];omega
   ·cases h
  ·split at h
   ·rename_i h1 h2
    obtain ⟨ks,rfl,e2,e3,e4⟩:=ho _ _ h
    refine ⟨?_,?_,?_⟩
    ·rw [NT.words,if_neg (by decide),if_neg (by decide),if_pos rfl,h2,e2];simp
    ·rw [NT.ok];exact ⟨nodeE_group 4 _ (Or.inr rfl),e3⟩
    ·rw [NT.ht];omega
   ·split at h
    ·rename_i h1 h2 h3
     obtain ⟨ks,rfl,e2,e3,e4⟩:=hk _ _ h
     refine ⟨?_,?_,?_⟩
     ·rw [NT.words,if_neg (by decide),if_neg (by decide),if_neg (by decide),if_neg (by decide),h3,e2];simp
     ·rw [NT.ok];exact ⟨nodeE_group 3 _ (Or.inl rfl),e3⟩
     ·rw [NT.ht];omega
    ·obtain ⟨t',h1,h2⟩:=Option.map_eq_some_iff.1 h
     cases h2
     unfold rdLeaf at h1
     split at h1
     ·rename_i hp
      obtain ⟨hc,ht⟩:=text_atOf hp
      have hb:=prefix_back wd
      cases hx:Go.Lib.hasPrefix wd [33]
      ·rw [hx] at h1 hb
       cases h1
       refine ⟨?_,?_,?_⟩
       ·have hb':Go.Lib.trimPrefix wd [33]=wd:=by simpa using hb
        rw [NT.words,if_pos (by decide),ht,hb'];rfl
       ·rw [NT.ok];exact ⟨nodeE_leaf _ _ (Or.inl rfl) hc,trivial⟩
       ·simp [NT.ht,htL]
      ·rw [hx] at h1 hb
       cases h1
       refine ⟨?_,?_,?_⟩
       ·have hb':33 :: Go.Lib.trimPrefix wd [33]=wd:=by simpa using hb
        rw [NT.words,if_neg (by decide),if_pos (by decide),ht,hb'];rfl
       ·rw [NT.ok];exact ⟨nodeE_leaf _ _ (Or.inr rfl) hc,trivial⟩
       ·simp [NT.ht,htL]
     ·cases h1
end Go.Proofs.YthhhicgjiilgmaaGreatDoor
namespace Go.Proofs.YthhhicgjiilgmaaGreatDoor
theorem idx_at : ∀ (x r:List UInt8),(∀ c∈x,c≠32)->Go.Lib.index (x++32 :: r) [32]=x.length
 | [],r,_=>by simp [Go.Lib.index,List.isPrefixOf]
 | c :: x,r,h=>by
  have hc:=h c (by simp)
  have ih:=idx_at x r (fun d hd=>h d (by simp [hd]))
  rw [List.cons_append,Go.Lib.index,if_neg (by simp [List.isPrefixOf,Ne.symm hc]),ih,if_neg (by simp)]
  simp
theorem idx_none : ∀ x:List UInt8,(∀ c∈x,c≠32)->Go.Lib.index x [32] = -1
 | [],_=>by simp [Go.Lib.index]
 | c :: x,h=>by
  have hc:=h c (by simp)
  rw [Go.Lib.index,if_neg (by simp [List.isPrefixOf,Ne.symm hc]),idx_none x (fun d hd=>h d (by simp [hd]))]
  rfl
theorem jn_one (x:Word):Go.Lib.join [x] [32]=x:=Go.Lib.join_one x _
theorem jn_cons (x y:Word) (r:List Word):Go.Lib.join (x :: y :: r) [32]=x++32 :: Go.Lib.join (y :: r) [32]:=by
 simp [Go.Lib.join,List.intercalate,List.intersperse]
theorem splitK_at (k:Nat) (x r:List UInt8) (h : ∀ c∈x,c≠32):Go.Lib.splitK [32] 0 (k+1) (x++32 :: r)=x :: Go.Lib.splitK [32] 0 k r:=by
 rw [Go.Lib.splitK,idx_at x r h,if_neg (by simp)]
 simp
theorem splitK_none (k:Nat) (x:List UInt8) (h : ∀ c∈x,c≠32):Go.Lib.splitK [32] 0 k x = [x]:=by
 cases k with
 | zero=>rfl
 | succ k=>rw [Go.Lib.splitK,idx_none x h,if_pos (by decide)]
theorem split_join : ∀ (ws:List Word),ws ≠ []->(∀ x∈ws,∀ c∈x,c≠32)->Go.Lib.split (Go.Lib.join ws [32]) [32]=ws
 | [],h,_=>absurd rfl h
 | [x],_,h=>by
  rw [jn_one];unfold Go.Lib.split
  exact splitK_none _ x (h x (by simp))
 | x :: y :: r,_,h=>by
  have hx:=h x (by simp)
  have ih:=split_join (y :: r) (by simp) (fun z hz=>h z (by simp at hz ⊢;exact Or.inr hz))
  rw [jn_cons]
  unfold Go.Lib.split at ih ⊢
  rw [Go.Lib.count_hit (i:=x.length) (by simp) (idx_at x _ hx),Nat.add_comm,splitK_at _ _ _ hx]
  have e:List.drop (x.length + [(32:UInt8)].length) (x++32 :: Go.Lib.join (y :: r) [32])=Go.Lib.join (y :: r) [32]:=by
   rw [show x++32 :: Go.Lib.join (y :: r) [32]=(x ++ [32])++Go.Lib.join (y :: r) [32] by simp]
   rw [show x.length + [(32:UInt8)].length=(x ++ [32]).length by simp]
   exact List.drop_left
  rw [e,ih]
theorem name_no32 {l:List UInt8} (h:nameB l=true) : ∀ c∈l,c≠32:=fun c hc=>(txt_ne (okB_txt (name_ok h c hc))).1
mutual
theorem words_no32 : ∀ (t:NT),t.ok->∀ x∈t.words,∀ c∈x,c≠32
 | .node k a fl nt kids,hok,x,hx=>by
  rw [NT.ok] at hok
  rw [NT.words] at hx
  have hend : ∀ l:List Word,x ∈ [40] :: (wordsL kids ++ [[41]])->∀ c∈x,c≠32:=fun _ hx=>by
   rcases List.mem_cons.1 hx with rfl | hx
   ·decide
   ·rcases List.mem_append.1 hx with hx | hx
    ·exact wordsL_no32 kids hok.2 x hx
    ·rw [List.mem_singleton.1 hx];decide
  rcases nodeE_zero hok.1 with ⟨hk,rfl,rfl,rfl,ha⟩ | ⟨hk,rfl,rfl,rfl⟩ | ⟨rfl,rfl,hn⟩
  ·have ht:=text_txt ha
   rcases hk with rfl | rfl
   ·rw [if_pos rfl] at hx
    rw [List.mem_singleton.1 hx]
    exact fun c hc=>(txt_ne (ht c hc)).1
   ·rw [if_neg (by decide),if_pos rfl] at hx
    rw [List.mem_singleton.1 hx]
    intro c hc
    rcases List.mem_cons.1 hc with rfl | hc
    ·decide
    ·exact (txt_ne (ht c hc)).1
  ·rcases hk with rfl | rfl
   ·rw [if_neg (by decide),if_neg (by decide),if_neg (by decide),if_neg (by decide)] at hx
    exact hend [] hx
   ·rw [if_neg (by decide),if_neg (by decide),if_pos rfl] at hx
    rcases List.mem_append.1 hx with hx | hx
    ·rw [List.mem_singleton.1 hx];decide
    ·exact hend [] hx
  ·rw [if_neg (by decide),if_neg (by decide),if_neg (by decide),if_pos rfl] at hx
   rcases List.mem_append.1 hx with hx | hx
   ·rw [List.mem_singleton.1 hx]
    intro c hc
    rcases List.mem_append.1 hc with hc | hc
    ·split at hc
     ·rw [List.mem_singleton.1 hc];decide
     ·cases hc
    ·rcases List.mem_append.1 hc with hc | hc
     ·exact name_no32 hn c hc
     ·rw [List.mem_singleton.1 hc];decide
   ·exact hend [] hx
theorem wordsL_no32 : ∀ (ts:List NT),okL ts->∀ x∈wordsL ts,∀ c∈x,c≠32
 | [],_,x,hx=>by rw [wordsL] at hx;cases hx
 | t :: ts,hok,x,hx=>by
  rw [okL] at hok
  rw [wordsL] at hx
  rcases List.mem_append.1 hx with hx | hx
  ·exact words_no32 t hok.1 x hx
  ·exact wordsL_no32 ts hok.2 x hx
end
def NT.text (t:NT):List UInt8:=Go.Lib.join t.words [32]
def rdWords:List Word->Option NT
 | []=>none
 | wd :: ws=>match rdNeed 4 wd ws with
  | some (t,[])=>some t
  | _=>none
def rdText (l:List UInt8):Option NT:=rdWords (Go.Lib.split l [32])
def rdE (l:List UInt8):Int:=if 20000<l.length then 2 else match rdText l with
 | none=>1
 | some t=>chkN t
theorem rdText_text {t:NT} (h:t.ok) (hh:t.ht<=4):rdText t.text=some t:=by
 obtain ⟨wd,r,e,_,hr⟩:=rd_words t 4 [] h hh
 unfold rdText NT.text
 rw [split_join t.words (by rw [e];simp) (words_no32 t h),e,rdWords]
 rw [List.append_nil] at hr
 rw [hr]
def lenW:List Word->Nat
 | []=>0
 | x :: r=>x.length+1+lenW r
theorem lenW_app : ∀ a b:List Word,lenW (a++b)=lenW a+lenW b
 | [],b=>by simp [lenW]
 | x :: a,b=>by rw [List.cons_append,lenW,lenW,lenW_app a b];omega
theorem join_len : ∀ ws:List Word,(Go.Lib.join ws [32]).length<=lenW ws
 | []=>by simp [Go.Lib.join,lenW]
 | [x]=>by rw [jn_one,lenW];omega
 | x :: y :: r=>by
  have ih:=join_len (y :: r)
  rw [jn_cons,lenW,List.length_append,List.length_cons];omega
mutual
theorem lenW_words : ∀ t:NT,t.ok->lenW t.words<=110*t.size/\t.words.length<=3*t.size
 | .node k a fl nt kids,hok=>by
  rw [NT.ok] at hok
  rw [NT.words,NT.size]
  obtain ⟨ih,ih2⟩:=lenW_wordsL kids hok.2
  have e:lenW ([40] :: (wordsL kids ++ [[41]]))=lenW (wordsL kids)+4:=by rw [lenW,lenW_app];simp only [lenW,List.length_cons,List.length_nil];omega
  rcases nodeE_zero hok.1 with ⟨hk,rfl,rfl,rfl,ha⟩ | ⟨hk,rfl,rfl,rfl⟩ | ⟨rfl,rfl,hn⟩
  ·have ht:(textA a).length<=100:=text_len ha
   rcases hk with rfl | rfl
   ·rw [if_pos rfl];simp only [lenW,List.length_cons,List.length_nil];omega
   ·rw [if_neg (by decide),if_pos rfl];simp only [lenW,List.length_cons,List.length_nil];omega
  ·rcases hk with rfl | rfl
   ·rw [if_neg (by decide),if_neg (by decide),if_neg (by decide),if_neg (by decide),List.nil_append]
    rw [e];simp only [List.length_cons,List.length_append,List.length_nil];omega
   ·rw [if_neg (by decide),if_neg (by decide),if_pos rfl,lenW_app,e];simp only [lenW,List.length_cons,List.length_append,List.length_nil];omega
  ·have h8:=nameB_le hn
   rw [if_neg (by decide),if_neg (by decide),if_neg (by decide),if_pos rfl,lenW_app,e]
   simp only [lenW,List.length_cons,List.length_append,List.length_nil]
   have:(if nt=true then [(33:UInt8)] else []).length<=1:=by cases nt<;>simp
   omega
theorem lenW_wordsL : ∀ ts:List NT,okL ts->lenW (wordsL ts)<=110*sizeL ts/\(wordsL ts).length<=3*sizeL ts
 | [],_=>by rw [wordsL,lenW,sizeL];exact ⟨by omega,by simp⟩
 | t :: ts,hok=>by
  rw [okL] at hok
  obtain ⟨h1,h2⟩:=lenW_words t hok.1
  obtain ⟨h3,h4⟩:=lenW_wordsL ts hok.2
  rw [wordsL,lenW_app,sizeL,List.length_append];omega
end
theorem text_short {t:NT} (h:chkN t=0):t.text.length<=2200/\t.words.length<=60:=by
 obtain ⟨h1,h2⟩:=chkN_zero.1 h
 have:=small_of h1
 obtain ⟨h3,h4⟩:=lenW_words t h2
 have h5:=join_len t.words
 unfold NT.text;omega
theorem rdE_text {t:NT} (h:chkN t=0):rdE t.text=0/\rdText t.text=some t:=by
 obtain ⟨h1,h2⟩:=chkN_zero.1 h
 have e:=rdText_text h2 (small_of h1).2
 refine ⟨?_,e⟩
 unfold rdE
 have:=text_short h
 rw [if_neg (by omega),e]
 exact h
end Go.Proofs.YthhhicgjiilgmaaGreatDoor
