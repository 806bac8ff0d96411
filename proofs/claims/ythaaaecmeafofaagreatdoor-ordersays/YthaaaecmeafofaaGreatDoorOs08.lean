/- Steps of the proof: TreeOne, TreePack, TreeChk, TreeMeant. -/
import Derived.Test.YthaaaecmeafofaaGreatDoorOs07
import Derived.Lib.IndexMore
import Derived.BigQuiet
import Derived.Lib.QuietBelow
import Derived.Maps.AppendAt
set_option maxHeartbeats 16000000
set_option maxRecDepth 100000
namespace Go.Proofs.YthaaaecmeafofaaGreatDoor
structure PK where
 n:ByteArray
 v:Int
 sl:Int
 fl:List ByteArray
 nd:NT
def NT.kind:NT->Int
 | .node k _ _ _ _=>k
def PK.zero:PK:=⟨⟨#[]⟩,0,0,[],NT.zero⟩
def bI (f:Nat->Int):Nat->Nat->Int
 | _,0=>0
 | i,m+1=>if f i=0 then bI f (i+1) m else f i
def leS (x y:ByteArray):Bool:=Op.bytesLess x.toList y.toList||x.toList==y.toList
def flE (fs:List ByteArray) (k:Nat):Int:=
 if aI (fs.getD k ⟨#[]⟩).data.toList=false then 1 else if 0<k/\leS (fs.getD k ⟨#[]⟩) (fs.getD (k-1) ⟨#[]⟩)=true then 6 else 0
def bZ (fs:List ByteArray):Int:=if 2<fs.length then 2 else bI (flE fs) 0 fs.length
def eR (fs:List ByteArray) (x:List UInt8):Bool:=Lib.containsS fs ⟨x.toArray⟩
def dS (t:NT) (fs:List ByteArray):Int:=
 if t.kind≠3 then 4 else if cJ t≠0 then cJ t else if t.sorted.all (eR fs)=true then 0 else 5
def dC (p:PK):Int:=
 if aI p.n.data.toList=false then 1 else if p.v<1∨99<p.v∨p.sl<1∨9<p.sl then 3 else if bZ p.fl≠0 then bZ p.fl else dS p.nd p.fl
def cH (p q:PK):Bool:=if p.n=q.n then decide (q.v<p.v) else !leS p.n q.n
def bV (ps:List PK) (k:Nat):Nat:=((ps.take k).map fun p=>p.fl.length).sum
def pkE (ps:List PK) (k:Nat):Int:=
 if dC (ps.getD k PK.zero)≠0 then dC (ps.getD k PK.zero) else if 0<k/\cH (ps.getD k PK.zero) (ps.getD (k-1) PK.zero)=false then 6 else if 14<ps.length+bV ps (k+1) then 2 else 0
def dO (ps:List PK):Int:=if 8<ps.length then 2 else bI (pkE ps) 0 ps.length
theorem fL {f:Nat->Int} : ∀ (m i:Nat),bI f i m=0 ↔ ∀ j,j<m->f (i+j)=0
 | 0,i=>by simp [bI]
 | m+1,i=>by
  rw [bI]
  split
  ·rename_i h
   rw [fL m (i+1)]
   constructor
   ·intro H j hj
    cases j with
    | zero=>exact h
    | succ j=>rw [show i+(j+1)=i+1+j by omega];exact H j (by omega)
   ·intro H j hj
    rw [show i+1+j=i+(j+1) by omega];exact H (j+1) (by omega)
  ·rename_i h
   constructor
   ·intro H;exact absurd H h
   ·intro H;exact absurd (H 0 (by omega)) h
theorem fK {f:Nat->Int} {i n:Nat} (h:i<n):bI f i (n-i)=if f i=0 then bI f (i+1) (n-(i+1)) else f i:=by
 rw [show n-i=(n-(i+1))+1 by omega,bI]
theorem sH {ps:List PK} {k:Nat} (h:k<ps.length):bV ps (k+1)=bV ps k+ps[k].fl.length:=by
 unfold bV
 rw [List.take_succ_eq_append_getElem h,List.map_append,List.sum_append]
 simp only [List.map_cons,List.map_nil,List.sum_cons,List.sum_nil,Nat.add_zero]
theorem jH {ps:List PK} (h:dO ps=0):ps.length<=8/\(∀ p∈ps,dC p=0):=by
 unfold dO at h
 split at h
 ·cases h
 ·rename_i h8
  refine ⟨by omega,fun p hp=> ?_⟩
  obtain ⟨k,hk,rfl⟩:=List.getElem_of_mem hp
  have:=(fL _ _).1 h k hk
  rw [Nat.zero_add] at this
  unfold pkE at this
  rw [List.getD_eq_getElem?_getD,List.getElem?_eq_getElem hk,Option.getD_some] at this
  split at this
  ·rename_i hne;exact absurd this hne
  ·rename_i hne;exact Decidable.of_not_not hne
theorem nF {fs:List ByteArray} (h:bZ fs=0):fs.length<=2/\∀ f∈fs,aI f.data.toList=true:=by
 unfold bZ at h
 split at h
 ·cases h
 ·refine ⟨by omega,fun p hp=> ?_⟩
  obtain ⟨k,hk,rfl⟩:=List.getElem_of_mem hp
  have:=(fL _ _).1 h k hk
  rw [Nat.zero_add] at this
  unfold flE at this
  rw [List.getD_eq_getElem?_getD,List.getElem?_eq_getElem hk,Option.getD_some] at this
  split at this
  ·cases this
  ·rename_i hne;simpa using hne
theorem jG {p:PK} (h:dC p=0):aI p.n.data.toList=true/\(1<=p.v/\p.v<=99/\1<=p.sl/\p.sl<=9)/\bZ p.fl=0/\p.nd.kind=3/\cJ p.nd=0:=by
 unfold dC at h
 split at h
 ·cases h
 ·rename_i h1
  split at h
  ·cases h
  ·rename_i h2
   split at h
   ·rename_i h3;exact absurd h h3
   ·rename_i h3
    unfold dS at h
    split at h
    ·cases h
    ·rename_i h4
     split at h
     ·rename_i h5;exact absurd h h5
     ·rename_i h5
      exact ⟨by simpa using h1,by omega,Decidable.of_not_not h3,Decidable.of_not_not h4,Decidable.of_not_not h5⟩
section
variable (s:UInt8)
theorem oQ : ∀ (x r:List UInt8),(∀ c∈x,c≠s)->Go.Lib.index (x++s :: r) [s]=x.length
 | [],r,_=>by simp [Go.Lib.index,List.isPrefixOf]
 | c :: x,r,h=>by
  have hc:=h c (by simp)
  have ih:=oQ x r (fun d hd=>h d (by simp [hd]))
  rw [List.cons_append,Go.Lib.index,if_neg (by simp [List.isPrefixOf,Ne.symm hc]),ih,if_neg (by simp)]
  simp
theorem nI : ∀ x:List UInt8,(∀ c∈x,c≠s)->Go.Lib.index x [s] = -1
 | [],_=>by simp [Go.Lib.index]
 | c :: x,h=>by
  have hc:=h c (by simp)
  rw [Go.Lib.index,if_neg (by simp [List.isPrefixOf,Ne.symm hc]),nI x (fun d hd=>h d (by simp [hd]))]
  rfl
theorem pF : ∀ l:List UInt8,(∀ c∈l,c≠s)∨∃ x r,l=x++s :: r/\∀ c∈x,c≠s
 | []=>Or.inl (by simp)
 | c :: l=>by
  by_cases hc:c=s
  ·exact Or.inr ⟨[],l,by rw [hc];rfl,by simp⟩
  ·rcases pF l with h | ⟨x,r,e,h⟩
   ·refine Or.inl fun d hd=> ?_
    rcases List.mem_cons.1 hd with rfl | hd
    ·exact hc
    ·exact h d hd
   ·refine Or.inr ⟨c :: x,r,by rw [e];rfl,fun d hd=> ?_⟩
    rcases List.mem_cons.1 hd with rfl | hd
    ·exact hc
    ·exact h d hd
theorem gM (x y:bH) (r:List bH):Go.Lib.join (x :: y :: r) [s]=x++s :: Go.Lib.join (y :: r) [s]:=by
 simp [Go.Lib.join,List.intercalate,List.intersperse]
theorem gN (k:Nat) (x r:List UInt8) (h : ∀ c∈x,c≠s):Go.Lib.splitK [s] 0 (k+1) (x++s :: r)=x :: Go.Lib.splitK [s] 0 k r:=by
 rw [Go.Lib.splitK,oQ s x r h,if_neg (by simp)]
 simp
theorem tB (k:Nat) (x:List UInt8) (h : ∀ c∈x,c≠s):Go.Lib.splitK [s] 0 k x = [x]:=by
 cases k with
 | zero=>rfl
 | succ k=>rw [Go.Lib.splitK,nI s x h,if_pos (by decide)]
theorem nY : ∀ (ws:List bH),ws ≠ []->(∀ x∈ws,∀ c∈x,c≠s)->Go.Lib.split (Go.Lib.join ws [s]) [s]=ws
 | [],h,_=>absurd rfl h
 | [x],_,h=>by
  rw [Go.Lib.join_one];unfold Go.Lib.split
  exact tB s _ x (h x (by simp))
 | x :: y :: r,_,h=>by
  have hx:=h x (by simp)
  have ih:=nY (y :: r) (by simp) (fun z hz=>h z (by simp at hz ⊢;exact Or.inr hz))
  rw [gM]
  unfold Go.Lib.split at ih ⊢
  rw [Go.Lib.count_hit (i:=x.length) (by simp) (oQ s x _ hx),Nat.add_comm,gN s _ _ _ hx]
  have e:List.drop (x.length + [s].length) (x++s :: Go.Lib.join (y :: r) [s])=Go.Lib.join (y :: r) [s]:=by
   rw [show x++s :: Go.Lib.join (y :: r) [s]=(x ++ [s])++Go.Lib.join (y :: r) [s] by simp]
   rw [show x.length + [s].length=(x ++ [s]).length by simp]
   exact List.drop_left
  rw [e,ih]
theorem yM (x r:List UInt8) (h : ∀ c∈x,c≠s):Go.Lib.cut (x++s :: r) [s]=(x,r,true):=by
 unfold Go.Lib.cut
 rw [oQ s x r h,if_pos (by omega)]
 have e:x++s :: r=(x ++ [s])++r:=by simp
 simp only [Int.toNat_natCast,Prod.mk.injEq,and_true]
 refine ⟨by simp,?_⟩
 rw [e,show x.length + [s].length=(x ++ [s]).length by simp]
 exact List.drop_left
theorem zV (x:List UInt8) (h : ∀ c∈x,c≠s):Go.Lib.cut x [s]=(x,[],false):=by
 unfold Go.Lib.cut
 rw [nI s x h,if_neg (by omega)]
theorem zU {l x r:List UInt8} (h:Go.Lib.cut l [s]=(x,r,true)):l=x++s :: r/\∀ c∈x,c≠s:=by
 rcases pF s l with h0 | ⟨x',r',rfl,h0⟩
 ·rw [zV s l h0] at h;simp at h
 ·rw [yM s x' r' h0] at h
  simp at h
  obtain ⟨rfl,rfl⟩:=h
  exact ⟨rfl,h0⟩
end
def jR (p:PK):List UInt8:=Lib.join [p.n.data.toList,Lib.itoa p.v,Lib.itoa p.sl,Lib.join (p.fl.map (·.data.toList)) [44],p.nd.text] [32]
def lE:List PK->List UInt8
 | []=> []
 | p :: ps=>jR p++10 :: lE ps
def eH (wd:bH):List ByteArray:=if wd = [] then [] else (Lib.split wd [44]).map fun x=>⟨x.toArray⟩
def tW:List bH->Int
 | [_,b,c,_,n]=>if eB b=false∨eB c=false then 1 else rdE n
 | _=>1
def yG:List bH->PK
 | [a,b,c,d,n]=>⟨⟨a.toArray⟩,eJ b,eJ c,eH d,(gS n).getD NT.zero⟩
 | _=>PK.zero
def fA (l:List UInt8):Int:=tW (Lib.splitN l [32] 5)
def jS (l:List UInt8):PK:=yG (Lib.splitN l [32] 5)
def iL:Nat->List UInt8->Nat->List PK->Int × Nat × List PK
 | 0,_,k,acc=>(0,k,acc)
 | m+1,l,k,acc=>if l = [] then (0,k,acc) else if (Lib.cut l [10]).2.2=false then (1,k,[]) else
  if fA (Lib.cut l [10]).1≠0 then (fA (Lib.cut l [10]).1,k,[]) else iL m (Lib.cut l [10]).2.1 (k+1) (acc ++ [jS (Lib.cut l [10]).1])
def rdT (l:List UInt8):Int × Nat × List PK:=
 if 20000<l.length then (2,0,[]) else if (iL (l.length+1) l 0 []).1≠0 then ((iL (l.length+1) l 0 []).1,(iL (l.length+1) l 0 []).2.1,[]) else
  if dO (iL (l.length+1) l 0 []).2.2≠0 then (dO (iL (l.length+1) l 0 []).2.2,0,[]) else (0,0,(iL (l.length+1) l 0 []).2.2)
theorem uR {i:Int} (h0:0<=i) (h1:i<100):eB (Lib.itoa i)=true/\eJ (Lib.itoa i)=i:=by
 obtain ⟨k,rfl⟩ : ∃ k:Nat,i=k:=⟨i.toNat,by omega⟩
 have e:Lib.itoa (k:Int)=Lib.decDigits k:=by unfold Lib.itoa;simp
 rw [e]
 exact tH (by omega)
theorem oR {i:Int} (h0:0<=i) (h1:i<100) : ∀ c∈Lib.itoa i,c≠32/\c≠10:=by
 intro c hc
 have:=pO h0 h1 c hc
 refine ⟨(iC this).1,?_⟩
 rintro rfl
 revert this;decide
theorem mM {l:List UInt8} (h:aI l=true) : ∀ c∈l,c≠32/\c≠10/\c≠44:=by
 intro c hc
 have:=kT (kS h c hc)
 refine ⟨(iC this).1,?_,?_⟩<;>(rintro rfl;revert this;decide)
theorem pP (s:UInt8) : ∀ (ws:List bH) (c:UInt8),c∈Lib.join ws [s]->c=s∨∃ x∈ws,c∈x
 | [],c,h=>by simp [Lib.join] at h
 | [x],c,h=>by rw [Lib.join_one] at h;exact Or.inr ⟨x,by simp,h⟩
 | x :: y :: r,c,h=>by
  rw [gM] at h
  rcases List.mem_append.1 h with h | h
  ·exact Or.inr ⟨x,by simp,h⟩
  ·rcases List.mem_cons.1 h with h | h
   ·exact Or.inl h
   ·rcases pP s (y :: r) c h with h | ⟨z,hz,hc⟩
    ·exact Or.inl h
    ·exact Or.inr ⟨z,by simp at hz ⊢;exact Or.inr hz,hc⟩
theorem uT {fs:List ByteArray} (h : ∀ f∈fs,aI f.data.toList=true) : ∀ c∈Lib.join (fs.map (·.data.toList)) [44],c≠32/\c≠10:=by
 intro c hc
 rcases pP 44 _ c hc with rfl | ⟨x,hx,hcx⟩
 ·decide
 ·obtain ⟨f,hf,rfl⟩:=List.mem_map.1 hx
  have:=mM (h f hf) c hcx
  exact ⟨this.1,this.2.1⟩
theorem uK {fs:List ByteArray} (h : ∀ f∈fs,aI f.data.toList=true):eH (Lib.join (fs.map (·.data.toList)) [44])=fs:=by
 unfold eH
 cases fs with
 | nil=>simp [Lib.join]
 | cons f fs=>
  have hne:Lib.join ((f :: fs).map (·.data.toList)) [44] ≠ []:=by
   have hp:=gD (h f (by simp))
   cases fs with
   | nil=>rw [List.map_cons,List.map_nil,Lib.join_one];exact hp
   | cons g fs=>rw [List.map_cons,List.map_cons,gM];simp
  rw [if_neg hne,nY 44 _ (by simp) (fun x hx c hc=>by obtain ⟨f',hf',rfl⟩:=List.mem_map.1 hx;exact (mM (h f' hf') c hc).2.2),List.map_map]
  conv=>rhs;rw [← List.map_id (f :: fs)]
  apply List.map_congr_left
  intro x _
  exact cB x
theorem wD {c:UInt8} (h:tV c=true):c≠10:=by rintro rfl;revert h;decide
mutual
theorem oI : ∀ (t:NT),t.ok->∀ x∈t.words,∀ c∈x,c≠10
 | .node k a fl nt kids,hok,x,hx=>by
  rw [NT.ok] at hok
  rw [NT.words] at hx
  have hend : ∀ l:List bH,x ∈ [40] :: (bF kids ++ [[41]])->∀ c∈x,c≠10:=fun _ hx=>by
   rcases List.mem_cons.1 hx with rfl | hx
   ·decide
   ·rcases List.mem_append.1 hx with hx | hx
    ·exact mX kids hok.2 x hx
    ·rw [List.mem_singleton.1 hx];decide
  rcases eI hok.1 with ⟨hk,rfl,rfl,rfl,ha⟩ | ⟨hk,rfl,rfl,rfl⟩ | ⟨rfl,rfl,hn⟩
  ·have ht:=mU ha
   rcases hk with rfl | rfl
   ·rw [if_pos rfl] at hx
    rw [List.mem_singleton.1 hx]
    exact fun c hc=>wD (ht c hc)
   ·rw [if_neg (by decide),if_pos rfl] at hx
    rw [List.mem_singleton.1 hx]
    intro c hc
    rcases List.mem_cons.1 hc with rfl | hc
    ·decide
    ·exact wD (ht c hc)
  ·rcases hk with rfl | rfl
   ·rw [if_neg (by decide),if_neg (by decide),if_neg (by decide),if_neg (by decide)] at hx
    exact hend [] hx
   ·rw [if_neg (by decide),if_neg (by decide),if_pos rfl] at hx
    rcases List.mem_append.1 hx with hx | hx
    ·rw [List.mem_singleton.1 hx];decide
    ·exact hend [] hx
  ·rw [if_neg (by decide),if_neg (by decide),if_neg (by decide),if_pos rfl] at hx
   rcases List.mem_append.1 hx with hx | hx
   ·rw [List.mem_singleton.1 hx]
    intro c hc
    rcases List.mem_append.1 hc with hc | hc
    ·split at hc
     ·rw [List.mem_singleton.1 hc];decide
     ·cases hc
    ·rcases List.mem_append.1 hc with hc | hc
     ·exact (mM hn c hc).2.1
     ·rw [List.mem_singleton.1 hc];decide
   ·exact hend [] hx
theorem mX : ∀ (ts:List NT),okL ts->∀ x∈bF ts,∀ c∈x,c≠10
 | [],_,x,hx=>by rw [bF] at hx;cases hx
 | t :: ts,hok,x,hx=>by
  rw [okL] at hok
  rw [bF] at hx
  rcases List.mem_append.1 hx with hx | hx
  ·exact oI t hok.1 x hx
  ·exact mX ts hok.2 x hx
end
theorem yH {t:NT} (h:t.ok) : ∀ c∈t.text,c≠10:=by
 intro c hc
 rcases pP 32 _ c hc with rfl | ⟨x,hx,hcx⟩
 ·decide
 ·exact oI t h x hx c hcx
theorem aAa {p:PK} (h:dC p=0):fA (jR p)=0/\jS (jR p)=p/\∀ c∈jR p,c≠10:=by
 obtain ⟨hn,⟨hv1,hv2,hs1,hs2⟩,hf,_,hc⟩:=jG h
 obtain ⟨_,hf⟩:=nF hf
 have hsm:=(cQ.1 hc)
 obtain ⟨iv1,iv2⟩:=uR (i:=p.v) (by omega) (by omega)
 obtain ⟨is1,is2⟩:=uR (i:=p.sl) (by omega) (by omega)
 obtain ⟨r1,r2⟩:=aDp hc
 have e1:jR p=p.n.data.toList++32 :: (Lib.itoa p.v++32 :: (Lib.itoa p.sl++32 :: (Lib.join (p.fl.map (·.data.toList)) [44]++32 :: p.nd.text))):=by
  unfold jR
  rw [gM,gM,gM,gM,Lib.join_one]
 have e2:Lib.splitN (jR p) [32] 5 = [p.n.data.toList,Lib.itoa p.v,Lib.itoa p.sl,Lib.join (p.fl.map (·.data.toList)) [44],p.nd.text]:=by
  unfold Lib.splitN
  rw [show min 5 ((jR p).length+1)-1=4 by rw [e1];simp;omega,e1]
  rw [gN 32 3 _ _ (fun c hc=>(mM hn c hc).1),gN 32 2 _ _ (fun c hc=>(oR (by omega) (by omega) c hc).1),gN 32 1 _ _ (fun c hc=>(oR (by omega) (by omega) c hc).1),gN 32 0 _ _ (fun c hc=>(uT hf c hc).1)]
  rfl
 refine ⟨?_,?_,?_⟩
 ·unfold fA
  rw [e2,tW,if_neg (by rw [iv1,is1];simp)]
  exact r1
 ·unfold jS
  rw [e2,yG,iv2,is2,uK hf,r2,cB]
  rfl
 ·rw [e1]
  intro c hc
  simp only [List.mem_append,List.mem_cons] at hc
  rcases hc with hc | rfl | hc | rfl | hc | rfl | hc | rfl | hc
  ·exact (mM hn c hc).2.1
  ·decide
  ·exact (oR (by omega) (by omega) c hc).2
  ·decide
  ·exact (oR (by omega) (by omega) c hc).2
  ·decide
  ·exact (uT hf c hc).2
  ·decide
  ·exact yH hsm.2 c hc
theorem sE : ∀ (ps:List PK) (m k:Nat) (acc:List PK),(∀ p∈ps,dC p=0)->(lE ps).length<m->iL m (lE ps) k acc=(0,k+ps.length,acc++ps)
 | [],0,k,acc,_,h=>absurd h (Nat.not_lt_zero _)
 | [],m+1,k,acc,_,_=>by rw [iL,if_pos (show lE [] = [] from rfl)];simp
 | p :: ps,0,k,acc,_,h=>absurd h (Nat.not_lt_zero _)
 | p :: ps,m+1,k,acc,h,hm=>by
  obtain ⟨b1,b2,b3⟩:=aAa (h p (by simp))
  have e:lE (p :: ps)=jR p++10 :: lE ps:=rfl
  rw [iL,e,yM 10 _ _ b3,if_neg (by simp),if_neg (by simp),if_neg (by simp [b1])]
  rw [e] at hm
  rw [sE ps m (k+1) (acc ++ [jS (jR p)]) (fun q hq=>h q (by simp [hq])) (by simp at hm;omega),b2]
  simp;omega
theorem aDq {ps:List PK} (h:dO ps=0) (hl:(lE ps).length<=20000):rdT (lE ps)=(0,0,ps):=by
 have hp:=(jH h).2
 unfold rdT
 rw [if_neg (by omega),sE ps _ 0 [] hp (by omega),if_neg (by simp),if_neg (by simp [h])]
 simp
end Go.Proofs.YthaaaecmeafofaaGreatDoor
namespace Go.Proofs.YthaaaecmeafofaaGreatDoor
open Go.RowKit
def bT (S:Nat->Prop) (w:World) (fs:List ByteArray) (v:Value):Prop:=
 (fs = []/\∃ p cap,v=.slice p 0 cap)∨∃ (b off cap:Nat),v=.slice (some ⟨b,off,none⟩) fs.length cap/\(S b/\fs.length<=cap)/\fs.length<=9223372036854775807/\∀ (j:Nat) (x:ByteArray),fs[j]? = some x->w.cell? ⟨b,off+j,none⟩=some (.string x)
def cZ (S:Nat->Prop) (w:World) (p:PK) (cs:List Value):Prop:=
 ∃ (fv:Value) (nv:List Value),cs=.string p.n :: .int .i64 p.v :: .int .i64 p.sl :: fv :: nv/\bT S w p.fl fv/\aE S w p.nd nv
def bA (S:Nat->Prop) (w:World) (ps:List PK) (v:Value):Prop:=
 (ps = []/\∃ p cap,v=.slice p 0 cap)∨∃ (b off cap:Nat),v=.slice (some ⟨b,off,none⟩) ps.length cap/\S b/\ps.length<=9223372036854775807/\
  ∀ (j:Nat) (h:j<ps.length),∃ cs:List Value,(∀ (m:Nat) (x:Value),cs[m]? = some x->w.cell? ⟨b,off+j*14+m,none⟩=some x)/\cZ S w ps[j] cs
theorem bT.mono {S S':Nat->Prop} {w w':World} (hw : ∀ p:Addr,S p.block->w'.cell? p=w.cell? p) (hS : ∀ b,S b->S' b) {fs:List ByteArray} {v:Value} (h:bT S w fs v):bT S' w' fs v:=by
 rcases h with h | ⟨b,off,cap,h1,h2,h3,h4⟩
 ·exact Or.inl h
 ·exact Or.inr ⟨b,off,cap,h1,⟨hS _ h2.1,h2.2⟩,h3,fun j x hx=>(hw _ h2.1).trans (h4 j x hx)⟩
theorem cZ.mono {S S':Nat->Prop} {w w':World} (hw : ∀ p:Addr,S p.block->w'.cell? p=w.cell? p) (hS : ∀ b,S b->S' b) {p:PK} {cs:List Value} (h:cZ S w p cs):cZ S' w' p cs:=by
 obtain ⟨fv,nv,h1,h2,h3⟩:=h
 exact ⟨fv,nv,h1,h2.mono hw hS,aE.mono hw hS _ _ h3⟩
theorem bA.mono {S S':Nat->Prop} {w w':World} (hw : ∀ p:Addr,S p.block->w'.cell? p=w.cell? p) (hS : ∀ b,S b->S' b) {ps:List PK} {v:Value} (h:bA S w ps v):bA S' w' ps v:=by
 rcases h with h | ⟨b,off,cap,h1,h2,h3,h4⟩
 ·exact Or.inl h
 ·refine Or.inr ⟨b,off,cap,h1,hS _ h2,h3,fun j hj=> ?_⟩
  obtain ⟨cs,h5,h6⟩:=h4 j hj
  exact ⟨cs,fun m x hx=>(hw _ h2).trans (h5 m x hx),h6.mono hw hS⟩
theorem bO {S:Nat->Prop} {B:Nat} {w w':World} (hS : ∀ b,S b->b<B) (k:Below B w w') : ∀ p:Addr,S p.block->w'.cell? p=w.cell? p:=
 fun p hp=>k.cell (p:=p) (hS _ hp)
theorem bT.keep {S:Nat->Prop} {B:Nat} {w w':World} (hS : ∀ b,S b->b<B) (k:Below B w w') {fs:List ByteArray} {v:Value} (h:bT S w fs v):bT S w' fs v:=h.mono (bO hS k) fun _ h=>h
theorem cZ.keep {S:Nat->Prop} {B:Nat} {w w':World} (hS : ∀ b,S b->b<B) (k:Below B w w') {p:PK} {cs:List Value} (h:cZ S w p cs):cZ S w' p cs:=h.mono (bO hS k) fun _ h=>h
theorem bA.keep {S:Nat->Prop} {B:Nat} {w w':World} (hS : ∀ b,S b->b<B) (k:Below B w w') {ps:List PK} {v:Value} (h:bA S w ps v):bA S w' ps v:=h.mono (bO hS k) fun _ h=>h
theorem bT.len {S:Nat->Prop} {w:World} {fs:List ByteArray} {v:Value} (h:bT S w fs v) : ∃ p cap,v=.slice p fs.length cap/\fs.length<=9223372036854775807:=by
 rcases h with ⟨rfl,p,cap,h⟩ | ⟨b,off,cap,h1,_,h3,_⟩
 ·exact ⟨p,cap,h,by simp⟩
 ·exact ⟨_,cap,h1,h3⟩
theorem bA.len {S:Nat->Prop} {w:World} {ps:List PK} {v:Value} (h:bA S w ps v) : ∃ p cap,v=.slice p ps.length cap/\ps.length<=9223372036854775807:=by
 rcases h with ⟨rfl,p,cap,h⟩ | ⟨b,off,cap,h1,_,h3,_⟩
 ·exact ⟨p,cap,h,by simp⟩
 ·exact ⟨_,cap,h1,h3⟩
theorem bT.get {S:Nat->Prop} {w:World} {fs:List ByteArray} {v:Value} (h:bT S w fs v) {j:Nat} (hj:j<fs.length) :
  ∃ (b off cap:Nat),v=.slice (some ⟨b,off,none⟩) fs.length cap/\S b/\fs.length<=9223372036854775807/\∀ (j:Nat) (x:ByteArray),fs[j]? = some x->w.cell? ⟨b,off+j,none⟩=some (.string x):=by
 rcases h with ⟨rfl,_⟩ | ⟨b,off,cap,h1,h2,h3,h4⟩
 ·exact absurd hj (Nat.not_lt_zero _)
 ·exact ⟨b,off,cap,h1,h2.1,h3,h4⟩
theorem bA.get {S:Nat->Prop} {w:World} {ps:List PK} {v:Value} (h:bA S w ps v) {j:Nat} (hj:j<ps.length) :
  ∃ (b off cap:Nat),v=.slice (some ⟨b,off,none⟩) ps.length cap/\S b/\ps.length<=9223372036854775807/\
  ∀ (j:Nat) (h:j<ps.length),∃ cs:List Value,(∀ (m:Nat) (x:Value),cs[m]? = some x->w.cell? ⟨b,off+j*14+m,none⟩=some x)/\cZ S w ps[j] cs:=by
 rcases h with ⟨rfl,_⟩ | h
 ·exact absurd hj (Nat.not_lt_zero _)
 ·exact h
theorem aEz (zs:List ByteArray) (j:Nat) (h:j<zs.length):zs.getD j ByteArray.empty=zs[j]:=by
 rw [List.getD_eq_getElem?_getD,List.getElem?_eq_getElem h,Option.getD_some]
theorem bT.getD {w:World} {fs:List ByteArray} {b off:Nat} (h : ∀ (j:Nat) (x:ByteArray),fs[j]? = some x->w.cell? ⟨b,off+j,none⟩=some (.string x)) : ∀ j,j<fs.length->w.cell? ⟨b,off+j,none⟩=some (.string (fs.getD j ByteArray.empty)):=
 fun j hj=>by rw [aEz fs j hj];exact h j _ (List.getElem?_eq_getElem hj)
end Go.Proofs.YthaaaecmeafofaaGreatDoor
namespace Go.Proofs.YthaaaecmeafofaaGreatDoor
open Go.RowKit
theorem iV {F:Nat} {cap:Array Value} (n:Nat) (f:Nat->Int) (Inv:Nat->World->Prop) (c:Nat) (hn:n<=9223372036854775807)
  (hF : ∀ args w,(callFunc F args).run Tryz.prog w=.ok (.enter F args) w)
  (hc : ∀ k w,k<n->Inv k w->Calls Tryz.prog F (#[.int .i64 k]++cap) w fun e w'=>e=.returned (.int .i64 (f k))/\(f k=0->Inv (k+1) w')/\aR (One c) w w') (w:World) (h0:Inv 0 w) :
  Calls Tryz.prog 105 #[.int .i64 n,.func (.func F) #[] cap] w fun e w'=>e=.returned (.int .i64 (bI f 0 n))/\aR (One c) w w':=by
 have HC:=hid hc
 have HI:=hid h0
 clear hc h0
 go_enter Tryz.func105,Tryz.ntmps105
 go_wp2_with fail
 go_loopg [8] n (fun gk i wr=> ∃ j:Nat,j+gk=n/\i=.int .i64 j/\Inv j wr/\bI f 0 n=bI f j (n-j)/\aR (One c) w wr)
 case atStart=>exact ⟨0,by simp,rfl,HI.out,rfl,aR.refl _ _⟩
 case round=>
  obtain ⟨j,hj,rfl,hi,he,ha⟩:=hrel
  have HEQ:=hid he
  have HA:=hid ha
  clear he ha HI
  by_cases hlt:j<n
  ·have HCALL:=hid (HC.out j wr hlt hi)
   have HST:=hid (fK (f:=f) hlt)
   clear hi
   go_wp2_with fail
   refine HCALL.out.mono ?_
   rintro e w1 ⟨rfl,hi1,ha1⟩
   have HI1:=hid hi1
   have HA1:=hid (HA.out.trans ha1)
   clear hi1 ha1 HCALL
   by_cases hz:f j=0
   ·have HZ:=hid hz
    have hz1:(f j==0)=true:=by simp [hz]
    have hz2:(f j != 0)=false:=by simp [hz]
    clear hz
    go_wp2_with fail
    go_roundg (n-(j+1))
    case rel=>exact ⟨j+1,by omega,by go_num,HI1.out HZ.out,by rw [HEQ.out,HST.out,if_pos HZ.out],HA1.out⟩
    case measure=>omega
   ·have HZ:=hid hz
    have hz1:(f j==0)=false:=by simp [hz]
    have hz2:(f j != 0)=true:=by simp [hz]
    clear hz
    go_wp2_with fail
    go_ret
    exact ⟨aC (by rw [HEQ.out,HST.out,if_neg HZ.out]),HA1.out⟩
  ·go_wp2_with fail
   go_ret
   exact ⟨aC (by rw [HEQ.out,show n-j=0 by omega];rfl),HA.out⟩
theorem zQ (S:Nat->Prop) (fs:List ByteArray) (c k:Nat) (v:Value) (w:World) (hk:k<fs.length) (hv:aB c 69 v w) (hs:bT S w fs v) :
  Calls Tryz.prog 201 #[.int .i64 k,.pointer (some ⟨c,0,none⟩)] w fun e w'=>e=.returned (.int .i64 (flE fs k))/\aA w w':=by
 obtain ⟨b,off,cap,rfl,hb,hlen,hcell⟩:=hs.get hk
 obtain ⟨hc0,-,hcl⟩:=hv.facts
 have hck:=hcell k _ (List.getElem?_eq_getElem hk)
 have HFL:Hid (flE fs k=if aI fs[k].data.toList=false then 1 else if 0<k/\leS fs[k] (fs.getD (k-1) ⟨#[]⟩)=true then 6 else 0):=by
  show _=_
  unfold flE
  rw [List.getD_eq_getElem?_getD,List.getElem?_eq_getElem hk,Option.getD_some]
 have hck1:0<k->∃ x:ByteArray,Hid (fs.getD (k-1) ⟨#[]⟩=x)/\w.cell? ⟨b,off+(k-1),none⟩=some (.string x):=fun h0=>
  ⟨fs[k-1],by show _=_;rw [List.getD_eq_getElem?_getD,List.getElem?_eq_getElem (by omega),Option.getD_some],hcell (k-1) _ (List.getElem?_eq_getElem (by omega))⟩
 clear hcell hs hv
 generalize fs[k]=x at hck HFL
 go_enter Tryz.func201,Tryz.ntmps201
 go_wp2_with fail
 refine (cD x w).mono ?_
 rintro e w1 ⟨rfl,hw⟩
 subst hw
 cases hnm:aI x.data.toList
 ·rw [hnm] at HFL
  go_wp2_with fail
  go_ret
  exact ⟨aC (by rw [HFL.out];rfl),aA.refl _⟩
 ·rw [hnm] at HFL
  by_cases h0:0<k
  ·obtain ⟨y,HY,hcy⟩:=hck1 h0
   rw [HY.out] at HFL
   obtain ⟨m,rfl⟩ : ∃ m,k=m+1:=⟨k-1,by omega⟩
   have h0':(0:Int)<((m+1:Nat):Int):=by omega
   have hd:decide ((0:Int)<((m+1:Nat):Int))=true:=decide_eq_true h0'
   have hcy':w1.cell? ⟨b,off+m,none⟩=some (.string y):=hcy
   have e1:((m+1:Nat):Int)-1=(m:Int):=by omega
   have hm:m<fs.length:=by omega
   clear hck1 HY hcy
   go_wp2_with fail
   go_quiet (fail)
   cases hle:leS x y
   ·have HX:Hid (flE fs (m+1)=0):=by show _=_;rw [HFL.out,hle];simp
    have hle':(Op.bytesLess x.toList y.toList||x.toList==y.toList)=false:=hle
    rw [hle']
    clear hle hle' HFL
    go_wp2_with fail
    go_ret
    exact ⟨aC HX.out.symm,aA.drewN (aA.refl _) _⟩
   ·have HX:Hid (flE fs (m+1)=6):=by show _=_;rw [HFL.out,hle];simp
    have hle':(Op.bytesLess x.toList y.toList||x.toList==y.toList)=true:=hle
    rw [hle']
    clear hle hle' HFL
    go_wp2_with fail
    go_ret
    exact ⟨aC HX.out.symm,aA.drewN (aA.refl _) _⟩
  ·have hd:decide ((0:Int)<(k:Int))=false:=decide_eq_false (by omega)
   have HX:Hid (flE fs k=0):=by show _=_;rw [HFL.out];simp [h0]
   clear HFL hck1
   go_wp2_with fail
   go_quiet (fail)
   go_wp2_with fail
   go_ret
   exact ⟨aC HX.out.symm,aA.drewN (aA.refl _) _⟩
theorem nU (args:Array Value) (w:World):(callFunc 201 args).run Tryz.prog w=.ok (.enter 201 args) w:=enters_of Tryz.func201 (by kernel_rfl) rfl args w
theorem zS (S:Nat->Prop) (fs:List ByteArray) (v:Value) (w:World) (hS : ∀ b,S b->b<w.heap.size) (hs:bT S w fs v) :
  Calls Tryz.prog 178 #[v] w fun e w'=>e=.returned (.int .i64 (bZ fs))/\aA w w':=by
 have HS:=hid hs
 obtain ⟨p,cap,rfl,hlen⟩:=hs.len
 have hmf : ∀ (fn:Fn) (first cap:Array Value) (w:World),(Instr.makeFunc fn first cap).run Tryz.prog w=.ok (.func fn first cap) w:=fun _ _ _ _=>rfl
 have hent:=nU
 have k0:=hid (aA.alloc w (.cells #[.slice p fs.length cap] 69))
 have v0:=hid (aB.new w 69 (.slice p fs.length cap))
 clear hs
 by_cases h2:2<fs.length
 ·have h2':(2:Int)<(fs.length:Int):=by omega
  have HX:Hid (bZ fs=2):=by show _=_;unfold bZ;rw [if_pos h2]
  go_enter Tryz.func178,Tryz.ntmps178
  go_wp2_with fail
  go_ret
  exact ⟨aC HX.out.symm,k0.out⟩
 ·have h2' : ¬ (2:Int)<(fs.length:Int):=by omega
  have HX:Hid (bZ fs=bI (flE fs) 0 fs.length):=by show _=_;unfold bZ;rw [if_neg h2]
  have hcall : ∀ (k:Nat) (W':World),k<fs.length->aA w W'/\aB w.heap.size 69 (.slice p fs.length cap) W'->Calls Tryz.prog 201 (#[.int .i64 k]++#[.pointer (some ⟨w.heap.size,0,none⟩)]) W' fun e w'=>e=.returned (.int .i64 (flE fs k))/\(flE fs k=0->aA w w'/\aB w.heap.size 69 (.slice p fs.length cap) w')/\aR (One w.heap.size) W' w':=by
   rintro k W' hk ⟨h1,h3⟩
   have c:=zQ S fs w.heap.size k _ W' hk h3 (HS.out.keep hS h1)
   refine Calls.mono c ?_
   rintro e w' ⟨rfl,h4⟩
   exact ⟨rfl,fun _=>⟨Below.trans h1 (h4.mono h1.size),h3.keep h4 h3.facts.2.2⟩,bQ h4⟩
  have hone:=hid (fun W h=>iV fs.length (flE fs) (fun _ W'=>aA w W'/\aB w.heap.size 69 (.slice p fs.length cap) W') w.heap.size hlen nU hcall W h)
  clear hcall
  clear h2
  go_enter Tryz.func178,Tryz.ntmps178
  go_wp2_with fail
  refine (hone.out _ ⟨k0.out,v0.out⟩).mono ?_
  rintro e w1 ⟨rfl,ha1⟩
  have K1:Hid (aA w w1):=Below.trans k0.out (ha1.below k0.out.size fun b hb e=>by have:b=w.heap.size:=e;omega)
  clear ha1 hone k0 v0
  go_wp2_with fail
  go_ret
  exact ⟨aC HX.out.symm,K1.out⟩
end Go.Proofs.YthaaaecmeafofaaGreatDoor
namespace Go.Proofs.YthaaaecmeafofaaGreatDoor
open Go.RowKit
theorem aBu {fs:List ByteArray} {l:List (List UInt8)} {j:Nat} (h:j<l.length):(l.take (j+1)).all (eR fs)=((l.take j).all (eR fs)&&eR fs l[j]):=by
 rw [List.take_succ_eq_append_getElem h,List.all_append];simp
theorem zB {fs:List ByteArray} {l:List (List UInt8)} {j:Nat} (h:j<l.length) (hf:eR fs l[j]=false):l.all (eR fs)=false:=by
 rw [List.all_eq_false];exact ⟨l[j],List.getElem_mem h,by simp [hf]⟩
theorem tR {t:NT} (h:cJ t=0):t.sorted.length<=20:=by
 have h1:=(gU (cQ.1 h).1).1
 have h2:=kM t
 have h3:=jJ ((t.flags.map (·.data.toList)).mergeSort fun x y=>decide (x<=y))
 unfold NT.sorted
 rw [List.length_mergeSort,List.length_map] at h3
 omega
theorem mE (S:Nat->Prop) (fs:List ByteArray) (fv:Value) (x:ByteArray) (w:World) (hf:bT S w fs fv) :
  Calls Tryz.prog 57 #[fv,.string x] w fun e w'=>e=.returned (.bool (eR fs x.data.toList))/\w'=w:=by
 have hx:eR fs x.data.toList=Lib.containsS fs x:=by unfold eR;rw [cB]
 rcases hf with ⟨rfl,p,cap,rfl⟩ | ⟨b,off,cap,rfl,-,hl,hc⟩
 ·refine (Tryz.slices_Contains_string_empty p cap x w).mono ?_
  rintro e w' ⟨rfl,rfl⟩
  exact ⟨aG (by rw [hx];rfl),rfl⟩
 ·refine (Tryz.slices_Contains_string b off fs.length cap fs x w (Nat.le_refl _) hl (bT.getD hc)).mono ?_
  rintro e w' ⟨rfl,rfl⟩
  exact ⟨aG (by rw [hx,List.take_length]),rfl⟩
theorem tT (S:Nat->Prop) (t:NT) (cs:List Value) (fs:List ByteArray) (fv:Value) (w:World) (hS : ∀ b,S b->b<w.heap.size) (hn:aE S w t cs) (hf:bT S w fs fv) :
  Calls Tryz.prog 179 #[.agg cs.toArray,fv] w fun e w'=>e=.returned (.int .i64 (dS t fs))/\aA w w':=by
 have HN:=hid hn
 have HF:=hid hf
 have hkd:Hid (dS t fs=if t.kind≠3 then 4 else if cJ t≠0 then cJ t else if t.sorted.all (eR fs)=true then 0 else 5):=rfl
 cases ht:t with
 | node k a fl nt kids=>
 have HK:Hid (t.kind=k):=by show _=_;rw [ht];rfl
 rw [ht,aE] at hn
 obtain ⟨kp,kc,rfl,-,-,-⟩:=hn
 rw [← ht]
 obtain ⟨fp,fc,rfl,hfl⟩:=hf.len
 have k0:=hid (aA.alloc w (.cells #[.int .i64 k,.string a.n,.int .i64 a.op,.int .i64 a.v,.int .i64 a.sl,.string a.f,.bool a.on,.string fl,.bool nt,.slice kp kids.length kc] 74))
 have hb0:=hid (aH.new w #[.int .i64 k,.string a.n,.int .i64 a.op,.int .i64 a.v,.int .i64 a.sl,.string a.f,.bool a.on,.string fl,.bool nt,.slice kp kids.length kc] 74)
 clear ht hf
 by_cases hk:k=3
 ·have h1:(k==3)=true:=by simp [hk]
  have h2:(k != 3)=false:=by simp [hk]
  have hk3:Hid (k=3):=hk
  clear hk
  go_enter Tryz.func179,Tryz.ntmps179
  go_wp2_with fail
  generalize w.alloc (.cells #[.int .i64 k,.string a.n,.int .i64 a.op,.int .i64 a.v,.int .i64 a.sl,.string a.f,.bool a.on,.string fl,.bool nt,.slice kp kids.length kc] 74)=W0 at k0 hb0 ⊢
  refine (rD t _ W0 S (fun b hb=>Nat.lt_of_lt_of_le (hS b hb) k0.out.size) (HN.out.keep hS k0.out)).mono ?_
  rintro e w1 ⟨v,rfl,hbad,hgood,k1⟩
  have K1:Hid (aA w w1):=k0.out.trans k1
  have HF1:Hid (bT S w1 fs (.slice fp fs.length fc)):=HF.out.keep hS K1.out
  clear k1 hb0 k0 HF
  by_cases hz:cJ t=0
  ·have HRES:Hid (dS t fs=if t.sorted.all (eR fs)=true then 0 else 5):=by show _=_;rw [hkd.out,HK.out,hk3.out,hz];simp
   have HG:=hid (hgood hz)
   have hsl:=tR hz
   rw [hz]
   clear hz hbad hgood hkd
   obtain ⟨vp,vc,rfl⟩ : ∃ p cap,v=.slice p t.sorted.length cap:=by
    rcases HG.out with ⟨h,p,cap,rfl⟩ | ⟨g,cap,rfl,-⟩
    ·exact ⟨p,cap,by rw [h];rfl⟩
    ·exact ⟨_,cap,rfl⟩
   go_wp2_with fail
   go_loopg [22] t.sorted.length (fun gk i wr=> ∃ j:Nat,j+gk=t.sorted.length/\i=.int .i64 j/\(t.sorted.take j).all (eR fs)=true/\wr=w1)
   case atStart=>exact ⟨0,by simp,rfl,by simp,rfl⟩
   case round=>
    obtain ⟨j,hj,rfl,hall,rfl⟩:=hrel
    have HALL:=hid hall
    clear hall
    by_cases hlt:j<t.sorted.length
    ·have hcell : ∃ g,vp=some ⟨g,0,none⟩/\wr.cell? ⟨g,0+j,none⟩=some (.string ⟨t.sorted[j].toArray⟩):=by
      rcases HG.out with ⟨h,-⟩ | ⟨g,cap,h,-,hc⟩
      ·rw [h] at hlt;exact absurd hlt (Nat.not_lt_zero _)
      ·cases h
       exact ⟨g,rfl,hc j _ (List.getElem?_eq_getElem hlt)⟩
     obtain ⟨g,rfl,hcj⟩:=hcell
     rw [Nat.zero_add] at hcj
     have HCALL:=hid (mE S fs _ ⟨t.sorted[j].toArray⟩ wr HF1.out)
     go_wp2_with fail
     refine HCALL.out.mono ?_
     rintro e w2 ⟨rfl,hw2⟩
     rw [hw2]
     clear hw2
     have HT:=hid (aBu (fs:=fs) hlt)
     cases hb:eR fs t.sorted[j]
     ·have HX:Hid (t.sorted.all (eR fs)=false):=zB hlt hb
      go_wp2_with fail
      go_ret
      exact ⟨aC (by rw [HRES.out,HX.out];rfl),K1.out⟩
     ·have HX:Hid ((t.sorted.take (j+1)).all (eR fs)=true):=by show _=_;rw [HT.out,HALL.out,hb];rfl
      go_wp2_with fail
      go_roundg (t.sorted.length-(j+1))
      case rel=>exact ⟨j+1,by omega,by go_num,HX.out,rfl⟩
      case measure=>omega
    ·have HX:Hid (t.sorted.all (eR fs)=true):=by show _=_;rw [← List.take_length (l:=t.sorted),show t.sorted.length=j by omega];exact HALL.out
     go_wp2_with fail
     go_ret
     exact ⟨aC (by rw [HRES.out,HX.out];rfl),K1.out⟩
  ·have HRES:Hid (dS t fs=cJ t):=by show _=_;rw [hkd.out,HK.out,hk3.out];simp [hz]
   have hz1:(cJ t==0)=false:=by simp [hz]
   have hz2:(cJ t != 0)=true:=by simp [hz]
   obtain rfl:=hbad hz
   clear hz hgood hbad hkd
   go_wp2_with fail
   go_ret
   exact ⟨aC HRES.out.symm,K1.out⟩
 ·have h1:(k==3)=false:=by simp [hk]
  have h2:(k != 3)=true:=by simp [hk]
  have HRES:Hid (dS t fs=4):=by show _=_;rw [hkd.out,HK.out];simp [hk]
  clear hk hkd
  go_enter Tryz.func179,Tryz.ntmps179
  go_wp2_with fail
  go_ret
  exact ⟨aC HRES.out.symm,k0.out⟩
end Go.Proofs.YthaaaecmeafofaaGreatDoor
namespace Go.Proofs.YthaaaecmeafofaaGreatDoor
open Go.RowKit
theorem cZ.spelt {S:Nat->Prop} {w:World} {p:PK} {cs:List Value} (h:cZ S w p cs) : ∃ (k:Int) (a:At) (fl:ByteArray) (nt:Bool) (kids:List NT) (kp fp:Option Addr) (kc fc:Nat),p.nd=.node k a fl nt kids/\p.fl.length<=9223372036854775807/\
  cs = [.string p.n,.int .i64 p.v,.int .i64 p.sl,.slice fp p.fl.length fc,.int .i64 k,.string a.n,.int .i64 a.op,.int .i64 a.v,.int .i64 a.sl,.string a.f,.bool a.on,.string fl,.bool nt,.slice kp kids.length kc]/\bT S w p.fl (.slice fp p.fl.length fc)/\aE S w p.nd [.int .i64 k,.string a.n,.int .i64 a.op,.int .i64 a.v,.int .i64 a.sl,.string a.f,.bool a.on,.string fl,.bool nt,.slice kp kids.length kc]:=by
 obtain ⟨fv,nv,rfl,hf,hn⟩:=h
 obtain ⟨fp,fc,rfl,hl⟩:=hf.len
 cases hd:p.nd with
 | node k a fl nt kids=>
 have hn':=hn
 rw [hd] at hn'
 rw [aE] at hn'
 obtain ⟨kp,kc,rfl,-⟩:=hn'
 exact ⟨k,a,fl,nt,kids,kp,fp,kc,fc,rfl,hl,rfl,hf,by rw [← hd];exact hn⟩
theorem wG (S:Nat->Prop) (p q:PK) (cs1 cs2:List Value) (w:World) (hp:cZ S w p cs1) (hq:cZ S w q cs2) :
  Calls Tryz.prog 154 #[.agg cs1.toArray,.agg cs2.toArray] w fun e w'=>e=.returned (.bool (cH p q))/\aA w w':=by
 obtain ⟨k,a,fl,nt,kids,kp,fp,kc,fc,-,-,rfl,-,-⟩:=hp.spelt
 obtain ⟨k1,a1,fl1,nt1,kids1,kp1,fp1,kc1,fc1,-,-,rfl,-,-⟩:=hq.spelt
 clear hp hq
 rcases p with ⟨n,v,sl,fs,nd⟩
 rcases q with ⟨n1,v1,sl1,fs1,nd1⟩
 have KW:=hid ((aA.alloc w (.cells #[.string n,.int .i64 v,.int .i64 sl,.slice fp fs.length fc,.int .i64 k,.string a.n,.int .i64 a.op,.int .i64 a.v,.int .i64 a.sl,.string a.f,.bool a.on,.string fl,.bool nt,.slice kp kids.length kc] 76)).alloc' (.cells #[.string n1,.int .i64 v1,.int .i64 sl1,.slice fp1 fs1.length fc1,.int .i64 k1,.string a1.n,.int .i64 a1.op,.int .i64 a1.v,.int .i64 a1.sl,.string a1.f,.bool a1.on,.string fl1,.bool nt1,.slice kp1 kids1.length kc1] 76))
 by_cases he:n=n1
 ·subst he
  have h1:(n.toList==n.toList)=true:=by simp
  have HB:Hid (cH ⟨n,v,sl,fs,nd⟩ ⟨n,v1,sl1,fs1,nd1⟩=decide (v1<v)):=by show _=_;simp [cH]
  go_enter Tryz.func154,Tryz.ntmps154
  go_wp2_with fail
  go_ret
  exact ⟨aG (by rw [HB.out]),KW.out⟩
 ·have hne : ¬ n.data.toList=n1.data.toList:=fun h=>he (gJ h)
  have h1:(n.toList==n1.toList)=false:=by rw [Lib.toList_data,Lib.toList_data];simpa using hne
  have h2:(n.toList != n1.toList)=true:=by rw [Lib.toList_data,Lib.toList_data];simpa using hne
  have HB:Hid (cH ⟨n,v,sl,fs,nd⟩ ⟨n1,v1,sl1,fs1,nd1⟩ = !leS n n1):=by show _=_;simp [cH,he]
  go_enter Tryz.func154,Tryz.ntmps154
  go_wp2_with fail
  go_ret
  exact ⟨aG (by rw [HB.out];unfold leS;rw [h1,Bool.or_false]),KW.out⟩
theorem aAs (p:PK):(aI p.n.data.toList=false/\Hid (dC p=1))∨(aI p.n.data.toList=true/\p.v<1/\Hid (dC p=3))∨(aI p.n.data.toList=true/\¬ p.v<1/\99<p.v/\Hid (dC p=3))
  ∨(aI p.n.data.toList=true/\¬ p.v<1/\¬ 99<p.v/\p.sl<1/\Hid (dC p=3))∨(aI p.n.data.toList=true/\¬ p.v<1/\¬ 99<p.v/\¬ p.sl<1/\9<p.sl/\Hid (dC p=3))
  ∨(aI p.n.data.toList=true/\¬ p.v<1/\¬ 99<p.v/\¬ p.sl<1/\¬ 9<p.sl/\Hid (dC p=if bZ p.fl≠0 then bZ p.fl else dS p.nd p.fl)):=by
 cases h0:aI p.n.data.toList
 ·exact Or.inl ⟨rfl,by show _=_;unfold dC;rw [if_pos h0]⟩
 ·refine Or.inr ?_
  have e:dC p=if p.v<1∨99<p.v∨p.sl<1∨9<p.sl then 3 else if bZ p.fl≠0 then bZ p.fl else dS p.nd p.fl:=by unfold dC;rw [if_neg (by simp [h0])]
  by_cases h1:p.v<1
  ·exact Or.inl ⟨rfl,h1,by show _=_;rw [e,if_pos (by omega)]⟩
  ·refine Or.inr ?_
   by_cases h2:99<p.v
   ·exact Or.inl ⟨rfl,h1,h2,by show _=_;rw [e,if_pos (by omega)]⟩
   ·refine Or.inr ?_
    by_cases h3:p.sl<1
    ·exact Or.inl ⟨rfl,h1,h2,h3,by show _=_;rw [e,if_pos (by omega)]⟩
    ·refine Or.inr ?_
     by_cases h4:9<p.sl
     ·exact Or.inl ⟨rfl,h1,h2,h3,h4,by show _=_;rw [e,if_pos (by omega)]⟩
     ·exact Or.inr ⟨rfl,h1,h2,h3,h4,by show _=_;rw [e,if_neg (by omega)]⟩
theorem vF (S:Nat->Prop) (p:PK) (cs:List Value) (w:World) (hS : ∀ b,S b->b<w.heap.size) (hp:cZ S w p cs) :
  Calls Tryz.prog 153 #[.agg cs.toArray] w fun e w'=>e=.returned (.int .i64 (dC p))/\aA w w':=by
 obtain ⟨k,a,fl,nt,kids,kp,fp,kc,fc,hnd,hlen,rfl,hf,hn⟩:=hp.spelt
 have HF:=hid hf
 have HN:=hid hn
 have hways:=aAs p
 clear hp hf hn hnd
 rcases p with ⟨n,v,sl,fs,nd⟩
 have K0:=hid (aA.alloc w (.cells #[.string n,.int .i64 v,.int .i64 sl,.slice fp fs.length fc,.int .i64 k,.string a.n,.int .i64 a.op,.int .i64 a.v,.int .i64 a.sl,.string a.f,.bool a.on,.string fl,.bool nt,.slice kp kids.length kc] 76))
 have B0:=hid (aH.new w #[.string n,.int .i64 v,.int .i64 sl,.slice fp fs.length fc,.int .i64 k,.string a.n,.int .i64 a.op,.int .i64 a.v,.int .i64 a.sl,.string a.f,.bool a.on,.string fl,.bool nt,.slice kp kids.length kc] 76)
 simp only at hways hlen
 go_enter Tryz.func153,Tryz.ntmps153
 go_wp2_with fail
 generalize w.alloc (.cells #[.string n,.int .i64 v,.int .i64 sl,.slice fp fs.length fc,.int .i64 k,.string a.n,.int .i64 a.op,.int .i64 a.v,.int .i64 a.sl,.string a.f,.bool a.on,.string fl,.bool nt,.slice kp kids.length kc] 76)=W0 at K0 B0 ⊢
 refine (cD n W0).mono ?_
 rintro e w1 ⟨rfl,hw⟩
 rw [hw]
 clear hw
 have hc0:=B0.out.2
 have hl0:=B0.out.1
 rcases hways with ⟨h0,HR⟩ | ⟨h0,h1,HR⟩ | ⟨h0,h1,h2,HR⟩ | ⟨h0,h1,h2,h3,HR⟩ | ⟨h0,h1,h2,h3,h4,HR⟩ | ⟨h0,h1,h2,h3,h4,HR⟩
 ·rw [h0];clear h0
  go_wp2_with fail
  go_ret
  exact ⟨aC HR.out.symm,K0.out⟩
 ·rw [h0];clear h0
  go_wp2_with fail
  go_ret
  exact ⟨aC HR.out.symm,K0.out⟩
 ·rw [h0];clear h0
  go_wp2_with fail
  go_ret
  exact ⟨aC HR.out.symm,K0.out⟩
 ·rw [h0];clear h0
  go_wp2_with fail
  go_ret
  exact ⟨aC HR.out.symm,K0.out⟩
 ·rw [h0];clear h0
  go_wp2_with fail
  go_ret
  exact ⟨aC HR.out.symm,K0.out⟩
 ·rw [h0];clear h0
  go_wp2_with fail
  refine (zS S fs _ W0 (fun b hb=>Nat.lt_of_lt_of_le (hS b hb) K0.out.size) (HF.out.keep hS K0.out)).mono ?_
  rintro e w2 ⟨rfl,k2⟩
  have K2:=hid (K0.out.trans k2)
  have B2:=hid (B0.out.keep k2 B0.out.1)
  clear k2 hc0 hl0
  have hc2:=B2.out.2
  have hl2:=B2.out.1
  by_cases hz:bZ fs=0
  ·have HR2:Hid (dC ⟨n,v,sl,fs,nd⟩=dS nd fs):=by show _=_;rw [HR.out];simp [hz]
   rw [hz]
   clear hz HR
   go_wp2_with fail
   refine (tT S nd _ fs _ w2 (fun b hb=>Nat.lt_of_lt_of_le (hS b hb) K2.out.size) (HN.out.keep hS K2.out) (HF.out.keep hS K2.out)).mono ?_
   rintro e w3 ⟨rfl,k3⟩
   have K3:=hid (K2.out.trans k3)
   clear k3
   go_wp2_with fail
   go_ret
   exact ⟨aC HR2.out.symm,K3.out⟩
  ·have HR2:Hid (dC ⟨n,v,sl,fs,nd⟩=bZ fs):=by show _=_;rw [HR.out];simp [hz]
   have hz1:(bZ fs==0)=false:=by simp [hz]
   have hz2:(bZ fs != 0)=true:=by simp [hz]
   clear hz HR
   go_wp2_with fail
   go_ret
   exact ⟨aC HR2.out.symm,K2.out⟩
end Go.Proofs.YthaaaecmeafofaaGreatDoor
namespace Go.Proofs.YthaaaecmeafofaaGreatDoor
open Go.RowKit Go.Sort
theorem dI {w:World} {b o:Nat} {v0 v1 v2 v3 v4 v5 v6 v7 v8 v9 v10 v11 v12 v13:Value} (h : ∀ (m:Nat) (v:Value),[v0,v1,v2,v3,v4,v5,v6,v7,v8,v9,v10,v11,v12,v13][m]? = some v->w.cell? ⟨b,o+m,none⟩=some v) :
  w.cell? ⟨b,o,none⟩=some v0/\w.cell? ⟨b,o+1,none⟩=some v1/\w.cell? ⟨b,o+2,none⟩=some v2/\w.cell? ⟨b,o+3,none⟩=some v3/\w.cell? ⟨b,o+4,none⟩=some v4/\w.cell? ⟨b,o+5,none⟩=some v5/\w.cell? ⟨b,o+6,none⟩=some v6/\w.cell? ⟨b,o+7,none⟩=some v7/\w.cell? ⟨b,o+8,none⟩=some v8/\w.cell? ⟨b,o+9,none⟩=some v9
   /\w.cell? ⟨b,o+10,none⟩=some v10/\w.cell? ⟨b,o+11,none⟩=some v11/\w.cell? ⟨b,o+12,none⟩=some v12/\w.cell? ⟨b,o+13,none⟩=some v13:=
 ⟨h 0 _ rfl,h 1 _ rfl,h 2 _ rfl,h 3 _ rfl,h 4 _ rfl,h 5 _ rfl,h 6 _ rfl,h 7 _ rfl,h 8 _ rfl,h 9 _ rfl,h 10 _ rfl,h 11 _ rfl,h 12 _ rfl,h 13 _ rfl⟩
structure iZ (S:Nat->Prop) (ct cc:Nat) (ps:List PK) (v:Value) (k:Nat) (w:World):Prop where
 tree:aB ct 24 v w
 sum:aB cc 3 (.int .i64 (ps.length+bV ps k:Nat)) w
 row:bA S w ps v
 old : ∀ b,S b->b<ct/\b<cc
 part:ct≠cc
 small:bV ps k<=2*k
theorem iZ.keep {S:Nat->Prop} {ct cc:Nat} {ps:List PK} {v:Value} {k:Nat} {w w':World} (h:iZ S ct cc ps v k w) (k':aA w w'):iZ S ct cc ps v k w':=
 ⟨h.tree.keep k' h.tree.facts.2.2,h.sum.keep k' h.sum.facts.2.2,h.row.keep (fun b hb=>Nat.lt_trans (h.old b hb).1 h.tree.facts.2.2) k',h.old,h.part,h.small⟩
theorem iZ.next {S:Nat->Prop} {ct cc:Nat} {ps:List PK} {v:Value} {k:Nat} {w w':World} (h:iZ S ct cc ps v k w) (ha:aR (One cc) w w') (hs:aB cc 3 (.int .i64 (ps.length+bV ps (k+1):Nat)) w') (hm:bV ps (k+1)<=2*(k+1)):iZ S ct cc ps v (k+1) w':=by
 refine ⟨?_,hs,h.row.mono (fun p hp=>ha.cell p (Nat.lt_trans (h.old _ hp).1 h.tree.facts.2.2) fun e=> ?_) (fun _ h=>h),h.old,h.part,hm⟩
 ·have:=h.tree
  unfold aB at this ⊢
  rw [ha.block ct h.tree.facts.2.2 fun e=>h.part e];exact this
 ·have e':p.block=cc:=e
  have:=(h.old _ hp).2;omega
theorem aH.apart {b c:Nat} {cs:Array Value} {w w':World} (h:aH b cs w) (ha:aR (One c) w w') (hb:b≠c):aH b cs w':=
 ⟨Nat.lt_of_lt_of_le h.1 ha.size,fun o=>(ha.cell ⟨b,o,none⟩ h.1 (fun e=>hb e)).trans (h.2 o)⟩
theorem cM {P:Program} {F:FuncId} {args:Array Value} {W:World} {Q:Ending->World->Prop} (R:World->Prop) (hR:R W) (h : ∀ W',R W'->Calls P F args W' Q):Calls P F args W Q:=h W hR
theorem aZ {P:Program} {c:Code} {Q:Exit->Act->World->Prop} {a:Act} {W:World} (R:World->Prop) (hR:R W) (h : ∀ W',R W'->c.wp P Q a W'):c.wp P Q a W:=h W hR
theorem wN (S:Nat->Prop) (ct cc:Nat) (ps:List PK) (v:Value) (k:Nat) (w:World) (hk:k<ps.length) (h8:ps.length<=8) (h:iZ S ct cc ps v k w) :
  Calls Tryz.prog 152 #[.int .i64 k,.pointer (some ⟨ct,0,none⟩),.pointer (some ⟨cc,0,none⟩)] w fun e w'=>e=.returned (.int .i64 (pkE ps k))/\(pkE ps k=0->iZ S ct cc ps v (k+1) w')/\aR (One cc) w w':=by
 have HH:=hid h
 obtain ⟨b,off,cap,rfl,hb,hlen,hrow⟩:=h.row.get hk
 obtain ⟨cs,hcs,hp⟩:=hrow k hk
 obtain ⟨ht0,-,htl⟩:=h.tree.facts
 obtain ⟨hs0,hsz,hsl⟩:=h.sum.facts
 have HP:=hid hp
 generalize hpk:ps[k]=p at hp HP
 have HPE:Hid (pkE ps k=if dC p≠0 then dC p else if 0<k/\cH p (ps.getD (k-1) PK.zero)=false then 6 else if 14<ps.length+bV ps (k+1) then 2 else 0):=by
  show _=_
  unfold pkE
  rw [List.getD_eq_getElem?_getD,List.getElem?_eq_getElem hk,Option.getD_some,hpk]
 have HSU:Hid (bV ps (k+1)=bV ps k+p.fl.length):=by show _=_;rw [sH hk,hpk]
 obtain ⟨kk,a,fl,nt,kids,kp,fp,kc,fc,hnd,hfl,rfl,hf,hn⟩:=hp.spelt
 obtain ⟨c0,c1,c2,c3,c4,c5,c6,c7,c8,c9,c10,c11,c12,c13⟩:=dI hcs
 have hbo:=h.old b hb
 clear hcs hp hf hn hnd hpk h
 rcases p with ⟨n,v,sl,fs,nd⟩
 simp only at hfl c0 c1 c2 c3
 have hS : ∀ b,S b->b<w.heap.size:=fun b hb=>Nat.lt_trans (HH.out.old b hb).1 htl
 have HSM:Hid (bV ps k<=2*k):=HH.out.small
 go_enter Tryz.func152,Tryz.ntmps152
 go_wp2_with fail
 refine cM (fun W'=>aA w W'/\aH w.heap.size #[.string n,.int .i64 v,.int .i64 sl,.slice fp fs.length fc,.int .i64 kk,.string a.n,.int .i64 a.op,.int .i64 a.v,.int .i64 a.sl,.string a.f,.bool a.on,.string fl,.bool nt,.slice kp kids.length kc] W') ⟨aA.alloc _ _,aH.new _ _ _⟩ ?_
 rintro W0 ⟨k0,b0⟩
 refine (vF S _ _ W0 (fun b hb=>Nat.lt_of_lt_of_le (hS b hb) k0.size) (HP.out.keep hS k0)).mono ?_
 rintro e w1 ⟨rfl,k1⟩
 have K1:=hid (k0.trans k1)
 have B1:=hid (b0.keep k1 b0.1)
 have H1:=hid (HH.out.keep K1.out)
 clear k1 k0 b0 c0 c1 c2 c3 c4 c5 c6 c7 c8 c9 c10 c11 c12 c13 ht0 hs0 hsz
 generalize hcp:dC ⟨n,v,sl,fs,nd⟩=cp at HPE ⊢
 by_cases hz:cp=0
 ·subst hz
  have h2:=(nF (jG hcp).2.2.1).1
  simp only at h2
  have hsm:=HSM.out
  clear hcp
  obtain ⟨hs1,hsz1,hsl1⟩:=H1.out.sum.facts
  have hc1:=B1.out.2
  have hl1:=B1.out.1
  go_wp2_with fail
  clear hs1 hsz1 hc1
  refine aZ (fun W'=>aB cc 3 (.int .i64 (((ps.length+bV ps k:Nat):Int)+(fs.length:Int))) W'/\aR (One cc) w1 W') ⟨H1.out.sum.set _,dT _ _ _⟩ ?_
  rintro W2 ⟨v2,a2⟩
  have e2:((ps.length+bV ps k:Nat):Int)+(fs.length:Int)=((ps.length+bV ps (k+1):Nat):Int):=by have:=HSU.out;omega
  rw [e2] at v2
  have hsm2:bV ps (k+1)<=2*(k+1):=by have:=HSU.out;omega
  have V2:=hid v2
  have H2:=hid (H1.out.next a2 v2 hsm2)
  have A2:=hid ((bQ K1.out:aR (One cc) w w1).trans a2)
  have B2:=hid (B1.out.apart a2 (by omega))
  have P2:Hid (cZ S W2 ⟨n,v,sl,fs,nd⟩ [.string n,.int .i64 v,.int .i64 sl,.slice fp fs.length fc,.int .i64 kk,.string a.n,.int .i64 a.op,.int .i64 a.v,.int .i64 a.sl,.string a.f,.bool a.on,.string fl,.bool nt,.slice kp kids.length kc]):=HP.out.mono (fun p hp=>A2.out.cell p (hS _ hp) fun e=>by have e':p.block=cc:=e;have:=(HH.out.old _ hp).2;omega) (fun _ h=>h)
  clear v2 a2 e2 B1 H1 K1 HSM hsm
  by_cases h0:0<k
  ·obtain ⟨m,rfl⟩ : ∃ m,k=m+1:=⟨k-1,by omega⟩
   have hm:m<ps.length:=by omega
   obtain ⟨b2,off2,cap2,hv2,hb2,-,hrow2⟩:=H2.out.row.get hm
   cases hv2
   obtain ⟨cs1,hcs1,hp1⟩:=hrow2 m hm
   have HQ:Hid (ps.getD (m+1-1) PK.zero=ps[m]):=by show _=_;rw [List.getD_eq_getElem?_getD,Nat.add_sub_cancel,List.getElem?_eq_getElem hm,Option.getD_some]
   rw [HQ.out] at HPE
   generalize ps[m]=q at hp1 HPE
   obtain ⟨k1,a1,fl1,nt1,kids1,kp1,fp1,kc1,fc1,-,hfl1,rfl,-,-⟩:=hp1.spelt
   have HP1:=hid hp1
   rcases q with ⟨n1,v1,sl1,fs1,nd1⟩
   have hblt:b<W2.heap.size:=Nat.lt_trans hbo.1 H2.out.tree.facts.2.2
   have cb : ∀ (d:Nat) (os:Array Obj) (o:Nat) (x:Value),W2.cell? ⟨b,o,none⟩=some x->(grow (redrawn W2 d) os).cell? ⟨b,o,none⟩=some x:=fun d os o x hx=>((below_regrown W2 d os).cell (p:=⟨b,o,none⟩) hblt).trans hx
   obtain ⟨c0,c1,c2,c3,c4,c5,c6,c7,c8,c9,c10,c11,c12,c13⟩:=dI hcs1
   have d0:=fun d os=>cb d os _ _ c0
   have d1:=fun d os=>cb d os _ _ c1
   have d2:=fun d os=>cb d os _ _ c2
   have d3:=fun d os=>cb d os _ _ c3
   have d4:=fun d os=>cb d os _ _ c4
   have d5:=fun d os=>cb d os _ _ c5
   have d6:=fun d os=>cb d os _ _ c6
   have d7:=fun d os=>cb d os _ _ c7
   have d8:=fun d os=>cb d os _ _ c8
   have d9:=fun d os=>cb d os _ _ c9
   have d10:=fun d os=>cb d os _ _ c10
   have d11:=fun d os=>cb d os _ _ c11
   have d12:=fun d os=>cb d os _ _ c12
   have d13:=fun d os=>cb d os _ _ c13
   have dt : ∀ d os,(grow (redrawn W2 d) os).cell? ⟨ct,0,none⟩=some (.slice (some ⟨b,off,none⟩) ps.length cap):=fun d os=>((below_regrown W2 d os).cell (p:=⟨ct,0,none⟩) H2.out.tree.facts.2.2).trans H2.out.tree.facts.1
   have db : ∀ o d os,(grow (redrawn W2 d) os).cell? ⟨w.heap.size,o,none⟩=(#[.string n,.int .i64 v,.int .i64 sl,.slice fp fs.length fc,.int .i64 kk,.string a.n,.int .i64 a.op,.int .i64 a.v,.int .i64 a.sl,.string a.f,.bool a.on,.string fl,.bool nt,.slice kp kids.length kc]:Array Value)[o]? :=fun o d os=>(B2.out.keep (below_regrown W2 d os) B2.out.1).2 o
   have hS2 : ∀ b,S b->b<W2.heap.size:=fun b hb=>Nat.lt_of_lt_of_le (hS b hb) A2.out.size
   generalize hbe:cH ⟨n,v,sl,fs,nd⟩ ⟨n1,v1,sl1,fs1,nd1⟩=β at HPE
   have cBeh:=hid (show ∀ d os,Calls Tryz.prog 154 #[.agg #[.string n,.int .i64 v,.int .i64 sl,.slice fp fs.length fc,.int .i64 kk,.string a.n,.int .i64 a.op,.int .i64 a.v,.int .i64 a.sl,.string a.f,.bool a.on,.string fl,.bool nt,.slice kp kids.length kc],.agg #[.string n1,.int .i64 v1,.int .i64 sl1,.slice fp1 fs1.length fc1,.int .i64 k1,.string a1.n,.int .i64 a1.op,.int .i64 a1.v,.int .i64 a1.sl,.string a1.f,.bool a1.on,.string fl1,.bool nt1,.slice kp1 kids1.length kc1]] (grow (redrawn W2 d) os) fun e w''=>e=.returned (.bool β)/\∃ p:Regrown,w''=grow (redrawn W2 p.d) p.os from fun d os=>by rw [← hbe];exact Calls.regrown_of (wG S _ _ _ _ _ (P2.out.keep hS2 (below_regrown W2 d os)) (HP1.out.keep hS2 (below_regrown W2 d os))))
   have h0':(0:Int)<((m+1:Nat):Int):=by omega
   have hd:decide ((0:Int)<((m+1:Nat):Int))=true:=decide_eq_true h0'
   have e1:((m+1:Nat):Int)-1=(m:Int):=by omega
   clear hcs1 hp1 hrow2 c0 c1 c2 c3 c4 c5 c6 c7 c8 c9 c10 c11 c12 c13 cb hbe
   refine wp_region_quiet_below (by kernel_rfl) (by kernel_rfl) ?_
   repeat (first | go_big_quiet_step (exact cBeh.out _ _) | quiet_step (exact cBeh.out _ _))
   refine wpQuiet_nil ?_
   intro _ hw'
   obtain ⟨⟨dq,osq⟩,hw''⟩:=hw'
   subst hw''
   have k4:=below_regrown W2 dq osq
   generalize grow (redrawn W2 dq) osq=W4 at k4 ⊢
   have K4:=hid k4
   have H4:=hid (H2.out.keep k4)
   have A4:=hid (A2.out.trans (bQ k4))
   obtain ⟨hs4,-,hsl4⟩:=H4.out.sum.facts
   clear d0 d1 d2 d3 d4 d5 d6 d7 d8 d9 d10 d11 d12 d13 dt db cBeh k4
   cases β
   ·have HY:Hid (pkE ps (m+1)=6):=by show _=_;rw [HPE.out];simp
    clear HPE
    go_wp2_with fail
    go_ret
    exact ⟨aC HY.out.symm,fun h=>absurd (HY.out.symm.trans h) (by decide),A4.out⟩
   have HX:Hid (pkE ps (m+1)=if 14<ps.length+bV ps (m+1+1) then 2 else 0):=by show _=_;rw [HPE.out];simp
   clear HPE
   by_cases h14:14<ps.length+bV ps (m+1+1)
   ·have h14':(14:Int)<((ps.length+bV ps (m+1+1):Nat):Int):=by omega
    have HY:Hid (pkE ps (m+1)=2):=by show _=_;rw [HX.out,if_pos h14]
    clear h14 HX
    go_wp2_with fail
    go_ret
    exact ⟨aC HY.out.symm,fun h=>absurd (HY.out.symm.trans h) (by decide),A4.out⟩
   ·have h14' : ¬ (14:Int)<((ps.length+bV ps (m+1+1):Nat):Int):=by omega
    have HY:Hid (pkE ps (m+1)=0):=by show _=_;rw [HX.out,if_neg h14]
    clear h14 HX
    go_wp2_with fail
    go_ret
    exact ⟨aC HY.out.symm,fun _=>H4.out,A4.out⟩
  ·have hd:decide ((0:Int)<(k:Int))=false:=decide_eq_false (by omega)
   have HX:Hid (pkE ps k=if 14<ps.length+bV ps (k+1) then 2 else 0):=by show _=_;rw [HPE.out];simp [h0]
   clear HPE
   go_quiet (fail)
   have k4:aA W2 (W2.drewN nq):=aA.drewN (aA.refl _) _
   generalize W2.drewN nq=W4 at k4 ⊢
   have K4:=hid k4
   have H4:=hid (H2.out.keep k4)
   have A4:=hid (A2.out.trans (bQ k4))
   obtain ⟨hs4,-,hsl4⟩:=H4.out.sum.facts
   have h14 : ¬ 14<ps.length+bV ps (k+1):=by omega
   have h14' : ¬ (14:Int)<((ps.length+bV ps (k+1):Nat):Int):=by omega
   have HY:Hid (pkE ps (k)=0):=by show _=_;rw [HX.out,if_neg h14]
   clear h14 HX
   go_wp2_with fail
   go_ret
   exact ⟨aC HY.out.symm,fun _=>H4.out,A4.out⟩
 ·have HX:Hid (pkE ps k=cp):=by show _=_;rw [HPE.out,if_pos hz]
  have hz1:(cp==0)=false:=by simp [hz]
  have hz2:(cp != 0)=true:=by simp [hz]
  have HZ:=hid hz
  clear hz HPE hcp
  go_wp2_with fail
  go_ret
  exact ⟨aC HX.out.symm,fun h=>absurd (HX.out.symm.trans h) HZ.out,bQ K1.out⟩
theorem mG (args:Array Value) (w:World):(callFunc 152 args).run Tryz.prog w=.ok (.enter 152 args) w:=enters_of Tryz.func152 (by kernel_rfl) rfl args w
theorem lF (S:Nat->Prop) (ps:List PK) (v:Value) (w:World) (hS : ∀ b,S b->b<w.heap.size) (hp:bA S w ps v) :
  Calls Tryz.prog 104 #[.agg #[v]] w fun e w'=>e=.returned (.int .i64 (dO ps))/\aA w w':=by
 have HP:=hid hp
 obtain ⟨p,cap,rfl,hlen⟩:=hp.len
 have hmf : ∀ (fn:Fn) (first cap:Array Value) (w:World),(Instr.makeFunc fn first cap).run Tryz.prog w=.ok (.func fn first cap) w:=fun _ _ _ _=>rfl
 have hent:=mG
 clear hp
 by_cases h8:8<ps.length
 ·have h8':(8:Int)<(ps.length:Int):=by omega
  have HX:Hid (dO ps=2):=by show _=_;unfold dO;rw [if_pos h8]
  have k0:=hid (aA.alloc w (.cells #[.slice p ps.length cap] 24))
  go_enter Tryz.func104,Tryz.ntmps104
  go_wp2_with fail
  go_ret
  exact ⟨aC HX.out.symm,k0.out⟩
 ·have h8' : ¬ (8:Int)<(ps.length:Int):=by omega
  have HX:Hid (dO ps=bI (pkE ps) 0 ps.length):=by show _=_;unfold dO;rw [if_neg h8]
  have hcall : ∀ (k:Nat) (W':World),k<ps.length->iZ S w.heap.size (w.heap.size+1) ps (.slice p ps.length cap) k W'->Calls Tryz.prog 152 (#[.int .i64 k]++#[.pointer (some ⟨w.heap.size,0,none⟩),.pointer (some ⟨w.heap.size+1,0,none⟩)]) W' fun e w'=>e=.returned (.int .i64 (pkE ps k))/\(pkE ps k=0->iZ S w.heap.size (w.heap.size+1) ps (.slice p ps.length cap) (k+1) w')/\aR (One (w.heap.size+1)) W' w':=by
   intro k W' hk h1
   exact wN S _ _ ps _ k W' hk (by omega) h1
  have hone:=hid (fun W h=>iV ps.length (pkE ps) (iZ S w.heap.size (w.heap.size+1) ps (.slice p ps.length cap)) (w.heap.size+1) hlen mG hcall W h)
  clear hcall h8
  go_enter Tryz.func104,Tryz.ntmps104
  go_wp2_with fail
  refine cM (fun W'=>aA w W'/\iZ S w.heap.size (w.heap.size+1) ps (.slice p ps.length cap) 0 W') ⟨(aA.alloc _ _).alloc' _,?_⟩ ?_
  ·have hz:=aD w (.cells #[.slice p ps.length cap] 24)
   refine ⟨(aB.new w 24 (.slice p ps.length cap)).keep (aA.alloc _ _) (by rw [hz];omega),?_,HP.out.keep hS ((aA.alloc _ _).alloc' _),fun b hb=>⟨hS b hb,Nat.lt_succ_of_lt (hS b hb)⟩,by omega,by simp [bV]⟩
   have:=aB.new (w.alloc (.cells #[.slice p ps.length cap] 24)) 3 (.int .i64 ps.length)
   rw [hz] at this
   have e0:(ps.length+bV ps 0:Nat)=ps.length:=by simp [bV]
   rw [e0];exact this
  rintro W1 ⟨k1,h1⟩
  refine (hone.out W1 h1).mono ?_
  rintro e w2 ⟨rfl,ha2⟩
  have K2:Hid (aA w w2):=Below.trans k1 (ha2.below k1.size fun b hb e=>by have:b=w.heap.size+1:=e;omega)
  clear ha2 hone k1 h1
  go_wp2_with fail
  go_ret
  exact ⟨aC HX.out.symm,K2.out⟩
theorem hN:(Tryz.prog.info? 3).map (fun i=>(i.zero,i.size,i.bytes))=some (some (.int .i64 0),1,8):=by kernel_rfl
def cT (B:Nat) (v:Value) (zs:List Int) (w:World):Prop:=w.ownsRow B 3 1 v zs.length (zs.map (Value.int .i64))
theorem gF {s:Int} (u:Value) (h:u ∈ [Value.int .i64 s]):u.oneCell'=true:=by rw [List.mem_singleton.1 h];rfl
theorem fC {B:Nat} {v v':Value} {zs:List Int} {x:Int} {w w':World} {o:Obj} (hB:B<=w.heap.size) (hw:cT B v zs w) (h1:w'.ownsRow B 3 1 v' (zs.length+1) (zs.map (Value.int .i64) ++ [.int .i64 x])) (h2:(w.alloc o).grownBy w' v.ownBlock) :
  cT B v' (zs ++ [x]) w'/\Below B w w':=by
 refine ⟨?_,?_⟩
 ·unfold cT
  rw [List.length_append,List.map_append]
  exact h1
 ·exact Below.grown ((Below.refl B w).alloc hB o) h2 (by have:=aD w o;omega) (fun g hg=>(cW hw hg).1)
end Go.Proofs.YthaaaecmeafofaaGreatDoor
