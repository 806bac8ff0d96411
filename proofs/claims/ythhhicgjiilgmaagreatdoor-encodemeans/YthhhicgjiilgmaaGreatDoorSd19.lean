/- Steps of the proof: EncNeed. -/
import Derived.Test.YthhhicgjiilgmaaGreatDoorSd14
import Derived.Test.YthhhicgjiilgmaaGreatDoorSd18
set_option maxHeartbeats 16000000
set_option maxRecDepth 100000
namespace Go.Proofs.YthhhicgjiilgmaaGreatDoor
def fgA (ps:List PK) (c:Cn.CT) (a:At) (z:Int):Int:=Cn.sg (c.fgL z.toNat (aM (ps.getD z.toNat PK.zero).fl a.f)) a.on
def cX (ps:List PK) (c:Cn.CT) (but:Int) (s:Cn.DS) (a:At):Cn.DS × List Int:=
 (bS ps a ps.length).foldl (Cn.gE but a.f.toList.isEmpty (fun z=>c.tkL z.toNat) (fgA ps c a)) (s,[])
def nD (ps:List PK) (c:Cn.CT) (but:Int) (m:List Bool) (a:At):Bool:=Cn.aBk but a.f.toList.isEmpty (fun z=>c.tkL z.toNat) (fgA ps c a) m (bS ps a ps.length)
def mK (q:Cn.DS × List Int):Cn.DS × Int:=(q.1.someS q.2,q.1.someL q.2)
def pV (q:Cn.DS × List Int):Cn.DS × Int:=(q.1.allS q.2,q.1.allL q.2)
def aMt (r:Cn.DS × Int):Cn.DS × Int:=(r.1,-r.2)
def ifS (f:Int) (r:Cn.DS × Int):Cn.DS × Int:=mK (r.1,[f,r.2])
mutual
def ndS (ps:List PK) (c:Cn.CT) (i:Nat):NT->Cn.DS->Cn.DS × Int
 | .node kd a fl nt kids,s=>
  if kd=1 then mK (cX ps c (-1) (kdS ps c i kids s).1 a)
  else if kd=2 then aMt (mK (cX ps c i (kdS ps c i kids s).1 a))
  else if kd=4 then mK (kdS ps c i kids s)
  else if kd=5 then ifS (Cn.sg (c.fgL i (aM (ps.getD i PK.zero).fl fl)) nt) (pV (kdS ps c i kids s))
  else pV (kdS ps c i kids s)
def kdS (ps:List PK) (c:Cn.CT) (i:Nat):List NT->Cn.DS->Cn.DS × List Int
 | [],s=>(s,[])
 | t :: ts,s=>((kdS ps c i ts (ndS ps c i t s).1).1,(ndS ps c i t s).2 :: (kdS ps c i ts (ndS ps c i t s).1).2)
end
theorem xW (ps:List PK) (c:Cn.CT) (i:Nat) (t:NT) : ∀ (ts:List NT) (s:Cn.DS),kdS ps c i (ts ++ [t]) s=((ndS ps c i t (kdS ps c i ts s).1).1,(kdS ps c i ts s).2 ++ [(ndS ps c i t (kdS ps c i ts s).1).2])
 | [],s=>by simp [kdS]
 | u :: ts,s=>by rw [List.cons_append,kdS,xW ps c i t ts,kdS,List.cons_append]
theorem qN (ps:List PK) (c:Cn.CT) (i:Nat) : ∀ (ts:List NT) (s:Cn.DS),(kdS ps c i ts s).2.length=ts.length
 | [],s=>by simp [kdS]
 | u :: ts,s=>by rw [kdS,List.length_cons,qN ps c i ts,List.length_cons]
def vC (ps:List PK) (c:Cn.CT) (i:Nat) (m:List Bool) (fl:ByteArray):Bool:=m.getD (c.base i+aM (ps.getD i PK.zero).fl fl) false != c.on i (aM (ps.getD i PK.zero).fl fl)
mutual
def evN (ps:List PK) (c:Cn.CT) (i:Nat) (m:List Bool):NT->Bool
 | .node kd a fl nt kids=>
  if kd=1 then nD ps c (-1) m a
  else if kd=2 then !nD ps c i m a
  else if kd=4 then pY ps c i m kids
  else if kd=5 then (vC ps c i m fl==nt)||nL ps c i m kids
  else nL ps c i m kids
def pY (ps:List PK) (c:Cn.CT) (i:Nat) (m:List Bool):List NT->Bool
 | []=>false
 | t :: ts=>evN ps c i m t||pY ps c i m ts
def nL (ps:List PK) (c:Cn.CT) (i:Nat) (m:List Bool):List NT->Bool
 | []=>true
 | t :: ts=>evN ps c i m t&&nL ps c i m ts
end
def tgS (ps:List PK) (c:Cn.CT) (s:Cn.DS) (a:At):Cn.DS:=(cX ps c (-1) s a).1.clause (cX ps c (-1) s a).2
def maS (c:Cn.CT) (s:Cn.DS) (z:Int):Cn.DS:=s.clause [-c.tkL z.toNat]
def oB (ps:List PK) (j i:Nat):Bool:=((ps.getD j PK.zero).n.toList==(ps.getD i PK.zero).n.toList)&&((ps.getD j PK.zero).sl==(ps.getD i PK.zero).sl)
def slS (ps:List PK) (c:Cn.CT) (i:Nat) (s:Cn.DS) (j:Nat):Cn.DS:=if oB ps j i=true then s.clause [-c.tkL j,-c.tkL i] else s
def ndC (ps:List PK) (c:Cn.CT) (i:Nat) (s:Cn.DS):Cn.DS:=(ndS ps c i (ps.getD i PK.zero).nd s).1.clause [-c.tkL i,(ndS ps c i (ps.getD i PK.zero).nd s).2]
def pkS (ps:List PK) (c:Cn.CT) (s:Cn.DS) (i:Nat):Cn.DS:=(List.range i).foldl (slS ps c i) (ndC ps c i s)
def qK (c:Cn.CT):Cn.DS:=⟨c.many,[],fun _ _=>0⟩
def bF (ps:List PK) (wi:WI):Cn.DS:=(List.range ps.length).foldl (pkS ps (aB ps wi)) (wi.ma.foldl (maS (aB ps wi)) (wi.ts.foldl (tgS ps (aB ps wi)) (qK (aB ps wi))))
theorem jO {ps:List PK} {a:At} {z:Int} : ∀ {k:Nat},z∈bS ps a k ↔ ∃ i:Nat,i<k/\z=(i:Int)/\gX (ps.getD i PK.zero) a=true
 | 0=>by simp [bS]
 | k+1=>by
  rw [bS,List.mem_append,jO (k:=k)]
  constructor
  ·rintro (⟨i,h1,h2,h3⟩ | h)
   ·exact ⟨i,by omega,h2,h3⟩
   ·split at h
    ·rename_i hm;exact ⟨k,by omega,by simpa using h,hm⟩
    ·simp at h
  ·rintro ⟨i,h1,h2,h3⟩
   by_cases e:i=k
   ·subst e;right;rw [if_pos h3];simpa using h2
   ·exact .inl ⟨i,by omega,h2,h3⟩
theorem qO {fs:List ByteArray} {x:ByteArray}:gC fs x.data.toList=true↔aM fs x<fs.length:=by
 unfold gC aM
 rw [Lib.containsS_iff,List.findIdx_lt_length]
 constructor
 ·intro h;exact ⟨x,by simpa using h,by simp⟩
 ·rintro ⟨y,hy,e⟩
  have:y=x:=by simpa using e
  subst this;simpa using hy
theorem bZ (ps:List PK) (wi:WI):(aB ps wi).nf.length=ps.length:=by simp [aB]
theorem jE {ps:List PK} (wi:WI) {i:Nat} (h:i<ps.length):(aB ps wi).nf.getD i 0=(ps.getD i PK.zero).fl.length:=by
 simp [aB,List.getD_eq_getElem?_getD,List.getElem?_eq_getElem h]
theorem nI {ps:List PK} {wi:WI} (hok:(aB ps wi).Ok) (a:At) : ∀ z∈bS ps a ps.length,Cn.Lit (aB ps wi).many ((fun z:Int=>(aB ps wi).tkL z.toNat) z)/\(a.f.toList.isEmpty=false->Cn.Lit (aB ps wi).many (fgA ps (aB ps wi) a z)/\((fun z:Int=>(aB ps wi).tkL z.toNat) z,fgA ps (aB ps wi) a z)∈(aB ps wi).keys):=by
 intro z hz
 obtain ⟨i,hi,rfl,hm⟩:=jO.1 hz
 have hi':i<(aB ps wi).nf.length:=by rw [bZ];exact hi
 refine ⟨Cn.CT.tk_lit hok hi',fun he=> ?_⟩
 have hf:aM (ps.getD i PK.zero).fl a.f<(ps.getD i PK.zero).fl.length:=by
  unfold gX at hm
  rw [he] at hm
  simp only [Bool.and_eq_true,Bool.false_or] at hm
  exact qO.1 hm.2.2
 have hf':aM (ps.getD i PK.zero).fl a.f<(aB ps wi).nf.getD i 0:=by rw [jE wi hi];exact hf
 exact ⟨Cn.nA (Cn.CT.fg_lit _ hi' hf') _,Cn.CT.keys_mem _ hi' hf' _⟩
theorem xK {ps:List PK} {wi:WI} {s:Cn.DS} {V:List Bool->List Bool} {P:List Bool->Bool} {v q:Nat} (hok:(aB ps wi).Ok) (h8:ps.length<=8) (h:Cn.Sem (aB ps wi).many (aB ps wi).keys s V P v q) (but:Int) (a:At) :
  ∃ V',Cn.Sem (aB ps wi).many (aB ps wi).keys (cX ps (aB ps wi) but s a).1 V' P v q/\Cn.Gr (aB ps wi).many s (cX ps (aB ps wi) but s a).1 V V'/\Cn.aS (cX ps (aB ps wi) but s a).1.n (cX ps (aB ps wi) but s a).2/\(cX ps (aB ps wi) but s a).2.length<=8/\
   ∀ m,m.length=(aB ps wi).many->(cX ps (aB ps wi) but s a).2.any (Cn.inM (V' m))=nD ps (aB ps wi) but m a:=by
 obtain ⟨V',h1,h2,h3,h4,h5⟩:=Cn.qU (but:=but) (nof:=a.f.toList.isEmpty) (tk:=fun z=>(aB ps wi).tkL z.toNat) (fg:=fgA ps (aB ps wi) a) h (acc:= []) (fun x hx=>by simp at hx) (nI hok a)
 have:=fV ps a ps.length
 exact ⟨V',h1,h2,h3,by simp at h4;unfold cX;omega,fun m hm=>by have:=h5 m hm;unfold cX nD;simpa using this⟩
theorem aKb {ps:List PK} {wi:WI} {s:Cn.DS} {V:List Bool->List Bool} {P:List Bool->Bool} {v q:Nat} (h:Cn.Sem (aB ps wi).many (aB ps wi).keys s V P v q) {i:Nat} (hi:i<ps.length) {fl:ByteArray} (hf:aM (ps.getD i PK.zero).fl fl<(ps.getD i PK.zero).fl.length) (nt:Bool) :
  Cn.Lit s.n (Cn.sg ((aB ps wi).fgL i (aM (ps.getD i PK.zero).fl fl)) nt)/\∀ m,m.length=(aB ps wi).many->Cn.inM (V m) (Cn.sg ((aB ps wi).fgL i (aM (ps.getD i PK.zero).fl fl)) nt)=(vC ps (aB ps wi) i m fl==nt):=by
 have hl:=Cn.CT.fg_lit (aB ps wi) (i:=i) (k:=aM (ps.getD i PK.zero).fl fl) (by rw [bZ];exact hi) (by rw [jE wi hi];exact hf)
 exact ⟨(Cn.nA hl nt).le h.le,fun m hm=>by rw [h.ch hm (Cn.nA hl nt),Cn.wG hl.1,Cn.CT.fg_in];rfl⟩
theorem tH {n:Nat} {x y:Int} (hx:Cn.Lit n x) (hy:Cn.Lit n y):Cn.aS n [x,y]:=fun z hz=>by
 rcases List.mem_cons.1 hz with rfl | hz
 ·exact hx
 ·rw [List.mem_singleton.1 hz];exact hy
theorem qQ : ∀ ts:List NT,ts.length<=bG ts
 | []=>Nat.zero_le _
 | t :: ts=>by
  have:=qQ ts
  cases t with
  | node k a fl nt kids=>rw [bG,NT.size,List.length_cons];omega
mutual
theorem aHv {ps:List PK} {wi:WI} {P:List Bool->Bool} {i:Nat} (hok:(aB ps wi).Ok) (h8:ps.length<=8) (hi:i<ps.length) : ∀ (t:NT) (s:Cn.DS) (V:List Bool->List Bool) (v q:Nat),Cn.Sem (aB ps wi).many (aB ps wi).keys s V P v q->t.size<=50->(∀ f∈t.flags,aM (ps.getD i PK.zero).fl f<(ps.getD i PK.zero).fl.length)->
  ∃ V' e,e+1<=11*t.size/\Cn.Sem (aB ps wi).many (aB ps wi).keys (ndS ps (aB ps wi) i t s).1 V' P (v+2*t.size) (q+e)/\Cn.Gr (aB ps wi).many s (ndS ps (aB ps wi) i t s).1 V V'/\Cn.Lit (ndS ps (aB ps wi) i t s).1.n (ndS ps (aB ps wi) i t s).2/\∀ m,m.length=(aB ps wi).many->Cn.inM (V' m) (ndS ps (aB ps wi) i t s).2=evN ps (aB ps wi) i m t
 | .node kd a fl nt kids,s,V,v,q,h,hsz,hfl=>by
  rw [NT.size] at hsz
  rw [NT.flags] at hfl
  obtain ⟨V1,e1,g1,g2,g3,g4,g5⟩:=aJb hok h8 hi kids s V v q h (by omega) fun f hf=>hfl f (List.mem_append_right _ hf)
  have hkl:=qQ kids
  have hlen:=qN ps (aB ps wi) i kids s
  rw [NT.size,ndS]
  simp only [evN]
  generalize kdS ps (aB ps wi) i kids s=Q at g2 g3 g4 g5 hlen ⊢
  by_cases k1:kd=1
  ·rw [if_pos k1];simp only [if_pos k1]
   obtain ⟨V2,j1,j2,j3,j4,j5⟩:=xK hok h8 g2 (-1) a
   obtain ⟨V3,l1,l2,l3,l4⟩:=Cn.lG j1 j3 (by omega)
   exact ⟨V3,e1+9,by omega,l1.mono (by omega) (by omega),(g3.trans j2).trans l2,l3,fun m hm=>by rw [← j5 m hm];exact l4 m hm⟩
  rw [if_neg k1];simp only [if_neg k1]
  by_cases k2:kd=2
  ·rw [if_pos k2];simp only [if_pos k2]
   obtain ⟨V2,j1,j2,j3,j4,j5⟩:=xK hok h8 g2 i a
   obtain ⟨V3,l1,l2,l3,l4⟩:=Cn.lG j1 j3 (by omega)
   exact ⟨V3,e1+9,by omega,l1.mono (by omega) (by omega),(g3.trans j2).trans l2,l3.neg,fun m hm=>by rw [← j5 m hm,← l4 m hm];exact Cn.dW _ l3.1⟩
  rw [if_neg k2];simp only [if_neg k2]
  by_cases k4:kd=4
  ·rw [if_pos k4];simp only [if_pos k4]
   obtain ⟨V3,l1,l2,l3,l4⟩:=Cn.lG g2 g4 (by omega)
   exact ⟨V3,e1+kids.length+1,by omega,l1.mono (by omega) (by omega),g3.trans l2,l3,fun m hm=>by rw [← (g5 m hm).1];exact l4 m hm⟩
  rw [if_neg k4];simp only [if_neg k4]
  obtain ⟨V3,l1,l2,l3,l4⟩:=Cn.aDo g2 g4 (by omega)
  by_cases k5:kd=5
  ·rw [if_pos k5];simp only [if_pos k5]
   obtain ⟨f1,f2⟩:=aKb l1 hi (fl:=fl) (hfl fl (by simp [k5])) nt
   obtain ⟨V4,o1,o2,o3,o4⟩:=Cn.lG l1 (tH f1 l3) (by simp)
   refine ⟨V4,e1+kids.length+4,by omega,o1.mono (by omega) (by simp;omega),(g3.trans l2).trans o2,o3,fun m hm=> ?_⟩
   rw [← (g5 m hm).2,← l4 m hm,← f2 m hm]
   have:=o4 m hm
   rw [List.any_cons,List.any_cons,List.any_nil,Bool.or_false] at this
   exact this
  ·rw [if_neg k5];simp only [if_neg k5]
   exact ⟨V3,e1+kids.length+1,by omega,l1.mono (by omega) (by omega),g3.trans l2,l3,fun m hm=>by rw [← (g5 m hm).2];exact l4 m hm⟩
theorem aJb {ps:List PK} {wi:WI} {P:List Bool->Bool} {i:Nat} (hok:(aB ps wi).Ok) (h8:ps.length<=8) (hi:i<ps.length) : ∀ (ts:List NT) (s:Cn.DS) (V:List Bool->List Bool) (v q:Nat),Cn.Sem (aB ps wi).many (aB ps wi).keys s V P v q->bG ts<=49->(∀ f∈cR ts,aM (ps.getD i PK.zero).fl f<(ps.getD i PK.zero).fl.length)->
  ∃ V' e,e+ts.length<=11*bG ts/\Cn.Sem (aB ps wi).many (aB ps wi).keys (kdS ps (aB ps wi) i ts s).1 V' P (v+2*bG ts) (q+e)/\Cn.Gr (aB ps wi).many s (kdS ps (aB ps wi) i ts s).1 V V'/\Cn.aS (kdS ps (aB ps wi) i ts s).1.n (kdS ps (aB ps wi) i ts s).2/\∀ m,m.length=(aB ps wi).many->(kdS ps (aB ps wi) i ts s).2.any (Cn.inM (V' m))=pY ps (aB ps wi) i m ts/\(kdS ps (aB ps wi) i ts s).2.all (Cn.inM (V' m))=nL ps (aB ps wi) i m ts
 | [],s,V,v,q,h,_,_=>⟨V,0,by simp,by rw [kdS];exact h,Cn.Gr.refl ..,fun x hx=>by rw [kdS] at hx;simp at hx,fun m _=>by rw [kdS,pY,nL];simp⟩
 | t :: ts,s,V,v,q,h,hsz,hfl=>by
  rw [bG] at hsz
  rw [cR] at hfl
  obtain ⟨V1,e1,g1,g2,g3,g4,g5⟩:=aHv hok h8 hi t s V v q h (by omega) fun f hf=>hfl f (List.mem_append_left _ hf)
  obtain ⟨V2,e2,j1,j2,j3,j4,j5⟩:=aJb hok h8 hi ts _ V1 _ _ g2 (by omega) fun f hf=>hfl f (List.mem_append_right _ hf)
  rw [kdS,bG]
  refine ⟨V2,e1+e2,by simp;omega,by rw [Nat.mul_add,← Nat.add_assoc,← Nat.add_assoc];exact j2,g3.trans j3,fun x hx=> ?_,fun m hm=> ?_⟩
  ·rcases List.mem_cons.1 hx with rfl | hx
   ·exact g4.le j3.n
   ·exact j4 x hx
  ·rw [List.any_cons,List.all_cons,pY,nL,(j5 m hm).1,(j5 m hm).2,j3.v m hm _ g4,g5 m hm]
   exact ⟨rfl,rfl⟩
end
end Go.Proofs.YthhhicgjiilgmaaGreatDoor
