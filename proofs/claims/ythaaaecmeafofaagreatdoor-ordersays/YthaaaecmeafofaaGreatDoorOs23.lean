/- Steps of the proof: TreeOpen, ValidOpen. -/
import Derived.Test.YthaaaecmeafofaaGreatDoorOs08
import Derived.Test.YthaaaecmeafofaaGreatDoorOs22
import Derived.Test.YthaaaecmeafofaaGreatDoorOs11
import Derived.OpenShut
set_option maxHeartbeats 16000000
set_option maxRecDepth 100000
namespace Go.Proofs.YthaaaecmeafofaaGreatDoor
open Go.ChangeShapes Go.WideShapes Go.ChangeAt Go.RowKit Go.Joins
theorem rI:Tryz.prog.cellsOf 76=14:=by kernel_rfl
theorem wL:Tryz.prog.cellsOf 69=1:=by kernel_rfl
theorem wK:Tryz.prog.cellsOf 22=1:=by kernel_rfl
theorem wM:Tryz.prog.cellsOf 24=1:=by kernel_rfl
theorem nB {a:Addr} (h:a.spot=none):a=⟨a.block,a.off,none⟩:=by cases a;simp at h;subst h;rfl
theorem aGr {α:Type} {cs:List α} (h:cs.length=14) : ∃ c0 c1 c2 c3 c4 c5 c6 c7 c8 c9 c10 c11 c12 c13,cs = [c0,c1,c2,c3,c4,c5,c6,c7,c8,c9,c10,c11,c12,c13]:=by
 match cs,h with
 | [c0,c1,c2,c3,c4,c5,c6,c7,c8,c9,c10,c11,c12,c13],_=>exact ⟨c0,c1,c2,c3,c4,c5,c6,c7,c8,c9,c10,c11,c12,c13,rfl⟩
section
variable {H:Type} {enc:TypeId × Value->H} {w:World} {base:Nat} {sp:Nat->Bool} {held:Bool}
theorem oP {α:Type} {P:Nat->α->Prop} : ∀ (n:Nat),(∀ i,i<n->∃ x,P i x)->∃ l:List α,l.length=n/\∀ (i:Nat) (h:i<l.length),P i l[i]
 | 0,_=>⟨[],rfl,fun i h=>absurd h (Nat.not_lt_zero _)⟩
 | n+1,h=>by
  obtain ⟨l,hl,hp⟩:=oP n (fun i hi=>h i (by omega))
  obtain ⟨x,hx⟩:=h n (by omega)
  refine ⟨l ++ [x],by simp [hl],fun i hi=> ?_⟩
  by_cases hlt:i<l.length
  ·rw [List.getElem_append_left hlt];exact hp i hlt
  ·have:i=l.length:=by simp at hi;omega
   subst this
   rw [List.getElem_append_right (Nat.le_refl _)]
   simp only [Nat.sub_self,List.getElem_cons_zero]
   rw [hl];exact hx
theorem aBi {fuel:Nat} {cs:List Value} {x:DataW H × List MemPlace} (h:DataW.trod enc Tryz.prog w base sp held fuel 69 cs=some x) : ∃ (fs:List ByteArray) (v:Value),cs = [v]/\bT (fun b=>b<w.heap.size) w fs v:=by
 rcases DataW.trod_slice Tryz.underlying69 h with ⟨rfl,-⟩ | ⟨ad,len,cap,elems,rest,mm,hmm,rfl,-,-,hlc,hcm,hle,hcell,-,-⟩
 ·exact ⟨[],_,rfl,Or.inl ⟨rfl,none,0,rfl⟩⟩
 ·have one : ∀ i,i<len->∃ y:ByteArray,ad.block<w.heap.size/\w.cell? (ad.add i)=some (.string y):=by
   intro i hi
   have hci:=hcell i hi
   rw [wJ,Nat.mul_one,List.getElem?_eq_getElem (by omega)] at hci
   obtain ⟨csi,hc1,hc2⟩:=Option.bind_eq_some_iff.1 hci
   obtain ⟨y,e0,-,-⟩:=DataW.trod_string Tryz.underlying9 hc2
   obtain ⟨hb1,hb2,hb3⟩:=World.cells?_some hc1
   have hblk:=World.cells?_block hc1 (by decide)
   rw [aX] at hblk
   refine ⟨y,hblk,?_⟩
   have:=hb3 0 (by decide)
   rw [e0] at this
   simpa [Addr.add] using this
  by_cases h0:len=0
  ·subst h0
   exact ⟨[],_,rfl,Or.inl ⟨rfl,_,_,rfl⟩⟩
  ·obtain ⟨fs,hfl,hfs⟩:=oP len one
   have hz:=hfs 0 (by omega)
   have hsp:ad.spot=none:=by
    have:=World.cell?_spot hz.2
    simpa [Addr.add] using this
   have had:=nB hsp
   refine ⟨fs,_,rfl,Or.inr ⟨ad.block,ad.off,cap,by rw [hfl,← had],⟨hz.1,by omega⟩,by unfold maxLen at hcm;omega,fun j y hy=> ?_⟩⟩
   obtain ⟨hj,rfl⟩:=List.getElem?_eq_some_iff.1 hy
   have:=(hfs j hj).2
   rw [had] at this
   rwa [Addr.add_mid] at this
theorem aEh {fuel:Nat} {cs:List Value} {x:DataW H × List MemPlace} (h:DataW.trod enc Tryz.prog w base sp held fuel 76 cs=some x) : ∃ p:PK,cZ (fun b=>b<w.heap.size) w p cs/\cs.length=14:=by
 obtain ⟨xs,m,hm,hx,hl,hlen,hel⟩:=DataW.trod_struct Tryz.underlying76 h
 have hl14:=hl.trans rI
 obtain ⟨c0,c1,c2,c3,c4,c5,c6,c7,c8,c9,c10,c11,c12,c13,rfl⟩:=aGr hl14
 match xs,hlen with
 | [y0,y1,y2,y3,y4],_=>
  obtain ⟨n,e0,-,-⟩:=DataW.trod_string Tryz.underlying9 (by simpa using hel 0 _ rfl)
  obtain ⟨v,e1,-,-⟩:=DataW.trod_int Tryz.underlying3 (by simpa using hel 1 _ rfl)
  obtain ⟨sl,e2,-,-⟩:=DataW.trod_int Tryz.underlying3 (by simpa using hel 2 _ rfl)
  obtain ⟨fs,fv,e3,hf⟩:=aBi (show DataW.trod enc Tryz.prog w base sp held m 69 _=some y3 by simpa using hel 3 _ rfl)
  obtain ⟨t,ht⟩:=aBg m _ _ (show DataW.trod enc Tryz.prog w base sp held m 74 _=some y4 by simpa using hel 4 _ rfl)
  simp [kK,wJ,wL,lJ] at e0 e1 e2 e3 ht
  refine ⟨⟨n,v,sl,fs,t⟩,⟨fv,[c4,c5,c6,c7,c8,c9,c10,c11,c12,c13],by rw [e0,e1,e2,e3],hf,ht⟩,rfl⟩
theorem aBh {fuel:Nat} {cs:List Value} {x:DataW H × List MemPlace} (h:DataW.trod enc Tryz.prog w base sp held fuel 22 cs=some x) : ∃ (ps:List PK) (v:Value),cs = [v]/\bA (fun b=>b<w.heap.size) w ps v:=by
 rcases DataW.trod_slice Tryz.underlying22 h with ⟨rfl,-⟩ | ⟨ad,len,cap,elems,rest,mm,hmm,rfl,-,-,hlc,hcm,hle,hcell,-,-⟩
 ·exact ⟨[],_,rfl,Or.inl ⟨rfl,none,0,rfl⟩⟩
 ·have one : ∀ i,i<len->∃ y:PK,ad.block<w.heap.size/\∃ cs:List Value,cs.length=14/\(∀ m,m<14->w.cell? ((ad.add (i*14)).add m)=cs[m]?)/\cZ (fun b=>b<w.heap.size) w y cs:=by
   intro i hi
   have hci:=hcell i hi
   rw [rI,List.getElem?_eq_getElem (by omega)] at hci
   obtain ⟨csi,hc1,hc2⟩:=Option.bind_eq_some_iff.1 hci
   obtain ⟨p,hp,hl⟩:=aEh hc2
   obtain ⟨hb1,hb2,hb3⟩:=World.cells?_some hc1
   have hblk:=World.cells?_block hc1 (by decide)
   rw [aX] at hblk
   exact ⟨p,hblk,csi,hl,hb3,hp⟩
  by_cases h0:len=0
  ·subst h0
   exact ⟨[],_,rfl,Or.inl ⟨rfl,_,_,rfl⟩⟩
  ·obtain ⟨ps,hfl,hfs⟩:=oP len one
   obtain ⟨hz,cs0,hl0,hc0,-⟩:=hfs 0 (by omega)
   have hsp:ad.spot=none:=by
    have h1:=hc0 0 (by decide)
    rw [List.getElem?_eq_getElem (by omega)] at h1
    have:=World.cell?_spot h1
    simpa [Addr.add] using this
   have had:=nB hsp
   refine ⟨ps,_,rfl,Or.inr ⟨ad.block,ad.off,cap,by rw [hfl,← had],hz,by unfold maxLen at hcm;omega,fun j hj=> ?_⟩⟩
   obtain ⟨-,csj,hlj,hcj,hpj⟩:=hfs j hj
   refine ⟨csj,fun m y hy=> ?_,hpj⟩
   have hm:m<14:=by rw [← hlj];exact (List.getElem?_eq_some_iff.1 hy).1
   have:=hcj m hm
   rw [had,Addr.add_mid,Addr.add_mid,hy] at this
   exact this
end
theorem aAr {H:Type} {enc:TypeId × Value->H} {w:World} {base b0:Nat} {sp:Nat->Bool} {held:Bool} {x:Value} {d:DataW H} {p:List MemPlace} (hv:Value.okWide Tryz.prog w .any b0 24 x) (h:DataW.Trod enc Tryz.prog w base sp held 24 x d p) :
  ∃ (ps:List PK) (v:Value),x=.agg #[v]/\bA (fun b=>b<w.heap.size) w ps v:=by
 obtain ⟨cs,rfl,hsz⟩:=okWide_struct Tryz.underlying24 hv
 obtain ⟨fuel,hf⟩:=h
 obtain ⟨xs,m,hm,hx,hl,hlen,hel⟩:=DataW.trod_struct Tryz.underlying24 (show DataW.trod enc Tryz.prog w base sp held fuel 24 cs.toList=some (d,p) from hf)
 match xs,hlen with
 | [y0],_=>
  obtain ⟨ps,v,e,hp⟩:=aBh (show DataW.trod enc Tryz.prog w base sp held m 22 _=some y0 by simpa using hel 0 _ rfl)
  refine ⟨ps,v,?_,hp⟩
  have hl1:=hl.trans wM
  simp [wK] at e
  obtain ⟨l⟩:=cs
  simp at hl1 e
  match l,hl1 with
  | [c],_=>simp at e;subst e;rfl
end Go.Proofs.YthaaaecmeafofaaGreatDoor
namespace Go.Proofs.YthaaaecmeafofaaGreatDoor
open Go.ChangeShapes Go.WideShapes Go.ChangeAt Go.RowKit Go.Joins
theorem uD:Tryz.prog.cellsOf 64=2:=by kernel_rfl
theorem uC:Tryz.prog.cellsOf 62=1:=by kernel_rfl
section
variable {H:Type} {enc:TypeId × Value->H} {w:World} {base:Nat} {sp:Nat->Bool} {held:Bool}
theorem wC {T e:TypeId} {k:Nat} (hT:Tryz.prog.underlying T=some (.slice e)) (hk:Tryz.prog.cellsOf e=k) (hk0:0<k) {α:Type} (R:α->List Value->Prop)
  (hel : ∀ (m:Nat) (cs:List Value) (y:DataW H × List MemPlace),DataW.trod enc Tryz.prog w base sp held m e cs=some y->∃ a,R a cs/\cs.length=k)
  {fuel:Nat} {cs:List Value} {x:DataW H × List MemPlace} (h:DataW.trod enc Tryz.prog w base sp held fuel T cs=some x) :
  ∃ (xs:List α) (p:Option Addr) (cap:Nat),cs = [.slice p xs.length cap]/\(xs.length<=cap/\xs.length<=9223372036854775807)/\(0<xs.length->∃ b off,p=some ⟨b,off,none⟩/\b<w.heap.size/\∀ (j:Nat) (a:α),xs[j]? = some a->∃ cs:List Value,cs.length=k/\R a cs/\∀ (m:Nat) (v:Value),cs[m]? = some v->w.cell? ⟨b,off+j*k+m,none⟩=some v):=by
 rcases DataW.trod_slice hT h with ⟨rfl,-⟩ | ⟨ad,len,cap,elems,rest,mm,hmm,rfl,-,-,hlc,hcm,hle,hcell,-,-⟩
 ·exact ⟨[],none,0,rfl,⟨Nat.le_refl _,Nat.zero_le _⟩,fun h=>absurd h (Nat.lt_irrefl 0)⟩
 ·have one : ∀ i,i<len->∃ y:α,ad.block<w.heap.size/\∃ cs:List Value,cs.length=k/\(∀ m,m<k->w.cell? ((ad.add (i*k)).add m)=cs[m]?)/\R y cs:=by
   intro i hi
   have hci:=hcell i hi
   rw [hk,List.getElem?_eq_getElem (by omega)] at hci
   obtain ⟨csi,hc1,hc2⟩:=Option.bind_eq_some_iff.1 hci
   obtain ⟨p,hp,hl⟩:=hel _ _ _ hc2
   obtain ⟨hb1,hb2,hb3⟩:=World.cells?_some hc1
   have hblk:=World.cells?_block hc1 hk0
   rw [aX] at hblk
   exact ⟨p,hblk,csi,hl,hb3,hp⟩
  obtain ⟨ps,hfl,hfs⟩:=oP len one
  refine ⟨ps,some ad,cap,by rw [hfl],⟨by omega,by unfold maxLen at hcm;omega⟩,fun hpos=> ?_⟩
  obtain ⟨hz,cs0,hl0,hc0,-⟩:=hfs 0 hpos
  have hsp:ad.spot=none:=by
   have h1:=hc0 0 hk0
   rw [List.getElem?_eq_getElem (by omega)] at h1
   have:=World.cell?_spot h1
   simpa [Addr.add] using this
  have had:=nB hsp
  refine ⟨ad.block,ad.off,by rw [← had],hz,fun j a ha=> ?_⟩
  obtain ⟨hj,rfl⟩:=List.getElem?_eq_some_iff.1 ha
  obtain ⟨-,csj,hlj,hcj,hpj⟩:=hfs j hj
  refine ⟨csj,hlj,hpj,fun m y hy=> ?_⟩
  have hm:m<k:=by rw [← hlj];exact (List.getElem?_eq_some_iff.1 hy).1
  have:=hcj m hm
  rw [had,Addr.add_mid,Addr.add_mid,hy] at this
  exact this
theorem yE {fuel:Nat} {cs:List Value} {x:DataW H × List MemPlace} (h:DataW.trod enc Tryz.prog w base sp held fuel 62 cs=some x) : ∃ (bs:List Bool) (v:Value),cs = [v]/\aN (fun b=>b<w.heap.size) w bs v:=by
 obtain ⟨bs,p,cap,rfl,hl,hr⟩:=wC Tryz.underlying62 lI (by decide) (fun (b:Bool) cs=>cs = [.bool b]) (fun m cs y hy=>by obtain ⟨b,rfl,-⟩:=DataW.trod_bool Tryz.underlying4 hy;exact ⟨b,rfl,rfl⟩) h
 refine ⟨bs,_,rfl,p,cap,rfl,hl.2,fun h0=> ?_⟩
 obtain ⟨b,off,h1,h2,h3⟩:=hr h0
 refine ⟨b,off,h1,h2,fun j y hy=> ?_⟩
 obtain ⟨cs,-,rfl,h4⟩:=h3 j y hy
 have:=h4 0 _ rfl
 rwa [Nat.mul_one,Nat.add_zero] at this
theorem aEg {fuel:Nat} {cs:List Value} {x:DataW H × List MemPlace} (h:DataW.trod enc Tryz.prog w base sp held fuel 25 cs=some x) : ∃ (ms:List MB) (v:Value),cs = [v]/\cI (fun b=>b<w.heap.size) w ms v:=by
 obtain ⟨ms,p,cap,rfl,hl,hr⟩:=wC Tryz.underlying25 uD (by decide) (fun (m:MB) cs=> ∃ ov,cs = [.int .i64 m.pl,ov]/\aN (fun b=>b<w.heap.size) w m.on ov) (fun m cs y hy=>by
  obtain ⟨xs,n,-,-,hl,hlen,hel⟩:=DataW.trod_struct Tryz.underlying64 hy
  rw [uD] at hl
  match xs,hlen,cs,hl with
  | [y0,y1],_,[c0,c1],_=>
   obtain ⟨a,e0,-,-⟩:=DataW.trod_int Tryz.underlying3 (show DataW.trod enc Tryz.prog w base sp held n 3 _=some y0 by simpa using hel 0 _ rfl)
   obtain ⟨bs,v,e1,hb⟩:=yE (show DataW.trod enc Tryz.prog w base sp held n 62 _=some y1 by simpa using hel 1 _ rfl)
   simp [kK,uC] at e0 e1
   exact ⟨⟨a,bs⟩,⟨v,by rw [e0,e1],hb⟩,rfl⟩) h
 refine ⟨ms,_,rfl,p,cap,rfl,hl,fun h0=> ?_⟩
 obtain ⟨b,off,h1,h2,h3⟩:=hr h0
 refine ⟨b,off,h1,h2,fun j y hy=> ?_⟩
 obtain ⟨cs,-,⟨ov,rfl,hb⟩,h4⟩:=h3 j y hy
 exact ⟨ov,by have:=h4 0 _ rfl;rwa [Nat.add_zero] at this,h4 1 _ rfl,hb⟩
end
theorem vE {H:Type} {enc:TypeId × Value->H} {w:World} {base b0:Nat} {sp:Nat->Bool} {held:Bool} {x:Value} {d:DataW H} {p:List MemPlace} (hv:Value.okWide Tryz.prog w .any b0 25 x) (h:DataW.Trod enc Tryz.prog w base sp held 25 x d p) :
  ∃ (ms:List MB),cI (fun b=>b<w.heap.size) w ms x:=by
 obtain ⟨a,len,cap,rfl⟩:=okWide_slice Tryz.underlying25 hv
 obtain ⟨fuel,hf⟩:=h
 obtain ⟨ms,v,e,hm⟩:=aEg hf
 refine ⟨ms,?_⟩
 have hx:Value.slice a len cap=v:=by simpa [Value.cells] using e
 rw [hx];exact hm
end Go.Proofs.YthaaaecmeafofaaGreatDoor
