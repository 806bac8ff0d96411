/- Steps of the proof: ValidOpen, EncOpen, EncOpenI. -/
import Derived.Test.YthhhicgjiilgmaaGreatDoorSd27
import Derived.Test.YthhhicgjiilgmaaGreatDoorSd10
import Derived.OpenShut
import Derived.Test.YthhhicgjiilgmaaGreatDoorSd09
set_option maxHeartbeats 16000000
set_option maxRecDepth 100000
namespace Go.Proofs.YthhhicgjiilgmaaGreatDoor
open Go.ChangeShapes Go.WideShapes Go.ChangeAt Go.RowKit Go.Joins
theorem yM:Tryz.prog.cellsOf 74=2:=by kernel_rfl
theorem zH:Tryz.prog.cellsOf 31=1:=by kernel_rfl
theorem vA:Tryz.prog.cellsOf 75=2:=by kernel_rfl
theorem aFh:Tryz.prog.cellsOf 26=1:=by kernel_rfl
theorem aFc:Tryz.prog.cellsOf 25=1:=by kernel_rfl
theorem aBn:Tryz.prog.cellsOf 27=1:=by kernel_rfl
theorem aFn:Tryz.prog.cellsOf 28=1:=by kernel_rfl
theorem aBa:Tryz.prog.cellsOf 30=4:=by kernel_rfl
section
variable {H:Type} {enc:TypeId × Value->H} {w:World} {base:Nat} {sp:Nat->Bool} {held:Bool}
theorem lK {T e:TypeId} {k:Nat} (hT:Tryz.prog.underlying T=some (.slice e)) (hk:Tryz.prog.cellsOf e=k) (hk0:0<k) {α:Type} (R:α->List Value->Prop)
  (hel : ∀ (m:Nat) (cs:List Value) (y:DataW H × List MemPlace),DataW.trod enc Tryz.prog w base sp held m e cs=some y->∃ a,R a cs/\cs.length=k)
  {fuel:Nat} {cs:List Value} {x:DataW H × List MemPlace} (h:DataW.trod enc Tryz.prog w base sp held fuel T cs=some x) :
  ∃ (xs:List α) (p:Option Addr) (cap:Nat),cs = [.slice p xs.length cap]/\(xs.length<=cap/\xs.length<=9223372036854775807)/\(0<xs.length->∃ b off,p=some ⟨b,off,none⟩/\b<w.heap.size/\∀ (j:Nat) (a:α),xs[j]? = some a->∃ cs:List Value,cs.length=k/\R a cs/\∀ (m:Nat) (v:Value),cs[m]? = some v->w.cell? ⟨b,off+j*k+m,none⟩=some v):=by
 rcases DataW.trod_slice hT h with ⟨rfl,-⟩ | ⟨ad,len,cap,elems,rest,mm,hmm,rfl,-,-,hlc,hcm,hle,hcell,-,-⟩
 ·exact ⟨[],none,0,rfl,⟨Nat.le_refl _,Nat.zero_le _⟩,fun h=>absurd h (Nat.lt_irrefl 0)⟩
 ·have one : ∀ i,i<len->∃ y:α,ad.block<w.heap.size/\∃ cs:List Value,cs.length=k/\(∀ m,m<k->w.cell? ((ad.add (i*k)).add m)=cs[m]?)/\R y cs:=by
   intro i hi
   have hci:=hcell i hi
   rw [hk,List.getElem?_eq_getElem (by omega)] at hci
   obtain ⟨csi,hc1,hc2⟩:=Option.bind_eq_some_iff.1 hci
   obtain ⟨p,hp,hl⟩:=hel _ _ _ hc2
   obtain ⟨hb1,hb2,hb3⟩:=World.cells?_some hc1
   have hblk:=World.cells?_block hc1 hk0
   rw [lV] at hblk
   exact ⟨p,hblk,csi,hl,hb3,hp⟩
  obtain ⟨ps,hfl,hfs⟩:=qS len one
  refine ⟨ps,some ad,cap,by rw [hfl],⟨by omega,by unfold maxLen at hcm;omega⟩,fun hpos=> ?_⟩
  obtain ⟨hz,cs0,hl0,hc0,-⟩:=hfs 0 hpos
  have hsp:ad.spot=none:=by
   have h1:=hc0 0 hk0
   rw [List.getElem?_eq_getElem (by omega)] at h1
   have:=World.cell?_spot h1
   simpa [Addr.add] using this
  have had:=oR hsp
  refine ⟨ad.block,ad.off,by rw [← had],hz,fun j a ha=> ?_⟩
  obtain ⟨hj,rfl⟩:=List.getElem?_eq_some_iff.1 ha
  obtain ⟨-,csj,hlj,hcj,hpj⟩:=hfs j hj
  refine ⟨csj,hlj,hpj,fun m y hy=> ?_⟩
  have hm:m<k:=by rw [← hlj];exact (List.getElem?_eq_some_iff.1 hy).1
  have:=hcj m hm
  rw [had,Addr.add_mid,Addr.add_mid,hy] at this
  exact this
theorem aCd {fuel:Nat} {cs:List Value} {x:DataW H × List MemPlace} (h:DataW.trod enc Tryz.prog w base sp held fuel 31 cs=some x) : ∃ (bs:List Bool) (v:Value),cs = [v]/\aT (fun b=>b<w.heap.size) w bs v:=by
 obtain ⟨bs,p,cap,rfl,hl,hr⟩:=lK Tryz.underlying31 nF (by decide) (fun (b:Bool) cs=>cs = [.bool b]) (fun m cs y hy=>by obtain ⟨b,rfl,-⟩:=DataW.trod_bool Tryz.underlying4 hy;exact ⟨b,rfl,rfl⟩) h
 refine ⟨bs,_,rfl,p,cap,rfl,hl.2,fun h0=> ?_⟩
 obtain ⟨b,off,h1,h2,h3⟩:=hr h0
 refine ⟨b,off,h1,h2,fun j y hy=> ?_⟩
 obtain ⟨cs,-,rfl,h4⟩:=h3 j y hy
 have:=h4 0 _ rfl
 rwa [Nat.mul_one,Nat.add_zero] at this
theorem uT {fuel:Nat} {cs:List Value} {x:DataW H × List MemPlace} (h:DataW.trod enc Tryz.prog w base sp held fuel 27 cs=some x) : ∃ (zs:List Int) (v:Value),cs = [v]/\aK (fun b=>b<w.heap.size) w zs v:=by
 obtain ⟨bs,p,cap,rfl,hl,hr⟩:=lK Tryz.underlying27 gR (by decide) (fun (z:Int) cs=>cs = [.int .i64 z]) (fun m cs y hy=>by obtain ⟨z,rfl,-,-⟩:=DataW.trod_int Tryz.underlying3 hy;exact ⟨z,rfl,rfl⟩) h
 refine ⟨bs,_,rfl,p,cap,rfl,hl.2,fun h0=> ?_⟩
 obtain ⟨b,off,h1,h2,h3⟩:=hr h0
 refine ⟨b,off,h1,h2,fun j y hy=> ?_⟩
 obtain ⟨cs,-,rfl,h4⟩:=h3 j y hy
 have:=h4 0 _ rfl
 rwa [Nat.mul_one,Nat.add_zero] at this
theorem aIr {fuel:Nat} {cs:List Value} {x:DataW H × List MemPlace} (h:DataW.trod enc Tryz.prog w base sp held fuel 28 cs=some x) : ∃ (zs:List (Int × Int)) (v:Value),cs = [v]/\jS (fun b=>b<w.heap.size) w zs v:=by
 obtain ⟨bs,p,cap,rfl,hl,hr⟩:=lK Tryz.underlying28 vA (by decide) (fun (z:Int × Int) cs=>cs = [.int .i64 z.1,.int .i64 z.2]) (fun m cs y hy=>by
  obtain ⟨xs,n,-,-,hl,hlen,hel⟩:=DataW.trod_array Tryz.underlying75 hy
  rw [vA] at hl
  match xs,hlen,cs,hl with
  | [y0,y1],_,[c0,c1],_=>
   obtain ⟨a,e0,-,-⟩:=DataW.trod_int Tryz.underlying3 (show DataW.trod enc Tryz.prog w base sp held n 3 _=some y0 by simpa using hel 0 (by decide))
   obtain ⟨b,e1,-,-⟩:=DataW.trod_int Tryz.underlying3 (show DataW.trod enc Tryz.prog w base sp held n 3 _=some y1 by simpa using hel 1 (by decide))
   simp [gR] at e0 e1
   exact ⟨(a,b),by rw [e0,e1],rfl⟩) h
 refine ⟨bs,_,rfl,p,cap,rfl,hl.2,fun h0=> ?_⟩
 obtain ⟨b,off,h1,h2,h3⟩:=hr h0
 refine ⟨b,off,h1,h2,fun j y hy=> ?_⟩
 obtain ⟨cs,-,rfl,h4⟩:=h3 j y hy
 exact ⟨by have:=h4 0 _ rfl;rwa [Nat.add_zero] at this,h4 1 _ rfl⟩
theorem aAf {fuel:Nat} {cs:List Value} {x:DataW H × List MemPlace} (h:DataW.trod enc Tryz.prog w base sp held fuel 26 cs=some x) : ∃ (ms:List MB) (v:Value),cs = [v]/\bQ (fun b=>b<w.heap.size) w ms v:=by
 obtain ⟨ms,p,cap,rfl,hl,hr⟩:=lK Tryz.underlying26 yM (by decide) (fun (m:MB) cs=> ∃ ov,cs = [.int .i64 m.pl,ov]/\aT (fun b=>b<w.heap.size) w m.on ov) (fun m cs y hy=>by
  obtain ⟨xs,n,-,-,hl,hlen,hel⟩:=DataW.trod_struct Tryz.underlying74 hy
  rw [yM] at hl
  match xs,hlen,cs,hl with
  | [y0,y1],_,[c0,c1],_=>
   obtain ⟨a,e0,-,-⟩:=DataW.trod_int Tryz.underlying3 (show DataW.trod enc Tryz.prog w base sp held n 3 _=some y0 by simpa using hel 0 _ rfl)
   obtain ⟨bs,v,e1,hb⟩:=aCd (show DataW.trod enc Tryz.prog w base sp held n 31 _=some y1 by simpa using hel 1 _ rfl)
   simp [gR,zH] at e0 e1
   exact ⟨⟨a,bs⟩,⟨v,by rw [e0,e1],hb⟩,rfl⟩) h
 refine ⟨ms,_,rfl,p,cap,rfl,hl,fun h0=> ?_⟩
 obtain ⟨b,off,h1,h2,h3⟩:=hr h0
 refine ⟨b,off,h1,h2,fun j y hy=> ?_⟩
 obtain ⟨cs,-,⟨ov,rfl,hb⟩,h4⟩:=h3 j y hy
 exact ⟨ov,by have:=h4 0 _ rfl;rwa [Nat.add_zero] at this,h4 1 _ rfl,hb⟩
theorem aIo {fuel:Nat} {cs:List Value} {x:DataW H × List MemPlace} (h:DataW.trod enc Tryz.prog w base sp held fuel 25 cs=some x) : ∃ (ts:List At) (v:Value),cs = [v]/\jQ (fun b=>b<w.heap.size) w ts v:=by
 obtain ⟨ts,p,cap,rfl,hl,hr⟩:=lK Tryz.underlying25 nC (by decide) (fun (a:At) cs=>cs = [.string a.n,.int .i64 a.op,.int .i64 a.v,.int .i64 a.sl,.string a.f,.bool a.on]) (fun m cs y hy=>by
  obtain ⟨a,e⟩:=uY hy
  exact ⟨a,e,by rw [e];rfl⟩) h
 refine ⟨ts,_,rfl,p,cap,rfl,hl.2,fun h0=> ?_⟩
 obtain ⟨b,off,h1,h2,h3⟩:=hr h0
 refine ⟨b,off,h1,h2,fun j y hy=> ?_⟩
 obtain ⟨cs,-,rfl,h4⟩:=h3 j y hy
 exact ⟨by have:=h4 0 _ rfl;rwa [Nat.add_zero] at this,h4 1 _ rfl,h4 2 _ rfl,h4 3 _ rfl,h4 4 _ rfl,h4 5 _ rfl⟩
end
theorem aEr {H:Type} {enc:TypeId × Value->H} {w:World} {base b0:Nat} {sp:Nat->Bool} {held:Bool} {x:Value} {d:DataW H} {p:List MemPlace} (hv:Value.okWide Tryz.prog w .any b0 30 x) (h:DataW.Trod enc Tryz.prog w base sp held 30 x d p) :
  ∃ (wi:WI) (tsv inv mav onv:Value),x=.agg #[tsv,inv,mav,onv]/\eQ (fun b=>b<w.heap.size) w wi tsv inv mav onv:=by
 obtain ⟨cs,rfl,hsz⟩:=okWide_struct Tryz.underlying30 hv
 obtain ⟨fuel,hf⟩:=h
 obtain ⟨xs,m,hm,hx,hl,hlen,hel⟩:=DataW.trod_struct Tryz.underlying30 (show DataW.trod enc Tryz.prog w base sp held fuel 30 cs.toList=some (d,p) from hf)
 have hl4:=hl.trans aBa
 obtain ⟨l⟩:=cs
 simp only at hl4 hel
 match xs,hlen,l,hl4 with
 | [y0,y1,y2,y3],_,[c0,c1,c2,c3],_=>
  obtain ⟨ts,v0,e0,h0⟩:=aIo (show DataW.trod enc Tryz.prog w base sp held m 25 _=some y0 by simpa using hel 0 _ rfl)
  obtain ⟨ins,v1,e1,h1⟩:=aAf (show DataW.trod enc Tryz.prog w base sp held m 26 _=some y1 by simpa using hel 1 _ rfl)
  obtain ⟨ma,v2,e2,h2⟩:=uT (show DataW.trod enc Tryz.prog w base sp held m 27 _=some y2 by simpa using hel 2 _ rfl)
  obtain ⟨on,v3,e3,h3⟩:=aIr (show DataW.trod enc Tryz.prog w base sp held m 28 _=some y3 by simpa using hel 3 _ rfl)
  simp [aFc,aFh,aBn,aFn] at e0 e1 e2 e3
  exact ⟨⟨ts,ins,ma,on⟩,v0,v1,v2,v3,by rw [e0,e1,e2,e3],⟨h0,h1,h2,h3⟩⟩
theorem aJx {H:Type} {enc:TypeId × Value->H} {w:World} {base b0:Nat} {sp:Nat->Bool} {held:Bool} {x:Value} {d:DataW H} {p:List MemPlace} (hv:Value.okWide Tryz.prog w .any b0 26 x) (h:DataW.Trod enc Tryz.prog w base sp held 26 x d p) :
  ∃ (ms:List MB),bQ (fun b=>b<w.heap.size) w ms x:=by
 obtain ⟨a,len,cap,rfl⟩:=okWide_slice Tryz.underlying26 hv
 obtain ⟨fuel,hf⟩:=h
 obtain ⟨ms,v,e,hm⟩:=aAf hf
 refine ⟨ms,?_⟩
 have hx:Value.slice a len cap=v:=by simpa [Value.cells] using e
 rw [hx];exact hm
end Go.Proofs.YthhhicgjiilgmaaGreatDoor
namespace Go.Proofs.YthhhicgjiilgmaaGreatDoor
open Go.RowKit
theorem aJi {H:Type} {enc:TypeId × Value->H} {w:World} {base:Nat} {sp:Nat->Bool} {held:Bool} {v:Value} {d:DataW H} {p:List MemPlace} (h:DataW.Trod enc Tryz.prog w base sp held 24 (.agg #[v]) d p):kQ v:=by
 obtain ⟨fuel,hf⟩:=h
 obtain ⟨xs,m,hm,hx,hl,hlen,hel⟩:=DataW.trod_struct Tryz.underlying24 (show DataW.trod enc Tryz.prog w base sp held fuel 24 [v]=some (d,p) from hf)
 match xs,hlen with
 | [y0],_=>
  have h0:DataW.trod enc Tryz.prog w base sp held m 22 [v]=some y0:=by
   have:=hel 0 _ rfl
   simpa [rM] using this
  rcases DataW.trod_slice Tryz.underlying22 h0 with ⟨e,-⟩ | ⟨ad,len,cap,elems,rest,mm,hmm,e,-,-,hlc,-⟩
  ·cases e;exact fS
  ·cases e
   intro p n c e
   cases e
   exact hlc
end Go.Proofs.YthhhicgjiilgmaaGreatDoor
namespace Go.Proofs.YthhhicgjiilgmaaGreatDoor
open Go.ChangeShapes Go.WideShapes Go.ChangeAt Go.RowKit Go.Joins
theorem aGo {H:Type} {enc:TypeId × Value->H} {w:World} {base b0:Nat} {sp:Nat->Bool} {held:Bool} {x:Value} {d:DataW H} {p:List MemPlace} (hv:Value.okWide Tryz.prog w .any b0 27 x) (h:DataW.Trod enc Tryz.prog w base sp held 27 x d p) :
  ∃ zs:List Int,aK (fun b=>b<w.heap.size) w zs x/\kQ x:=by
 obtain ⟨a,len,cap,rfl⟩:=okWide_slice Tryz.underlying27 hv
 obtain ⟨fuel,hf⟩:=h
 obtain ⟨zs,v,e,hm⟩:=uT hf
 have hx:Value.slice a len cap=v:=by simpa [Value.cells] using e
 refine ⟨zs,by rw [hx];exact hm,?_⟩
 rcases DataW.trod_slice Tryz.underlying27 hf with ⟨e,-⟩ | ⟨ad,len',cap',elems,rest,mm,hmm,e,-,-,hlc,-⟩
 ·have e:Value.slice a len cap=.slice none 0 0:=by simpa [Value.cells] using e
  rw [e];exact fS
 ·have e:Value.slice a len cap=.slice (some ad) len' cap':=by simpa [Value.cells] using e
  intro p n c e'
  rw [e] at e'
  cases e'
  exact hlc
end Go.Proofs.YthhhicgjiilgmaaGreatDoor
