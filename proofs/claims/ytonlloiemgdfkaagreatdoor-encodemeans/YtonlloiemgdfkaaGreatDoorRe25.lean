/- Steps of the proof: EncClause, EncSome, Filled, EncAll, EncBound. -/
import Derived.Test.YtonlloiemgdfkaaGreatDoorRe19
import Derived.Test.YtonlloiemgdfkaaGreatDoorRe16
import Derived.Deep.RegionLaw
import Derived.Laws.AppendOwnNone
import Derived.Laws.OwnMore
import Derived.Deep.LoopGhost
import Derived.Test.YtonlloiemgdfkaaGreatDoorRe13
import Derived.OwnWalk
import Derived.BigQuiet
import Derived.Deep.RegionHeld3
set_option maxHeartbeats 16000000
set_option maxRecDepth 100000
namespace Go.Proofs.YtonlloiemgdfkaaGreatDoor.Cn
open Go.RowKit Go.Lib
theorem aCf {w w':World} (k:aA w.drew w'):aA w w':=(aA.drew (aA.refl w)).trans k
theorem DM.cell {x:DD} {L:Nat} {s:DS} {w:World} (h:DM x L s w) (o:Nat):w.cell? ⟨x.b,o,none⟩=(x.box s.n)[o]? :=h.box.facts.1 o
theorem gB (x:DD) (L:Nat) (s:DS) (Q:Nat->Prop) (l:List Int) (p:Option Addr) (n cap:Nat) (w:World) (hln:l.length=n) (h:DM x L s w) (hQ : ∀ b,Q b->b<w.heap.size) (hl:aG Q w l (.slice p n cap)) (hlen:l.length<=1000) (hc:s.cl.length<=1000000) :
  Calls Tryz.prog 106 #[.pointer (some ⟨x.b,0,none⟩),.slice p n cap] w fun e w'=>e=.returned (.tuple #[])/\∃ v c,DM (x.to v x.np c) L (s.clause l) w'/\aF x.own (x.to v x.np c).own w w':=by
 subst hln
 obtain ⟨i0,hi,hz0,hz1,hz2⟩:=info_parts aIl
 have HD:=hid h
 have HLL:=hid h.L
 have HNE:=hid h.ne
 have HL:=hid hl
 obtain ⟨ap,ac,hav⟩:=h.row.shape
 have HAV:=hid hav
 have hb5:w.cell? ⟨x.b,5,none⟩=some (.slice ap s.cl.length ac):=(h.cell 5).trans (congrArg some hav)
 have hbl:=h.box.facts.2.2
 clear h hl hav
 go_enter Tryz.func106,Tryz.ntmps106
 go_region_law (first
  | (refine bC rfl _ _ 31 rfl L 168 i0 (.slice none 0 0) 1 24 Tryz.underlying31 hi hz0 hz1 hz2 rfl (by decide) (.slice ap s.cl.length ac) s.cl.length vs rfl (OW1.out.alloc _) ⟨w1.heap.size,0,none⟩ 1 1 [.slice qp l.length qc] rfl rfl dC gN (by unfold maxLen;omega) (by omega) (by have:=aC w1 (.cells #[.slice qp l.length qc] 168);omega) ?_
     intro v5 w5 h1 h2 h4
     obtain ⟨g5,cap5,rfl⟩:=aZ h1 (Nat.succ_pos _)
     have P5:=hid (D1.out.push VL.out VN.out HU1.out U1.out (HAV.out ▸ cF h2) (HAV.out ▸ pL h4) h1)
     have B5:aD x.b 161 (x.box s.n) w5:=(by
      have hk:w5.heap[x.b]? = w1.heap[x.b]? :=(cF h2).block x.b hbl1 (fun e=>HNE.out.1 (HAV.out ▸ e.symm))
      have:=D1.out.box
      unfold aD at *
      rw [hk];exact this)
     obtain ⟨hbc5,hbf5,hbl5⟩:=B5.facts
     have hc55:w5.cell? ⟨x.b,5,none⟩=some (.slice ap s.cl.length ac):=(hbc5 5).trans (congrArg some HAV.out)
     have hf55:=hbf5 5
     clear hbc5 hbf5 B5 h1 h2 h4)
  | (go_simp;go_at_call 28;refine (jV Q l p cap _ (fun b hb=>by have:=hQ b hb;simpa using this) (HL.out.keep (B:=w.heap.size) hQ (aA.drew (aA.refl w))) (by omega)).mono ?_
     rintro e w1 ⟨u1,rfl,ho1,k1⟩
     obtain ⟨qp,qc,rfl⟩:=ho1.ints.len
     have K1:=hid (aCf k1)
     have D1:=hid (HD.out.keep K1.out)
     have U1:=hid (ho1.nums (by omega))
     have HU1:=hid (show ∀ c,w.drew.heap.size<=c/\c<w1.heap.size->L<=c/\c<w1.heap.size/\¬ x.own c from fun b hb=>⟨by have:=HLL.out;have:=hb.1;simp at this;omega,hb.2,fun ho=>by have:=(HD.out.lt ho).2;have:=hb.1;simp at this;omega⟩)
     obtain ⟨vs,hvl,how,hvn⟩:=D1.out.row
     have VL:=hid hvl
     have OW1:=hid (HAV.out ▸ how)
     have VN:=hid hvn
     have hb51:w1.cell? ⟨x.b,5,none⟩=some (.slice ap s.cl.length ac):=(D1.out.cell 5).trans (congrArg some HAV.out)
     have hbl1:=D1.out.box.facts.2.2
     have hL1:L<=w1.heap.size:=D1.out.L
     clear ho1 k1 hvl how hvn
     go_simp))
 all_goals
  have HQ:=hid P5.out
  go_wp2_with fail
  refine bodyPost_end (results_none rfl _ _ _) rfl ?_
  refine ⟨rfl,_,_,HQ.out.1,?_⟩
  exact (show aF x.own (fun b=>x.own b∨(w.drew.heap.size<=b/\b<w1.heap.size)) w w1 from ⟨K1.out.os,K1.out.tape,K1.out.output,K1.out.size,fun b hb _=>K1.out.block b hb,fun b hb=>hb.imp id fun h=>h.1⟩).trans HQ.out.2
def iW (s:DS) (l:List Int) (j:Nat):DS:=⟨s.n+1,s.cl++(l.take j).map (fun x=> [(s.n:Int)+1,-x]),s.pr⟩
theorem aJk (s:DS) (l:List Int):iW s l 0=⟨s.n+1,s.cl,s.pr⟩:=by simp [iW]
theorem aJj {s:DS} {l:List Int} {j:Nat} {z:Int} (h:l[j]? = some z):(iW s l j).clause [(s.n:Int)+1,-z]=iW s l (j+1):=by
 obtain ⟨hj,rfl⟩:=List.getElem?_eq_some_iff.1 h
 unfold iW DS.clause
 simp only
 rw [List.take_succ_eq_append_getElem hj,List.map_append,List.append_assoc]
 rfl
theorem yK {s:DS} {l:List Int} (h:l.length≠1):(iW s l l.length).clause (-((s.n:Int)+1) :: l)=s.someS l:=by
 unfold iW DS.clause DS.someS
 rw [if_neg h,List.take_length]
theorem oY (w:World) (a b:Int):aG (fun c=>c=w.heap.size) (w.alloc (.cells #[.int .i64 a,.int .i64 b] 3)) [a,b] (.slice (some ⟨w.heap.size,0,none⟩) 2 2):=by
 refine ⟨_,2,rfl,by simp,fun _=>⟨w.heap.size,0,rfl,rfl,fun j x hx=> ?_⟩⟩
 have hb:=(aD.new w 3 #[.int .i64 a,.int .i64 b]).facts.1 (0+j)
 rw [hb]
 match j,hx with
 | 0,hx=>cases hx;rfl
 | 1,hx=>cases hx;rfl
theorem aFy (w:World) (a:Int):aG (fun c=>c=w.heap.size) (w.alloc (.cells #[.int .i64 a] 3)) [a] (.slice (some ⟨w.heap.size,0,none⟩) 1 1):=by
 refine ⟨_,1,rfl,by simp,fun _=>⟨w.heap.size,0,rfl,rfl,fun j x hx=> ?_⟩⟩
 have hb:=(aD.new w 3 #[.int .i64 a]).facts.1 (0+j)
 rw [hb]
 match j,hx with
 | 0,hx=>cases hx;rfl
theorem aGp (x:DD) (L:Nat) (s:DS) (Q:Nat->Prop) (l:List Int) (p:Option Addr) (n cap:Nat) (w:World) (hln:l.length=n) (hnil:p=none->cap=0) (h:DM x L s w) (hQ : ∀ b,Q b->b<w.heap.size/\¬ x.own b) (hl:aG Q w l (.slice p n cap)) (hlen:l.length<=900) (hc:s.cl.length<=500000) (hn:s.n<=500000) (hsm : ∀ y∈l,y.natAbs<=900000) :
  Calls Tryz.prog 166 #[.pointer (some ⟨x.b,0,none⟩),.slice p n cap] w fun e w'=>e=.returned (.int .i64 (s.someL l))/\∃ v c,DM (x.to v x.np c) L (s.someS l) w'/\aF x.own (x.to v x.np c).own w w':=by
 subst hln
 by_cases h1:l.length=1
 ·obtain ⟨y,rfl⟩:=List.length_eq_one_iff.1 h1
  have HD:=hid h
  obtain ⟨lb,lo,hp,hQb,hlc⟩:=hl.nth (k:=0) (by simp)
  subst hp
  have hc0:w.cell? ⟨lb,lo,none⟩=some (.int .i64 y):=hlc 0 y rfl
  have hlb:=(hQ lb hQb).1
  clear hl hlc h h1 hsm hlen
  go_enter Tryz.func166,Tryz.ntmps166
  go_wp2_with fail
  go_ret
  refine ⟨by simp [DS.someL],x.cv,x.cs,?_,aF.refl _ _⟩
  have:s.someS [y]=s:=by simp [DS.someS]
  rw [this];exact HD.out
 ·have HD:=hid h
  have HL:=hid hl
  have HQ:=hid hQ
  have HSM:=hid hsm
  have H1:=hid h1
  have he1:((l.length:Int)==1)=false:=by simpa using (show ¬ (l.length:Int)=1 by omega)
  have hb4:w.cell? ⟨x.b,4,none⟩=some (.int .i64 s.n):=h.cell 4
  have hf4:=h.box.facts.2.1 4
  have hbl:=h.box.facts.2.2
  have HV:=hid (h.vars (n:=s.n+1) (Nat.le_succ _))
  have hcast:((s.n+1:Nat):Int)=(s.n:Int)+1:=by omega
  rw [hcast] at HV
  clear h hl hsm h1 hQ hcast
  go_enter Tryz.func166,Tryz.ntmps166
  go_upto_region 4 with fail
  refine bH (fun W'=>DM x L ⟨s.n+1,s.cl,s.pr⟩ W'/\aF x.own x.own w W') ?_ ?_
  ·exact HV.out
  rintro W1 ⟨d1,t1⟩
  have D1:=hid d1
  have T1:=hid t1
  have hb4:W1.cell? ⟨x.b,4,none⟩=some (.int .i64 ((s.n:Int)+1)):=(d1.cell 4).trans (by show some (Value.int .i64 ((s.n+1:Nat):Int))=_;rw [show ((s.n+1:Nat):Int)=(s.n:Int)+1 by omega])
  have hbl:=d1.box.facts.2.2
  clear d1 t1 HV hf4
  go_wp2_with fail
  go_loopg [30] l.length (fun gk iv wr=> ∃ (j:Nat) (v:Value) (cc:Nat->Prop),j+gk=l.length/\iv=.int .i64 j/\DM (x.to v x.np cc) L (iW s l j) wr/\aF x.own (x.to v x.np cc).own w wr)
  case atStart=>exact ⟨0,x.cv,x.cs,by omega,rfl,by rw [aJk];exact D1.out,T1.out⟩
  case round=>
   obtain ⟨j,v,cc,hj,rfl,hd,ht⟩:=hrel
   have D2:=hid hd
   have T2:=hid ht
   clear hd ht D1 T1 hb4 hbl
   have HL2:=hid (HL.out.turn T2.out HQ.out)
   by_cases hlt:j<l.length
   ·obtain ⟨lb,lo,rfl,hQb,hlc⟩:=HL2.out.nth hlt
    have hcj:=hlc j _ (List.getElem?_eq_getElem hlt)
    have HJ:=hid (List.getElem?_eq_getElem hlt)
    have hz:=HSM.out l[j] (List.getElem_mem hlt)
    have hlb:=Nat.lt_of_lt_of_le (HQ.out lb hQb).1 T2.out.size
    generalize l[j]=z at hcj HJ hz
    have hz1 : -900000<=z:=by omega
    have hz2:z<=900000:=by omega
    have hjI:(j:Int)<(l.length:Int):=by omega
    clear hlc hz
    go_wp2_with fail
    have HS:=hid (show (iW s l j).cl.length<=1000000 by simp [iW];omega)
    refine aP (fun W'=>DM (x.to v x.np cc) L (iW s l j) W'/\aF (x.to v x.np cc).own (x.to v x.np cc).own wr W'/\aG (fun c=>c=wr.heap.size) W' [(s.n:Int)+1,-z] (.slice (some ⟨wr.heap.size,0,none⟩) 2 2)/\wr.heap.size<W'.heap.size) ⟨D2.out.keep (aA.alloc _ _),aF.keep (aA.alloc _ _),oY _ _ _,by rw [aC];omega⟩ ?_
    rintro W3 ⟨d3,t3,n3,s3⟩
    refine (gB (x.to v x.np cc) L (iW s l j) (fun c=>c=wr.heap.size) [(s.n:Int)+1,-z] _ 2 2 W3 rfl d3 (fun b hb=>by omega) n3 (by simp) HS.out).mono ?_
    rintro e w4 ⟨rfl,v4,c4,d4,t4⟩
    rw [aJj HJ.out] at d4
    have D4:=hid d4
    have T4:=hid ((T2.out.trans t3).trans t4)
    clear d3 t3 n3 s3 d4 t4
    go_wp2_with fail
    go_roundg (l.length-(j+1))
    case rel=>exact ⟨j+1,v4,c4,by omega,by go_num,D4.out,T4.out⟩
    case measure=>omega
   ·obtain rfl:j=l.length:=by omega
    obtain ⟨i0,hi,hz0,hz1,hz2⟩:=info_parts dN
    have HS:=hid (show (iW s l l.length).cl.length<=1000000 by simp [iW];omega)
    have HL3:=hid (show ∀ ad,p=some ad->∀ j u,(l.map (Value.int .i64))[j]? = some u->(wr.alloc (.cells #[.int .i64 (-((s.n:Int)+1))] 3)).cell? (ad.add j)=some u from fun ad hp=>aAn (hp ▸ HL2.out) _ (fun b hb=>Nat.lt_of_lt_of_le (HQ.out b hb).1 T2.out.size))
    have HONE:=hid (show ∀ u∈l.map (Value.int .i64),u.oneCell'=true by intro u hu;obtain ⟨z,-,rfl⟩:=List.mem_map.1 hu;rfl)
    have HLEN:=hid (show (l.map (Value.int .i64)).length=l.length*1 by simp)
    have OW:=hid (World.ownsRow_lit (base:=wr.heap.size) (e:=3) (size:=1) wr #[.int .i64 (-((s.n:Int)+1))] 1 (Nat.le_refl _) (by unfold maxLen;omega) rfl)
    obtain ⟨news,hnews⟩ : ∃ news,news=l.map (Value.int .i64):=⟨_,rfl⟩
    have HNEWS:=hid hnews
    rw [← hnews] at HL3 HONE HLEN
    clear hnews
    cases p with
    | none=>
     obtain rfl:l = []:=by
      rcases Nat.eq_zero_or_pos l.length with h0 | h0
      ·exact List.length_eq_zero_iff.1 h0
      ·obtain ⟨b,off,hp,-⟩:=HL2.out.nth (k:=0) h0
       cases hp
     obtain rfl:=hnil rfl
     go_wp2_with (at_builtin;refine wpList_append_own_none rfl _ _ 27 rfl wr.heap.size 3 i0 1 Tryz.underlying27 hi (.slice (some ⟨wr.heap.size,0,none⟩) 1 1) 1 _ rfl OW.out rfl ?_)
     refine aP (fun W'=>DM (x.to v x.np cc) L (iW s [] 0) W'/\aF (x.to v x.np cc).own (x.to v x.np cc).own wr W'/\aG (fun c=>c=wr.heap.size) W' [-((s.n:Int)+1)] (.slice (some ⟨wr.heap.size,0,none⟩) 1 1)/\wr.heap.size<W'.heap.size) ⟨D2.out.keep (aA.alloc _ _),aF.keep (aA.alloc _ _),aFy _ _,by rw [aC];omega⟩ ?_
     rintro W3 ⟨d3,t3,n3,s3⟩
     refine (gB (x.to v x.np cc) L (iW s [] 0) (fun c=>c=wr.heap.size) [-((s.n:Int)+1)] _ 1 1 W3 rfl d3 (fun b hb=>by omega) n3 (by simp) HS.out).mono ?_
     rintro e w4 ⟨rfl,v4,c4,d4,t4⟩
     have D4:=hid (yK H1.out ▸ d4)
     have T4:=hid ((T2.out.trans t3).trans t4)
     clear d3 t3 n3 s3 d4 t4
     go_wp2_with fail
     go_ret
     exact ⟨by simp [DS.someL],v4,c4,D4.out,T4.out⟩
    | some ad=>
     go_wp2_with (at_builtin;refine wpList_append_own_at _ rfl _ _ 27 rfl wr.heap.size 3 i0 (.int .i64 0) 1 8 Tryz.underlying27 hi hz0 hz1 hz2 rfl (by decide) (.slice (some ⟨wr.heap.size,0,none⟩) 1 1) 1 [.int .i64 (-((s.n:Int)+1))] rfl OW.out ad l.length cap news rfl HLEN.out (HL3.out ad rfl) HONE.out (by unfold maxLen;omega) (by omega) (by rw [aC];omega) ?_;intro v5 w5 h1 h2 _ h4)
     obtain ⟨g5,cap5,rfl⟩:=aZ h1 (by omega)
     have k5:aA wr w5:=Below.grown ((Below.refl wr.heap.size wr).alloc (Nat.le_refl _) _) h2 (by rw [aC];omega) (fun g hg=>by cases hg;exact Nat.le_refl _)
     have HO:Hid (aU wr.heap.size (.slice (some ⟨g5,0,none⟩) (1+l.length) cap5) (-((s.n:Int)+1) :: l) w5):=by
      show World.ownsRow _ _ _ _ _ _ _
      rw [List.length_cons,List.map_cons,show l.length+1=1+l.length by omega,← HNEWS.out]
      exact h1
     clear h1 h2 h4
     refine (gB (x.to v x.np cc) L (iW s l l.length) (fun b=>wr.heap.size<=b/\b<w5.heap.size) (-((s.n:Int)+1) :: l) _ _ _ w5 (by rw [List.length_cons];omega) (D2.out.keep k5) (fun b hb=>hb.2) (HO.out.nums (by rw [List.length_cons];omega)) (by rw [List.length_cons];omega) HS.out).mono ?_
     rintro e w4 ⟨rfl,v4,c4,d4,t4⟩
     have D4:=hid (yK H1.out ▸ d4)
     have T4:=hid ((T2.out.trans (aF.keep k5)).trans t4)
     clear d4 t4 k5
     go_wp2_with fail
     go_ret
     exact ⟨by simp [DS.someL,H1.out],v4,c4,D4.out,T4.out⟩
theorem aQa:(Tryz.prog.info? 4).map (fun i=>(i.zero,i.size,i.bytes))=some (some (.bool false),1,1):=by kernel_rfl
theorem jM {w w':World} (h:w.grownBy w' none):aA w w':=⟨h.os,h.tape,h.output,h.size,fun b hb=>h.block b hb (by simp)⟩
def cQ (f:Int->Value) (A:List Int) (j:Nat) (b:Nat) (T:TypeId) (w:World):Prop:= ∃ cs:List Value,cs.length=A.length/\(∀ (i:Nat) x,i<j->A[i]? = some x->cs[i]? = some (f x))/\aD b T cs.toArray w
theorem cQ.start {f:Int->Value} {A:List Int} {b:Nat} {T:TypeId} {w:World} {z:Value} (h:aD b T (List.replicate A.length z).toArray w):cQ f A 0 b T w:=⟨_,by simp,fun i x hi=>by omega,h⟩
theorem cQ.cell {f:Int->Value} {A:List Int} {j b:Nat} {T:TypeId} {w:World} (h:cQ f A j b T w) {i:Nat} (hi:i<A.length):(∃ v,w.cell? ⟨b,i,none⟩=some v)/\w.frozen? ⟨b,i,none⟩=false/\b<w.heap.size:=by
 obtain ⟨cs,h1,-,h3⟩:=h
 obtain ⟨a,c,d⟩:=h3.facts
 refine ⟨⟨cs[i]'(by omega),?_⟩,c i,d⟩
 rw [a];simp [h1,hi]
theorem cQ.next {f:Int->Value} {A:List Int} {j b:Nat} {T:TypeId} {w:World} {x:Int} (h:cQ f A j b T w) (hx:A[j]? = some x):cQ f A (j+1) b T (w.setCell ⟨b,j,none⟩ (f x)):=by
 obtain ⟨cs,h1,h2,h3⟩:=h
 have hj:=(List.getElem?_eq_some_iff.1 hx).1
 refine ⟨cs.set j (f x),by simp [h1],fun i y hi hy=> ?_,?_⟩
 ·by_cases e:j=i
  ·subst e
   rw [hx] at hy;cases hy
   rw [List.getElem?_set_self (by omega)]
  ·rw [List.getElem?_set_ne e]
   exact h2 i y (by omega) hy
 ·have:=h3.set j (f x)
  rwa [List.setIfInBounds_toArray] at this
theorem cQ.all {f:Int->Value} {A:List Int} {b:Nat} {T:TypeId} {w:World} (h:cQ f A A.length b T w) : ∀ (i:Nat) x,A[i]? = some x->w.cell? ⟨b,i,none⟩=some (f x):=fun i x hx=>by
 obtain ⟨cs,h1,h2,h3⟩:=h
 rw [h3.facts.1]
 have:=h2 i x (List.getElem?_eq_some_iff.1 hx).1 hx
 simpa using this
theorem cQ.lt {f:Int->Value} {A:List Int} {j b:Nat} {T:TypeId} {w:World} (h:cQ f A j b T w):b<w.heap.size:=by
 obtain ⟨cs,-,-,h3⟩:=h;exact h3.facts.2.2
theorem aRu {s:DS} {l:List Int} (hn:s.n<=500000) (h : ∀ y∈l,y.natAbs<=900000):(s.someL l).natAbs<=900000:=by
 unfold DS.someL
 split
 ·rename_i h1
  obtain ⟨y,rfl⟩:=List.length_eq_one_iff.1 h1
  exact h y List.mem_cons_self
 ·omega
theorem cQ.nums {f:Int->Int} {l:List Int} {b:Nat} {w:World} (h:cQ (fun x=> .int .i64 (f x)) l l.length b 3 w) (hl:l.length<=1000000):aG (fun c=>c=b) w (l.map f) (.slice (some ⟨b,0,none⟩) l.length l.length):=by
 refine ⟨_,l.length,by rw [List.length_map],by rw [List.length_map];omega,fun _=>⟨b,0,rfl,rfl,fun i x hx=> ?_⟩⟩
 rw [Nat.zero_add]
 rw [List.getElem?_map] at hx
 cases e:l[i]? with
 | none=>rw [e] at hx;cases hx
 | some y=>
  rw [e] at hx
  cases hx
  exact h.all i y e
theorem aKc (x:DD) (L:Nat) (s:DS) (Q:Nat->Prop) (l:List Int) (p:Option Addr) (n cap:Nat) (w:World) (hln:l.length=n) (h:DM x L s w) (hQ : ∀ b,Q b->b<w.heap.size) (hl:aG Q w l (.slice p n cap)) (hlen:l.length<=900) (hc:s.cl.length<=500000) (hn:s.n<=500000) (hsm : ∀ y∈l,y.natAbs<=900000) :
  Calls Tryz.prog 167 #[.pointer (some ⟨x.b,0,none⟩),.slice p n cap] w fun e w'=>e=.returned (.int .i64 (s.allL l))/\∃ v c,DM (x.to v x.np c) L (s.allS l) w'/\aF x.own (x.to v x.np c).own w w':=by
 subst hln
 obtain ⟨i0,hi,hz0,hz1,hz2⟩:=info_parts dN
 have HD:=hid h
 have HL:=hid hl
 have HQ:=hid hQ
 have HSM:=hid hsm
 have hbl:=h.box.facts.2.2
 clear h hl hQ hsm
 go_enter Tryz.func167,Tryz.ntmps167
 go_wp2_with (at_make;refine wpList_make_full _ rfl _ _ 27 rfl w.heap.size 3 i0 (.int .i64 0) 1 Tryz.underlying27 hi hz0 hz1 .i64 .i64 (l.length:Int) (l.length:Int) l.length rfl rfl rfl rfl (by rw [hz2];omega) (by unfold maxLen;omega) (Nat.le_refl _) ?_;intro w1 h1 h2;have K1:=hid (jM h2);have F1:=hid (cQ.start (f:=fun x=> .int .i64 (-x)) (A:=l) (fK (v:= .int .i64 0) rfl h1));clear h1 h2)
 go_loopg [13] l.length (fun gk iv wr=> ∃ j:Nat,j+gk=l.length/\iv=.int .i64 j/\aA w wr/\cQ (fun x=> .int .i64 (-x)) l j w.heap.size 3 wr)
 case atStart=>exact ⟨0,by omega,rfl,K1.out,F1.out⟩
 case round=>
  obtain ⟨j,hj,rfl,hk,hf⟩:=hrel
  have K2:=hid hk
  have F2:=hid hf
  clear hk hf K1 F1
  by_cases hlt:j<l.length
  ·obtain ⟨cb,co,rfl,hcb,hcc⟩:=(HL.out.keep HQ.out K2.out).nth hlt
   have hc1:=hcc j _ (List.getElem?_eq_getElem hlt)
   have hx:=HSM.out l[j] (List.getElem_mem hlt)
   have HX:=hid (List.getElem?_eq_getElem hlt)
   have hcl:=Nat.lt_of_lt_of_le (HQ.out cb hcb) K2.out.size
   obtain ⟨⟨v0,hv0⟩,hfr,hbl2⟩:=F2.out.cell hlt
   generalize l[j]=z at hc1 hx HX
   have hz1' : -900000<=z:=by omega
   have hz2':z<=900000:=by omega
   have hjI:(j:Int)<(l.length:Int):=by omega
   clear hcc hx
   have F3:=hid (F2.out.next HX.out)
   have K3:=hid (show aA w (wr.setCell ⟨w.heap.size,j,none⟩ (.int .i64 (-z))) from Below.trans K2.out (aN wr w.heap.size j _))
   go_wp2_with fail
   go_roundg (l.length-(j+1))
   case rel=>exact ⟨j+1,by omega,by go_num,K3.out,F3.out⟩
   case measure=>omega
  ·obtain rfl:j=l.length:=by omega
   have HS:=hid (show ∀ y∈l.map (fun x=> -x),y.natAbs<=900000 by intro y hy;obtain ⟨z,hz,rfl⟩:=List.mem_map.1 hy;have:=HSM.out z hz;omega)
   go_wp2_with fail
   refine (aGp x L s (fun c=>c=w.heap.size) (l.map fun x=> -x) (some ⟨w.heap.size,0,none⟩) l.length l.length wr (by simp) (by intro hh;cases hh) (HD.out.keep K2.out) (fun b hb=>by subst hb;exact ⟨F2.out.lt,fun ho=>by have:=(HD.out.lt ho).2;omega⟩) (F2.out.nums (f:=fun x=> -x) (by omega)) (by simpa using hlen) hc hn HS.out).mono ?_
   rintro e w4 ⟨rfl,v4,c4,d4,t4⟩
   have D4:=hid d4
   have T4:=hid ((aF.keep K2.out).trans t4)
   have hr:=aRu hn HS.out
   have HR:Hid (s.allL l = -s.someL (l.map fun x=> -x)):=rfl
   have HSS:Hid (s.allS l=s.someS (l.map fun x=> -x)):=rfl
   generalize s.someL (l.map fun x=> -x)=r at hr HR ⊢
   have hr1 : -900000<=r:=by omega
   have hr2:r<=900000:=by omega
   clear d4 t4 hr
   go_wp2_with fail
   go_ret
   exact ⟨by rw [HR.out];rfl,v4,c4,HSS.out ▸ D4.out,T4.out⟩
theorem kC {w w':World} {g:Nat} (h:w.grownBy w' (some g)) {b o:Nat} (hb:b<w.heap.size) (hne:b≠g):w'.cell? ⟨b,o,none⟩=w.cell? ⟨b,o,none⟩:=World.cell?_of_block (w:=w) (h.block b hb (fun e=>hne (Option.some.inj e)))
theorem aOw (s:DS) (a b:Int):(s.allS [a,b]).n=s.n+1/\(s.allS [a,b]).pr=s.pr/\(s.allS [a,b]).cl.length=s.cl.length+3:=by simp [DS.allS,DS.someS]
theorem aOv (s:DS) (a b:Int):s.allL [a,b] = -((s.n:Int)+1):=by simp [DS.allL,DS.someL]
theorem aPi (x:DD) (L:Nat) (s:DS) (a b:Int) (w:World) (h:DM x L s w) (ha:a.natAbs<=900000) (hb:b.natAbs<=900000) (hc:s.cl.length<=500000) (hn:s.n<=500000) :
  Calls Tryz.prog 163 #[.pointer (some ⟨x.b,0,none⟩),.int .i64 a,.int .i64 b] w fun e w'=>e=.returned (.int .i64 (s.bothL a b))/\∃ v k c,DM (x.to v k c) L (s.bothS a b) w'/\aF x.own (x.to v k c).own w w':=by
 have HD:=hid h
 have hsa:SmP a:=by unfold SmP;omega
 have hsb:SmP b:=by unfold SmP;omega
 have und:Tryz.prog.underlying 156=some (.map 105 3):=Tryz.underlying156
 clear h
 go_enter Tryz.func163,Tryz.ntmps163
 go_upto_region 2 with fail
 refine bH (fun W'=>aA w W'/\aD w.heap.size 105 #[.int .i64 a,.int .i64 b] W') ⟨aA.alloc _ _,aD.new _ _ _⟩ ?_
 rintro W1 ⟨k1,b1⟩
 have K1:=hid k1
 have B1:=hid b1
 have D1:=hid (HD.out.keep k1)
 clear k1 b1
 have hb6:W1.cell? ⟨x.b,6,none⟩=some (.map (some x.g2)):=D1.out.cell 6
 have hbl:x.b<W1.heap.size:=D1.out.box.facts.2.2
 have hp0:W1.cell? ⟨w.heap.size,0,none⟩=some (.int .i64 a):=B1.out.facts.1 0
 have hp1:W1.cell? ⟨w.heap.size,1,none⟩=some (.int .i64 b):=B1.out.facts.1 1
 have hpl:=B1.out.facts.2.2
 have hlk : ∀ n,(Instr.lookup 156 (.map (some x.g2)) (.agg #[.int .i64 a,.int .i64 b]) false).run Tryz.prog (W1.drewN n)=.ok (.int .i64 (s.pr a b)) (W1.drewN n):=fun n=>(D1.out.keep ((aA.refl W1).drewN n)).pr.look und hsa hsb
 have HBS:Hid (s.bothS a b=if s.pr a b=0 then ⟨(s.allS [a,b]).n,(s.allS [a,b]).cl,gO s.pr a b (s.allL [a,b])⟩ else s):=rfl
 have HBL:Hid (s.bothL a b=if s.pr a b=0 then s.allL [a,b] else s.pr a b):=rfl
 generalize hpr:s.pr a b=pv at hlk HBS HBL
 by_cases h0:pv=0
 ·subst h0
  go_quiet (fail)
  have k2:aA W1 (W1.drewN nq):=(aA.refl W1).drewN nq
  generalize W1.drewN nq=W2 at k2 ⊢
  have D2:=hid (D1.out.keep k2)
  have K2:=hid (K1.out.trans k2)
  have hb6:W2.cell? ⟨x.b,6,none⟩=some (.map (some x.g2)):=(k2.cell (p:=⟨x.b,6,none⟩) hbl).trans hb6
  have hp0:W2.cell? ⟨w.heap.size,0,none⟩=some (.int .i64 a):=(k2.cell (p:=⟨w.heap.size,0,none⟩) hpl).trans hp0
  have hp1:W2.cell? ⟨w.heap.size,1,none⟩=some (.int .i64 b):=(k2.cell (p:=⟨w.heap.size,1,none⟩) hpl).trans hp1
  have hbl2:x.b<W2.heap.size:=D2.out.box.facts.2.2
  have hpl2:w.heap.size<W2.heap.size:=Nat.lt_of_lt_of_le hpl k2.size
  have HNO:=hid (show ¬ x.own w.heap.size from fun ho=>by have:=(HD.out.lt ho).2;omega)
  clear hlk k2 D1 B1 hbl hpl
  have HS:=hid (show W2.cell? ⟨x.b,6,none⟩=some (.map (some x.g2))/\W2.cell? ⟨w.heap.size,0,none⟩=some (.int .i64 a)/\W2.cell? ⟨w.heap.size,1,none⟩=some (.int .i64 b) from ⟨hb6,hp0,hp1⟩)
  have HSd:=hid (show W2.drew.cell? ⟨x.b,6,none⟩=some (.map (some x.g2))/\W2.drew.cell? ⟨w.heap.size,0,none⟩=some (.int .i64 a)/\W2.drew.cell? ⟨w.heap.size,1,none⟩=some (.int .i64 b) from ⟨hb6,hp0,hp1⟩)
  have HV:=hid (aOv s a b)
  have HAS:=hid (aOw s a b)
  go_upto_region 3 with fail
  go_region_held3 (fun W'=>W'.cell? ⟨x.b,6,none⟩=some (.map (some x.g2))/\W'.cell? ⟨w.heap.size,0,none⟩=some (.int .i64 a)/\W'.cell? ⟨w.heap.size,1,none⟩=some (.int .i64 b))
   (first | with_reducible exact HS.out | with_reducible exact HSd.out | with_reducible exact HS4.out | with_reducible exact HS5.out | go_keep)
   (first | (go_at_call 167;refine (aKc x L s (fun c=>c=W2.drew.heap.size) [a,b] _ 2 2 (W2.drew.alloc (.cells #[.int .i64 a,.int .i64 b] 3)) rfl (D2.out.keep ((aA.drew (aA.refl _)).alloc' _)) (fun c hc=>by rw [hc,aC];omega) (oY _ _ _) (by simp) hc hn (fun y hy=>by simp at hy;rcases hy with rfl | rfl<;>assumption)).mono ?_;rintro e w4 ⟨rfl,v4,c4,d4,t4⟩;have D4:=hid d4;have T4:=hid ((aF.keep ((aA.drew (aA.refl W2)).alloc' _)).trans t4);have HS4:=hid (show w4.cell? ⟨x.b,6,none⟩=some (.map (some x.g2))/\w4.cell? ⟨w.heap.size,0,none⟩=some (.int .i64 a)/\w4.cell? ⟨w.heap.size,1,none⟩=some (.int .i64 b) from ⟨d4.cell 6,(T4.out.cell ⟨w.heap.size,0,none⟩ hpl2 HNO.out).trans HS.out.2.1,(T4.out.cell ⟨w.heap.size,1,none⟩ hpl2 HNO.out).trans HS.out.2.2⟩);obtain ⟨w5,hrun5,hm5,hg5⟩:=d4.pr.put und hsa hsb (v:=s.allL [a,b]) (by rw [HV.out];unfold SmP;omega) (by have h1:=d4.np;rw [HAS.out.1] at h1;have:(x.to v4 x.np c4).np=x.np:=rfl;omega);have HS5:=hid (show w5.cell? ⟨x.b,6,none⟩=some (.map (some x.g2))/\w5.cell? ⟨w.heap.size,0,none⟩=some (.int .i64 a)/\w5.cell? ⟨w.heap.size,1,none⟩=some (.int .i64 b) from ⟨(kC hg5 (b:=x.b) (o:=6) d4.box.facts.2.2 d4.low.2.2).trans HS4.out.1,(kC hg5 (b:=w.heap.size) (o:=0) (Nat.lt_of_lt_of_le hpl2 T4.out.size) (fun e=>HNO.out (.inr (.inr (.inl e))))).trans HS4.out.2.1,(kC hg5 (b:=w.heap.size) (o:=1) (Nat.lt_of_lt_of_le hpl2 T4.out.size) (fun e=>HNO.out (.inr (.inr (.inl e))))).trans HS4.out.2.2⟩);have P5:=hid (d4.put hm5 (by have:=HD.out.np;rw [HAS.out.1];show x.np+1<=_;omega) hg5);have hrun6:(Instr.mapUpdate 156 (.map (some x.g2)) (.agg #[.int .i64 a,.int .i64 b]) (.int .i64 (s.allL [a,b]))).run Tryz.prog w4=.ok () w5:=hrun5;clear d4 t4 hm5 hg5 hrun5))
  have D5:Hid (DM (x.to v4 (x.np+1) c4) L ⟨(s.allS [a,b]).n,(s.allS [a,b]).cl,gO s.pr a b (s.allL [a,b])⟩ w5):=by
   have:=P5.out.1
   rw [HAS.out.2.1] at this
   exact this
  have T5:=hid ((aF.keep K2.out).trans (T4.out.trans P5.out.2))
  have hb6:w5.cell? ⟨x.b,6,none⟩=some (.map (some x.g2)):=HS5.out.1
  have hp0:w5.cell? ⟨w.heap.size,0,none⟩=some (.int .i64 a):=HS5.out.2.1
  have hp1:w5.cell? ⟨w.heap.size,1,none⟩=some (.int .i64 b):=HS5.out.2.2
  have hbl5:x.b<w5.heap.size:=D5.out.box.facts.2.2
  have hpl5:w.heap.size<w5.heap.size:=Nat.lt_of_lt_of_le hpl2 (T4.out.trans P5.out.2).size
  have hlk5 : ∀ n,(Instr.lookup 156 (.map (some x.g2)) (.agg #[.int .i64 a,.int .i64 b]) false).run Tryz.prog (w5.drewN n)=.ok (.int .i64 (s.allL [a,b])) (w5.drewN n):=fun n=>by
   have:=(D5.out.keep ((aA.refl w5).drewN n)).pr.look und hsa hsb
   have e:gO s.pr a b (s.allL [a,b]) a b=s.allL [a,b]:=by simp [gO]
   rw [← e];exact this
  clear hrun6 P5 HS5 HS4 HS HSd D4 T4 D2 hbl2 hpl2
  go_wp2_with fail
  go_quiet (fail)
  have k6:aA w5 (w5.drewN nq):=(aA.refl w5).drewN nq
  generalize w5.drewN nq=W6 at k6 ⊢
  have D6:=hid (D5.out.keep k6)
  have T6:=hid (T5.out.trans (aF.keep k6))
  clear k6
  go_wp2_with fail
  go_ret
  refine ⟨by rw [HBL.out];rfl,v4,x.np+1,c4,?_,T6.out⟩
  rw [HBS.out];exact D6.out
 ·have h0':(pv==0)=false:=by simpa using h0
  go_quiet (fail)
  have k2:aA W1 (W1.drewN nq):=(aA.refl W1).drewN nq
  generalize W1.drewN nq=W2 at k2 ⊢
  have K2:=hid (K1.out.trans k2)
  have hb6:W2.cell? ⟨x.b,6,none⟩=some (.map (some x.g2)):=(k2.cell (p:=⟨x.b,6,none⟩) hbl).trans hb6
  have hp0:W2.cell? ⟨w.heap.size,0,none⟩=some (.int .i64 a):=(k2.cell (p:=⟨w.heap.size,0,none⟩) hpl).trans hp0
  have hp1:W2.cell? ⟨w.heap.size,1,none⟩=some (.int .i64 b):=(k2.cell (p:=⟨w.heap.size,1,none⟩) hpl).trans hp1
  have hbl2:x.b<W2.heap.size:=Nat.lt_of_lt_of_le hbl k2.size
  have hpl2:w.heap.size<W2.heap.size:=Nat.lt_of_lt_of_le hpl k2.size
  have hlk2 : ∀ n,(Instr.lookup 156 (.map (some x.g2)) (.agg #[.int .i64 a,.int .i64 b]) false).run Tryz.prog (W2.drewN n)=.ok (.int .i64 pv) (W2.drewN n):=fun n=>by rw [← hpr];exact (D1.out.keep (k2.trans ((aA.refl W2).drewN n))).pr.look und hsa hsb
  clear hlk k2 hbl hpl
  go_wp2_with fail
  go_quiet (fail)
  have k3:aA W2 (W2.drewN nq):=(aA.refl W2).drewN nq
  generalize W2.drewN nq=W3 at k3 ⊢
  have K3:=hid (K2.out.trans k3)
  clear k3
  go_wp2_with fail
  go_ret
  refine ⟨by rw [HBL.out,if_neg h0];rfl,x.cv,x.np,x.cs,?_,aF.keep K3.out⟩
  rw [HBS.out,if_neg h0];exact HD.out.keep K3.out
end Go.Proofs.YtonlloiemgdfkaaGreatDoor.Cn
namespace Go.Proofs.YtonlloiemgdfkaaGreatDoor.Cn
def Bd (s:DS) (m c:Nat):Prop:=s.n<=m/\s.cl.length<=c/\∀ a b,(s.pr a b).natAbs<=m
theorem Bd.mono {s:DS} {m c m' c':Nat} (h:Bd s m c) (hm:m<=m') (hc:c<=c'):Bd s m' c':=⟨Nat.le_trans h.1 hm,Nat.le_trans h.2.1 hc,fun a b=>Nat.le_trans (h.2.2 a b) hm⟩
theorem Bd.clause {s:DS} {m c:Nat} (h:Bd s m c) (l:List Int):Bd (s.clause l) m (c+1):=⟨h.1,by have:=h.2.1;show (s.cl ++ [l]).length<=_;simp;omega,h.2.2⟩
theorem Bd.some {s:DS} {m c k:Nat} (h:Bd s m c) {l:List Int} (hl:l.length<=k):Bd (s.someS l) (m+1) (c+k+1):=by
 obtain ⟨h1,h2,h3⟩:=h
 unfold DS.someS
 split
 ·exact ⟨by omega,by omega,fun a b=>Nat.le_trans (h3 a b) (by omega)⟩
 ·exact ⟨by show s.n+1<=_;omega,by simp;omega,fun a b=>Nat.le_trans (h3 a b) (by omega)⟩
theorem Bd.someL {s:DS} {m c:Nat} (h:Bd s m c) {l:List Int} (hl : ∀ y∈l,y.natAbs<=m+1):(s.someL l).natAbs<=m+1:=by
 have:=h.1
 unfold DS.someL
 split
 ·rename_i h1
  obtain ⟨y,rfl⟩:=List.length_eq_one_iff.1 h1
  exact hl y List.mem_cons_self
 ·omega
theorem Bd.all {s:DS} {m c k:Nat} (h:Bd s m c) {l:List Int} (hl:l.length<=k):Bd (s.allS l) (m+1) (c+k+1):=h.some (by simpa using hl)
theorem Bd.allL {s:DS} {m c:Nat} (h:Bd s m c) {l:List Int} (hl : ∀ y∈l,y.natAbs<=m+1):(s.allL l).natAbs<=m+1:=by
 unfold DS.allL
 rw [Int.natAbs_neg]
 exact h.someL fun y hy=>by obtain ⟨z,hz,rfl⟩:=List.mem_map.1 hy;rw [Int.natAbs_neg];exact hl z hz
theorem Bd.both {s:DS} {m c:Nat} (h:Bd s m c) (a b:Int):Bd (s.bothS a b) (m+1) (c+3)/\(s.bothL a b).natAbs<=m+1:=by
 unfold DS.bothS DS.bothL
 by_cases h0:s.pr a b=0
 ·rw [if_pos h0,if_pos h0]
  have e:s.allL [a,b] = -((s.n:Int)+1):=by simp [DS.allL,DS.someL]
  have e2:(s.allS [a,b]).n=s.n+1/\(s.allS [a,b]).cl.length=s.cl.length+3:=by simp [DS.allS,DS.someS]
  have h1:=h.1
  have h2:=h.2.1
  refine ⟨⟨by show (s.allS [a,b]).n<=_;omega,by show (s.allS [a,b]).cl.length<=_;omega,fun p q=> ?_⟩,by rw [e];omega⟩
  show (gO s.pr a b (s.allL [a,b]) p q).natAbs<=_
  unfold gO
  split
  ·rw [e];omega
  ·exact Nat.le_trans (h.2.2 p q) (by omega)
 ·rw [if_neg h0,if_neg h0]
  exact ⟨h.mono (by omega) (by omega),Nat.le_trans (h.2.2 a b) (by omega)⟩
theorem aHh {but:Int} {nof:Bool} {tk fg:Int->Int} : ∀ (zs:List Int) (s:DS) (acc:List Int) (m c:Nat),Bd s m c->(∀ z∈zs,(tk z).natAbs<=m)->(∀ y∈acc,y.natAbs<=m)->
  Bd (zs.foldl (iS but nof tk fg) (s,acc)).1 (m+zs.length) (c+3*zs.length)/\(∀ y∈(zs.foldl (iS but nof tk fg) (s,acc)).2,y.natAbs<=m+zs.length)/\(zs.foldl (iS but nof tk fg) (s,acc)).2.length<=acc.length+zs.length
 | [],s,acc,m,c,h,_,ha=>⟨h,ha,by simp⟩
 | z :: zs,s,acc,m,c,h,ht,ha=>by
  rw [List.foldl_cons,List.length_cons]
  have hz:=ht z List.mem_cons_self
  have ht' : ∀ y∈zs,(tk y).natAbs<=m+1:=fun y hy=>Nat.le_trans (ht y (List.mem_cons_of_mem _ hy)) (by omega)
  have key : ∀ (s':DS) (acc':List Int),Bd s' (m+1) (c+3)->(∀ y∈acc',y.natAbs<=m+1)->acc'.length<=acc.length+1->Bd (zs.foldl (iS but nof tk fg) (s',acc')).1 (m+(zs.length+1)) (c+3*(zs.length+1))/\(∀ y∈(zs.foldl (iS but nof tk fg) (s',acc')).2,y.natAbs<=m+(zs.length+1))/\(zs.foldl (iS but nof tk fg) (s',acc')).2.length<=acc.length+(zs.length+1):=fun s' acc' h1 h2 h3=>by
   obtain ⟨i1,i2,i3⟩:=aHh zs s' acc' (m+1) (c+3) h1 ht' h2
   exact ⟨i1.mono (by omega) (by omega),fun y hy=>Nat.le_trans (i2 y hy) (by omega),by omega⟩
  have ha' : ∀ y∈acc,y.natAbs<=m+1:=fun y hy=>Nat.le_trans (ha y hy) (by omega)
  by_cases e:z=but
  ·have eF:iS but nof tk fg (s,acc) z=(s,acc):=by simp [iS,e]
   rw [eF];exact key s acc (h.mono (by omega) (by omega)) ha' (by omega)
  ·by_cases en:nof=true
   ·have eF:iS but nof tk fg (s,acc) z=(s,acc ++ [tk z]):=by simp [iS,e,en]
    rw [eF]
    refine key s (acc ++ [tk z]) (h.mono (by omega) (by omega)) (fun y hy=> ?_) (by simp)
    rcases List.mem_append.1 hy with hy | hy
    ·exact ha' y hy
    ·rw [List.mem_singleton.1 hy];omega
   ·have eF:iS but nof tk fg (s,acc) z=(s.bothS (tk z) (fg z),acc ++ [s.bothL (tk z) (fg z)]):=by simp [iS,e,en]
    rw [eF]
    obtain ⟨b1,b2⟩:=h.both (tk z) (fg z)
    refine key _ _ b1 (fun y hy=> ?_) (by simp)
    rcases List.mem_append.1 hy with hy | hy
    ·exact ha' y hy
    ·rw [List.mem_singleton.1 hy];exact b2
end Go.Proofs.YtonlloiemgdfkaaGreatDoor.Cn
