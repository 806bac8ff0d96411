/- Steps of the proof: EncSome, Filled, EncAll, EncBound, EncLitsP. -/
import Derived.Test.YthaaaecmeafofaaGreatDoorEs14
import Derived.Laws.AppendOwnNone
import Derived.Laws.OwnMore
import Derived.Deep.LoopGhost
import Derived.Test.YthaaaecmeafofaaGreatDoorEs11
import Derived.OwnWalk
import Derived.BigQuiet
import Derived.Deep.RegionHeld3
set_option maxHeartbeats 16000000
set_option maxRecDepth 100000
namespace Go.Proofs.YthaaaecmeafofaaGreatDoor.Cn
open Go.RowKit Go.Lib
def gD (s:DS) (l:List Int) (j:Nat):DS:=⟨s.n+1,s.cl++(l.take j).map (fun x=> [(s.n:Int)+1,-x]),s.pr⟩
theorem aBj (s:DS) (l:List Int):gD s l 0=⟨s.n+1,s.cl,s.pr⟩:=by simp [gD]
theorem aBi {s:DS} {l:List Int} {j:Nat} {z:Int} (h:l[j]? = some z):(gD s l j).clause [(s.n:Int)+1,-z]=gD s l (j+1):=by
 obtain ⟨hj,rfl⟩:=List.getElem?_eq_some_iff.1 h
 unfold gD DS.clause
 simp only
 rw [List.take_succ_eq_append_getElem hj,List.map_append,List.append_assoc]
 rfl
theorem sB {s:DS} {l:List Int} (h:l.length≠1):(gD s l l.length).clause (-((s.n:Int)+1) :: l)=s.someS l:=by
 unfold gD DS.clause DS.someS
 rw [if_neg h,List.take_length]
theorem lE (w:World) (a b:Int):aN (fun c=>c=w.heap.size) (w.alloc (.cells #[.int .i64 a,.int .i64 b] 3)) [a,b] (.slice (some ⟨w.heap.size,0,none⟩) 2 2):=by
 refine ⟨_,2,rfl,by simp,fun _=>⟨w.heap.size,0,rfl,rfl,fun j x hx=> ?_⟩⟩
 have hb:=(aG.new w 3 #[.int .i64 a,.int .i64 b]).facts.1 (0+j)
 rw [hb]
 match j,hx with
 | 0,hx=>cases hx;rfl
 | 1,hx=>cases hx;rfl
theorem yC (w:World) (a:Int):aN (fun c=>c=w.heap.size) (w.alloc (.cells #[.int .i64 a] 3)) [a] (.slice (some ⟨w.heap.size,0,none⟩) 1 1):=by
 refine ⟨_,1,rfl,by simp,fun _=>⟨w.heap.size,0,rfl,rfl,fun j x hx=> ?_⟩⟩
 have hb:=(aG.new w 3 #[.int .i64 a]).facts.1 (0+j)
 rw [hb]
 match j,hx with
 | 0,hx=>cases hx;rfl
theorem yV (x:DD) (L:Nat) (s:DS) (Q:Nat->Prop) (l:List Int) (p:Option Addr) (n cap:Nat) (w:World) (hln:l.length=n) (hnil:p=none->cap=0) (h:DM x L s w) (hQ : ∀ b,Q b->b<w.heap.size/\¬ x.own b) (hl:aN Q w l (.slice p n cap)) (hlen:l.length<=900) (hc:s.cl.length<=500000) (hn:s.n<=500000) (hsm : ∀ y∈l,y.natAbs<=900000) :
  Calls Tryz.prog 140 #[.pointer (some ⟨x.b,0,none⟩),.slice p n cap] w fun e w'=>e=.returned (.int .i64 (s.someL l))/\∃ v c,DM (x.to v x.np c) L (s.someS l) w'/\aO x.own (x.to v x.np c).own w w':=by
 subst hln
 by_cases h1:l.length=1
 ·obtain ⟨y,rfl⟩:=List.length_eq_one_iff.1 h1
  have HD:=hid h
  obtain ⟨lb,lo,hp,hQb,hlc⟩:=hl.nth (k:=0) (by simp)
  subst hp
  have hc0:w.cell? ⟨lb,lo,none⟩=some (.int .i64 y):=hlc 0 y rfl
  have hlb:=(hQ lb hQb).1
  clear hl hlc h h1 hsm hlen
  go_enter Tryz.func140,Tryz.ntmps140
  go_wp2_with fail
  go_ret
  refine ⟨by simp [DS.someL],x.cv,x.cs,?_,aO.refl _ _⟩
  have:s.someS [y]=s:=by simp [DS.someS]
  rw [this];exact HD.out
 ·have HD:=hid h
  have HL:=hid hl
  have HQ:=hid hQ
  have HSM:=hid hsm
  have H1:=hid h1
  have he1:((l.length:Int)==1)=false:=by simpa using (show ¬ (l.length:Int)=1 by omega)
  have hb4:w.cell? ⟨x.b,4,none⟩=some (.int .i64 s.n):=h.cell 4
  have hf4:=h.box.facts.2.1 4
  have hbl:=h.box.facts.2.2
  have HV:=hid (h.vars (n:=s.n+1) (Nat.le_succ _))
  have hcast:((s.n+1:Nat):Int)=(s.n:Int)+1:=by omega
  rw [hcast] at HV
  clear h hl hsm h1 hQ hcast
  go_enter Tryz.func140,Tryz.ntmps140
  go_upto_region 4 with fail
  refine bH (fun W'=>DM x L ⟨s.n+1,s.cl,s.pr⟩ W'/\aO x.own x.own w W') ?_ ?_
  ·exact HV.out
  rintro W1 ⟨d1,t1⟩
  have D1:=hid d1
  have T1:=hid t1
  have hb4:W1.cell? ⟨x.b,4,none⟩=some (.int .i64 ((s.n:Int)+1)):=(d1.cell 4).trans (by show some (Value.int .i64 ((s.n+1:Nat):Int))=_;rw [show ((s.n+1:Nat):Int)=(s.n:Int)+1 by omega])
  have hbl:=d1.box.facts.2.2
  clear d1 t1 HV hf4
  go_wp2_with fail
  go_loopg [30] l.length (fun gk iv wr=> ∃ (j:Nat) (v:Value) (cc:Nat->Prop),j+gk=l.length/\iv=.int .i64 j/\DM (x.to v x.np cc) L (gD s l j) wr/\aO x.own (x.to v x.np cc).own w wr)
  case atStart=>exact ⟨0,x.cv,x.cs,by omega,rfl,by rw [aBj];exact D1.out,T1.out⟩
  case round=>
   obtain ⟨j,v,cc,hj,rfl,hd,ht⟩:=hrel
   have D2:=hid hd
   have T2:=hid ht
   clear hd ht D1 T1 hb4 hbl
   have HL2:=hid (HL.out.turn T2.out HQ.out)
   by_cases hlt:j<l.length
   ·obtain ⟨lb,lo,rfl,hQb,hlc⟩:=HL2.out.nth hlt
    have hcj:=hlc j _ (List.getElem?_eq_getElem hlt)
    have HJ:=hid (List.getElem?_eq_getElem hlt)
    have hz:=HSM.out l[j] (List.getElem_mem hlt)
    have hlb:=Nat.lt_of_lt_of_le (HQ.out lb hQb).1 T2.out.size
    generalize l[j]=z at hcj HJ hz
    have hz1 : -900000<=z:=by omega
    have hz2:z<=900000:=by omega
    have hjI:(j:Int)<(l.length:Int):=by omega
    clear hlc hz
    go_wp2_with fail
    have HS:=hid (show (gD s l j).cl.length<=1000000 by simp [gD];omega)
    refine aV (fun W'=>DM (x.to v x.np cc) L (gD s l j) W'/\aO (x.to v x.np cc).own (x.to v x.np cc).own wr W'/\aN (fun c=>c=wr.heap.size) W' [(s.n:Int)+1,-z] (.slice (some ⟨wr.heap.size,0,none⟩) 2 2)/\wr.heap.size<W'.heap.size) ⟨D2.out.keep (aA.alloc _ _),aO.keep (aA.alloc _ _),lE _ _ _,by rw [aC];omega⟩ ?_
    rintro W3 ⟨d3,t3,n3,s3⟩
    refine (eK (x.to v x.np cc) L (gD s l j) (fun c=>c=wr.heap.size) [(s.n:Int)+1,-z] _ 2 2 W3 rfl d3 (fun b hb=>by omega) n3 (by simp) HS.out).mono ?_
    rintro e w4 ⟨rfl,v4,c4,d4,t4⟩
    rw [aBi HJ.out] at d4
    have D4:=hid d4
    have T4:=hid ((T2.out.trans t3).trans t4)
    clear d3 t3 n3 s3 d4 t4
    go_wp2_with fail
    go_roundg (l.length-(j+1))
    case rel=>exact ⟨j+1,v4,c4,by omega,by go_num,D4.out,T4.out⟩
    case measure=>omega
   ·obtain rfl:j=l.length:=by omega
    obtain ⟨i0,hi,hz0,hz1,hz2⟩:=info_parts fV
    have HS:=hid (show (gD s l l.length).cl.length<=1000000 by simp [gD];omega)
    have HL3:=hid (show ∀ ad,p=some ad->∀ j u,(l.map (Value.int .i64))[j]? = some u->(wr.alloc (.cells #[.int .i64 (-((s.n:Int)+1))] 3)).cell? (ad.add j)=some u from fun ad hp=>uF (hp ▸ HL2.out) _ (fun b hb=>Nat.lt_of_lt_of_le (HQ.out b hb).1 T2.out.size))
    have HONE:=hid (show ∀ u∈l.map (Value.int .i64),u.oneCell'=true by intro u hu;obtain ⟨z,-,rfl⟩:=List.mem_map.1 hu;rfl)
    have HLEN:=hid (show (l.map (Value.int .i64)).length=l.length*1 by simp)
    have OW:=hid (World.ownsRow_lit (base:=wr.heap.size) (e:=3) (size:=1) wr #[.int .i64 (-((s.n:Int)+1))] 1 (Nat.le_refl _) (by unfold maxLen;omega) rfl)
    obtain ⟨news,hnews⟩ : ∃ news,news=l.map (Value.int .i64):=⟨_,rfl⟩
    have HNEWS:=hid hnews
    rw [← hnews] at HL3 HONE HLEN
    clear hnews
    cases p with
    | none=>
     obtain rfl:l = []:=by
      rcases Nat.eq_zero_or_pos l.length with h0 | h0
      ·exact List.length_eq_zero_iff.1 h0
      ·obtain ⟨b,off,hp,-⟩:=HL2.out.nth (k:=0) h0
       cases hp
     obtain rfl:=hnil rfl
     go_wp2_with (at_builtin;refine wpList_append_own_none rfl _ _ 37 rfl wr.heap.size 3 i0 1 Tryz.underlying37 hi (.slice (some ⟨wr.heap.size,0,none⟩) 1 1) 1 _ rfl OW.out rfl ?_)
     refine aV (fun W'=>DM (x.to v x.np cc) L (gD s [] 0) W'/\aO (x.to v x.np cc).own (x.to v x.np cc).own wr W'/\aN (fun c=>c=wr.heap.size) W' [-((s.n:Int)+1)] (.slice (some ⟨wr.heap.size,0,none⟩) 1 1)/\wr.heap.size<W'.heap.size) ⟨D2.out.keep (aA.alloc _ _),aO.keep (aA.alloc _ _),yC _ _,by rw [aC];omega⟩ ?_
     rintro W3 ⟨d3,t3,n3,s3⟩
     refine (eK (x.to v x.np cc) L (gD s [] 0) (fun c=>c=wr.heap.size) [-((s.n:Int)+1)] _ 1 1 W3 rfl d3 (fun b hb=>by omega) n3 (by simp) HS.out).mono ?_
     rintro e w4 ⟨rfl,v4,c4,d4,t4⟩
     have D4:=hid (sB H1.out ▸ d4)
     have T4:=hid ((T2.out.trans t3).trans t4)
     clear d3 t3 n3 s3 d4 t4
     go_wp2_with fail
     go_ret
     exact ⟨by simp [DS.someL],v4,c4,D4.out,T4.out⟩
    | some ad=>
     go_wp2_with (at_builtin;refine wpList_append_own_at _ rfl _ _ 37 rfl wr.heap.size 3 i0 (.int .i64 0) 1 8 Tryz.underlying37 hi hz0 hz1 hz2 rfl (by decide) (.slice (some ⟨wr.heap.size,0,none⟩) 1 1) 1 [.int .i64 (-((s.n:Int)+1))] rfl OW.out ad l.length cap news rfl HLEN.out (HL3.out ad rfl) HONE.out (by unfold maxLen;omega) (by omega) (by rw [aC];omega) ?_;intro v5 w5 h1 h2 _ h4)
     obtain ⟨g5,cap5,rfl⟩:=bQ h1 (by omega)
     have k5:aA wr w5:=Below.grown ((Below.refl wr.heap.size wr).alloc (Nat.le_refl _) _) h2 (by rw [aC];omega) (fun g hg=>by cases hg;exact Nat.le_refl _)
     have HO:Hid (bG wr.heap.size (.slice (some ⟨g5,0,none⟩) (1+l.length) cap5) (-((s.n:Int)+1) :: l) w5):=by
      show World.ownsRow _ _ _ _ _ _ _
      rw [List.length_cons,List.map_cons,show l.length+1=1+l.length by omega,← HNEWS.out]
      exact h1
     clear h1 h2 h4
     refine (eK (x.to v x.np cc) L (gD s l l.length) (fun b=>wr.heap.size<=b/\b<w5.heap.size) (-((s.n:Int)+1) :: l) _ _ _ w5 (by rw [List.length_cons];omega) (D2.out.keep k5) (fun b hb=>hb.2) (HO.out.nums (by rw [List.length_cons];omega)) (by rw [List.length_cons];omega) HS.out).mono ?_
     rintro e w4 ⟨rfl,v4,c4,d4,t4⟩
     have D4:=hid (sB H1.out ▸ d4)
     have T4:=hid ((T2.out.trans (aO.keep k5)).trans t4)
     clear d4 t4 k5
     go_wp2_with fail
     go_ret
     exact ⟨by simp [DS.someL,H1.out],v4,c4,D4.out,T4.out⟩
theorem oH {w w':World} (h:w.grownBy w' none):aA w w':=⟨h.os,h.tape,h.output,h.size,fun b hb=>h.block b hb (by simp)⟩
def dF (f:Int->Value) (A:List Int) (j:Nat) (b:Nat) (T:TypeId) (w:World):Prop:= ∃ cs:List Value,cs.length=A.length/\(∀ (i:Nat) x,i<j->A[i]? = some x->cs[i]? = some (f x))/\aG b T cs.toArray w
theorem dF.start {f:Int->Value} {A:List Int} {b:Nat} {T:TypeId} {w:World} {z:Value} (h:aG b T (List.replicate A.length z).toArray w):dF f A 0 b T w:=⟨_,by simp,fun i x hi=>by omega,h⟩
theorem dF.cell {f:Int->Value} {A:List Int} {j b:Nat} {T:TypeId} {w:World} (h:dF f A j b T w) {i:Nat} (hi:i<A.length):(∃ v,w.cell? ⟨b,i,none⟩=some v)/\w.frozen? ⟨b,i,none⟩=false/\b<w.heap.size:=by
 obtain ⟨cs,h1,-,h3⟩:=h
 obtain ⟨a,c,d⟩:=h3.facts
 refine ⟨⟨cs[i]'(by omega),?_⟩,c i,d⟩
 rw [a];simp [h1,hi]
theorem dF.next {f:Int->Value} {A:List Int} {j b:Nat} {T:TypeId} {w:World} {x:Int} (h:dF f A j b T w) (hx:A[j]? = some x):dF f A (j+1) b T (w.setCell ⟨b,j,none⟩ (f x)):=by
 obtain ⟨cs,h1,h2,h3⟩:=h
 have hj:=(List.getElem?_eq_some_iff.1 hx).1
 refine ⟨cs.set j (f x),by simp [h1],fun i y hi hy=> ?_,?_⟩
 ·by_cases e:j=i
  ·subst e
   rw [hx] at hy;cases hy
   rw [List.getElem?_set_self (by omega)]
  ·rw [List.getElem?_set_ne e]
   exact h2 i y (by omega) hy
 ·have:=h3.set j (f x)
  rwa [List.setIfInBounds_toArray] at this
theorem dF.all {f:Int->Value} {A:List Int} {b:Nat} {T:TypeId} {w:World} (h:dF f A A.length b T w) : ∀ (i:Nat) x,A[i]? = some x->w.cell? ⟨b,i,none⟩=some (f x):=fun i x hx=>by
 obtain ⟨cs,h1,h2,h3⟩:=h
 rw [h3.facts.1]
 have:=h2 i x (List.getElem?_eq_some_iff.1 hx).1 hx
 simpa using this
theorem dF.lt {f:Int->Value} {A:List Int} {j b:Nat} {T:TypeId} {w:World} (h:dF f A j b T w):b<w.heap.size:=by
 obtain ⟨cs,-,-,h3⟩:=h;exact h3.facts.2.2
theorem aIj {s:DS} {l:List Int} (hn:s.n<=500000) (h : ∀ y∈l,y.natAbs<=900000):(s.someL l).natAbs<=900000:=by
 unfold DS.someL
 split
 ·rename_i h1
  obtain ⟨y,rfl⟩:=List.length_eq_one_iff.1 h1
  exact h y List.mem_cons_self
 ·omega
theorem dF.nums {f:Int->Int} {l:List Int} {b:Nat} {w:World} (h:dF (fun x=> .int .i64 (f x)) l l.length b 3 w) (hl:l.length<=1000000):aN (fun c=>c=b) w (l.map f) (.slice (some ⟨b,0,none⟩) l.length l.length):=by
 refine ⟨_,l.length,by rw [List.length_map],by rw [List.length_map];omega,fun _=>⟨b,0,rfl,rfl,fun i x hx=> ?_⟩⟩
 rw [Nat.zero_add]
 rw [List.getElem?_map] at hx
 cases e:l[i]? with
 | none=>rw [e] at hx;cases hx
 | some y=>
  rw [e] at hx
  cases hx
  exact h.all i y e
theorem aBv (x:DD) (L:Nat) (s:DS) (Q:Nat->Prop) (l:List Int) (p:Option Addr) (n cap:Nat) (w:World) (hln:l.length=n) (h:DM x L s w) (hQ : ∀ b,Q b->b<w.heap.size) (hl:aN Q w l (.slice p n cap)) (hlen:l.length<=900) (hc:s.cl.length<=500000) (hn:s.n<=500000) (hsm : ∀ y∈l,y.natAbs<=900000) :
  Calls Tryz.prog 141 #[.pointer (some ⟨x.b,0,none⟩),.slice p n cap] w fun e w'=>e=.returned (.int .i64 (s.allL l))/\∃ v c,DM (x.to v x.np c) L (s.allS l) w'/\aO x.own (x.to v x.np c).own w w':=by
 subst hln
 obtain ⟨i0,hi,hz0,hz1,hz2⟩:=info_parts fV
 have HD:=hid h
 have HL:=hid hl
 have HQ:=hid hQ
 have HSM:=hid hsm
 have hbl:=h.box.facts.2.2
 clear h hl hQ hsm
 go_enter Tryz.func141,Tryz.ntmps141
 go_wp2_with (at_make;refine wpList_make_full _ rfl _ _ 37 rfl w.heap.size 3 i0 (.int .i64 0) 1 Tryz.underlying37 hi hz0 hz1 .i64 .i64 (l.length:Int) (l.length:Int) l.length rfl rfl rfl rfl (by rw [hz2];omega) (by unfold maxLen;omega) (Nat.le_refl _) ?_;intro w1 h1 h2;have K1:=hid (oH h2);have F1:=hid (dF.start (f:=fun x=> .int .i64 (-x)) (A:=l) (nL (v:= .int .i64 0) rfl h1));clear h1 h2)
 go_loopg [13] l.length (fun gk iv wr=> ∃ j:Nat,j+gk=l.length/\iv=.int .i64 j/\aA w wr/\dF (fun x=> .int .i64 (-x)) l j w.heap.size 3 wr)
 case atStart=>exact ⟨0,by omega,rfl,K1.out,F1.out⟩
 case round=>
  obtain ⟨j,hj,rfl,hk,hf⟩:=hrel
  have K2:=hid hk
  have F2:=hid hf
  clear hk hf K1 F1
  by_cases hlt:j<l.length
  ·obtain ⟨cb,co,rfl,hcb,hcc⟩:=(HL.out.keep HQ.out K2.out).nth hlt
   have hc1:=hcc j _ (List.getElem?_eq_getElem hlt)
   have hx:=HSM.out l[j] (List.getElem_mem hlt)
   have HX:=hid (List.getElem?_eq_getElem hlt)
   have hcl:=Nat.lt_of_lt_of_le (HQ.out cb hcb) K2.out.size
   obtain ⟨⟨v0,hv0⟩,hfr,hbl2⟩:=F2.out.cell hlt
   generalize l[j]=z at hc1 hx HX
   have hz1' : -900000<=z:=by omega
   have hz2':z<=900000:=by omega
   have hjI:(j:Int)<(l.length:Int):=by omega
   clear hcc hx
   have F3:=hid (F2.out.next HX.out)
   have K3:=hid (show aA w (wr.setCell ⟨w.heap.size,j,none⟩ (.int .i64 (-z))) from Below.trans K2.out (aX wr w.heap.size j _))
   go_wp2_with fail
   go_roundg (l.length-(j+1))
   case rel=>exact ⟨j+1,by omega,by go_num,K3.out,F3.out⟩
   case measure=>omega
  ·obtain rfl:j=l.length:=by omega
   have HS:=hid (show ∀ y∈l.map (fun x=> -x),y.natAbs<=900000 by intro y hy;obtain ⟨z,hz,rfl⟩:=List.mem_map.1 hy;have:=HSM.out z hz;omega)
   go_wp2_with fail
   refine (yV x L s (fun c=>c=w.heap.size) (l.map fun x=> -x) (some ⟨w.heap.size,0,none⟩) l.length l.length wr (by simp) (by intro hh;cases hh) (HD.out.keep K2.out) (fun b hb=>by subst hb;exact ⟨F2.out.lt,fun ho=>by have:=(HD.out.lt ho).2;omega⟩) (F2.out.nums (f:=fun x=> -x) (by omega)) (by simpa using hlen) hc hn HS.out).mono ?_
   rintro e w4 ⟨rfl,v4,c4,d4,t4⟩
   have D4:=hid d4
   have T4:=hid ((aO.keep K2.out).trans t4)
   have hr:=aIj hn HS.out
   have HR:Hid (s.allL l = -s.someL (l.map fun x=> -x)):=rfl
   have HSS:Hid (s.allS l=s.someS (l.map fun x=> -x)):=rfl
   generalize s.someL (l.map fun x=> -x)=r at hr HR ⊢
   have hr1 : -900000<=r:=by omega
   have hr2:r<=900000:=by omega
   clear d4 t4 hr
   go_wp2_with fail
   go_ret
   exact ⟨by rw [HR.out];rfl,v4,c4,HSS.out ▸ D4.out,T4.out⟩
theorem hJ {w w':World} {g:Nat} (h:w.grownBy w' (some g)) {b o:Nat} (hb:b<w.heap.size) (hne:b≠g):w'.cell? ⟨b,o,none⟩=w.cell? ⟨b,o,none⟩:=World.cell?_of_block (w:=w) (h.block b hb (fun e=>hne (Option.some.inj e)))
theorem aFu (s:DS) (a b:Int):(s.allS [a,b]).n=s.n+1/\(s.allS [a,b]).pr=s.pr/\(s.allS [a,b]).cl.length=s.cl.length+3:=by simp [DS.allS,DS.someS]
theorem aFt (s:DS) (a b:Int):s.allL [a,b] = -((s.n:Int)+1):=by simp [DS.allL,DS.someL]
theorem aGg (x:DD) (L:Nat) (s:DS) (a b:Int) (w:World) (h:DM x L s w) (ha:a.natAbs<=900000) (hb:b.natAbs<=900000) (hc:s.cl.length<=500000) (hn:s.n<=500000) :
  Calls Tryz.prog 137 #[.pointer (some ⟨x.b,0,none⟩),.int .i64 a,.int .i64 b] w fun e w'=>e=.returned (.int .i64 (s.bothL a b))/\∃ v k c,DM (x.to v k c) L (s.bothS a b) w'/\aO x.own (x.to v k c).own w w':=by
 have HD:=hid h
 have hsa:SmP a:=by unfold SmP;omega
 have hsb:SmP b:=by unfold SmP;omega
 have und:Tryz.prog.underlying 132=some (.map 65 3):=Tryz.underlying132
 clear h
 go_enter Tryz.func137,Tryz.ntmps137
 go_upto_region 2 with fail
 refine bH (fun W'=>aA w W'/\aG w.heap.size 65 #[.int .i64 a,.int .i64 b] W') ⟨aA.alloc _ _,aG.new _ _ _⟩ ?_
 rintro W1 ⟨k1,b1⟩
 have K1:=hid k1
 have B1:=hid b1
 have D1:=hid (HD.out.keep k1)
 clear k1 b1
 have hb6:W1.cell? ⟨x.b,6,none⟩=some (.map (some x.g2)):=D1.out.cell 6
 have hbl:x.b<W1.heap.size:=D1.out.box.facts.2.2
 have hp0:W1.cell? ⟨w.heap.size,0,none⟩=some (.int .i64 a):=B1.out.facts.1 0
 have hp1:W1.cell? ⟨w.heap.size,1,none⟩=some (.int .i64 b):=B1.out.facts.1 1
 have hpl:=B1.out.facts.2.2
 have hlk : ∀ n,(Instr.lookup 132 (.map (some x.g2)) (.agg #[.int .i64 a,.int .i64 b]) false).run Tryz.prog (W1.drewN n)=.ok (.int .i64 (s.pr a b)) (W1.drewN n):=fun n=>(D1.out.keep ((aA.refl W1).drewN n)).pr.look und hsa hsb
 have HBS:Hid (s.bothS a b=if s.pr a b=0 then ⟨(s.allS [a,b]).n,(s.allS [a,b]).cl,eW s.pr a b (s.allL [a,b])⟩ else s):=rfl
 have HBL:Hid (s.bothL a b=if s.pr a b=0 then s.allL [a,b] else s.pr a b):=rfl
 generalize hpr:s.pr a b=pv at hlk HBS HBL
 by_cases h0:pv=0
 ·subst h0
  go_quiet (fail)
  have k2:aA W1 (W1.drewN nq):=(aA.refl W1).drewN nq
  generalize W1.drewN nq=W2 at k2 ⊢
  have D2:=hid (D1.out.keep k2)
  have K2:=hid (K1.out.trans k2)
  have hb6:W2.cell? ⟨x.b,6,none⟩=some (.map (some x.g2)):=(k2.cell (p:=⟨x.b,6,none⟩) hbl).trans hb6
  have hp0:W2.cell? ⟨w.heap.size,0,none⟩=some (.int .i64 a):=(k2.cell (p:=⟨w.heap.size,0,none⟩) hpl).trans hp0
  have hp1:W2.cell? ⟨w.heap.size,1,none⟩=some (.int .i64 b):=(k2.cell (p:=⟨w.heap.size,1,none⟩) hpl).trans hp1
  have hbl2:x.b<W2.heap.size:=D2.out.box.facts.2.2
  have hpl2:w.heap.size<W2.heap.size:=Nat.lt_of_lt_of_le hpl k2.size
  have HNO:=hid (show ¬ x.own w.heap.size from fun ho=>by have:=(HD.out.lt ho).2;omega)
  clear hlk k2 D1 B1 hbl hpl
  have HS:=hid (show W2.cell? ⟨x.b,6,none⟩=some (.map (some x.g2))/\W2.cell? ⟨w.heap.size,0,none⟩=some (.int .i64 a)/\W2.cell? ⟨w.heap.size,1,none⟩=some (.int .i64 b) from ⟨hb6,hp0,hp1⟩)
  have HSd:=hid (show W2.drew.cell? ⟨x.b,6,none⟩=some (.map (some x.g2))/\W2.drew.cell? ⟨w.heap.size,0,none⟩=some (.int .i64 a)/\W2.drew.cell? ⟨w.heap.size,1,none⟩=some (.int .i64 b) from ⟨hb6,hp0,hp1⟩)
  have HV:=hid (aFt s a b)
  have HAS:=hid (aFu s a b)
  go_upto_region 3 with fail
  go_region_held3 (fun W'=>W'.cell? ⟨x.b,6,none⟩=some (.map (some x.g2))/\W'.cell? ⟨w.heap.size,0,none⟩=some (.int .i64 a)/\W'.cell? ⟨w.heap.size,1,none⟩=some (.int .i64 b))
   (first | with_reducible exact HS.out | with_reducible exact HSd.out | with_reducible exact HS4.out | with_reducible exact HS5.out | go_keep)
   (first | (go_at_call 141;refine (aBv x L s (fun c=>c=W2.drew.heap.size) [a,b] _ 2 2 (W2.drew.alloc (.cells #[.int .i64 a,.int .i64 b] 3)) rfl (D2.out.keep ((aA.drew (aA.refl _)).alloc' _)) (fun c hc=>by rw [hc,aC];omega) (lE _ _ _) (by simp) hc hn (fun y hy=>by simp at hy;rcases hy with rfl | rfl<;>assumption)).mono ?_;rintro e w4 ⟨rfl,v4,c4,d4,t4⟩;have D4:=hid d4;have T4:=hid ((aO.keep ((aA.drew (aA.refl W2)).alloc' _)).trans t4);have HS4:=hid (show w4.cell? ⟨x.b,6,none⟩=some (.map (some x.g2))/\w4.cell? ⟨w.heap.size,0,none⟩=some (.int .i64 a)/\w4.cell? ⟨w.heap.size,1,none⟩=some (.int .i64 b) from ⟨d4.cell 6,(T4.out.cell ⟨w.heap.size,0,none⟩ hpl2 HNO.out).trans HS.out.2.1,(T4.out.cell ⟨w.heap.size,1,none⟩ hpl2 HNO.out).trans HS.out.2.2⟩);obtain ⟨w5,hrun5,hm5,hg5⟩:=d4.pr.put und hsa hsb (v:=s.allL [a,b]) (by rw [HV.out];unfold SmP;omega) (by have h1:=d4.np;rw [HAS.out.1] at h1;have:(x.to v4 x.np c4).np=x.np:=rfl;omega);have HS5:=hid (show w5.cell? ⟨x.b,6,none⟩=some (.map (some x.g2))/\w5.cell? ⟨w.heap.size,0,none⟩=some (.int .i64 a)/\w5.cell? ⟨w.heap.size,1,none⟩=some (.int .i64 b) from ⟨(hJ hg5 (b:=x.b) (o:=6) d4.box.facts.2.2 d4.low.2.2).trans HS4.out.1,(hJ hg5 (b:=w.heap.size) (o:=0) (Nat.lt_of_lt_of_le hpl2 T4.out.size) (fun e=>HNO.out (.inr (.inr (.inl e))))).trans HS4.out.2.1,(hJ hg5 (b:=w.heap.size) (o:=1) (Nat.lt_of_lt_of_le hpl2 T4.out.size) (fun e=>HNO.out (.inr (.inr (.inl e))))).trans HS4.out.2.2⟩);have P5:=hid (d4.put hm5 (by have:=HD.out.np;rw [HAS.out.1];show x.np+1<=_;omega) hg5);have hrun6:(Instr.mapUpdate 132 (.map (some x.g2)) (.agg #[.int .i64 a,.int .i64 b]) (.int .i64 (s.allL [a,b]))).run Tryz.prog w4=.ok () w5:=hrun5;clear d4 t4 hm5 hg5 hrun5))
  have D5:Hid (DM (x.to v4 (x.np+1) c4) L ⟨(s.allS [a,b]).n,(s.allS [a,b]).cl,eW s.pr a b (s.allL [a,b])⟩ w5):=by
   have:=P5.out.1
   rw [HAS.out.2.1] at this
   exact this
  have T5:=hid ((aO.keep K2.out).trans (T4.out.trans P5.out.2))
  have hb6:w5.cell? ⟨x.b,6,none⟩=some (.map (some x.g2)):=HS5.out.1
  have hp0:w5.cell? ⟨w.heap.size,0,none⟩=some (.int .i64 a):=HS5.out.2.1
  have hp1:w5.cell? ⟨w.heap.size,1,none⟩=some (.int .i64 b):=HS5.out.2.2
  have hbl5:x.b<w5.heap.size:=D5.out.box.facts.2.2
  have hpl5:w.heap.size<w5.heap.size:=Nat.lt_of_lt_of_le hpl2 (T4.out.trans P5.out.2).size
  have hlk5 : ∀ n,(Instr.lookup 132 (.map (some x.g2)) (.agg #[.int .i64 a,.int .i64 b]) false).run Tryz.prog (w5.drewN n)=.ok (.int .i64 (s.allL [a,b])) (w5.drewN n):=fun n=>by
   have:=(D5.out.keep ((aA.refl w5).drewN n)).pr.look und hsa hsb
   have e:eW s.pr a b (s.allL [a,b]) a b=s.allL [a,b]:=by simp [eW]
   rw [← e];exact this
  clear hrun6 P5 HS5 HS4 HS HSd D4 T4 D2 hbl2 hpl2
  go_wp2_with fail
  go_quiet (fail)
  have k6:aA w5 (w5.drewN nq):=(aA.refl w5).drewN nq
  generalize w5.drewN nq=W6 at k6 ⊢
  have D6:=hid (D5.out.keep k6)
  have T6:=hid (T5.out.trans (aO.keep k6))
  clear k6
  go_wp2_with fail
  go_ret
  refine ⟨by rw [HBL.out];rfl,v4,x.np+1,c4,?_,T6.out⟩
  rw [HBS.out];exact D6.out
 ·have h0':(pv==0)=false:=by simpa using h0
  go_quiet (fail)
  have k2:aA W1 (W1.drewN nq):=(aA.refl W1).drewN nq
  generalize W1.drewN nq=W2 at k2 ⊢
  have K2:=hid (K1.out.trans k2)
  have hb6:W2.cell? ⟨x.b,6,none⟩=some (.map (some x.g2)):=(k2.cell (p:=⟨x.b,6,none⟩) hbl).trans hb6
  have hp0:W2.cell? ⟨w.heap.size,0,none⟩=some (.int .i64 a):=(k2.cell (p:=⟨w.heap.size,0,none⟩) hpl).trans hp0
  have hp1:W2.cell? ⟨w.heap.size,1,none⟩=some (.int .i64 b):=(k2.cell (p:=⟨w.heap.size,1,none⟩) hpl).trans hp1
  have hbl2:x.b<W2.heap.size:=Nat.lt_of_lt_of_le hbl k2.size
  have hpl2:w.heap.size<W2.heap.size:=Nat.lt_of_lt_of_le hpl k2.size
  have hlk2 : ∀ n,(Instr.lookup 132 (.map (some x.g2)) (.agg #[.int .i64 a,.int .i64 b]) false).run Tryz.prog (W2.drewN n)=.ok (.int .i64 pv) (W2.drewN n):=fun n=>by rw [← hpr];exact (D1.out.keep (k2.trans ((aA.refl W2).drewN n))).pr.look und hsa hsb
  clear hlk k2 hbl hpl
  go_wp2_with fail
  go_quiet (fail)
  have k3:aA W2 (W2.drewN nq):=(aA.refl W2).drewN nq
  generalize W2.drewN nq=W3 at k3 ⊢
  have K3:=hid (K2.out.trans k3)
  clear k3
  go_wp2_with fail
  go_ret
  refine ⟨by rw [HBL.out,if_neg h0];rfl,x.cv,x.np,x.cs,?_,aO.keep K3.out⟩
  rw [HBS.out,if_neg h0];exact HD.out.keep K3.out
end Go.Proofs.YthaaaecmeafofaaGreatDoor.Cn
namespace Go.Proofs.YthaaaecmeafofaaGreatDoor.Cn
def Bd (s:DS) (m c:Nat):Prop:=s.n<=m/\s.cl.length<=c/\∀ a b,(s.pr a b).natAbs<=m
theorem Bd.mono {s:DS} {m c m' c':Nat} (h:Bd s m c) (hm:m<=m') (hc:c<=c'):Bd s m' c':=⟨Nat.le_trans h.1 hm,Nat.le_trans h.2.1 hc,fun a b=>Nat.le_trans (h.2.2 a b) hm⟩
theorem Bd.clause {s:DS} {m c:Nat} (h:Bd s m c) (l:List Int):Bd (s.clause l) m (c+1):=⟨h.1,by have:=h.2.1;show (s.cl ++ [l]).length<=_;simp;omega,h.2.2⟩
theorem Bd.some {s:DS} {m c k:Nat} (h:Bd s m c) {l:List Int} (hl:l.length<=k):Bd (s.someS l) (m+1) (c+k+1):=by
 obtain ⟨h1,h2,h3⟩:=h
 unfold DS.someS
 split
 ·exact ⟨by omega,by omega,fun a b=>Nat.le_trans (h3 a b) (by omega)⟩
 ·exact ⟨by show s.n+1<=_;omega,by simp;omega,fun a b=>Nat.le_trans (h3 a b) (by omega)⟩
theorem Bd.someL {s:DS} {m c:Nat} (h:Bd s m c) {l:List Int} (hl : ∀ y∈l,y.natAbs<=m+1):(s.someL l).natAbs<=m+1:=by
 have:=h.1
 unfold DS.someL
 split
 ·rename_i h1
  obtain ⟨y,rfl⟩:=List.length_eq_one_iff.1 h1
  exact hl y List.mem_cons_self
 ·omega
theorem Bd.all {s:DS} {m c k:Nat} (h:Bd s m c) {l:List Int} (hl:l.length<=k):Bd (s.allS l) (m+1) (c+k+1):=h.some (by simpa using hl)
theorem Bd.allL {s:DS} {m c:Nat} (h:Bd s m c) {l:List Int} (hl : ∀ y∈l,y.natAbs<=m+1):(s.allL l).natAbs<=m+1:=by
 unfold DS.allL
 rw [Int.natAbs_neg]
 exact h.someL fun y hy=>by obtain ⟨z,hz,rfl⟩:=List.mem_map.1 hy;rw [Int.natAbs_neg];exact hl z hz
theorem Bd.both {s:DS} {m c:Nat} (h:Bd s m c) (a b:Int):Bd (s.bothS a b) (m+1) (c+3)/\(s.bothL a b).natAbs<=m+1:=by
 unfold DS.bothS DS.bothL
 by_cases h0:s.pr a b=0
 ·rw [if_pos h0,if_pos h0]
  have e:s.allL [a,b] = -((s.n:Int)+1):=by simp [DS.allL,DS.someL]
  have e2:(s.allS [a,b]).n=s.n+1/\(s.allS [a,b]).cl.length=s.cl.length+3:=by simp [DS.allS,DS.someS]
  have h1:=h.1
  have h2:=h.2.1
  refine ⟨⟨by show (s.allS [a,b]).n<=_;omega,by show (s.allS [a,b]).cl.length<=_;omega,fun p q=> ?_⟩,by rw [e];omega⟩
  show (eW s.pr a b (s.allL [a,b]) p q).natAbs<=_
  unfold eW
  split
  ·rw [e];omega
  ·exact Nat.le_trans (h.2.2 p q) (by omega)
 ·rw [if_neg h0,if_neg h0]
  exact ⟨h.mono (by omega) (by omega),Nat.le_trans (h.2.2 a b) (by omega)⟩
theorem zK {but:Int} {nof:Bool} {tk fg:Int->Int} : ∀ (zs:List Int) (s:DS) (acc:List Int) (m c:Nat),Bd s m c->(∀ z∈zs,(tk z).natAbs<=m)->(∀ y∈acc,y.natAbs<=m)->
  Bd (zs.foldl (fZ but nof tk fg) (s,acc)).1 (m+zs.length) (c+3*zs.length)/\(∀ y∈(zs.foldl (fZ but nof tk fg) (s,acc)).2,y.natAbs<=m+zs.length)/\(zs.foldl (fZ but nof tk fg) (s,acc)).2.length<=acc.length+zs.length
 | [],s,acc,m,c,h,_,ha=>⟨h,ha,by simp⟩
 | z :: zs,s,acc,m,c,h,ht,ha=>by
  rw [List.foldl_cons,List.length_cons]
  have hz:=ht z List.mem_cons_self
  have ht' : ∀ y∈zs,(tk y).natAbs<=m+1:=fun y hy=>Nat.le_trans (ht y (List.mem_cons_of_mem _ hy)) (by omega)
  have key : ∀ (s':DS) (acc':List Int),Bd s' (m+1) (c+3)->(∀ y∈acc',y.natAbs<=m+1)->acc'.length<=acc.length+1->Bd (zs.foldl (fZ but nof tk fg) (s',acc')).1 (m+(zs.length+1)) (c+3*(zs.length+1))/\(∀ y∈(zs.foldl (fZ but nof tk fg) (s',acc')).2,y.natAbs<=m+(zs.length+1))/\(zs.foldl (fZ but nof tk fg) (s',acc')).2.length<=acc.length+(zs.length+1):=fun s' acc' h1 h2 h3=>by
   obtain ⟨i1,i2,i3⟩:=zK zs s' acc' (m+1) (c+3) h1 ht' h2
   exact ⟨i1.mono (by omega) (by omega),fun y hy=>Nat.le_trans (i2 y hy) (by omega),by omega⟩
  have ha' : ∀ y∈acc,y.natAbs<=m+1:=fun y hy=>Nat.le_trans (ha y hy) (by omega)
  by_cases e:z=but
  ·have eF:fZ but nof tk fg (s,acc) z=(s,acc):=by simp [fZ,e]
   rw [eF];exact key s acc (h.mono (by omega) (by omega)) ha' (by omega)
  ·by_cases en:nof=true
   ·have eF:fZ but nof tk fg (s,acc) z=(s,acc ++ [tk z]):=by simp [fZ,e,en]
    rw [eF]
    refine key s (acc ++ [tk z]) (h.mono (by omega) (by omega)) (fun y hy=> ?_) (by simp)
    rcases List.mem_append.1 hy with hy | hy
    ·exact ha' y hy
    ·rw [List.mem_singleton.1 hy];omega
   ·have eF:fZ but nof tk fg (s,acc) z=(s.bothS (tk z) (fg z),acc ++ [s.bothL (tk z) (fg z)]):=by simp [fZ,e,en]
    rw [eF]
    obtain ⟨b1,b2⟩:=h.both (tk z) (fg z)
    refine key _ _ b1 (fun y hy=> ?_) (by simp)
    rcases List.mem_append.1 hy with hy | hy
    ·exact ha' y hy
    ·rw [List.mem_singleton.1 hy];exact b2
def CT.stT (c:CT) (m:List Bool) (i:Nat):List Bool:=m.set (c.order.idxOf i) (c.ins.contains i)
def CT.stY (c:CT) (m:List Bool) (i:Nat):List Bool:=m.set (c.order.idxOf i) (!c.ins.contains i)
def CT.stF (c:CT) (i:Nat) (on:List Bool) (m:List Bool):Nat->List Bool
 | 0=>m
 | k+1=>(c.stF i on m k).set (c.base i+k) (on.getD k false != c.on i k)
theorem lB (x:Int) (b:Bool):(sg x b).natAbs=x.natAbs:=by unfold sg;split<;>omega
theorem CT.set_tkN {c:CT} (h:c.Ok) {m:List Bool} (hm:m.length=c.many) {i:Nat} (hi:i<c.nf.length):rZ (chL m) (-c.tkL i)=chL (c.stT m i):=by
 rw [vV (by rw [hm];exact (CT.tk_lit h hi).neg)]
 unfold CT.stT
 have h1:(-c.tkL i).natAbs-1=c.order.idxOf i:=by unfold CT.tkL;rw [Int.natAbs_neg,lB];omega
 have h2:decide (0 < -c.tkL i)=c.ins.contains i:=by
  unfold CT.tkL sg
  cases c.ins.contains i<;>simp<;>omega
 rw [h1,h2]
theorem CT.set_tkY {c:CT} (h:c.Ok) {m:List Bool} (hm:m.length=c.many) {i:Nat} (hi:i<c.nf.length):rZ (chL m) (c.tkL i)=chL (c.stY m i):=by
 rw [vV (by rw [hm];exact CT.tk_lit h hi)]
 unfold CT.stY
 have h1:(c.tkL i).natAbs-1=c.order.idxOf i:=by unfold CT.tkL;rw [lB];omega
 have h2:decide (0<c.tkL i) = !c.ins.contains i:=by
  unfold CT.tkL sg
  cases c.ins.contains i<;>simp<;>omega
 rw [h1,h2]
theorem CT.stF_len (c:CT) (i:Nat) (on m:List Bool) : ∀ k,(c.stF i on m k).length=m.length
 | 0=>rfl
 | k+1=>by rw [CT.stF,List.length_set,CT.stF_len c i on m k]
theorem CT.set_fg (c:CT) {m:List Bool} (hm:m.length=c.many) {i k:Nat} (hi:i<c.nf.length) (hk:k<c.nf.getD i 0) (on:List Bool):rZ (chL (c.stF i on m k)) (sg (c.fgL i k) (on.getD k false))=chL (c.stF i on m (k+1)):=by
 rw [vV (by rw [CT.stF_len,hm];exact mM (CT.fg_lit c hi hk) _)]
 have h1:(sg (c.fgL i k) (on.getD k false)).natAbs-1=c.base i+k:=by unfold CT.fgL;rw [lB,lB];omega
 have h2:decide (0<sg (c.fgL i k) (on.getD k false))=(on.getD k false != c.on i k):=by
  unfold CT.fgL sg
  cases c.on i k<;>cases on.getD k false<;>simp<;>omega
 rw [h1,h2,CT.stF]
def CT.l2 (c:CT):Nat->List Bool
 | 0=>List.replicate c.many false
 | i+1=>c.stT (c.l2 i) i
theorem CT.l2_len (c:CT) : ∀ i,(c.l2 i).length=c.many
 | 0=>by simp [CT.l2]
 | i+1=>by rw [CT.l2,CT.stT,List.length_set,CT.l2_len c i]
def CT.l3 (c:CT) (l:List (Nat × List Bool)):Nat->List Bool
 | 0=>c.l2 c.nf.length
 | j+1=>c.stF (l.getD j (0,[])).1 (l.getD j (0,[])).2 (c.stY (c.l3 l j) (l.getD j (0,[])).1) (l.getD j (0,[])).2.length
theorem CT.l3_len (c:CT) (l:List (Nat × List Bool)) : ∀ j,(c.l3 l j).length=c.many
 | 0=>CT.l2_len c _
 | j+1=>by rw [CT.l3,CT.stF_len,CT.stY,List.length_set,CT.l3_len c l j]
theorem iT : ∀ (l:List Nat) (i j:Nat),i<=j->(l.take i).sum<=(l.take j).sum
 | [],i,j,_=>by simp
 | a :: l,0,j,_=>by simp
 | a :: l,i+1,0,h=>by omega
 | a :: l,i+1,j+1,h=>by
  have:=iT l i j (by omega)
  simp
  omega
theorem CT.base_lt (c:CT) {i i' k:Nat} (hi:i<i') (hin:i<c.nf.length) (hk:k<c.nf.getD i 0):c.base i+k<c.base i':=by
 have h1:=iT c.nf (i+1) i' hi
 rw [List.take_succ_eq_append_getElem hin,List.sum_append] at h1
 rw [List.getD_eq_getElem?_getD,List.getElem?_eq_getElem hin] at hk
 simp at hk h1
 unfold CT.base
 omega
theorem CT.base_inj (c:CT) {i k i' k':Nat} (hi:i<c.nf.length) (hk:k<c.nf.getD i 0) (hi':i'<c.nf.length) (hk':k'<c.nf.getD i' 0) (e:c.base i+k=c.base i'+k'):i=i'/\k=k':=by
 rcases Nat.lt_trichotomy i i' with h | h | h
 ·have:=CT.base_lt c h hi hk;omega
 ·subst h;omega
 ·have:=CT.base_lt c h hi' hk';omega
theorem CT.base_lt_many (c:CT) {i k:Nat} (hi:i<c.nf.length) (hk:k<c.nf.getD i 0):c.base i+k<c.many:=by
 have:=lC c.nf i k hi hk
 unfold CT.base CT.many
 omega
theorem CT.idx_lt {c:CT} (h:c.Ok) {i:Nat} (hi:i<c.nf.length):c.order.idxOf i<c.nf.length:=by
 have:=List.idxOf_lt_length_iff.2 ((CT.order_mem h i).2 hi)
 rwa [CT.order_len h] at this
theorem CT.idx_inj {c:CT} (h:c.Ok) {i i':Nat} (hi:i<c.nf.length) (hi':i'<c.nf.length) (e:c.order.idxOf i=c.order.idxOf i'):i=i':=by
 have h1:=vI ((CT.order_mem h i).2 hi)
 have h2:=vI ((CT.order_mem h i').2 hi')
 rw [e,h2] at h1
 exact (Option.some.inj h1).symm
theorem iP {m:List Bool} {v:Nat} (hv:v<m.length) (b:Bool):(m.set v b).getD v false=b:=by simp [List.getD_eq_getElem?_getD,hv]
theorem eU {m:List Bool} {v u:Nat} (h:v≠u) (b:Bool):(m.set v b).getD u false=m.getD u false:=by simp [List.getD_eq_getElem?_getD,List.getElem?_set_ne h]
theorem CT.stF_get (c:CT) {i:Nat} (hi:i<c.nf.length) (on:List Bool) {m:List Bool} (hm:m.length=c.many) : ∀ K,K<=c.nf.getD i 0->(∀ k<K,(c.stF i on m K).getD (c.base i+k) false=(on.getD k false != c.on i k))/\∀ v,(∀ k<K,v≠c.base i+k)->(c.stF i on m K).getD v false=m.getD v false
 | 0,_=>⟨fun k hk=>by omega,fun v _=>rfl⟩
 | K+1,hK=>by
  obtain ⟨h1,h2⟩:=CT.stF_get c hi on hm K (by omega)
  have hlt:=CT.base_lt_many c hi (k:=K) (by omega)
  refine ⟨fun k hk=> ?_,fun v hv=> ?_⟩
  ·rw [CT.stF]
   by_cases e:k=K
   ·subst e;rw [iP (by rw [CT.stF_len,hm];exact hlt)]
   ·rw [eU (by omega),h1 k (by omega)]
  ·rw [CT.stF,eU (fun e=>hv K (by omega) e.symm),h2 v fun k hk=>hv k (by omega)]
structure CT.Says (c:CT) (l:List (Nat × List Bool)) (m:List Bool):Prop where
 len:m.length=c.many
 tk : ∀ i<c.nf.length,m.getD (c.order.idxOf i) false=(tD l i != c.ins.contains i)
 fg : ∀ i<c.nf.length,∀ k<c.nf.getD i 0,m.getD (c.base i+k) false=nD l c i k
theorem CT.l2_get {c:CT} (h:c.Ok) : ∀ n,n<=c.nf.length->(∀ i<n,(c.l2 n).getD (c.order.idxOf i) false=c.ins.contains i)/\∀ v,c.nf.length<=v->(c.l2 n).getD v false=false
 | 0,_=>⟨fun i hi=>by omega,fun v _=>by
   rw [CT.l2,List.getD_eq_getElem?_getD,List.getElem?_replicate]
   split<;>rfl⟩
 | n+1,hn=>by
  obtain ⟨h1,h2⟩:=CT.l2_get h n (by omega)
  have hx:=CT.idx_lt h (i:=n) (by omega)
  refine ⟨fun i hi=> ?_,fun v hv=> ?_⟩
  ·rw [CT.l2,CT.stT]
   by_cases e:i=n
   ·subst e;rw [iP (by rw [CT.l2_len];unfold CT.many;omega)]
   ·rw [eU (fun hh=>e (CT.idx_inj h (by omega) (by omega) hh.symm)),h1 i (by omega)]
  ·rw [CT.l2,CT.stT,eU (by omega),h2 v hv]
theorem CT.says_none {c:CT} (h:c.Ok):c.Says [] (c.l3 [] 0):=by
 obtain ⟨h1,h2⟩:=CT.l2_get h c.nf.length (Nat.le_refl _)
 refine ⟨CT.l3_len c _ _,fun i hi=> ?_,fun i hi k hk=> ?_⟩
 ·show (c.l2 _).getD _ _=_
  rw [h1 i hi];cases c.ins.contains i<;>rfl
 ·show (c.l2 _).getD _ _=_
  rw [h2 _ (by unfold CT.base;omega)];rfl
theorem CT.says_more {c:CT} (h:c.Ok) {l:List (Nat × List Bool)} {m:List Bool} {a:Nat × List Bool} (hs:c.Says l m) (ha:a.1<c.nf.length) (hf:a.2.length=c.nf.getD a.1 0) (hn : ∀ b∈l,b.1≠a.1):c.Says (l ++ [a]) (c.stF a.1 a.2 (c.stY m a.1) a.2.length):=by
 have hl:(c.stY m a.1).length=c.many:=by rw [CT.stY,List.length_set,hs.len]
 obtain ⟨h1,h2⟩:=CT.stF_get c ha a.2 hl a.2.length (by omega)
 have hx:=CT.idx_lt h ha
 have hnone:l.find? (fun b=>b.1==a.1)=none:=List.find?_eq_none.2 fun b hb=>by simpa using hn b hb
 refine ⟨by rw [CT.stF_len,hl],fun i hi=> ?_,fun i hi k hk=> ?_⟩
 ·have hxi:=CT.idx_lt h hi
  rw [h2 _ fun k hk e=>by unfold CT.base at e;omega,CT.stY]
  unfold tD
  rw [List.any_append,List.any_cons,List.any_nil,Bool.or_false]
  by_cases e:i=a.1
  ·subst e
   rw [iP (by rw [hs.len];unfold CT.many;omega)]
   simp
  ·rw [eU (fun hh=>e (CT.idx_inj h hi ha hh.symm)),hs.tk i hi]
   have:(a.1==i)=false:=by simpa using Ne.symm e
   rw [this,Bool.or_false]
   rfl
 ·by_cases e:i=a.1
  ·subst e
   rw [h1 k (by omega)]
   unfold nD
   rw [List.find?_append,hnone]
   simp
  ·rw [h2 _ fun k' hk' hh=>e (CT.base_inj c hi hk ha (by omega) hh).1,CT.stY,eU (by unfold CT.base;omega),hs.fg i hi k hk]
   unfold nD
   have:(a.1==i)=false:=by simpa using Ne.symm e
   rw [List.find?_append,List.find?_cons,this]
   cases l.find? fun b=>b.1==i<;>rfl
theorem CT.says_all {c:CT} (h:c.Ok) {l:List (Nat × List Bool)} (hl:c.IsSet l) : ∀ j,j<=l.length->c.Says (l.take j) (c.l3 l j)
 | 0,_=>by have:=CT.says_none h;simpa [CT.l3] using this
 | j+1,hj=>by
  have hs:=CT.says_all h hl j (by omega)
  have hg:l.getD j (0,[])=l[j]:=by rw [List.getD_eq_getElem?_getD,List.getElem?_eq_getElem (by omega)];rfl
  have hm:=List.getElem_mem (show j<l.length by omega)
  rw [CT.l3,hg,List.take_succ_eq_append_getElem (by omega)]
  refine CT.says_more h hs (hl.lt _ hm) (hl.fl _ hm) fun b hb=> ?_
  obtain ⟨i,hi,e⟩:=List.getElem_of_mem hb
  rw [List.getElem_take] at e
  rw [List.length_take] at hi
  have:=List.pairwise_iff_getElem.1 hl.up i j (by omega) (by omega) (by omega)
  rw [e] at this
  omega
theorem CT.l3_done {c:CT} (h:c.Ok) {l:List (Nat × List Bool)} (hl:c.IsSet l):c.l3 l l.length=c.mod l:=by
 have hs:=CT.says_all h hl l.length (Nat.le_refl _)
 rw [List.take_length] at hs
 refine aGp (by rw [hs.len,CT.mod_len h]) fun v hv=> ?_
 rw [hs.len] at hv
 by_cases hn:v<c.nf.length
 ·have hvo:v<c.order.length:=by rw [CT.order_len h];exact hn
  have hg:c.order[v]? = some c.order[v]:=List.getElem?_eq_getElem hvo
  have hx:=kN (CT.order_nodup h) hg
  have hi:=(CT.order_mem h _).1 (List.mem_of_getElem? hg)
  have:=hs.tk _ hi
  rw [hx] at this
  rw [this,CT.mod_take h l hg]
 ·obtain ⟨i,k,hi,hk,hvk⟩:=oS (nf:=c.nf) (v:=v-c.nf.length) (by unfold CT.many at hv;omega)
  have hve:v=c.base i+k:=by unfold CT.base;omega
  subst hve
  rw [hs.fg i hi k hk,CT.mod_flag h l hi hk]
end Go.Proofs.YthaaaecmeafofaaGreatDoor.Cn
