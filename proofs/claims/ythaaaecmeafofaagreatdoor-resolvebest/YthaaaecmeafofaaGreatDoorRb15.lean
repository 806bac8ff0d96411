/- Steps of the proof: FolMove, FolAsk, FolAskWalk. -/
import Derived.Test.YthaaaecmeafofaaGreatDoorRb13
import Derived.BigRegion
import Derived.BigQuiet
set_option maxHeartbeats 16000000
set_option maxRecDepth 100000
namespace Go.Proofs.YthaaaecmeafofaaGreatDoor.Cn
open Go.RowKit Go.Lib
theorem XM.swap {x:XD} {B:Nat} {w:World} (h:XM x B w) {p g cap i j:Nat} {c:List Int} (hp:x.C[p]? = some c) (hv:x.cv[p]? = some (.slice (some ⟨g,0,none⟩) c.length cap)) {a b:Int} (ha:c.getD i 0=a) (hb:c.getD j 0=b) :
  XM { x with C:=x.C.set p (swp c i j) } B ((w.setCell ⟨g,i,none⟩ (.int .i64 b)).setCell ⟨g,j,none⟩ (.int .i64 a))/\aF x.own ({ x with C:=x.C.set p (swp c i j) }:XD).own w ((w.setCell ⟨g,i,none⟩ (.int .i64 b)).setCell ⟨g,j,none⟩ (.int .i64 a)):=by
 have hpl:=(List.getElem?_eq_some_iff.1 hp).1
 obtain ⟨h1,t1⟩:=h.setC (i:=i) hp hv b
 obtain ⟨h2,t2⟩:=h1.setC (p:=p) (g:=g) (cap:=cap) (c:=c.set i b) (i:=j) (by simp [hpl]) (by simpa using hv) a
 have e:(x.C.set p (c.set i b)).set p ((c.set i b).set j a)=x.C.set p (swp c i j):=by rw [List.set_set,← ha,← hb];rfl
 simp only [e] at h2 t2
 exact ⟨h2,t1.trans t2⟩
def aLm (x:XD) (B p:Nat) (K:List Int) (lit:Int) (c:List Int) (w:World) (e:Ending) (w':World):Prop:=
 ∃ (r:Bool) (c':List Int),e=.returned (.bool r)/\Mv K lit c c' r/\
  ((r=false/\XM { x with C:=x.C.set p c' } B w'/\aF x.own ({ x with C:=x.C.set p c' }:XD).own w w')∨
   (r=true/\∃ v',XM { x with C:=x.C.set p c',rv:=x.rv.set ((x.n:Int)+w1 c').toNat v',W:=cD x.n x.W (w1 c') p } B w'/\aF x.own ({ x with C:=x.C.set p c',rv:=x.rv.set ((x.n:Int)+w1 c').toNat v',W:=cD x.n x.W (w1 c') p }:XD).own w w'))
theorem aNk (kc:Nat) (J:List Value) (x:XD) (B p bg:Nat) (K:List Int) (lit:Int) (c:List Int) (w:World) (h:XM x B w) (hn:x.n<=1000) (hp:x.C[p]? = some c) (h2:Two x.n c) (hw:w0 c=lit∨w1 c=lit) (hK:Tb x.n K) (hkb:aD bg 3 (K.map (Value.int .i64)++J).toArray w) (hbg : ¬ x.own bg)
  (hr : ∀ z,Lit x.n z->(x.W.getD ((x.n:Int)+z).toNat []).length<=1000000) :
  Calls Tryz.prog 200 #[.pointer (some ⟨x.bx,0,none⟩),.int .i64 (p:Int),.int .i64 lit,.slice (some ⟨bg,0,none⟩) (x.n+1) kc] w fun e w'=>aLm x B p K lit c w e w':=by
 have HX:=hid h
 have HPC:=hid hp
 have HPL:=hid (List.getElem?_eq_some_iff.1 hp).1
 have HR:=hid hr
 have HTW:=hid h2
 obtain ⟨v,hcv,hvs,-,ho⟩:=h.cls hp
 obtain ⟨ga,capa,hav,hgal,hac⟩:=h.arr_cell hcv
 have h2l:=h2.len
 obtain ⟨g,cap,hve,hgB,hgl,hcap1,hcap2,hcell,hfro,-⟩:=cG ho (by omega)
 subst hve
 have HCV:=hid hcv
 have hOg:x.own g:= .inr (.inr ⟨_,List.mem_of_getElem? hvs,rfl⟩)
 have hgbg:g≠bg:=fun e=>hbg (e ▸ hOg)
 have hc0:w.cell? ⟨g,0,none⟩=some (.int .i64 (c.getD 0 0)):=hcell 0 _ (by simp [ivI,List.getD_eq_getElem?_getD,List.getElem?_eq_getElem (show 0<c.length by omega)])
 have hc1:w.cell? ⟨g,1,none⟩=some (.int .i64 (c.getD 1 0)):=hcell 1 _ (by simp [ivI,List.getD_eq_getElem?_getD,List.getElem?_eq_getElem (show 1<c.length by omega)])
 have hf0:=hfro 0
 have hf1:=hfro 1
 obtain ⟨hbc,-,hbl⟩:=h.box.facts
 have hb3:w.cell? ⟨x.bx,3,none⟩=some (.slice (some ⟨ga,0,none⟩) x.C.length capa):=(hbc 3).trans (congrArg some hav)
 have hpl:p<x.C.length:=HPL.out
 have hpi:(p:Int)<(x.C.length:Int):=by omega
 have HKB:=hid hkb
 have hlc:c.length<=9223372036854775807:=by unfold maxLen at hcap2;omega
 clear h hp hr hkb hbc hcell hfro hcv ho hvs
 go_enter Tryz.func200,Tryz.ntmps200
 by_cases hlit:c.getD 0 0=lit
 ·have hlit':(c.getD 0 0==lit)=true:=beq_iff_eq.2 hlit
  obtain ⟨c1,hc1e⟩ : ∃ c1,c1=mv0 lit c:=⟨_,rfl⟩
  have hc1s:c1=swp c 0 1:=by rw [hc1e];unfold mv0;rw [if_pos hlit]
  have M1:=hid hc1e
  have HL1:=hid (show c1.length=c.length by rw [hc1e];exact zG lit c)
  have T1:=hid (show Two x.n c1 by rw [hc1e];exact (qJ HTW.out hw).1)
  have HS1:=hid hc1s
  generalize hce0:c.getD 0 0=a0 at hc0 hlit'
  generalize hce1:c.getD 1 0=a1 at hc1
  have HCE:=hid (And.intro hce0 hce1)
  clear hc1e hc1s hlit hce0 hce1
  go_upto_region 3 with fail
  go_region
  obtain ⟨hS1,hS2⟩:=HX.out.swap (i:=0) (j:=1) HPC.out HCV.out HCE.out.1 HCE.out.2
  rw [← HS1.out] at hS1 hS2
  generalize (w.setCell ⟨g,0,none⟩ (.int .i64 a1)).setCell ⟨g,1,none⟩ (.int .i64 a0)=Ws at hS1 hS2 ⊢
  have HP1:=hid (show ({ x with C:=x.C.set p c1 }:XD).C[p]? = some c1 from List.getElem?_set_self hpl)
  have HQ:=hid (show XM { x with C:=x.C.set p c1 } B Ws.drew/\aD bg 3 (K.map (Value.int .i64)++J).toArray Ws.drew/\aF x.own ({ x with C:=x.C.set p c1 }:XD).own w Ws.drew from ⟨hS1.keep (aA.drew (aA.refl _)),(HKB.out.turn hS2 hbg).keep (aA.drew (aA.refl _)) (Nat.lt_of_lt_of_le HKB.out.facts.2.2 hS2.size),hS2.trans (aF.keep (aA.drew (aA.refl _)))⟩)
  clear hS1 hS2 hc0 hc1 hf0 hf1 hac hb3 hgl
  go_upto_region 4 with fail
  refine bF (fun W'=>XM { x with C:=x.C.set p c1 } B W'/\aD bg 3 (K.map (Value.int .i64)++J).toArray W'/\aF x.own ({ x with C:=x.C.set p c1 }:XD).own w W') ?_ ?_
  ·exact HQ.out
  rintro W1 ⟨hX1,hKB1,hTU1⟩
  have X1:=hid hX1
  have KB1:=hid hKB1
  have TU1:=hid hTU1
  clear hX1 hKB1 hTU1 HQ
  -- c1 is the clause with lit as its second one,W1 the world
  have hl1:c1.length=c.length:=HL1.out
  obtain ⟨v1,hv1,-,-,ho1⟩:=X1.out.cls (p:=p) (c:=c1) HP1.out
  have hvv:v1=.slice (some ⟨g,0,none⟩) c.length cap:=by
   have:x.cv[p]? = some v1:=hv1
   rw [HCV.out] at this;exact (Option.some.inj this).symm
  subst hvv
  rw [← hl1] at ho1
  obtain ⟨g',cap',e1,-,hgl,hcap1,hcap2,hcell,hfro,-⟩:=cG ho1 (by omega)
  cases e1
  have hlen1:c1.length<=9223372036854775807:=by unfold maxLen at hcap2;omega
  have h0:W1.cell? ⟨g,0,none⟩=some (.int .i64 (c1.getD 0 0)):=hcell 0 _ (by simp [ivI,List.getD_eq_getElem?_getD,List.getElem?_eq_getElem (show 0<c1.length by omega)])
  have hoL:Lit x.n (c1.getD 0 0):=T1.out.lits _ T1.out.mem0
  have HO:=hid (show w0 c1=c1.getD 0 0 from rfl)
  have hbgc:=KB1.out.facts.1
  generalize c1.getD 0 0=o at h0 hoL HO
  have hoK:o.natAbs<K.length:=by rw [hK.len];have:=hoL.2;omega
  have hk0:W1.cell? ⟨bg,o.natAbs,none⟩=some (.int .i64 K[o.natAbs]):=by rw [hbgc];exact jF J hoK
  have HKO:=hid (show kn K o=K[o.natAbs] by simp [kn,List.getD_eq_getElem?_getD,hoK])
  generalize K[o.natAbs]=y at hk0 HKO
  have hoa:o.natAbs<=x.n:=hoL.2
  have hon:(o.natAbs:Int)<(x.n:Int)+1:=by omega
  have hlen2:(2:Int)<=(c1.length:Int):=by omega
  have hbgl:=KB1.out.facts.2.2
  have hq:=hid (show ∀ m,Calls Tryz.prog 171 #[.int .i64 o] (W1.drewN m) fun e w''=>e=.returned (.int .i64 (o.natAbs:Nat))/\∃ n',w''=W1.drewN n' from fun m=>by
   refine (cY o (W1.drewN m) (by omega)).mono ?_
   rintro e w' ⟨rfl,rfl⟩
   exact ⟨rfl,m,rfl⟩)
  clear hcell hbgc hfro
  go_quiet ((go_at_call 171;exact hq.out _))
  have k2:aA W1 (W1.drewN nq):=aA.drewN (aA.refl _) _
  have X2:=hid (X1.out.keep k2)
  have KB2:=hid (KB1.out.keep k2 hbgl)
  have TU2:=hid (TU1.out.trans (aF.keep k2))
  generalize W1.drewN nq=W2 at k2 X2 KB2 TU2
  clear k2 hq h0 hk0 X1 KB1 TU1
  by_cases hy:y=o
  ·have hy':(y==o)=true:=by simp [hy]
   have HM:=hid (show Mv K lit c c1 false by rw [M1.out];exact .stay (.inl (by rw [← M1.out,HO.out];exact HKO.out.trans hy)))
   clear hy
   go_wp2_with fail
   go_ret
   exact ⟨false,c1,rfl,HM.out,.inl ⟨rfl,X2.out,TU2.out⟩⟩
  ·have hy':(y==o)=false:=by simp [hy]
   clear hy
   go_wp2_with fail
   go_loopg [10] c1.length (fun gn i wr=> ∃ k:Nat,2<=k/\k+gn=c1.length+2/\k<=c1.length/\i=.int .i64 k/\XM { x with C:=x.C.set p c1 } B wr/\aD bg 3 (K.map (Value.int .i64)++J).toArray wr/\aF x.own ({ x with C:=x.C.set p c1 }:XD).own w wr/\∀ j,2<=j->j<k->kn K (c1.getD j 0) = -(c1.getD j 0))
   case atStart=>exact ⟨2,by omega,by omega,by omega,rfl,X2.out,KB2.out,TU2.out,fun j h1 h2=>by omega⟩
   case round=>
    obtain ⟨k,hk2,hkg,hkc,rfl,hxm,hkb,htu,hall⟩:=hrel
    have XR:=hid hxm
    have KR:=hid hkb
    have TR:=hid htu
    have HALL:=hid hall
    clear hxm hkb htu hall
    by_cases hlt:k<c1.length
    ·obtain ⟨v3,hv3,-,-,ho3⟩:=XR.out.cls (p:=p) (c:=c1) HP1.out
     have hvv:v3=.slice (some ⟨g,0,none⟩) c1.length cap:=by
      have:x.cv[p]? = some v3:=hv3
      rw [HCV.out] at this;rw [hl1];exact (Option.some.inj this).symm
     subst hvv
     obtain ⟨g',cap',e1,hgB,hgl3,-,-,hcell,hfro,-⟩:=cG ho3 (by omega)
     cases e1
     have hc1:wr.cell? ⟨g,1,none⟩=some (.int .i64 (c1.getD 1 0)):=hcell 1 _ (by simp [ivI,List.getD_eq_getElem?_getD,List.getElem?_eq_getElem (show 1<c1.length by omega)])
     have hck:wr.cell? ⟨g,k,none⟩=some (.int .i64 (c1.getD k 0)):=hcell k _ (by simp [ivI,List.getD_eq_getElem?_getD,List.getElem?_eq_getElem hlt])
     have hf1:=hfro 1
     have hfk:=hfro k
     have hzL:Lit x.n (c1.getD k 0):=T1.out.lits _ (mW.2 ⟨k,hlt,rfl⟩)
     obtain ⟨hbgc,-,hbgl3⟩:=KR.out.facts
     generalize hze:c1.getD k 0=z at hck hzL
     generalize hue:c1.getD 1 0=u at hc1
     have HZE:=hid hze
     have HUE:=hid hue
     have hzK:z.natAbs<K.length:=by rw [hK.len];have:=hzL.2;omega
     have hkk:wr.cell? ⟨bg,z.natAbs,none⟩=some (.int .i64 K[z.natAbs]):=by rw [hbgc];exact jF J hzK
     have HKZ:=hid (show kn K z=K[z.natAbs] by simp [kn,List.getD_eq_getElem?_getD,hzK])
     generalize K[z.natAbs]=y2 at hkk HKZ
     have hza:z.natAbs<=x.n:=hzL.2
     have hzn:(z.natAbs:Int)<(x.n:Int)+1:=by omega
     have hz1 : -1000<=z:=by omega
     have hz2:z<=1000:=by omega
     have hkI:(k:Int)<(c1.length:Int):=by omega
     have hq:=hid (show ∀ m,Calls Tryz.prog 171 #[.int .i64 z] (wr.drewN m) fun e w''=>e=.returned (.int .i64 (z.natAbs:Nat))/\∃ n',w''=wr.drewN n' from fun m=>by
      refine (cY z (wr.drewN m) (by omega)).mono ?_
      rintro e w' ⟨rfl,rfl⟩
      exact ⟨rfl,m,rfl⟩)
     clear hcell hbgc hfro hze hue
     go_upto_region 9 with fail
     go_quiet ((go_at_call 171;exact hq.out _))
     have k4:aA wr (wr.drewN nq):=aA.drewN (aA.refl _) _
     have X4:=hid (XR.out.keep k4)
     have KB4:=hid (KR.out.keep k4 hbgl3)
     have TU4:=hid (TR.out.trans (aF.keep k4))
     have hd1:(wr.drewN nq).cell? ⟨g,1,none⟩=some (.int .i64 u):=(k4.cell (p:=⟨g,1,none⟩) hgl3).trans hc1
     have hdk:(wr.drewN nq).cell? ⟨g,k,none⟩=some (.int .i64 z):=(k4.cell (p:=⟨g,k,none⟩) hgl3).trans hck
     have hd1f:(wr.drewN nq).frozen? ⟨g,1,none⟩=false:=(k4.cells.2 g 1 hgl3).trans hf1
     have hdkf:(wr.drewN nq).frozen? ⟨g,k,none⟩=false:=(k4.cells.2 g k hgl3).trans hfk
     have hgl4:g<(wr.drewN nq).heap.size:=Nat.lt_of_lt_of_le hgl3 k4.size
     generalize wr.drewN nq=W4 at k4 X4 KB4 TU4 hd1 hdk hd1f hdkf hgl4
     clear k4 hq hc1 hck hf1 hfk hkk XR KR TR
     by_cases hy2:y2 = -z
     ·have hy2':(y2 != -z)=false:=by simp [hy2]
      have HN:=hid (show ∀ j,2<=j->j<k+1->kn K (c1.getD j 0) = -(c1.getD j 0) from fun j h1 h2=>by
       by_cases e:j=k
       ·rw [e,HZE.out];exact HKZ.out.trans hy2
       ·exact HALL.out j h1 (by omega))
      clear hy2
      go_wp2_with fail
      go_roundg (c1.length+2-(k+1))
      case rel=>exact ⟨k+1,by omega,by omega,by omega,by go_num,X4.out,KB4.out,TU4.out,HN.out⟩
      case measure=>omega
     ·have hy2':(y2 != -z)=true:=by simp [hy2]
      have HM:=hid (show Mv K lit c (swp c1 1 k) true by
       rw [M1.out]
       refine .gone hk2 (by omega) ?_
       rw [← M1.out,HZE.out,HKZ.out];exact hy2)
      clear hy2
      have h1k:(1:Nat)≠k:=by omega
      go_upto_region 10 with fail
      go_region
      obtain ⟨hS1,hS2⟩:=X4.out.swap (p:=p) (g:=g) (cap:=cap) (i:=1) (j:=k) HP1.out (by rw [hl1];exact HCV.out) HUE.out HZE.out
      have e5:(x.C.set p c1).set p (swp c1 1 k)=x.C.set p (swp c1 1 k):=List.set_set ..
      simp only [e5] at hS1 hS2
      have HE1:=hid (show (swp c1 1 k).getD 1 0=z by rw [eJ c1 (by omega) hlt,if_neg h1k,if_pos rfl];exact HZE.out)
      generalize (W4.setCell ⟨g,1,none⟩ (.int .i64 z)).setCell ⟨g,k,none⟩ (.int .i64 u)=Ws at hS1 hS2 ⊢
      have k5:aA Ws Ws.drew:=aA.drew (aA.refl _)
      have X5:=hid (hS1.keep k5)
      have TU5:=hid ((TU4.out.trans hS2).trans (aF.keep k5))
      generalize Ws.drew=W5 at X5 TU5 k5 ⊢
      clear hS1 hS2 k5 hd1 hdk hd1f hdkf hgl4 KB4 TU4 X4
      obtain ⟨v5,hv5,-,-,ho5⟩:=X5.out.cls (p:=p) (c:=swp c1 1 k) (List.getElem?_set_self hpl)
      have hvv:v5=.slice (some ⟨g,0,none⟩) c1.length cap:=by
       have:x.cv[p]? = some v5:=hv5
       rw [HCV.out] at this;rw [hl1];exact (Option.some.inj this).symm
      subst hvv
      rw [kJ] at ho5
      obtain ⟨g',cap',e6,-,hgl5,-,-,hcell,-,-⟩:=cG ho5 (by omega)
      cases e6
      have hc5:W5.cell? ⟨g,1,none⟩=some (.int .i64 z):=hcell 1 _ (by
       have:=HE1.out
       rw [List.getD_eq_getElem?_getD] at this
       have h6:(swp c1 1 k)[1]? = some z:=by
        rw [List.getElem?_eq_getElem (by rw [kJ];omega)] at this ⊢
        exact congrArg some this
       simp [ivI,h6])
      have HW:=hid (oI _ B z p W5 X5.out hn hzL (HR.out z hzL))
      clear hcell
      go_wp2_with fail
      refine HW.out.mono ?_
      rintro e w6 ⟨rfl,rv6,hx6,ht6⟩
      have X6:=hid hx6
      have T6:=hid (TU5.out.trans ht6)
      clear hx6 ht6 hc5 HW
      go_wp2_with fail
      go_ret
      exact ⟨true,swp c1 1 k,rfl,HM.out,.inr ⟨rfl,rv6,by unfold w1;rw [HE1.out];exact X6.out,by unfold w1;rw [HE1.out];exact T6.out⟩⟩
    ·obtain rfl:k=c1.length:=by omega
     have HM:=hid (show Mv K lit c c1 false by
      rw [M1.out]
      exact .stay (.inr fun j h1 h2=>by rw [← M1.out];exact HALL.out j h1 (by omega)))
     go_wp2_with fail
     go_ret
     exact ⟨false,c1,rfl,HM.out,.inl ⟨rfl,XR.out,TR.out⟩⟩
 ·have hlit':(c.getD 0 0==lit)=false:=beq_eq_false_iff_ne.2 hlit
  obtain ⟨c1,hc1e⟩ : ∃ c1,c1=mv0 lit c:=⟨_,rfl⟩
  have M1:=hid hc1e
  have hcc:c1=c:=by rw [hc1e];unfold mv0;rw [if_neg hlit]
  have HL1:=hid (show c1.length=c.length by rw [hcc])
  have T1:=hid (show Two x.n c1 by rw [hcc];exact HTW.out)
  have hxe:({ x with C:=x.C.set p c1 }:XD)=x:=by rw [hcc,zW HPC.out]
  have X1:=hid (show XM { x with C:=x.C.set p c1 } B w by rw [hxe];exact HX.out)
  have HP1:=hid (show ({ x with C:=x.C.set p c1 }:XD).C[p]? = some c1 by rw [hxe,hcc];exact HPC.out)
  have KB1:=hid HKB.out
  have TU1:=hid (show aF x.own ({ x with C:=x.C.set p c1 }:XD).own w w by rw [hxe];exact aF.refl _ _)
  generalize c.getD 0 0=a0 at hc0 hlit'
  clear hlit hc1e hcc hxe
  go_upto_region 4 with fail
  have HQ:=hid (And.intro X1.out (And.intro KB1.out TU1.out))
  clear X1 KB1 TU1 hc0 hc1 hf0 hf1 hac hb3 hgl
  refine bF (fun W'=>XM { x with C:=x.C.set p c1 } B W'/\aD bg 3 (K.map (Value.int .i64)++J).toArray W'/\aF x.own ({ x with C:=x.C.set p c1 }:XD).own w W') ?_ ?_
  ·exact HQ.out
  rintro W1 ⟨hX1,hKB1,hTU1⟩
  have X1:=hid hX1
  have KB1:=hid hKB1
  have TU1:=hid hTU1
  clear hX1 hKB1 hTU1 HQ
  -- c1 is the clause with lit as its second one,W1 the world
  have hl1:c1.length=c.length:=HL1.out
  obtain ⟨v1,hv1,-,-,ho1⟩:=X1.out.cls (p:=p) (c:=c1) HP1.out
  have hvv:v1=.slice (some ⟨g,0,none⟩) c.length cap:=by
   have:x.cv[p]? = some v1:=hv1
   rw [HCV.out] at this;exact (Option.some.inj this).symm
  subst hvv
  rw [← hl1] at ho1
  obtain ⟨g',cap',e1,-,hgl,hcap1,hcap2,hcell,hfro,-⟩:=cG ho1 (by omega)
  cases e1
  have hlen1:c1.length<=9223372036854775807:=by unfold maxLen at hcap2;omega
  have h0:W1.cell? ⟨g,0,none⟩=some (.int .i64 (c1.getD 0 0)):=hcell 0 _ (by simp [ivI,List.getD_eq_getElem?_getD,List.getElem?_eq_getElem (show 0<c1.length by omega)])
  have hoL:Lit x.n (c1.getD 0 0):=T1.out.lits _ T1.out.mem0
  have HO:=hid (show w0 c1=c1.getD 0 0 from rfl)
  have hbgc:=KB1.out.facts.1
  generalize c1.getD 0 0=o at h0 hoL HO
  have hoK:o.natAbs<K.length:=by rw [hK.len];have:=hoL.2;omega
  have hk0:W1.cell? ⟨bg,o.natAbs,none⟩=some (.int .i64 K[o.natAbs]):=by rw [hbgc];exact jF J hoK
  have HKO:=hid (show kn K o=K[o.natAbs] by simp [kn,List.getD_eq_getElem?_getD,hoK])
  generalize K[o.natAbs]=y at hk0 HKO
  have hoa:o.natAbs<=x.n:=hoL.2
  have hon:(o.natAbs:Int)<(x.n:Int)+1:=by omega
  have hlen2:(2:Int)<=(c1.length:Int):=by omega
  have hbgl:=KB1.out.facts.2.2
  have hq:=hid (show ∀ m,Calls Tryz.prog 171 #[.int .i64 o] (W1.drewN m) fun e w''=>e=.returned (.int .i64 (o.natAbs:Nat))/\∃ n',w''=W1.drewN n' from fun m=>by
   refine (cY o (W1.drewN m) (by omega)).mono ?_
   rintro e w' ⟨rfl,rfl⟩
   exact ⟨rfl,m,rfl⟩)
  clear hcell hbgc hfro
  go_quiet ((go_at_call 171;exact hq.out _))
  have k2:aA W1 (W1.drewN nq):=aA.drewN (aA.refl _) _
  have X2:=hid (X1.out.keep k2)
  have KB2:=hid (KB1.out.keep k2 hbgl)
  have TU2:=hid (TU1.out.trans (aF.keep k2))
  generalize W1.drewN nq=W2 at k2 X2 KB2 TU2
  clear k2 hq h0 hk0 X1 KB1 TU1
  by_cases hy:y=o
  ·have hy':(y==o)=true:=by simp [hy]
   have HM:=hid (show Mv K lit c c1 false by rw [M1.out];exact .stay (.inl (by rw [← M1.out,HO.out];exact HKO.out.trans hy)))
   clear hy
   go_wp2_with fail
   go_ret
   exact ⟨false,c1,rfl,HM.out,.inl ⟨rfl,X2.out,TU2.out⟩⟩
  ·have hy':(y==o)=false:=by simp [hy]
   clear hy
   go_wp2_with fail
   go_loopg [10] c1.length (fun gn i wr=> ∃ k:Nat,2<=k/\k+gn=c1.length+2/\k<=c1.length/\i=.int .i64 k/\XM { x with C:=x.C.set p c1 } B wr/\aD bg 3 (K.map (Value.int .i64)++J).toArray wr/\aF x.own ({ x with C:=x.C.set p c1 }:XD).own w wr/\∀ j,2<=j->j<k->kn K (c1.getD j 0) = -(c1.getD j 0))
   case atStart=>exact ⟨2,by omega,by omega,by omega,rfl,X2.out,KB2.out,TU2.out,fun j h1 h2=>by omega⟩
   case round=>
    obtain ⟨k,hk2,hkg,hkc,rfl,hxm,hkb,htu,hall⟩:=hrel
    have XR:=hid hxm
    have KR:=hid hkb
    have TR:=hid htu
    have HALL:=hid hall
    clear hxm hkb htu hall
    by_cases hlt:k<c1.length
    ·obtain ⟨v3,hv3,-,-,ho3⟩:=XR.out.cls (p:=p) (c:=c1) HP1.out
     have hvv:v3=.slice (some ⟨g,0,none⟩) c1.length cap:=by
      have:x.cv[p]? = some v3:=hv3
      rw [HCV.out] at this;rw [hl1];exact (Option.some.inj this).symm
     subst hvv
     obtain ⟨g',cap',e1,hgB,hgl3,-,-,hcell,hfro,-⟩:=cG ho3 (by omega)
     cases e1
     have hc1:wr.cell? ⟨g,1,none⟩=some (.int .i64 (c1.getD 1 0)):=hcell 1 _ (by simp [ivI,List.getD_eq_getElem?_getD,List.getElem?_eq_getElem (show 1<c1.length by omega)])
     have hck:wr.cell? ⟨g,k,none⟩=some (.int .i64 (c1.getD k 0)):=hcell k _ (by simp [ivI,List.getD_eq_getElem?_getD,List.getElem?_eq_getElem hlt])
     have hf1:=hfro 1
     have hfk:=hfro k
     have hzL:Lit x.n (c1.getD k 0):=T1.out.lits _ (mW.2 ⟨k,hlt,rfl⟩)
     obtain ⟨hbgc,-,hbgl3⟩:=KR.out.facts
     generalize hze:c1.getD k 0=z at hck hzL
     generalize hue:c1.getD 1 0=u at hc1
     have HZE:=hid hze
     have HUE:=hid hue
     have hzK:z.natAbs<K.length:=by rw [hK.len];have:=hzL.2;omega
     have hkk:wr.cell? ⟨bg,z.natAbs,none⟩=some (.int .i64 K[z.natAbs]):=by rw [hbgc];exact jF J hzK
     have HKZ:=hid (show kn K z=K[z.natAbs] by simp [kn,List.getD_eq_getElem?_getD,hzK])
     generalize K[z.natAbs]=y2 at hkk HKZ
     have hza:z.natAbs<=x.n:=hzL.2
     have hzn:(z.natAbs:Int)<(x.n:Int)+1:=by omega
     have hz1 : -1000<=z:=by omega
     have hz2:z<=1000:=by omega
     have hkI:(k:Int)<(c1.length:Int):=by omega
     have hq:=hid (show ∀ m,Calls Tryz.prog 171 #[.int .i64 z] (wr.drewN m) fun e w''=>e=.returned (.int .i64 (z.natAbs:Nat))/\∃ n',w''=wr.drewN n' from fun m=>by
      refine (cY z (wr.drewN m) (by omega)).mono ?_
      rintro e w' ⟨rfl,rfl⟩
      exact ⟨rfl,m,rfl⟩)
     clear hcell hbgc hfro hze hue
     go_upto_region 9 with fail
     go_quiet ((go_at_call 171;exact hq.out _))
     have k4:aA wr (wr.drewN nq):=aA.drewN (aA.refl _) _
     have X4:=hid (XR.out.keep k4)
     have KB4:=hid (KR.out.keep k4 hbgl3)
     have TU4:=hid (TR.out.trans (aF.keep k4))
     have hd1:(wr.drewN nq).cell? ⟨g,1,none⟩=some (.int .i64 u):=(k4.cell (p:=⟨g,1,none⟩) hgl3).trans hc1
     have hdk:(wr.drewN nq).cell? ⟨g,k,none⟩=some (.int .i64 z):=(k4.cell (p:=⟨g,k,none⟩) hgl3).trans hck
     have hd1f:(wr.drewN nq).frozen? ⟨g,1,none⟩=false:=(k4.cells.2 g 1 hgl3).trans hf1
     have hdkf:(wr.drewN nq).frozen? ⟨g,k,none⟩=false:=(k4.cells.2 g k hgl3).trans hfk
     have hgl4:g<(wr.drewN nq).heap.size:=Nat.lt_of_lt_of_le hgl3 k4.size
     generalize wr.drewN nq=W4 at k4 X4 KB4 TU4 hd1 hdk hd1f hdkf hgl4
     clear k4 hq hc1 hck hf1 hfk hkk XR KR TR
     by_cases hy2:y2 = -z
     ·have hy2':(y2 != -z)=false:=by simp [hy2]
      have HN:=hid (show ∀ j,2<=j->j<k+1->kn K (c1.getD j 0) = -(c1.getD j 0) from fun j h1 h2=>by
       by_cases e:j=k
       ·rw [e,HZE.out];exact HKZ.out.trans hy2
       ·exact HALL.out j h1 (by omega))
      clear hy2
      go_wp2_with fail
      go_roundg (c1.length+2-(k+1))
      case rel=>exact ⟨k+1,by omega,by omega,by omega,by go_num,X4.out,KB4.out,TU4.out,HN.out⟩
      case measure=>omega
     ·have hy2':(y2 != -z)=true:=by simp [hy2]
      have HM:=hid (show Mv K lit c (swp c1 1 k) true by
       rw [M1.out]
       refine .gone hk2 (by omega) ?_
       rw [← M1.out,HZE.out,HKZ.out];exact hy2)
      clear hy2
      have h1k:(1:Nat)≠k:=by omega
      go_upto_region 10 with fail
      go_region
      obtain ⟨hS1,hS2⟩:=X4.out.swap (p:=p) (g:=g) (cap:=cap) (i:=1) (j:=k) HP1.out (by rw [hl1];exact HCV.out) HUE.out HZE.out
      have e5:(x.C.set p c1).set p (swp c1 1 k)=x.C.set p (swp c1 1 k):=List.set_set ..
      simp only [e5] at hS1 hS2
      have HE1:=hid (show (swp c1 1 k).getD 1 0=z by rw [eJ c1 (by omega) hlt,if_neg h1k,if_pos rfl];exact HZE.out)
      generalize (W4.setCell ⟨g,1,none⟩ (.int .i64 z)).setCell ⟨g,k,none⟩ (.int .i64 u)=Ws at hS1 hS2 ⊢
      have k5:aA Ws Ws.drew:=aA.drew (aA.refl _)
      have X5:=hid (hS1.keep k5)
      have TU5:=hid ((TU4.out.trans hS2).trans (aF.keep k5))
      generalize Ws.drew=W5 at X5 TU5 k5 ⊢
      clear hS1 hS2 k5 hd1 hdk hd1f hdkf hgl4 KB4 TU4 X4
      obtain ⟨v5,hv5,-,-,ho5⟩:=X5.out.cls (p:=p) (c:=swp c1 1 k) (List.getElem?_set_self hpl)
      have hvv:v5=.slice (some ⟨g,0,none⟩) c1.length cap:=by
       have:x.cv[p]? = some v5:=hv5
       rw [HCV.out] at this;rw [hl1];exact (Option.some.inj this).symm
      subst hvv
      rw [kJ] at ho5
      obtain ⟨g',cap',e6,-,hgl5,-,-,hcell,-,-⟩:=cG ho5 (by omega)
      cases e6
      have hc5:W5.cell? ⟨g,1,none⟩=some (.int .i64 z):=hcell 1 _ (by
       have:=HE1.out
       rw [List.getD_eq_getElem?_getD] at this
       have h6:(swp c1 1 k)[1]? = some z:=by
        rw [List.getElem?_eq_getElem (by rw [kJ];omega)] at this ⊢
        exact congrArg some this
       simp [ivI,h6])
      have HW:=hid (oI _ B z p W5 X5.out hn hzL (HR.out z hzL))
      clear hcell
      go_wp2_with fail
      refine HW.out.mono ?_
      rintro e w6 ⟨rfl,rv6,hx6,ht6⟩
      have X6:=hid hx6
      have T6:=hid (TU5.out.trans ht6)
      clear hx6 ht6 hc5 HW
      go_wp2_with fail
      go_ret
      exact ⟨true,swp c1 1 k,rfl,HM.out,.inr ⟨rfl,rv6,by unfold w1;rw [HE1.out];exact X6.out,by unfold w1;rw [HE1.out];exact T6.out⟩⟩
    ·obtain rfl:k=c1.length:=by omega
     have HM:=hid (show Mv K lit c c1 false by
      rw [M1.out]
      exact .stay (.inr fun j h1 h2=>by rw [← M1.out];exact HALL.out j h1 (by omega)))
     go_wp2_with fail
     go_ret
     exact ⟨false,c1,rfl,HM.out,.inl ⟨rfl,XR.out,TR.out⟩⟩
def XD.turned (x:XD) (C:List (List Int)) (rv:List Value) (W:List (List Nat)):XD:= { x with C:=C,rv:=rv,W:=W }
structure SM (kc:Nat) (J:List Value) (x:XD) (B B1 bk bg bf:Nat) (fv:Value) (K L:List Int) (w:World):Prop where
 xm:XM x B w
 st:iG kc J B1 bk bg bf x.n fv K L w
 sep : ∀ b,x.own b->b≠bk/\b≠bg/\b≠bf/\fv.ownBlock≠some b
def SO (x:XD) (bg bf:Nat) (fv:Value) (b:Nat):Prop:=x.own b∨b=bg∨b=bf∨fv.ownBlock=some b
theorem SM.keep {kc:Nat} {J:List Value} {x:XD} {B B1 bk bg bf:Nat} {fv:Value} {K L:List Int} {w w':World} (h:SM kc J x B B1 bk bg bf fv K L w) (k:aA w w'):SM kc J x B B1 bk bg bf fv K L w':=⟨h.xm.keep k,h.st.keep k,h.sep⟩
theorem SM.table {kc:Nat} {J:List Value} {x x':XD} {B B1 bk bg bf:Nat} {fv:Value} {K L:List Int} {w w':World} (h:SM kc J x B B1 bk bg bf fv K L w) (hn:x'.n=x.n) (hx:XM x' B w') (t:aF x.own x'.own w w'):SM kc J x' B B1 bk bg bf fv K L w'/\aF (SO x bg bf fv) (SO x' bg bf fv) w w':=by
 have l1:=h.st.kv.facts.2.2
 have l2:=h.st.kb.facts.2.2
 have l3:=h.st.fd.facts.2.2
 refine ⟨⟨hx,?_,fun b hb=> ?_⟩,⟨t.os,t.tape,t.output,t.size,fun b hb hn=>t.block b hb fun e=>hn (.inl e),fun b hb=> ?_⟩⟩
 ·rw [hn]
  exact h.st.turn t (fun e=>(h.sep _ e).1 rfl) (fun e=>(h.sep _ e).2.1 rfl) (fun e=>(h.sep _ e).2.2.1 rfl) fun b hb e=>(h.sep _ e).2.2.2 hb
 ·rcases t.new b hb with e | e
  ·exact h.sep b e
  ·exact ⟨by omega,by omega,by omega,fun e2=>by have:=(bQ h.st.own e2).2;omega⟩
 ·rcases hb with hb | hb
  ·exact (t.new b hb).imp .inl id
  ·exact .inl (.inr hb)
theorem SM.taken {kc:Nat} {J:List Value} {x:XD} {B B1 bk bg bf:Nat} {fv fv':Value} {K L K' L':List Int} {w w':World} (h:SM kc J x B B1 bk bg bf fv K L w) (hs:iG kc J B1 bk bg bf x.n fv' K' L' w') (t:aF (fun b=>b=bg∨b=bf∨fv.ownBlock=some b) (fun b=>b=bg∨b=bf∨fv'.ownBlock=some b) w w'):SM kc J x B B1 bk bg bf fv' K' L' w'/\aF (SO x bg bf fv) (SO x bg bf fv') w w':=by
 refine ⟨⟨h.xm.turn t ?_,hs,fun b hb=> ?_⟩,⟨t.os,t.tape,t.output,t.size,fun b hb hn=>t.block b hb fun e=>hn (.inr e),fun b hb=> ?_⟩⟩
 ·rintro b hb (e | e | e)
  ·exact (h.sep b hb).2.1 e
  ·exact (h.sep b hb).2.2.1 e
  ·exact (h.sep b hb).2.2.2 e
 ·have hs:=h.sep b hb
  refine ⟨hs.1,hs.2.1,hs.2.2.1,fun e=> ?_⟩
  rcases t.new b (.inr (.inr e)) with (e | e | e) | e
  ·exact hs.2.1 e
  ·exact hs.2.2.1 e
  ·exact hs.2.2.2 e
  ·have:=h.xm.lt hb;omega
 ·rcases hb with hb | hb
  ·exact .inl (.inl hb)
  ·exact (t.new b hb).imp .inr id
theorem jQ {P:Program} {w:World} {ops:Array Oper} {rest:List Oper} {o:Oper} {a:Act} {Q:Exit->Act->World->Prop} (hgd:o.guard=none) (s x:Operand) (t:TypeId)
  (ho:o.op=.call { callee:= .builtin .append,args:=#[s,x],argTypes:=#[t,t] }) (e:TypeId) (i:TypeInfo) (ht:P.underlying t=some (.slice e)) (hi:P.info? e=some i) (hsize:i.size=1)
  (b n cap:Nat) (hs:a.eval s=.slice (some ⟨b,0,none⟩) n cap) (ad:Addr) (c:Nat) (u:Value) (hx:a.eval x=.slice (some ad) 1 c) (hnews : ∀ j v,[u][j]? = some v->w.cell? (ad.add j)=some v) (h1:u.oneCell'=true) (hroom:n+1<=cap)
  (hc:(w.cell? ⟨b,n,none⟩).isSome=true) (hf:w.frozen? ⟨b,n,none⟩=false)
  (h:wpList P ops Q rest (a.put o.dst (.slice (some ⟨b,0,none⟩) (n+1) cap)) (w.setCell ⟨b,n,none⟩ u)):wpList P ops Q (o :: rest) a w:=by
 have hr:=run_append_room_cells (P:=P) w t o.type e i ht hi b 0 n cap ad 1 c [u] (by simp [hsize]) hnews (by intro v hv;rw [List.mem_singleton.1 hv];exact h1) hroom
  (fun j hj=>by (have:j=0:=by simpa using hj);subst this;simpa [hsize] using hc) (fun j hj=>by (have:j=0:=by simpa using hj);subst this;simpa [hsize] using hf)
 have he:w.setCells b (0+n*i.size) [u]=w.setCell ⟨b,n,none⟩ u:=by simp [World.setCells,hsize]
 rw [he] at hr
 refine wpList_plain hgd fun K hK=> ?_
 unfold Oper.wp
 simp [execOp,ho,resolve,invoke,builtin,hs,hx,hr,Result.andThen]
 exact hK _ _ h
def aPf (kc:Nat) (J:List Value) (x:XD) (B B1 bk bg bf:Nat) (fv:Value) (F G:List (List Int)) (A K0 K:List Int) (k:Nat) (w:World) (e:Ending) (w':World):Prop:=
 ∃ (ok:Bool) (C':List (List Int)) (rv':List Value) (W':List (List Nat)) (fv':Value) (K' L':List Int),e=.returned (.bool ok)/\SM kc J (x.turned C' rv' W') B B1 bk bg bf fv' K' L' w'/\aF (SO x bg bf fv) (SO (x.turned C' rv' W') bg bf fv') w w'/\C'.length=x.C.length/\Ext K K'/\
  ((ok=true/\iX x.n F G A K0 K' L' k C' W')∨(ok=false/\aAq x.n F G A K0 K' L' C' W'))
theorem aQs {kept orig:List Nat} {m i:Nat} (hm:kept.length=m) (hmi:m<=i) {p:Nat} (hp:orig[i]? = some p):(kept++orig.drop m)[i]? = some p:=by
 rw [List.getElem?_append_right (by omega),List.getElem?_drop,hm,show m+(i-m)=i by omega];exact hp
theorem tH {kept orig:List Nat} {m:Nat} (hm:kept.length=m) (hml:m<orig.length) (p:Nat):(kept++orig.drop m).set m p=(kept ++ [p])++orig.drop (m+1):=by
 rw [List.set_append_right _ _ (by omega),hm,Nat.sub_self,List.drop_eq_getElem_cons hml,List.set_cons_zero]
 simp
theorem sG {n:Nat} {W:List (List Nat)} {z lit:Int} {p:Nat} (hW:W.length=2*n+1) (hz:Lit n z) (hl:Lit n lit) (hne:z≠lit):(cD n W z p).getD ((n:Int)+lit).toNat []=W.getD ((n:Int)+lit).toNat []:=by
 unfold cD
 rw [dL _ _ _ _ (by have:=hz.2;omega),if_neg (by have:=hz.2;have:=hl.2;omega)]
theorem sX (kc:Nat) (J:List Value) (x:XD) (B B1 bk bg bf:Nat) (fv:Value) (F G:List (List Int)) (A K0 K L:List Int) (k:Nat) (lit:Int) (w:World) (h:SM kc J x B B1 bk bg bf fv K L w) (hn:x.n<=1000) (hC:x.C.length<=1000000) (hG : ∀ c∈G,aL x.n c)
  (hI:oP x.n F G A K0 K L k lit [] (x.W.getD ((x.n:Int)+lit).toNat []) x.C x.W) (hN:(x.W.getD ((x.n:Int)+lit).toNat []).length<=x.C.length) :
  Calls Tryz.prog 174 #[.pointer (some ⟨x.bx,0,none⟩),.int .i64 lit,.slice (some ⟨bg,0,none⟩) (x.n+1) kc,.func (.func 173) #[] #[.pointer (some ⟨bk,0,none⟩),.pointer (some ⟨bf,0,none⟩)]] w fun e w'=>aPf kc J x B B1 bk bg bf fv F G A K0 K k w e w':=by
 obtain ⟨i0,hi,hz0,hz1,hz2⟩:=info_parts dG
 have HSM:=hid h
 have HI:=hid hI
 have HG:=hid hG
 have hl:=hI.hl
 have HL:=hid hl
 obtain ⟨q,hq⟩ : ∃ q:Nat,(x.n:Int)+lit=q:=⟨((x.n:Int)+lit).toNat,by have:=hl.2;omega⟩
 have hq2:q<2*x.n+1:=by have:=hl.2;omega
 have HQN:=hid (show ((x.n:Int)+lit).toNat=q by rw [hq,Int.toNat_natCast])
 have hq0:(0:Int)<=q:=by omega
 have hq3:(q:Int)<2*x.n+1:=by omega
 have hqw:IntKind.i64.wrap (q:Int)=q:=by rw [IntKind.wrap_i64];omega
 have hl1 : -1000<=lit:=by have:=hl.2;omega
 have hl2:lit<=1000:=by have:=hl.2;omega
 obtain ⟨v,hrv,hac,-,-,hx2⟩:=h.xm.row hq2
 rw [HQN.out] at hN
 generalize horig:x.W.getD q []=orig at hx2 hN
 have HORIG:=hid horig
 obtain ⟨vp,vc,hvs⟩ : ∃ vp vc,v=.slice vp orig.length vc:=by
  obtain ⟨-,⟨e,e0⟩ | ⟨g,cap,cur,e,-⟩⟩:=hx2
  ·exact ⟨none,0,by rw [e,e0]⟩
  ·exact ⟨_,cap,e⟩
 subst hvs
 have HVP:=hid (show vp=none->orig.length=0/\vc=0 from fun e=>by
  subst e
  obtain ⟨-,⟨e,e0⟩ | ⟨g,cap,cur,e,-⟩⟩:=hx2
  ·injection e with _ _ e3;exact ⟨e0,e3⟩
  ·injection e with e1;cases e1)
 have hcapN:orig.length<=vc/\vc<=9223372036854775807:=by
  obtain ⟨-,⟨e,e0⟩ | ⟨g,cap,cur,e,-,-,h1,h2,-⟩⟩:=hx2
  ·injection e with _ _ e3;omega
  ·injection e with _ _ e3;unfold maxLen at h2;omega
 have hNb:orig.length<=1000000:=Nat.le_trans hN hC
 have HRV:=hid hrv
 obtain ⟨hbc,hbf,hbl⟩:=h.xm.box.facts
 obtain ⟨-,hwf,hwl⟩:=h.xm.wb.facts
 have hb0:w.cell? ⟨x.bx,0,none⟩=some (.int .i64 x.n):=hbc 0
 have hb4:w.cell? ⟨x.bx,4,none⟩=some (.slice (some ⟨x.bw,0,none⟩) (2*x.n+1) (2*x.n+1)):=hbc 4
 have hent:=tW
 have HI0:=hid (show oP x.n F G A K0 K L k lit [] orig x.C x.W by have:=HI.out;rw [HQN.out,HORIG.out] at this;exact this)
 clear h hI hG hx2 hrv hbc horig
 go_enter Tryz.func174,Tryz.ntmps174
 go_upto_region 1 with fail
 go_quiet (fail)
 have k0:aA w (w.drewN nq):=aA.drewN (aA.refl _) _
 have SM0:=hid (HSM.out.keep k0)
 have TU0:=hid (show aF (SO x bg bf fv) (SO x bg bf fv) w (w.drewN nq) from aF.keep k0)
 generalize w.drewN nq=W0 at k0 SM0 TU0
 clear k0 hb0 hb4 hac hbl hwl hwf hbf
 go_wp2_with fail
 go_loopg [10,11,30] orig.length (fun gn kv okv iv wr=> ∃ (i m:Nat) (ok:Bool) (C1:List (List Int)) (rv1:List Value) (W1:List (List Nat)) (fv1:Value) (K1 L1:List Int) (kept:List Nat),
  i+gn=orig.length/\iv=.int .i64 i/\kept.length=m/\m<=i/\kv=.slice vp m vc/\okv=.bool ok/\SM kc J (x.turned C1 rv1 W1) B B1 bk bg bf fv1 K1 L1 wr/\aF (SO x bg bf fv) (SO (x.turned C1 rv1 W1) bg bf fv1) w wr/\C1.length=x.C.length/\Ext K K1/\
  rv1[q]? = some (.slice vp orig.length vc)/\W1.getD q []=kept++orig.drop m/\
  ((ok=true/\oP x.n F G A K0 K1 L1 k lit kept (orig.drop i) C1 W1)∨(ok=false/\aIq x.n F G A K0 K1 L1 lit (kept++orig.drop i) C1 W1)))
 case atStart=>exact ⟨0,0,true,x.C,x.rv,x.W,fv,K,L,[],by omega,rfl,rfl,Nat.le_refl _,rfl,rfl,SM0.out,TU0.out,rfl,Ext.refl _,HRV.out,HORIG.out,.inl ⟨rfl,HI0.out⟩⟩
 case round=>
  obtain ⟨i,m,ok,C1,rv1,W1,fv1,K1,L1,kept,hig,rfl,hkm,hmi,rfl,rfl,hsm,htu,hcl,hext,hrv1,hrow,hst⟩:=hrel
  have HEXT:=hid hext
  have SM1:=hid hsm
  have TU1:=hid htu
  have HCL:=hid hcl
  have HRV1:=hid hrv1
  have HROW:=hid hrow
  have HST:=hid hst
  have HKM:=hid hkm
  clear hsm htu hcl hrv1 hrow hst hkm hext SM0 TU0
  by_cases hlt:i<orig.length
  ·obtain ⟨g,hvp⟩ : ∃ g,vp=some ⟨g,0,none⟩:=by
    obtain ⟨v1,h1,-,-,-,h5⟩:=SM1.out.xm.row hq2
    have h1':rv1[q]? = some v1:=h1
    rw [HRV1.out] at h1'
    cases h1'
    obtain ⟨-,⟨e,e0⟩ | ⟨g,cap,cur,e,-⟩⟩:=h5
    ·injection e with _ e2;omega
    ·injection e with e1;exact ⟨g,e1⟩
   subst hvp
   have hlen1:(kept++orig.drop m).length=orig.length:=by rw [List.length_append,List.length_drop,HKM.out];omega
   have HR1:=hid (show rv1[q]? = some (.slice (some ⟨g,0,none⟩) ((x.turned C1 rv1 W1).W.getD q []).length vc) by
    have:((x.turned C1 rv1 W1).W.getD q []).length=orig.length:=by show (W1.getD q []).length=_;rw [HROW.out];exact hlen1
    rw [this];exact HRV1.out)
   obtain ⟨p,hp⟩ : ∃ p,orig[i]? = some p:=⟨_,List.getElem?_eq_getElem hlt⟩
   have HOWN:=hid (show wr.ownsRow B 3 1 (.slice (some ⟨g,0,none⟩) orig.length vc) orig.length (ivN (kept++orig.drop m)) by
    obtain ⟨v1,h1,-,-,-,h5⟩:=SM1.out.xm.row hq2
    have h1':rv1[q]? = some v1:=h1
    rw [HRV1.out] at h1'
    cases h1'
    have h6:(x.turned C1 rv1 W1).W.getD q []=kept++orig.drop m:=HROW.out
    rw [h6,hlen1] at h5
    exact h5)
   obtain ⟨g',cap',e1,hgB,hgl,-,-,hcell,hfro,hsome⟩:=cG HOWN.out (by omega)
   cases e1
   have hci:wr.cell? ⟨g,i,none⟩=some (.int .i64 (p:Int)):=hcell i _ (by
    have:=aQs HKM.out hmi hp
    simp only [ivN,List.getElem?_map,this,Option.map_some])
   have hiI:(i:Int)<(orig.length:Int):=by omega
   have HDR:=hid (show orig.drop i=p :: orig.drop (i+1) by
    rw [List.drop_eq_getElem_cons hlt]
    have:=List.getElem?_eq_getElem hlt
    rw [hp] at this
    rw [Option.some.inj this])
   have HP:=hid hp
   have hml:m<orig.length:=by omega
   clear hcell hp
   rcases HST.out with ⟨rfl,hask⟩ | ⟨rfl,hask⟩
   ·rw [HDR.out] at hask
    have HASK:=hid hask
    obtain ⟨c,hc,h2,hw⟩:=hask.at
    have HC1:=hid hc
    have hrows : ∀ z,Lit (x.turned C1 rv1 W1).n z->((x.turned C1 rv1 W1).W.getD (((x.turned C1 rv1 W1).n:Int)+z).toNat []).length<=1000000:=fun z hz=>by
     show (W1.getD ((x.n:Int)+z).toNat []).length<=1000000
     have hz':Lit x.n z:=hz
     by_cases e:z=lit
     ·rw [e,HQN.out,HROW.out,hlen1];exact hNb
     ·have:=aAl HASK.out.ws hz'
      rw [rR HASK.out.hl hz' HASK.out.wl e,HCL.out] at this
      omega
    have HMV:=hid (aNk kc J (x.turned C1 rv1 W1) B p bg K1 lit c wr SM1.out.xm hn hc h2 hw HASK.out.sk.tb SM1.out.st.kb (fun e=>(SM1.out.sep _ e).2.1 rfl) hrows)
    clear hask hc h2 hw hrows
    go_wp2_with fail
    refine HMV.out.mono ?_
    clear HMV
    rintro e w2 ⟨r,c',rfl,hmv,hd⟩
    rcases hd with ⟨rfl,hx,ht⟩ | ⟨rfl,v2,hx,ht⟩
    ·have hST:=HASK.out.stay HG.out HC1.out hmv
     obtain ⟨hsm,hto⟩:=SM1.out.table (x':= { x.turned C1 rv1 W1 with C:=C1.set p c' }) rfl hx ht
     have SM2:=hid (show SM kc J (x.turned (C1.set p c') rv1 W1) B B1 bk bg bf fv1 K1 L1 w2 from hsm)
     have TU2:=hid (show aF (SO x bg bf fv) (SO (x.turned (C1.set p c') rv1 W1) bg bf fv1) w w2 from TU1.out.trans hto)
     have HSTAY:=hid hST
     clear hx ht hsm hto hmv hci hST SM1 TU1 HOWN
     have HR2:=hid (show (x.turned (C1.set p c') rv1 W1).rv[q]? = some (.slice (some ⟨g,0,none⟩) ((x.turned (C1.set p c') rv1 W1).W.getD q []).length vc) from HR1.out)
     have hOW2:w2.ownsRow B 3 1 (.slice (some ⟨g,0,none⟩) orig.length vc) orig.length (ivN (kept++orig.drop m)):=by
      obtain ⟨v1,h1,-,-,-,h5⟩:=SM2.out.xm.row hq2
      have h1':rv1[q]? = some v1:=h1
      rw [HRV1.out] at h1'
      cases h1'
      have h6:(x.turned (C1.set p c') rv1 W1).W.getD q []=kept++orig.drop m:=HROW.out
      rw [h6,hlen1] at h5
      exact h5
     obtain ⟨g',cap',e1,-,hgl2,-,-,-,hfro2,hsome2⟩:=cG hOW2 (by omega)
     cases e1
     have hroom:m+1<=vc:=by omega
     have hsA : ∀ o:Obj,((w2.alloc o).cell? ⟨g,m,none⟩).isSome=true/\(w2.alloc o).frozen? ⟨g,m,none⟩=false:=fun o=>⟨by rw [(aA.alloc w2 o).cell (p:=⟨g,m,none⟩) hgl2];exact hsome2 m (by omega),((aA.alloc w2 o).cells.2 g m hgl2).trans (hfro2 m)⟩
     clear hOW2 hfro2 hsome2 hfro hsome
     go_upto_region 8 with (at_builtin;refine jQ rfl _ _ 37 rfl 3 i0 Tryz.underlying37 hi hz1 g m vc rfl ⟨w2.heap.size,0,none⟩ 1 (.int .i64 (p:Int)) rfl dC rfl hroom (hsA _).1 (hsA _).2 ?_)
     obtain ⟨hX3,hT3⟩:=SM2.out.xm.setR (i:=q) (g:=g) (cap:=vc) (j:=m) (p:=p) hq2 HR2.out
     obtain ⟨hsm,hto⟩:=SM2.out.table (x':=x.turned (C1.set p c') rv1 (W1.set q ((W1.getD q []).set m p))) rfl hX3 hT3
     have HRW:=hid (show (W1.getD q []).set m p=(kept ++ [p])++orig.drop (m+1) by rw [HROW.out];exact tH HKM.out hml p)
     have HQ:=hid (show SM kc J (x.turned (C1.set p c') rv1 (W1.set q ((kept ++ [p])++orig.drop (m+1)))) B B1 bk bg bf fv1 K1 L1 ((w2.setCell ⟨g,m,none⟩ (.int .i64 (p:Int))).alloc (.cells #[.int .i64 (p:Int)] 3))/\aF (SO x bg bf fv) (SO (x.turned (C1.set p c') rv1 (W1.set q ((kept ++ [p])++orig.drop (m+1)))) bg bf fv1) w ((w2.setCell ⟨g,m,none⟩ (.int .i64 (p:Int))).alloc (.cells #[.int .i64 (p:Int)] 3)) from by
      rw [← HRW.out]
      exact ⟨hsm.keep (aA.alloc _ _),(TU2.out.trans hto).trans (aF.keep (aA.alloc _ _))⟩)
     clear hX3 hT3 hsm hto hsA SM2 TU2 HR2
     refine bF (fun W'=>SM kc J (x.turned (C1.set p c') rv1 (W1.set q ((kept ++ [p])++orig.drop (m+1)))) B B1 bk bg bf fv1 K1 L1 W'/\aF (SO x bg bf fv) (SO (x.turned (C1.set p c') rv1 (W1.set q ((kept ++ [p])++orig.drop (m+1)))) bg bf fv1) w W') ?_ ?_
     ·exact HQ.out
     rintro w3 ⟨hsm,htu⟩
     have SM3:=hid hsm
     have TU3:=hid htu
     clear hsm htu HQ
     have hpC:p<C1.length:=(List.getElem?_eq_some_iff.1 HC1.out).1
     obtain ⟨v4,hv4,-,-,ho4⟩:=SM3.out.xm.cls (p:=p) (c:=c') (List.getElem?_set_self hpC)
     obtain ⟨ga,capa,hav,hgal,hac⟩:=SM3.out.xm.arr_cell hv4
     have h2l:=HSTAY.out.2.1.len
     obtain ⟨gc,capc,hve,-,hgcl,-,-,hcell,-,-⟩:=cG ho4 (by omega)
     subst hve
     have hc0:w3.cell? ⟨gc,0,none⟩=some (.int .i64 (w0 c')):=hcell 0 _ (by
      unfold w0
      rw [List.getD_eq_getElem?_getD,List.getElem?_eq_getElem (show 0<c'.length by omega)]
      simp [ivI])
     obtain ⟨hbc,-,hbl⟩:=SM3.out.xm.box.facts
     have hb3:w3.cell? ⟨x.bx,3,none⟩=some (.slice (some ⟨ga,0,none⟩) (C1.set p c').length capa):=(hbc 3).trans (congrArg some hav)
     have hpl:(p:Int)<((C1.set p c').length:Int):=by rw [List.length_set];omega
     have hcl4:(C1.set p c').length<=1000000:=by rw [List.length_set,HCL.out];exact hC
     have hcl5:(0:Int)<(c'.length:Int):=by omega
     have HTK:=hid (aDr kc J B1 bk bg bf x.n fv1 K1 L1 (w0 c') w3 SM3.out.st hn HSTAY.out.1 (by have:=HASK.out.sk.le;omega))
     generalize ho:w0 c'=o at hc0 HTK
     have HO:=hid ho
     generalize (C1.set p c').length=nc at hb3 hpl hcl4
     clear hcell hbc ho hav
     go_wp2_with fail
     refine HTK.out.mono ?_
     clear HTK
     rintro e w4 ⟨fv4,rfl,hs4,ht4⟩
     obtain ⟨hsm,hto⟩:=SM3.out.taken hs4 ht4
     have SM4:=hid hsm
     have TU4:=hid (TU3.out.trans hto)
     clear hsm hto hs4 ht4 hac hc0 hb3
     have HRV4:=hid HRV1.out
     have HROW4:=hid (show (W1.set q ((kept ++ [p])++orig.drop (m+1))).getD q []=(kept ++ [p])++orig.drop (m+1) by rw [dL _ _ _ _ (by rw [HASK.out.wl];exact hq2),if_pos rfl])
     have hsetset : ∀ r:List Nat,(W1.set q ((kept ++ [p])++orig.drop (m+1))).set ((x.n:Int)+lit).toNat r=W1.set ((x.n:Int)+lit).toNat r:=fun r=>by rw [HQN.out,List.set_set]
     have hres:(∃ b:Bool,(kn (tkK K1 o) o==o)=b/\((b=true/\oP x.n F G A K0 (tkK K1 o) (tkL K1 L1 o) k lit (kept ++ [p]) (orig.drop (i+1)) (C1.set p c') (W1.set q ((kept ++ [p])++orig.drop (m+1))))∨(b=false/\aIq x.n F G A K0 (tkK K1 o) (tkL K1 L1 o) lit ((kept ++ [p])++orig.drop (i+1)) (C1.set p c') (W1.set q ((kept ++ [p])++orig.drop (m+1)))))):=by
      refine ⟨_,rfl,?_⟩
      obtain ⟨-,-,s1,s2⟩:=HSTAY.out
      rw [HO.out] at s1 s2
      by_cases e:kn (tkK K1 o) o=o
      ·have s:=s1 e
       exact .inl ⟨beq_iff_eq.2 e,⟨s.sk,s.kl,s.hl,s.no,by rw [List.length_set];exact s.wl,by rw [hsetset];exact s.ws,s.base,s.rep,s.watch⟩⟩
      ·have s:=s2 e
       exact .inr ⟨beq_eq_false_iff_ne.2 e,⟨s.fails,s.sk,s.hl,by rw [List.length_set];exact s.wl,by rw [hsetset];exact s.ws,s.base,s.rep⟩⟩
     obtain ⟨bo,hbo,hres⟩:=hres
     rw [hbo]
     have HRES:=hid hres
     clear hres hbo hsetset
     go_wp2_with fail
     go_roundg (orig.length-(i+1))
     case rel=>exact ⟨i+1,m+1,bo,_,_,_,fv4,_,_,kept ++ [p],by omega,by go_num,by rw [List.length_append,HKM.out];rfl,by omega,rfl,by cases bo<;>rfl,SM4.out,TU4.out,by rw [List.length_set];exact HCL.out,HEXT.out.trans (HO.out ▸ qX HASK.out.sk.tb HSTAY.out.1),HRV4.out,HROW4.out,HRES.out⟩
     case measure=>omega
    ·have HMV:=hid (HASK.out.move HC1.out hmv)
     obtain ⟨hsm,hto⟩:=SM1.out.table (x':= { x.turned C1 rv1 W1 with C:=C1.set p c',rv:=rv1.set ((x.n:Int)+w1 c').toNat v2,W:=cD x.n W1 (w1 c') p }) rfl hx ht
     have SM2:=hid (show SM kc J (x.turned (C1.set p c') (rv1.set ((x.n:Int)+w1 c').toNat v2) (cD x.n W1 (w1 c') p)) B B1 bk bg bf fv1 K1 L1 w2 from hsm)
     have TU2:=hid (show aF (SO x bg bf fv) (SO (x.turned (C1.set p c') (rv1.set ((x.n:Int)+w1 c').toNat v2) (cD x.n W1 (w1 c') p)) bg bf fv1) w w2 from TU1.out.trans hto)
     have HRV2:=hid (show (rv1.set ((x.n:Int)+w1 c').toNat v2)[q]? = some (.slice (some ⟨g,0,none⟩) orig.length vc) by
      have:=HMV.out.2.1.2
      have h3:=HMV.out.2.2
      rw [List.getElem?_set_ne (by omega)];exact HRV1.out)
     have HROW2:=hid (show (cD x.n W1 (w1 c') p).getD q []=kept++orig.drop m by
      have:=sG (p:=p) HASK.out.wl HMV.out.2.1 HASK.out.hl HMV.out.2.2
      rw [HQN.out] at this
      rw [this];exact HROW.out)
     clear hx ht hsm hto hmv hci
     go_wp2_with fail
     go_roundg (orig.length-(i+1))
     case rel=>exact ⟨i+1,m,true,_,_,_,fv1,K1,L1,kept,by omega,by go_num,HKM.out,by omega,rfl,rfl,SM2.out,TU2.out,by simp [HCL.out],HEXT.out,HRV2.out,HROW2.out,.inl ⟨rfl,HMV.out.1⟩⟩
     case measure=>omega
   ·rw [HDR.out] at hask
    have HASK:=hid hask
    have hroom:m+1<=vc:=by omega
    have hsA : ∀ o:Obj,((wr.alloc o).cell? ⟨g,m,none⟩).isSome=true/\(wr.alloc o).frozen? ⟨g,m,none⟩=false:=fun o=>⟨by rw [(aA.alloc wr o).cell (p:=⟨g,m,none⟩) hgl];exact hsome m (by omega),((aA.alloc wr o).cells.2 g m hgl).trans (hfro m)⟩
    clear hask hfro hsome HST
    go_upto_region 8 with (at_builtin;refine jQ rfl _ _ 37 rfl 3 i0 Tryz.underlying37 hi hz1 g m vc rfl ⟨wr.heap.size,0,none⟩ 1 (.int .i64 (p:Int)) rfl dC rfl hroom (hsA _).1 (hsA _).2 ?_)
    obtain ⟨hX3,hT3⟩:=SM1.out.xm.setR (i:=q) (g:=g) (cap:=vc) (j:=m) (p:=p) hq2 HR1.out
    obtain ⟨hsm,hto⟩:=SM1.out.table (x':=x.turned C1 rv1 (W1.set q ((W1.getD q []).set m p))) rfl hX3 hT3
    have HRW:=hid (show (W1.getD q []).set m p=(kept ++ [p])++orig.drop (m+1) by rw [HROW.out];exact tH HKM.out hml p)
    have HQ:=hid (show SM kc J (x.turned C1 rv1 (W1.set q ((kept ++ [p])++orig.drop (m+1)))) B B1 bk bg bf fv1 K1 L1 ((wr.setCell ⟨g,m,none⟩ (.int .i64 (p:Int))).alloc (.cells #[.int .i64 (p:Int)] 3))/\aF (SO x bg bf fv) (SO (x.turned C1 rv1 (W1.set q ((kept ++ [p])++orig.drop (m+1)))) bg bf fv1) w ((wr.setCell ⟨g,m,none⟩ (.int .i64 (p:Int))).alloc (.cells #[.int .i64 (p:Int)] 3)) from by
     rw [← HRW.out]
     exact ⟨hsm.keep (aA.alloc _ _),(TU1.out.trans hto).trans (aF.keep (aA.alloc _ _))⟩)
    clear hX3 hT3 hsm hto hsA SM1 TU1 HR1 HOWN hci
    refine bF (fun W'=>SM kc J (x.turned C1 rv1 (W1.set q ((kept ++ [p])++orig.drop (m+1)))) B B1 bk bg bf fv1 K1 L1 W'/\aF (SO x bg bf fv) (SO (x.turned C1 rv1 (W1.set q ((kept ++ [p])++orig.drop (m+1)))) bg bf fv1) w W') ?_ ?_
    ·exact HQ.out
    rintro w3 ⟨hsm,htu⟩
    have SM3:=hid hsm
    have TU3:=hid htu
    clear hsm htu HQ hgl
    have HROW4:=hid (show (W1.set q ((kept ++ [p])++orig.drop (m+1))).getD q []=(kept ++ [p])++orig.drop (m+1) by rw [dL _ _ _ _ (by rw [HASK.out.wl];exact hq2),if_pos rfl])
    have HN:=hid (show aIq x.n F G A K0 K1 L1 lit ((kept ++ [p])++orig.drop (i+1)) C1 (W1.set q ((kept ++ [p])++orig.drop (m+1))) from by
     have s:=HASK.out
     refine ⟨s.fails,s.sk,s.hl,by rw [List.length_set];exact s.wl,?_,s.base,s.rep⟩
     have:=s.ws
     rw [HQN.out] at this ⊢
     rw [List.set_set,List.append_assoc]
     exact this)
    go_wp2_with fail
    go_roundg (orig.length-(i+1))
    case rel=>exact ⟨i+1,m+1,false,_,_,_,fv1,_,_,kept ++ [p],by omega,by go_num,by rw [List.length_append,HKM.out];rfl,by omega,rfl,rfl,SM3.out,TU3.out,HCL.out,HEXT.out,HRV1.out,HROW4.out,.inr ⟨rfl,HN.out⟩⟩
    case measure=>omega
  ·obtain rfl:i=orig.length:=by omega
   have HOWN:=hid (show wr.ownsRow B 3 1 (.slice vp orig.length vc) orig.length (ivN (kept++orig.drop m)) by
    obtain ⟨v1,h1,-,-,-,h5⟩:=SM1.out.xm.row hq2
    have h1':rv1[q]? = some v1:=h1
    rw [HRV1.out] at h1'
    cases h1'
    have h6:(x.turned C1 rv1 W1).W.getD q []=kept++orig.drop m:=HROW.out
    rw [h6] at h5
    have hlen1:(kept++orig.drop m).length=orig.length:=by rw [List.length_append,List.length_drop,HKM.out];omega
    rw [hlen1] at h5
    exact h5)
   have HK:=hid (show wr.ownsRow B 3 1 (.slice vp m vc) kept.length (ivN kept) by
    cases hvp:vp with
    | none=>
     obtain ⟨e0,e1⟩:=HVP.out hvp
     have hm0:m=0:=by omega
     have hk0:kept = []:=List.length_eq_zero_iff.1 (by rw [HKM.out];exact hm0)
     rw [e1,hm0,hk0];exact World.ownsRow_nil _ _ _ _
    | some ad=>
     have h7:=HOWN.out
     rw [hvp] at h7
     obtain ⟨-,⟨e,-⟩ | ⟨g,cap,cur,e,-⟩⟩:=id h7
     ·cases e
     ·injection e with e1
      cases e1
      have h8:=aNy h7 (m:=m) hmi
      rw [HKM.out]
      rwa [show (ivN (kept++orig.drop m)).take m=ivN kept by rw [ivN,← List.map_take,List.take_left' HKM.out,ivN]] at h8)
   obtain ⟨hX2,hT2⟩:=SM1.out.xm.setW (i:=q) hq2 (w5:=wr) (v':= .slice vp m vc) (r:=kept) HRV1.out (fun _ _ _=>rfl) ⟨rfl,rfl,rfl,Nat.le_refl _,fun _ _ _=>rfl⟩ (.inl (by cases vp<;>rfl)) HK.out
   obtain ⟨hsm,hto⟩:=SM1.out.table (x':=x.turned C1 (rv1.set q (.slice vp m vc)) (W1.set q kept)) rfl hX2 hT2
   have HQ:=hid (show SM kc J (x.turned C1 (rv1.set q (.slice vp m vc)) (W1.set q kept)) B B1 bk bg bf fv1 K1 L1 (wr.setCell ⟨x.bw,q,none⟩ (.slice vp m vc))/\aF (SO x bg bf fv) (SO (x.turned C1 (rv1.set q (.slice vp m vc)) (W1.set q kept)) bg bf fv1) w (wr.setCell ⟨x.bw,q,none⟩ (.slice vp m vc)) from ⟨hsm,TU1.out.trans hto⟩)
   obtain ⟨hbc,hbf,hbl⟩:=SM1.out.xm.box.facts
   obtain ⟨hwc,hwf,hwl⟩:=SM1.out.xm.wb.facts
   have hb0:wr.cell? ⟨x.bx,0,none⟩=some (.int .i64 x.n):=hbc 0
   have hb4:wr.cell? ⟨x.bx,4,none⟩=some (.slice (some ⟨x.bw,0,none⟩) (2*x.n+1) (2*x.n+1)):=hbc 4
   have hwq:wr.cell? ⟨x.bw,q,none⟩=some (.slice vp orig.length vc):=(show wr.cell? ⟨x.bw,q,none⟩=rv1.toArray[q]? from hwc q).trans (by simpa using HRV1.out)
   have hwfq:wr.frozen? ⟨x.bw,q,none⟩=false:=hwf q
   have hwl':x.bw<wr.heap.size:=hwl
   have hbl':x.bx<wr.heap.size:=hbl
   have HDONE:=hid (show (ok=true/\iX x.n F G A K0 K1 L1 k C1 (W1.set q kept))∨(ok=false/\aAq x.n F G A K0 K1 L1 C1 (W1.set q kept)) from by
    rcases HST.out with ⟨h1,h2⟩ | ⟨h1,h2⟩
    ·rw [List.drop_length] at h2
     have:=h2.done
     rw [HQN.out] at this
     exact .inl ⟨h1,this⟩
    ·rw [List.drop_length,List.append_nil] at h2
     have:=h2.done
     rw [HQN.out] at this
     exact .inr ⟨h1,this⟩)
   clear hX2 hT2 hsm hto hbc hwc hwf hbf hbl hwl
   go_upto_region 10 with fail
   go_region
   generalize wr.setCell ⟨x.bw,q,none⟩ (.slice vp m vc)=Ws at HQ ⊢
   have k5:aA Ws Ws.drew:=aA.drew (aA.refl _)
   have SM5:=hid (HQ.out.1.keep k5)
   have TU5:=hid (HQ.out.2.trans (aF.keep k5))
   generalize Ws.drew=W5 at SM5 TU5 k5 ⊢
   clear k5 HQ hwq hwfq hb0 hb4
   go_wp2_with fail
   go_ret
   exact ⟨ok,_,_,_,fv1,K1,L1,rfl,SM5.out,TU5.out,HCL.out,HEXT.out,HDONE.out⟩
end Go.Proofs.YthaaaecmeafofaaGreatDoor.Cn
