/- Steps of the proof: RefTree, OrdSays, AtomOpen, NeedOpen. -/
import Derived.Test.YthaaaecmeafofaaGreatDoorOs21
import Derived.Test.YthaaaecmeafofaaGreatDoorOs08
import Derived.Test.YthaaaecmeafofaaGreatDoorOs10
import Derived.Test.YthaaaecmeafofaaGreatDoorOs17
import Derived.Test.YthaaaecmeafofaaGreatDoorOs20
import Derived.Test.YthaaaecmeafofaaGreatDoorOs18
import Derived.Test.YthaaaecmeafofaaGreatDoorOs03
import Derived.Lib.LaidTab
import Derived.Stop.LaidErr
import Derived.OpenShut
import Derived.Lib.SmallJoins
import Derived.Deep.DeepWitnessRowRef
import Derived.LaidMore
import Derived.Stop.Joined
import Derived.ChangeOld
import Derived.Shelf.Vars
import Derived.HandedShaped
set_option maxHeartbeats 16000000
set_option maxRecDepth 100000
namespace Go.Proofs.YthaaaecmeafofaaGreatDoor
open Go.RowKit Go.Sort
theorem fZ.keep {v:Value} {fs:List (List UInt8)} {w w':World} (h:fZ v fs w) (k:aA w w'):fZ v fs w':=by
 rcases h with h | ⟨g,cap,h1,h2,h3⟩
 ·exact Or.inl h
 ·exact Or.inr ⟨g,cap,h1,Nat.lt_of_lt_of_le h2 k.size,fun j x hx=>(k.cell (p:=⟨g,0+j,none⟩) h2).trans (h3 j x hx)⟩
theorem fZ.len {v:Value} {fs:List (List UInt8)} {w:World} (h:fZ v fs w) : ∃ p cap,v=.slice p fs.length cap:=by
 rcases h with ⟨rfl,p,cap,h⟩ | ⟨g,cap,h,-⟩
 ·exact ⟨p,cap,h⟩
 ·exact ⟨_,cap,h⟩
theorem aFh {a b:Bool} (h:a = !b):b = !a:=by cases a<;>cases b<;>first | rfl | cases h
theorem aCz (l:List UInt8):Op.bytesLess l l=false:=by
 induction l with
 | nil=>rfl
 | cons c l ih=>simp [Op.bytesLess,ih]
theorem wH (p q:PK):(Op.bytesLess p.n.toList q.n.toList||((p.n.toList==q.n.toList)&&decide (p.v<=q.v))) = !cH p q:=by
 unfold cH
 by_cases h:p.n=q.n
 ·rw [if_pos h,h,aCz]
  simp only [beq_self_eq_true,Bool.true_and,Bool.false_or]
  by_cases hv:p.v<=q.v
  ·rw [decide_eq_true hv,decide_eq_false (by omega)];rfl
  ·rw [decide_eq_false hv,decide_eq_true (by omega)];rfl
 ·have hb:(p.n.toList==q.n.toList)=false:=by
   rw [beq_eq_false_iff_ne]
   intro e
   rw [Lib.toList_data,Lib.toList_data] at e
   exact h (gJ e)
  rw [if_neg h,Bool.not_not]
  unfold leS
  rw [hb];simp
theorem xC {t:NT} (h:t.ok) : ∀ f∈t.flags,f.size<=maxLen:=by
 intro f hf
 have key : ∀ (m:Nat) (t:NT),t.size<=m->t.ok->∀ f∈t.flags,f.size<=maxLen:=by
  intro m
  induction m with
  | zero=>rintro ⟨k,a,fl,nt,kids⟩ hm;rw [NT.size] at hm;omega
  | succ m ih=>
   rintro ⟨k,a,fl,nt,kids⟩ hm hok f hf
   rw [NT.size] at hm
   rw [NT.ok] at hok
   rw [NT.flags,List.mem_append] at hf
   rcases hf with hf | hf
   ·split at hf
    ·rename_i h5
     obtain rfl:=List.mem_singleton.1 hf
     rcases eI hok.1 with ⟨hk,-⟩ | ⟨hk,-⟩ | ⟨-,-,hn⟩
     ·omega
     ·omega
     ·have:=jY hn
      rw [aO] at this
      unfold maxLen;omega
    ·cases hf
   ·have hk : ∀ (ts:List NT),aS ts<=m->okL ts->∀ f∈bX ts,f.size<=maxLen:=by
     intro ts
     induction ts with
     | nil=>intro _ _ f hf;simp [bX] at hf
     | cons t ts iht=>
      intro hs ho f hf
      rw [aS] at hs
      rw [okL] at ho
      rw [bX,List.mem_append] at hf
      rcases hf with hf | hf
      ·exact ih t (by omega) ho.1 f hf
      ·exact iht (by omega) ho.2 f hf
    exact hk kids (by omega) hok.2 f hf
 exact key t.size t (Nat.le_refl _) h f hf
theorem nR (S:Nat->Prop) (ps:List PK) (tv:Value) (w:World) (hS : ∀ b,S b->b<w.heap.size) (hp:bA S w ps tv) :
  Calls Tryz.prog 12 #[.agg #[tv]] w fun e w'=>e=.returned (.int .i64 (dO ps))/\aA w w':=by
 have HP:=hid hp
 obtain ⟨tp,tc,rfl,hlen⟩:=hp.len
 clear hp
 by_cases h8:8<ps.length
 ·have h8':(8:Int)<(ps.length:Int):=by omega
  have HX:Hid (dO ps=2):=by show _=_;unfold dO;rw [if_pos h8]
  have k0:=hid (aA.alloc w (.cells #[.slice tp ps.length tc] 24))
  go_enter Tryz.func12,Tryz.ntmps12
  go_wp2_with fail
  go_ret
  exact ⟨aC HX.out.symm,k0.out⟩
 have h8' : ¬ (8:Int)<(ps.length:Int):=by omega
 have HX:Hid (dO ps=bI (pkE ps) 0 ps.length):=by show _=_;unfold dO;rw [if_neg h8]
 go_enter Tryz.func12,Tryz.ntmps12
 go_wp2_with fail
 go_loopg [19,3] ps.length (fun gk i s wr=> ∃ j:Nat,j+gk=ps.length/\i=.int .i64 j/\s=.int .i64 (bV ps j:Nat)/\bV ps j<=2*j/\bI (pkE ps) 0 ps.length=bI (pkE ps) j (ps.length-j)/\aA w wr/\aB w.heap.size 24 (.slice tp ps.length tc) wr)
 case atStart=>exact ⟨0,by simp,rfl,rfl,by simp [bV],rfl,aA.alloc _ _,aB.new _ _ _⟩
 case round=>
  obtain ⟨j,hj,rfl,rfl,hsm,he,hkp,hvt⟩:=hrel
  have HEQ:=hid he
  have HK:=hid hkp
  have HV:=hid hvt
  clear he hkp hvt
  by_cases hlt:j<ps.length
  ·obtain ⟨b,off,cap,htv,hb,-,hrow⟩:=HP.out.get hlt
   cases htv
   obtain ⟨cs,hcs,hp⟩:=hrow j hlt
   have HST:=hid (fK (f:=pkE ps) hlt)
   have HRET:Hid (∀ x:Int,x≠0->pkE ps j=x->dO ps=x):=fun x hx hy=>by rw [HX.out,HEQ.out,HST.out,hy,if_neg hx]
   have HPE:Hid (pkE ps j=if dC ps[j]≠0 then dC ps[j] else if 0<j/\cH ps[j] (ps.getD (j-1) PK.zero)=false then 6 else if 14<ps.length+bV ps (j+1) then 2 else 0):=by
    show _=_
    unfold pkE
    rw [List.getD_eq_getElem?_getD,List.getElem?_eq_getElem hlt,Option.getD_some]
   have HSU:Hid (bV ps (j+1)=bV ps j+ps[j].fl.length):=sH hlt
   generalize ps[j]=p at hp HPE HSU
   obtain ⟨kk,a,fl,nt,kids,kp,fp,kc,fc,hnd,hfl,rfl,hf,hn⟩:=hp.spelt
   obtain ⟨c0,c1,c2,c3,c4,c5,c6,c7,c8,c9,c10,c11,c12,c13⟩:=dI hcs
   have HF:=hid hf
   have HN:=hid hn
   have gt : ∀ (o:Nat) (x:Value),w.cell? ⟨b,o,none⟩=some x->wr.cell? ⟨b,o,none⟩=some x:=fun o x h=>(HK.out.cell (p:=⟨b,o,none⟩) (hS b hb)).trans h
   have d0:=gt _ _ c0
   have d1:=gt _ _ c1
   have d2:=gt _ _ c2
   have d3:=gt _ _ c3
   have d4:=gt _ _ c4
   have d5:=gt _ _ c5
   have d6:=gt _ _ c6
   have d7:=gt _ _ c7
   have d8:=gt _ _ c8
   have d9:=gt _ _ c9
   have d10:=gt _ _ c10
   have d11:=gt _ _ c11
   have d12:=gt _ _ c12
   have d13:=gt _ _ c13
   clear hcs hp hf hn hrow gt c0 c1 c2 c3 c4 c5 c6 c7 c8 c9 c10 c11 c12 c13
   rcases p with ⟨n,v,sl,fs,nd⟩
   simp only at hfl d0 d1 d2 d3 HSU HPE hnd HF HN
   have HCP:Hid (dC ⟨n,v,sl,fs,nd⟩=if aI n.data.toList=false then 1 else if v<1∨99<v∨sl<1∨9<sl then 3 else if bZ fs≠0 then bZ fs else dS nd fs):=rfl
   have HFS:Hid (bZ fs=if 2<fs.length then 2 else bI (flE fs) 0 fs.length):=rfl
   have HKD:Hid (dS nd fs=if kk≠3 then 4 else if cJ nd≠0 then cJ nd else if nd.sorted.all (eR fs)=true then 0 else 5):=by
    show _=_
    unfold dS
    rw [show nd.kind=kk by rw [hnd];rfl]
   have HBAD:Hid (∀ x:Int,x≠0->dC ⟨n,v,sl,fs,nd⟩=x->dO ps=x):=fun x hx hy=>HRET.out x hx (by rw [HPE.out,hy,if_pos hx])
   clear hnd
   obtain ⟨ht0,-,htl⟩:=HV.out.facts
   go_wp2_with fail
   refine cM (fun W'=>aA wr W'/\aH wr.heap.size #[.string n,.int .i64 v,.int .i64 sl,.slice fp fs.length fc,.int .i64 kk,.string a.n,.int .i64 a.op,.int .i64 a.v,.int .i64 a.sl,.string a.f,.bool a.on,.string fl,.bool nt,.slice kp kids.length kc] W') ⟨aA.alloc _ _,aH.new _ _ _⟩ ?_
   rintro W0 ⟨k0,b0⟩
   refine (dK n W0).mono ?_
   rintro e w1 ⟨rfl,k1⟩
   have K1:=hid (HK.out.trans (k0.trans k1))
   have V1:=hid (HV.out.keep (k0.trans k1) HV.out.facts.2.2)
   have B1:=hid (b0.keep k1 b0.1)
   clear k0 b0 k1 d0 d1 d2 d3 d4 d5 d6 d7 d8 d9 d10 d11 d12 d13 ht0 htl HK HV
   generalize wr.heap.size=bx at B1 ⊢
   have hcb:=B1.out.2
   have hlb:=B1.out.1
   cases hnm:aI n.data.toList
   ·have HY:=hid (HBAD.out 1 (by decide) (by rw [HCP.out,hnm];rfl))
    go_wp2_with fail
    go_ret
    exact ⟨aC HY.out.symm,K1.out⟩
   have HC1:Hid (dC ⟨n,v,sl,fs,nd⟩=if v<1∨99<v∨sl<1∨9<sl then 3 else if bZ fs≠0 then bZ fs else dS nd fs):=by show _=_;rw [HCP.out,hnm];rfl
   clear HCP hnm
   by_cases r1:v<1
   ·have HY:=hid (HBAD.out 3 (by decide) (by rw [HC1.out,if_pos (Or.inl r1)]))
    go_wp2_with fail
    go_ret
    exact ⟨aC HY.out.symm,K1.out⟩
   by_cases r2:99<v
   ·have HY:=hid (HBAD.out 3 (by decide) (by rw [HC1.out,if_pos (Or.inr (Or.inl r2))]))
    go_wp2_with fail
    go_ret
    exact ⟨aC HY.out.symm,K1.out⟩
   by_cases r3:sl<1
   ·have HY:=hid (HBAD.out 3 (by decide) (by rw [HC1.out,if_pos (Or.inr (Or.inr (Or.inl r3)))]))
    go_wp2_with fail
    go_ret
    exact ⟨aC HY.out.symm,K1.out⟩
   by_cases r4:9<sl
   ·have HY:=hid (HBAD.out 3 (by decide) (by rw [HC1.out,if_pos (Or.inr (Or.inr (Or.inr r4)))]))
    go_wp2_with fail
    go_ret
    exact ⟨aC HY.out.symm,K1.out⟩
   have HC2:Hid (dC ⟨n,v,sl,fs,nd⟩=if bZ fs≠0 then bZ fs else dS nd fs):=by show _=_;rw [HC1.out,if_neg (by omega)]
   clear HC1
   by_cases r5:2<fs.length
   ·have HY:=hid (HBAD.out 2 (by decide) (by rw [HC2.out,HFS.out,if_pos r5];rfl))
    have r5':(2:Int)<(fs.length:Int):=by omega
    go_wp2_with fail
    go_ret
    exact ⟨aC HY.out.symm,K1.out⟩
   have r5' : ¬ (2:Int)<(fs.length:Int):=by omega
   have HF2:Hid (bZ fs=bI (flE fs) 0 fs.length):=by show _=_;rw [HFS.out,if_neg r5]
   clear HFS
   go_wp2_with fail
   clear hcb hlb
   go_loopg [56] fs.length (fun gk' i wr'=> ∃ m:Nat,m+gk'=fs.length/\i=.int .i64 m/\bI (flE fs) 0 fs.length=bI (flE fs) m (fs.length-m)/\aA w wr'/\aB w.heap.size 24 (.slice (some ⟨b,off,none⟩) ps.length tc) wr'/\aH bx #[.string n,.int .i64 v,.int .i64 sl,.slice fp fs.length fc,.int .i64 kk,.string a.n,.int .i64 a.op,.int .i64 a.v,.int .i64 a.sl,.string a.f,.bool a.on,.string fl,.bool nt,.slice kp kids.length kc] wr')
   case atStart=>exact ⟨0,by simp,rfl,rfl,K1.out,V1.out,B1.out⟩
   case round=>
    obtain ⟨m,hm,rfl,he2,hkp,hvt,hbx⟩:=hrel
    have HEQ2:=hid he2
    have HK:=hid hkp
    have HV:=hid hvt
    have HB:=hid hbx
    clear he2 hkp hvt hbx K1 V1 B1
    by_cases hml:m<fs.length
    ·obtain ⟨fb,foff,fcap,hfv,hfb,-,hfc⟩:=(HF.out.keep hS HK.out).get hml
     cases hfv
     have hcm:=hfc m _ (List.getElem?_eq_getElem hml)
     have hflt:fb<wr.heap.size:=Nat.lt_of_lt_of_le (hS fb hfb) HK.out.size
     have HST2:=hid (fK (f:=flE fs) hml)
     have HFE:Hid (flE fs m=if aI fs[m].data.toList=false then 1 else if 0<m/\leS fs[m] (fs.getD (m-1) ⟨#[]⟩)=true then 6 else 0):=by
      show _=_
      unfold flE
      rw [List.getD_eq_getElem?_getD,List.getElem?_eq_getElem hml,Option.getD_some]
     have hprev:0<m->∃ y:ByteArray,Hid (fs.getD (m-1) ⟨#[]⟩=y)/\w.cell? ⟨fb,foff+(m-1),none⟩=some (.string y):=fun h0=>by
      obtain ⟨fb',foff',fcap',hfv',-,-,hfc'⟩:=HF.out.get hml
      cases hfv'
      exact ⟨fs[m-1],by show _=_;rw [List.getD_eq_getElem?_getD,List.getElem?_eq_getElem (by omega),Option.getD_some],hfc' (m-1) _ (List.getElem?_eq_getElem (by omega))⟩
     have HBF:Hid (∀ x:Int,x≠0->flE fs m=x->dO ps=x):=fun x hx hy=>HBAD.out x hx (by
      have:bZ fs=x:=by rw [HF2.out,HEQ2.out,HST2.out,hy,if_neg hx]
      rw [HC2.out,this,if_pos hx])
     generalize fs[m]=x at hcm HFE
     have hwfb:fb<w.heap.size:=hS fb hfb
     clear hfc
     go_wp2_with fail
     refine (dK x wr).mono ?_
     rintro e w2 ⟨rfl,k2⟩
     have K2:=hid (HK.out.trans k2)
     have V2:=hid (HV.out.keep k2 HV.out.facts.2.2)
     have B2:=hid (HB.out.keep k2 HB.out.1)
     have hcb:=B2.out.2
     have hlb:=B2.out.1
     clear k2 hcm HK HV HB
     cases hnm:aI x.data.toList
     ·have HY:=hid (HBF.out 1 (by decide) (by rw [HFE.out,hnm];rfl))
      go_wp2_with fail
      go_ret
      exact ⟨aC HY.out.symm,K2.out⟩
     have HF3:Hid (flE fs m=if 0<m/\leS x (fs.getD (m-1) ⟨#[]⟩)=true then 6 else 0):=by show _=_;rw [HFE.out,hnm];rfl
     clear HFE hnm
     by_cases hm0:0<m
     ·obtain ⟨y,HYE,hcy⟩:=hprev hm0
      rw [HYE.out] at HF3
      obtain ⟨q,rfl⟩ : ∃ q,m=q+1:=⟨m-1,by omega⟩
      have hcy':w2.cell? ⟨fb,foff+q,none⟩=some (.string y):=(K2.out.cell (p:=⟨fb,foff+q,none⟩) hwfb).trans hcy
      have hfl2:fb<w2.heap.size:=Nat.lt_of_lt_of_le hwfb K2.out.size
      have h0':(0:Int)<((q+1:Nat):Int):=by omega
      have hd:decide ((0:Int)<((q+1:Nat):Int))=true:=decide_eq_true h0'
      have e1:((q+1:Nat):Int)-1=(q:Int):=by omega
      have hq:q<fs.length:=by omega
      clear hprev HYE hcy
      cases hle:leS x y
      ·have HY:Hid (flE fs (q+1)=0):=by show _=_;rw [HF3.out,hle];simp
       have hle':(Op.bytesLess x.toList y.toList||x.toList==y.toList)=false:=hle
       clear HF3 hle HBF
       go_wp2_with fail
       go_roundg (fs.length-(q+1+1))
       case rel=>exact ⟨q+1+1,by omega,by go_num,by rw [HEQ2.out,HST2.out,HY.out];rfl,K2.out,V2.out,B2.out⟩
       case measure=>omega
      ·have HY:=hid (HBF.out 6 (by decide) (by rw [HF3.out,hle,if_pos ⟨by omega,rfl⟩]))
       have hle':(Op.bytesLess x.toList y.toList||x.toList==y.toList)=true:=hle
       clear HF3 hle HBF
       go_wp2_with fail
       go_ret
       exact ⟨aC HY.out.symm,K2.out⟩
     ·have HY:Hid (flE fs m=0):=by show _=_;rw [HF3.out,if_neg (fun h=>hm0 h.1)]
      obtain rfl:m=0:=by omega
      clear HF3 HBF hprev
      go_wp2_with fail
      go_roundg (fs.length-(0+1))
      case rel=>exact ⟨0+1,by omega,by go_num,by rw [HEQ2.out,HST2.out,HY.out];rfl,K2.out,V2.out,B2.out⟩
      case measure=>omega
    ·have HF0:Hid (bZ fs=0):=by show _=_;rw [HF2.out,HEQ2.out,show fs.length-m=0 by omega];rfl
     have HC3:Hid (dC ⟨n,v,sl,fs,nd⟩=dS nd fs):=by show _=_;rw [HC2.out,HF0.out];rfl
     have hcb:=HB.out.2
     have hlb:=HB.out.1
     clear HC2 HF2 HEQ2
     by_cases hk3:kk=3
     ·subst hk3
      have HK1:Hid (dS nd fs=if cJ nd≠0 then cJ nd else if nd.sorted.all (eR fs)=true then 0 else 5):=HKD.out
      clear HKD
      go_wp2_with fail
      refine (nQ nd _ wr S (fun b hb=>Nat.lt_of_lt_of_le (hS b hb) HK.out.size) (HN.out.keep hS HK.out)).mono ?_
      rintro e w2 ⟨rfl,k2⟩
      have K2:=hid (HK.out.trans k2)
      have V2:=hid (HV.out.keep k2 HV.out.facts.2.2)
      have B2:=hid (HB.out.keep k2 HB.out.1)
      clear k2 HK HV HB hcb hlb
      by_cases hcn:cJ nd=0
      ·rw [hcn]
       have HK2:Hid (dS nd fs=if nd.sorted.all (eR fs)=true then 0 else 5):=by show _=_;rw [HK1.out,if_neg (fun h=>h hcn)]
       have hnok:=cQ.1 hcn
       have hsz:nd.size<=1048576:=by have:=(gU hnok.1).1;omega
       have HFS:=hid (xC hnok.2)
       have hcb:=B2.out.2
       have hlb:=B2.out.1
       clear HK1 hcn hnok
       go_wp2_with fail
       refine (tP S nd _ w2 (fun b hb=>Nat.lt_of_lt_of_le (hS b hb) K2.out.size) hsz HFS.out (HN.out.keep hS K2.out)).mono ?_
       rintro e w3 ⟨v3,rfl,ht3,k3⟩
       have T3:=hid ht3
       have K3:=hid (K2.out.trans k3)
       have V3:=hid (V2.out.keep k3 V2.out.facts.2.2)
       have B3:=hid (B2.out.keep k3 B2.out.1)
       obtain ⟨p3,c3,rfl⟩:=ht3.len
       have hsl:nd.sorted.length<=9223372036854775807:=by
        have h1:=jJ ((nd.flags.map (·.data.toList)).mergeSort fun x y=>decide (x<=y))
        have h2:=kM nd
        have h3:nd.sorted.length<=nd.flags.length:=by simpa [NT.sorted] using h1
        omega
       clear ht3 k3 K2 V2 B2 hcb hlb HFS hsz
       go_wp2_with fail
       go_loopg [91] nd.sorted.length (fun gk' i wr'=> ∃ m:Nat,m+gk'=nd.sorted.length/\i=.int .i64 m/\(nd.sorted.take m).all (eR fs)=true/\aA w wr'/\aA w3 wr'/\aB w.heap.size 24 (.slice (some ⟨b,off,none⟩) ps.length tc) wr'/\aH bx #[.string n,.int .i64 v,.int .i64 sl,.slice fp fs.length fc,.int .i64 3,.string a.n,.int .i64 a.op,.int .i64 a.v,.int .i64 a.sl,.string a.f,.bool a.on,.string fl,.bool nt,.slice kp kids.length kc] wr')
       case atStart=>exact ⟨0,by simp,rfl,by simp,K3.out,aA.refl _,V3.out,B3.out⟩
       case round=>
        obtain ⟨m,hm,rfl,hall,hkp,hk3,hvt,hbx⟩:=hrel
        have HALL:=hid hall
        have HK:=hid hkp
        have HV:=hid hvt
        have HB:=hid hbx
        have TX:=hid (T3.out.keep hk3)
        have HK3:=hid hk3
        have hcb:=hbx.2
        have hlb:=hbx.1
        clear hall hkp hvt hbx hk3 V3 B3
        by_cases hml:m<nd.sorted.length
        ·rcases TX.out with ⟨h0,-⟩ | ⟨g,tcap,e3,hgl,hgc⟩
         ·rw [h0] at hml;exact absurd hml (Nat.not_lt_zero _)
         cases e3
         have hcm:=hgc m _ (List.getElem?_eq_getElem hml)
         rw [Nat.zero_add] at hcm
         have HST2:Hid ((nd.sorted.take (m+1)).all (eR fs)=eR fs nd.sorted[m]):=by
          show _=_
          rw [List.take_succ_eq_append_getElem hml,List.all_append,HALL.out];simp
         have HNO:Hid (eR fs nd.sorted[m]=false->dO ps=5):=fun h=>HBAD.out 5 (by decide) (by
          have:nd.sorted.all (eR fs)=false:=List.all_eq_false.2 ⟨nd.sorted[m],List.getElem_mem hml,by rw [h];decide⟩
          rw [HC3.out,HK2.out,this];rfl)
         generalize nd.sorted[m]=x at hcm HST2 HNO
         clear hgc HALL
         go_wp2_with fail
         refine (mE S fs _ ⟨x.toArray⟩ wr (HF.out.keep hS HK.out)).mono ?_
         rintro e w4 ⟨rfl,hw4⟩
         rw [hw4]
         clear hw4
         have hx2:eR fs (ByteArray.mk x.toArray).data.toList=eR fs x:=by simp
         rw [hx2]
         generalize eR fs x=β at HST2 HNO ⊢
         clear hcm hx2
         cases β
         ·have HY:=hid (HNO.out (by trivial))
          clear HNO
          go_wp2_with fail
          go_ret
          exact ⟨aC HY.out.symm,HK.out⟩
         ·clear HNO
          go_wp2_with fail
          go_roundg (nd.sorted.length-(m+1))
          case rel=>exact ⟨m+1,by omega,by go_num,HST2.out,HK.out,HK3.out,HV.out,HB.out⟩
          case measure=>omega
        ·have HC0:Hid (dC ⟨n,v,sl,fs,nd⟩=0):=by
          show _=_
          have h:=HALL.out
          rw [List.take_of_length_le (by omega)] at h
          rw [HC3.out,HK2.out,if_pos h]
         have HP2:Hid (pkE ps j=if 0<j/\cH ⟨n,v,sl,fs,nd⟩ (ps.getD (j-1) PK.zero)=false then 6 else if 14<ps.length+bV ps (j+1) then 2 else 0):=by show _=_;rw [HPE.out,HC0.out];rfl
         obtain ⟨ht0,-,htl⟩:=HV.out.facts
         clear HPE HC0 HC3 HK2 HALL HBAD TX T3 HK3
         by_cases hj0:0<j
         ·obtain ⟨q,rfl⟩ : ∃ q,j=q+1:=⟨j-1,by omega⟩
          have hq:q<ps.length:=by omega
          have HQ:Hid (ps.getD (q+1-1) PK.zero=ps[q]):=by show _=_;rw [List.getD_eq_getElem?_getD,Nat.add_sub_cancel,List.getElem?_eq_getElem hq,Option.getD_some]
          rw [HQ.out] at HP2
          obtain ⟨b2,off2,cap2,hv2,hb2,-,hrow2⟩:=HP.out.get hq
          cases hv2
          obtain ⟨cs1,hcs1,hp1⟩:=hrow2 q hq
          generalize ps[q]=pq at hp1 HP2
          obtain ⟨k1,a1,fl1,nt1,kids1,kp1,fp1,kc1,fc1,-,hfl1,rfl,-,-⟩:=hp1.spelt
          rcases pq with ⟨n1,v1,sl1,fs1,nd1⟩
          obtain ⟨c0,c1,c2,c3,c4,c5,c6,c7,c8,c9,c10,c11,c12,c13⟩:=dI hcs1
          have gt : ∀ (o:Nat) (x:Value),w.cell? ⟨b,o,none⟩=some x->wr.cell? ⟨b,o,none⟩=some x:=fun o x h=>(HK.out.cell (p:=⟨b,o,none⟩) (hS b hb)).trans h
          have d0:=gt _ _ c0
          have d1:=gt _ _ c1
          have d2:=gt _ _ c2
          have d3:=gt _ _ c3
          have d4:=gt _ _ c4
          have d5:=gt _ _ c5
          have d6:=gt _ _ c6
          have d7:=gt _ _ c7
          have d8:=gt _ _ c8
          have d9:=gt _ _ c9
          have d10:=gt _ _ c10
          have d11:=gt _ _ c11
          have d12:=gt _ _ c12
          have d13:=gt _ _ c13
          have hbw:b<wr.heap.size:=Nat.lt_of_lt_of_le (hS b hb) HK.out.size
          have HBR:=hid (wH ⟨n,v,sl,fs,nd⟩ ⟨n1,v1,sl1,fs1,nd1⟩)
          have h0':(0:Int)<((q+1:Nat):Int):=by omega
          have hd:decide ((0:Int)<((q+1:Nat):Int))=true:=decide_eq_true h0'
          have e1:((q+1:Nat):Int)-1=(q:Int):=by omega
          clear hcs1 hp1 hrow2 c0 c1 c2 c3 c4 c5 c6 c7 c8 c9 c10 c11 c12 c13 gt HQ
          simp only at hfl1 d0 d1 d2 d3 HBR
          generalize cH ⟨n,v,sl,fs,nd⟩ ⟨n1,v1,sl1,fs1,nd1⟩=β at HP2 HBR
          go_upto_region 34 with fail
          refine aZ (fun W'=>aA w W'/\aB w.heap.size 24 (.slice (some ⟨b,off,none⟩) ps.length tc) W'/\aH bx #[.string n,.int .i64 v,.int .i64 sl,.slice fp fs.length fc,.int .i64 3,.string a.n,.int .i64 a.op,.int .i64 a.v,.int .i64 a.sl,.string a.f,.bool a.on,.string fl,.bool nt,.slice kp kids.length kc] W'/\aH wr.heap.size #[.string n1,.int .i64 v1,.int .i64 sl1,.slice fp1 fs1.length fc1,.int .i64 k1,.string a1.n,.int .i64 a1.op,.int .i64 a1.v,.int .i64 a1.sl,.string a1.f,.bool a1.on,.string fl1,.bool nt1,.slice kp1 kids1.length kc1] W') ⟨HK.out.alloc' _,HV.out.keep (aA.alloc _ _) HV.out.facts.2.2,HB.out.keep (aA.alloc _ _) HB.out.1,aH.new _ _ _⟩ ?_
          rintro W5 ⟨k5,v5,b5,q5⟩
          have K5:=hid k5
          have V5:=hid v5
          have hcb5:=b5.2
          have hlb5:=b5.1
          have hcq5:=q5.2
          have hlq5:=q5.1
          obtain ⟨ht5,-,htl5⟩:=v5.facts
          clear k5 v5 b5 q5 d0 d1 d2 d3 d4 d5 d6 d7 d8 d9 d10 d11 d12 d13 hcb hlb ht0 htl
          cases hbl:Op.bytesLess n.toList n1.toList
          ·cases heq:(n.toList==n1.toList)
           ·rw [hbl,heq] at HBR
            have hβ:β=true:=aFh HBR.out
            subst hβ
            clear HBR
            have HT:Hid (pkE ps (q+1)=if 14<ps.length+bV ps ((q+1)+1) then 2 else 0):=by show _=_;rw [HP2.out,if_neg (fun h=>by cases h.2)]
            have hs2:bV ps ((q+1)+1)<=2*((q+1)+1):=by have:=HSU.out;omega
            have es:((bV ps (q+1):Nat):Int)+(fs.length:Int)=((bV ps ((q+1)+1):Nat):Int):=by have:=HSU.out;omega
            by_cases h14:14<ps.length+bV ps ((q+1)+1)
            ·have HY:=hid (HRET.out 2 (by decide) (by rw [HT.out,if_pos h14]))
             have h14':(14:Int)<(ps.length:Int)+((bV ps ((q+1)+1):Nat):Int):=by omega
             clear h14 HT
             go_wp2_with fail
             go_ret
             exact ⟨aC HY.out.symm,K5.out⟩
            ·have HY:Hid (pkE ps (q+1)=0):=by show _=_;rw [HT.out,if_neg h14]
             have h14' : ¬ (14:Int)<(ps.length:Int)+((bV ps ((q+1)+1):Nat):Int):=by omega
             clear h14 HT
             go_wp2_with fail
             go_roundg (ps.length-((q+1)+1))
             case rel=>exact ⟨(q+1)+1,by omega,by go_num,by go_num,hs2,by rw [HEQ.out,HST.out,HY.out];rfl,K5.out,V5.out⟩
             case measure=>omega
           ·rw [hbl,heq] at HBR
            by_cases hvv:v<=v1
            ·have hβ:β=false:=by have h:=HBR.out;rw [decide_eq_true hvv] at h;exact aFh h
             subst hβ
             have HY:=hid (HRET.out 6 (by decide) (by rw [HP2.out,if_pos ⟨by omega,rfl⟩]))
             clear HBR HP2
             go_wp2_with fail
             go_ret
             exact ⟨aC HY.out.symm,K5.out⟩
            ·have hβ:β=true:=by have h:=HBR.out;rw [decide_eq_false hvv] at h;exact aFh h
             subst hβ
             clear HBR
             have HT:Hid (pkE ps (q+1)=if 14<ps.length+bV ps ((q+1)+1) then 2 else 0):=by show _=_;rw [HP2.out,if_neg (fun h=>by cases h.2)]
             have hs2:bV ps ((q+1)+1)<=2*((q+1)+1):=by have:=HSU.out;omega
             have es:((bV ps (q+1):Nat):Int)+(fs.length:Int)=((bV ps ((q+1)+1):Nat):Int):=by have:=HSU.out;omega
             by_cases h14:14<ps.length+bV ps ((q+1)+1)
             ·have HY:=hid (HRET.out 2 (by decide) (by rw [HT.out,if_pos h14]))
              have h14':(14:Int)<(ps.length:Int)+((bV ps ((q+1)+1):Nat):Int):=by omega
              clear h14 HT
              go_wp2_with fail
              go_ret
              exact ⟨aC HY.out.symm,K5.out⟩
             ·have HY:Hid (pkE ps (q+1)=0):=by show _=_;rw [HT.out,if_neg h14]
              have h14' : ¬ (14:Int)<(ps.length:Int)+((bV ps ((q+1)+1):Nat):Int):=by omega
              clear h14 HT
              go_wp2_with fail
              go_roundg (ps.length-((q+1)+1))
              case rel=>exact ⟨(q+1)+1,by omega,by go_num,by go_num,hs2,by rw [HEQ.out,HST.out,HY.out];rfl,K5.out,V5.out⟩
              case measure=>omega
          ·rw [hbl] at HBR
           have hβ:β=false:=aFh HBR.out
           subst hβ
           have HY:=hid (HRET.out 6 (by decide) (by rw [HP2.out,if_pos ⟨by omega,rfl⟩]))
           clear HBR HP2
           go_wp2_with fail
           go_ret
           exact ⟨aC HY.out.symm,K5.out⟩
         ·have hd : ¬ (0:Int)<(j:Int):=by omega
          have HT:Hid (pkE ps j=if 14<ps.length+bV ps (j+1) then 2 else 0):=by show _=_;rw [HP2.out,if_neg (fun h=>hj0 h.1)]
          have hs2:bV ps (j+1)<=2*(j+1):=by have:=HSU.out;omega
          have es:((bV ps j:Nat):Int)+(fs.length:Int)=((bV ps (j+1):Nat):Int):=by have:=HSU.out;omega
          by_cases h14:14<ps.length+bV ps (j+1)
          ·omega
          ·have HY:Hid (pkE ps j=0):=by show _=_;rw [HT.out,if_neg h14]
           have h14' : ¬ (14:Int)<(ps.length:Int)+((bV ps (j+1):Nat):Int):=by omega
           clear h14 HT
           go_wp2_with fail
           go_roundg (ps.length-(j+1))
           case rel=>exact ⟨j+1,by omega,by go_num,by go_num,hs2,by rw [HEQ.out,HST.out,HY.out];rfl,HK.out,HV.out⟩
           case measure=>omega
      ·have HY:=hid (HBAD.out (cJ nd) hcn (by rw [HC3.out,HK1.out,if_pos hcn]))
       generalize cJ nd=cn at hcn HY ⊢
       have hz1:(cn==0)=false:=by simp [hcn]
       have hz2:(cn != 0)=true:=by simp [hcn]
       clear hcn HK1
       go_wp2_with fail
       go_ret
       exact ⟨aC HY.out.symm,K2.out⟩
     ·have HY:=hid (HBAD.out 4 (by decide) (by rw [HC3.out,HKD.out,if_pos hk3]))
      have hz1:(kk==3)=false:=by simp [hk3]
      have hz2:(kk != 3)=true:=by simp [hk3]
      clear hk3 HKD
      go_wp2_with fail
      go_ret
      exact ⟨aC HY.out.symm,HK.out⟩
  ·go_wp2_with fail
   go_ret
   exact ⟨aC (by rw [HX.out,HEQ.out,show ps.length-j=0 by omega];rfl),HK.out⟩
end Go.Proofs.YthaaaecmeafofaaGreatDoor
namespace Go.Proofs.YthaaaecmeafofaaGreatDoor
open Go.RowKit Go.Sort Go.Lib
theorem iS {ps:List PK} {ms:List MB} (h8:ms.length<=1000) : ∀ x∈cU ps ms,x.length<=2000:=by
 intro x hx
 obtain ⟨i,hi,rfl⟩:=List.getElem_of_mem hx
 have hi2:i<ms.length:=by rw [cR] at hi;exact hi
 have h2:=gC (ps:=ps) hi2
 rw [List.getElem?_eq_getElem hi] at h2
 rw [Option.some.inj h2,aJ]
 unfold dA
 rw [if_pos hi2]
 exact Nat.le_trans (List.length_filter_le _ _) (by simp;omega)
theorem tJ (S:Nat->Prop) (ps:List PK) (th ms:List MB) (pv hv lv:Value) (w:World) (hS : ∀ b,S b->b<w.heap.size) (hp:bA S w ps pv) (ht:cI S w th hv) (hm:cI S w ms lv) (hE:Env w) (hM:gX w) :
  Calls Tryz.prog 3 #[.agg #[pv],hv,lv] w fun e w'=>e=.returned (.bool true)/\aA w w':=by
 have HP:=hid hp
 have HT:=hid ht
 have HM:=hid hm
 have HE:=hid hE
 have HMX:=hid hM
 obtain ⟨tp,tc,rfl,-⟩:=hp.len
 obtain ⟨hp',hc',rfl,hhl⟩:=ht.len
 obtain ⟨lp,lc,rfl,hll⟩:=hm.len
 clear hp ht hm hE hM
 have hmf : ∀ (fn:Fn) (first cap:Array Value) (w:World),(Instr.makeFunc fn first cap).run Tryz.prog w=.ok (.func fn first cap) w:=fun _ _ _ _=>rfl
 go_enter Tryz.func3,Tryz.ntmps3
 go_upto_region 1 with fail
 refine aZ (fun W'=>aA w W'/\aB w.heap.size 24 (.slice tp ps.length tc) W') ⟨aA.alloc _ _,aB.new _ _ _⟩ ?_
 rintro W1 ⟨k1,v1⟩
 have K1:=hid k1
 have V1:=hid v1
 generalize w.heap.size=b at V1 ⊢
 clear k1 v1
 obtain ⟨g0,-,l0⟩:=V1.out.facts
 go_wp2_with fail
 refine (rX S ps ms _ _ W1 (fun c hc=>Nat.lt_of_lt_of_le (hS c hc) K1.out.size) (HP.out.keep hS K1.out) (HM.out.keep hS K1.out)).mono ?_
 rintro e W2 ⟨k2,hd⟩
 have K2:=hid (K1.out.trans k2)
 have V2:=hid (V1.out.keep k2 V1.out.facts.2.2)
 have hd2 : ∃ (p:Option Addr) (n c:Nat),e=.returned (.tuple #[.slice p n c,.int .i64 (bP ps ms)])/\(bP ps ms≠0->n=0)/\(bP ps ms=0->n=(cU ps ms).length/\cG (fun c=>c<W2.heap.size) W2 (cU ps ms) (.slice p n c)):=by
  rcases hd with ⟨hz,rfl⟩ | ⟨hz,v,rfl,hr⟩
  ·exact ⟨_,_,_,rfl,fun _=>rfl,fun h=>absurd h hz⟩
  ·obtain ⟨p,c,rfl,-⟩:=hr.len
   exact ⟨p,_,c,by rw [hz],fun h=>absurd hz h,fun _=>⟨rfl,hr.mono (fun _ _=>rfl) fun b hb=>hb.2⟩⟩
 obtain ⟨rp,rn,rc,rfl,hrn,hrr⟩:=hd2
 have HRN:=hid hrn
 have HRR:=hid hrr
 clear k2 g0 l0 V1 hd hrn hrr
 obtain ⟨g0,-,l0⟩:=V2.out.facts
 obtain ⟨er,her⟩ : ∃ er,er=bP ps ms:=⟨_,rfl⟩
 have HER:=hid her
 rw [← her] at HRN HRR ⊢
 clear her
 go_wp2_with fail
 refine (vJ S ps th ms _ _ _ W2 (fun c hc=>Nat.lt_of_lt_of_le (hS c hc) K2.out.size) (HP.out.keep hS K2.out) (HT.out.keep hS K2.out) (HM.out.keep hS K2.out)).mono ?_
 rintro e W3 ⟨k3,hd⟩
 have hd3 : ∃ (p:Option Addr) (n c:Nat),e=.returned (.tuple #[.slice p n c,.int .i64 (fB ps th ms)])/\(fB ps th ms≠0->n=0)/\(fB ps th ms=0->dR (fun c=>c<W3.heap.size) W3 (kC ps th ms) (.slice p n c)):=by
  rcases hd with ⟨hz,rfl⟩ | ⟨hz,v,rfl,hr⟩
  ·exact ⟨_,_,_,rfl,fun _=>rfl,fun h=>absurd h hz⟩
  ·obtain ⟨p,c,rfl,-⟩:=hr.len
   exact ⟨p,_,c,by rw [hz],fun h=>absurd hz h,fun _=>hr.mono (fun _ _=>rfl) fun b hb=>hb.2⟩
 obtain ⟨ap,an,ac,rfl,han,haa⟩:=hd3
 have HAN:=hid han
 have HAA:=hid haa
 have K3:=hid (K2.out.trans k3)
 have V3:=hid (V2.out.keep k3 V2.out.facts.2.2)
 have HR3:Hid (er=0->rn=(cU ps ms).length/\cG (fun c=>c<W3.heap.size) W3 (cU ps ms) (.slice rp rn rc)):=fun h=>⟨(HRR.out h).1,(HRR.out h).2.mono (fun p hp=>k3.cell (p:=p) hp) fun c hc=>Nat.lt_of_lt_of_le hc k3.size⟩
 clear k3 g0 l0 V2 hd han haa HRR
 obtain ⟨g0,-,l0⟩:=V3.out.facts
 obtain ⟨ef,hef⟩ : ∃ ef,ef=fB ps th ms:=⟨_,rfl⟩
 have HEF:=hid hef
 rw [← hef] at HAN HAA ⊢
 clear hef
 go_wp2_with fail
 refine (nR S ps _ W3 (fun c hc=>Nat.lt_of_lt_of_le (hS c hc) K3.out.size) (HP.out.keep hS K3.out)).mono ?_
 rintro e W4 ⟨rfl,k4⟩
 have K34:=hid k4
 have K4:=hid (K3.out.trans k4)
 have V4:=hid (V3.out.keep k4 V3.out.facts.2.2)
 clear k4 g0 l0 V3
 obtain ⟨g0,-,l0⟩:=V4.out.facts
 by_cases hz:dO ps=0
 ·have HZ:=hid hz
  rw [hz]
  have HER2:Hid (er=nG ps ms):=by show _=_;rw [HER.out];unfold bP;rw [if_neg (by simp [hz])]
  clear hz
  go_wp2_with fail
  refine (lP S ps ms _ _ W4 (fun c hc=>Nat.lt_of_lt_of_le (hS c hc) K4.out.size) (HP.out.keep hS K4.out) (HM.out.keep hS K4.out)).mono ?_
  rintro e W5 ⟨rfl,k5⟩
  rw [← HER2.out]
  have K35:=hid (K34.out.trans k5)
  have K5:=hid (K4.out.trans k5)
  have V5:=hid (V4.out.keep k5 V4.out.facts.2.2)
  clear k5 g0 l0 V4
  obtain ⟨g0,-,l0⟩:=V5.out.facts
  by_cases hz1:er=0
  ·subst hz1
   have HZM:Hid (bP ps ms=0):=HER.out.symm
   have HEF2:Hid (ef=nG ps th):=by
    show _=_
    rw [HEF.out];unfold fB;rw [if_neg (by simp [HZM.out])];unfold bP;rw [if_neg (by simp [HZ.out])]
   go_wp2_with fail
   refine (lP S ps th _ _ W5 (fun c hc=>Nat.lt_of_lt_of_le (hS c hc) K5.out.size) (HP.out.keep hS K5.out) (HT.out.keep hS K5.out)).mono ?_
   rintro e W6 ⟨rfl,k6⟩
   rw [← HEF2.out]
   have K36:=hid (K35.out.trans k6)
   have K6:=hid (K5.out.trans k6)
   have V6:=hid (V5.out.keep k6 V5.out.facts.2.2)
   clear k6 g0 l0 V5
   go_wp2_with fail
   refine (kB W6 (HE.out.keep K6.out) (HMX.out.keep K6.out)).mono ?_
   rintro e W7 ⟨rfl,k7⟩
   have K37:=hid (K36.out.trans k7)
   have K7:=hid (K6.out.trans k7)
   have V7:=hid (V6.out.keep k7 V6.out.facts.2.2)
   clear k7 V6
   obtain ⟨hrn,hrr⟩:=HR3.out (by simp)
   have HR7:=hid (hrr.mono (S':=fun c=>c<W7.heap.size) (fun p hp=>K37.out.cell (p:=p) hp) fun c hc=>Nat.lt_of_lt_of_le hc K37.out.size)
   have h8:ms.length<=8:=by obtain ⟨-,-,-,-,h8,-⟩:=fG HZM.out;exact h8
   clear hrn hrr
   by_cases hz2:ef=0
   ·subst hz2
    have HZT:Hid (bP ps th=0):=by
     show _=_
     have:=HEF.out
     unfold fB at this
     rw [if_neg (by simp [HZM.out])] at this
     exact this.symm
    obtain ⟨g0,-,l0⟩:=V7.out.facts
    have HA7:=hid ((HAA.out rfl).mono (S':=fun c=>c<W7.heap.size) (fun p hp=>K37.out.cell (p:=p) hp) fun c hc=>Nat.lt_of_lt_of_le hc K37.out.size)
    go_wp2_with fail
    refine (jP S ps ms _ _ W7 (fun c hc=>Nat.lt_of_lt_of_le (hS c hc) K7.out.size) (HP.out.keep hS K7.out) (HM.out.keep hS K7.out) HZM.out).mono ?_
    rintro e W8 ⟨v8,rfl,r8,k8⟩
    obtain ⟨p8,c8,hv8,-⟩:=r8.len
    subst hv8
    have K8:=hid (K7.out.trans k8)
    have V8:=hid (V7.out.keep k8 V7.out.facts.2.2)
    have HEQ:=hid (lA (fun c=>c<W8.heap.size) (cU ps ms) (cU ps ms) _ _ W8 (fun _ h=>h) (HR7.out.mono (S':=fun c=>c<W8.heap.size) (fun p hp=>k8.cell (p:=p) hp) fun c hc=>Nat.lt_of_lt_of_le hc k8.size) (r8.mono (S':=fun c=>c<W8.heap.size) (fun _ _=>rfl) fun c hc=>hc.2) (iS (by omega)) (iS (by omega)))
    have HA8:=hid (HA7.out.mono (S':=fun c=>c<W8.heap.size) (fun p hp=>k8.cell (p:=p) hp) fun c hc=>Nat.lt_of_lt_of_le hc k8.size)
    clear k8 r8 g0 l0 V7
    go_wp2_with fail
    refine HEQ.out.mono ?_
    rintro e W9 ⟨β,rfl,hβ,k9⟩
    obtain rfl:β=true:=hβ.2 (by simp)
    have K9:=hid (K8.out.trans k9)
    have V9:=hid (V8.out.keep k9 V8.out.facts.2.2)
    have HA9:=hid (HA8.out.mono (S':=fun c=>c<W9.heap.size) (fun p hp=>k9.cell (p:=p) hp) fun c hc=>Nat.lt_of_lt_of_le hc k9.size)
    clear k9 HEQ hβ V8
    obtain ⟨g0,-,l0⟩:=V9.out.facts
    go_wp2_with fail
    refine (vK S ps th ms _ _ _ W9 (fun c hc=>Nat.lt_of_lt_of_le (hS c hc) K9.out.size) (HP.out.keep hS K9.out) (HT.out.keep hS K9.out) (HM.out.keep hS K9.out) HZM.out HZT.out).mono ?_
    rintro e W10 ⟨v10,rfl,a10,k10⟩
    obtain ⟨p10,c10,hv10,-⟩:=a10.len
    subst hv10
    have K10:=hid (K9.out.trans k10)
    have HSA:=hid (mR (fun c=>c<W10.heap.size) (kC ps th ms) (kC ps th ms) _ _ W10 (fun _ h=>h) (HA9.out.mono (S':=fun c=>c<W10.heap.size) (fun p hp=>k10.cell (p:=p) hp) fun c hc=>Nat.lt_of_lt_of_le hc k10.size) a10)
    clear k10 a10 g0 l0
    go_wp2_with fail
    refine HSA.out.mono ?_
    rintro e W11 ⟨β,rfl,hβ,k11⟩
    obtain rfl:β=true:=hβ.2 (by simp)
    have K11:=hid (K10.out.trans k11)
    clear k11 hβ HSA
    go_wp2_with fail
    go_ret
    exact ⟨rfl,K11.out⟩
   ·have hc1:(ef != 0)=true:=by simp [hz2]
    have hc2:(ef==0)=false:=by simp [hz2]
    obtain rfl:=HAN.out hz2
    obtain ⟨g0,-,l0⟩:=V7.out.facts
    clear hz2
    go_wp2_with fail
    refine (jP S ps ms _ _ W7 (fun c hc=>Nat.lt_of_lt_of_le (hS c hc) K7.out.size) (HP.out.keep hS K7.out) (HM.out.keep hS K7.out) HZM.out).mono ?_
    rintro e W8 ⟨v8,rfl,r8,k8⟩
    obtain ⟨p8,c8,hv8,-⟩:=r8.len
    subst hv8
    have K8:=hid (K7.out.trans k8)
    have HEQ:=hid (lA (fun c=>c<W8.heap.size) (cU ps ms) (cU ps ms) _ _ W8 (fun _ h=>h) (HR7.out.mono (S':=fun c=>c<W8.heap.size) (fun p hp=>k8.cell (p:=p) hp) fun c hc=>Nat.lt_of_lt_of_le hc k8.size) (r8.mono (S':=fun c=>c<W8.heap.size) (fun _ _=>rfl) fun c hc=>hc.2) (iS (by omega)) (iS (by omega)))
    clear k8 r8 g0 l0 V7
    go_wp2_with fail
    refine HEQ.out.mono ?_
    rintro e W9 ⟨β,rfl,hβ,k9⟩
    obtain rfl:β=true:=hβ.2 (by simp)
    have K9:=hid (K8.out.trans k9)
    clear k9 HEQ hβ
    go_wp2_with fail
    go_ret
    exact ⟨rfl,K9.out⟩
  ·have hc1:(er != 0)=true:=by simp [hz1]
   have hc2:(er==0)=false:=by simp [hz1]
   have HEF2:Hid (ef=er):=by
    show _=_
    rw [HEF.out];unfold fB;rw [← HER.out,if_pos hz1]
   obtain rfl:=HEF2.out
   obtain rfl:=HAN.out hz1
   obtain rfl:=HRN.out hz1
   clear hz1
   go_wp2_with fail
   refine (kB W5 (HE.out.keep K5.out) (HMX.out.keep K5.out)).mono ?_
   rintro e W7 ⟨rfl,k7⟩
   have K7:=hid (K5.out.trans k7)
   clear k7
   go_wp2_with fail
   go_ret
   exact ⟨rfl,K7.out⟩
 ·have HER2:Hid (er=dO ps):=by show _=_;rw [HER.out];unfold bP;rw [if_pos hz]
  rw [← HER2.out] at hz ⊢
  have hc1:(er != 0)=true:=by simp [hz]
  have hc2:(er==0)=false:=by simp [hz]
  have HEF2:Hid (ef=er):=by
   show _=_
   rw [HEF.out];unfold fB;rw [← HER.out,if_pos hz]
  obtain rfl:=HEF2.out
  obtain rfl:=HAN.out hz
  obtain rfl:=HRN.out hz
  clear hz
  go_wp2_with fail
  refine (kB W4 (HE.out.keep K4.out) (HMX.out.keep K4.out)).mono ?_
  rintro e W7 ⟨rfl,k7⟩
  have K7:=hid (K4.out.trans k7)
  clear k7
  go_wp2_with fail
  go_ret
  exact ⟨rfl,K7.out⟩
end Go.Proofs.YthaaaecmeafofaaGreatDoor
namespace Go.Proofs.YthaaaecmeafofaaGreatDoor
open Go.RowKit
theorem lV {P:Program} {w:World} : ∀ {l:List (String × DataW Unit)} {ps:List MemPlace} {x:String × DataW Unit},DataW.LaidVars P w l ps->x∈l->∃ qs,DataW.LaidVars P w [x] qs/\qs.Sublist ps
 | [],_,_,_,hx=>by cases hx
 | (n,d) :: r,ps,x,h,hx=>by
  obtain ⟨g,t,cs,fuel,p,q,h1,h2,h3,h4,h5,rfl⟩:=h
  rcases List.mem_cons.1 hx with rfl | hx
  ·exact ⟨MemPlace.row ⟨g,0,none⟩ cs.size++p ++ [],⟨g,t,cs,fuel,p,[],h1,h2,h3,h4,rfl,rfl⟩,by rw [List.append_nil];exact List.sublist_append_left _ _⟩
  ·obtain ⟨qs,h6,h7⟩:=lV h5 hx
   exact ⟨qs,h6,h7.trans (List.sublist_append_right _ _)⟩
theorem hP {P:Program} {w:World} {l:List (String × DataW Unit)} {x:String × DataW Unit} (h:laidMet P l w) (hx:x∈l):laidMet P [x] w:=by
 obtain ⟨ps,h1,h2,h3⟩:=h
 obtain ⟨qs,h4,h5⟩:=lV h1 hx
 exact ⟨qs,h4,h5.nodup h2,fun b off hb=>h3 b off (h5.subset hb)⟩
theorem lY {w:World} {b o:Nat} {v:Value} (h:w.cell? ⟨b,o,none⟩=some v):b<w.heap.size:=by
 rcases Nat.lt_or_ge b w.heap.size with h' | h'
 ·exact h'
 ·simp [World.cell?,Array.getElem?_eq_none h'] at h
theorem aCo : Tryz.prog.globalNamed "quartermaster/atom.signs" = some 8 := by kernel_rfl
theorem aHc:(Tryz.prog.globals[8]?).map (·.type)=some 324:=by kernel_rfl
theorem aIe:(Tryz.prog.globals[1]?).map (·.type)=some 270:=by kernel_rfl
theorem aIb:Tryz.prog.cellsOf 270=20:=by kernel_rfl
theorem aIc:Tryz.prog.cellsOf 237=1:=by kernel_rfl
theorem wJ:Tryz.prog.cellsOf 9=1:=by kernel_rfl
theorem aHf:Tryz.prog.cellsOf 319=1:=by kernel_rfl
theorem aHu : Tryz.prog.globalNamed "strconv.ErrSyntax" = some 6 := by kernel_rfl
theorem aIg:(Tryz.prog.globals[6]?).map (·.type)=some 260:=by kernel_rfl
theorem aHt : Tryz.prog.globalNamed "strconv.ErrRange" = some 7 := by kernel_rfl
theorem aIf:(Tryz.prog.globals[7]?).map (·.type)=some 260:=by kernel_rfl
theorem aIa : "*" ++ "errors.errorString" = "*errors.errorString" := by decide
theorem aDw (u : TypeId) (h : Tryz.prog.typeName? 3 u = some "*errors.errorString") : u = 317 :=
 typeName_ptr_named (nm := "errors.errorString") (by rw [aIa]; kernel_rfl) (by kernel_rfl) (by decide) u (by rw [aIa]; exact h)
theorem aEa {W : World} (h : laidMet Tryz.prog [("quartermaster/atom.signs", Rows.laid_quartermaster_atom_signs)] W) : tX W := by
 obtain ⟨ps,⟨g,t,cs,fuel,p,q,hg,ht,hv,hd,_,_⟩,_⟩:=h
 obtain rfl:=Option.some.inj (aCo.symm.trans hg)
 obtain rfl:=Option.some.inj (aHc.symm.trans ht)
 obtain ⟨xs,m,rfl,hx,hlen,hn,hel⟩:=DataW.trod_array Tryz.underlying324 hd
 simp only [Rows.laid_quartermaster_atom_signs,Prod.mk.injEq,DataW.agg.injEq] at hx
 match xs,hn,hx,hel with
 | [x0,x1,x2,x3],_,hx,hel=>
  have cell : ∀ (k:Nat) (x:DataW Unit × List MemPlace) (l:List UInt8),k<4->[x0,x1,x2,x3][k]? = some x->x.1=.lit (.string l)->W.cell? ⟨8,k,none⟩=some (.string ⟨l.toArray⟩):=by
   intro k x l hk hxk hl
   have h1:=hel k hk
   rw [hxk] at h1
   obtain ⟨s,e1,e2,_⟩:=DataW.trod_string Tryz.underlying9 h1
   rw [e2] at hl
   have hs:s.data.toList=l:=by simpa using hl
   have hs':s=⟨l.toArray⟩:=by cases s;simp at hs;rw [← hs]
   have h2:=World.var?_cell aCo hv k
   rw [wJ,Nat.mul_one] at e1
   have h3:cs[k]? = some (.string s):=by
    have:=congrArg (·[0]?) e1
    simpa [List.getElem?_take,List.getElem?_drop] using this
   rw [h2,h3,hs']
  simp only [List.map_cons,List.map_nil,List.cons.injEq,and_true] at hx
  have c1:=cell 1 x1 [61] (by decide) rfl hx.1.2.1.symm
  refine ⟨lY c1,c1,cell 2 x2 [62,61] (by decide) rfl hx.1.2.2.1.symm,cell 3 x3 [60] (by decide) rfl hx.1.2.2.2.symm⟩
theorem aGj {W : World} {l : List (String × DataW Unit)} (h : laidMet Tryz.prog l W) (h1 : ("quartermaster/atom.signs", Rows.laid_quartermaster_atom_signs) ∈ l) (h2 : ("internal/strconv.uint64pow10", Rows.laid_internal_strconv_uint64pow10) ∈ l)
  (h3 : ("strconv.ErrSyntax", Rows.laid_strconv_ErrSyntax) ∈ l) (h4 : ("strconv.ErrRange", Rows.laid_strconv_ErrRange) ∈ l) : Env W := by
 have tab : Lib.TabIs Tryz.prog W "internal/strconv.uint64pow10" .u64 Lib.pow10Tab := Lib.tabIs_of_head (rest := []) hU aIe Tryz.underlying270 Tryz.underlying237 aIc aIb (hP h h2)
 obtain ⟨a0,s0,hv0,-,-,-⟩:=laid_sentinel (hP h h3) aHu aIg Tryz.underlying260 aDw Tryz.underlying317 Tryz.underlying319 rfl rfl Tryz.underlying9 aHf wJ
 obtain ⟨a1,s1,hv1,-,-,-⟩:=laid_sentinel (hP h h4) aHt aIf Tryz.underlying260 aDw Tryz.underlying317 Tryz.underlying319 rfl rfl Tryz.underlying9 aHf wJ
 have c0:W.cell? ⟨6,0,none⟩=some (.iface 317 (.pointer (some a0))):=by simpa using World.var?_cell aHu hv0 0
 have c1:W.cell? ⟨7,0,none⟩=some (.iface 317 (.pointer (some a1))):=by simpa using World.var?_cell aHt hv1 0
 exact ⟨aEa (hP h h1),⟨lY (tab.cell hU 0 (by decide)),tab⟩,⟨lY c0,_,_,c0⟩,⟨lY c1,_,_,c1⟩⟩
end Go.Proofs.YthaaaecmeafofaaGreatDoor
namespace Go.Proofs.YthaaaecmeafofaaGreatDoor
open Go.ChangeShapes Go.WideShapes Go.ChangeAt Go.RowKit Go.Joins
theorem oY:Tryz.prog.cellsOf 71=6:=by kernel_rfl
theorem kK:Tryz.prog.cellsOf 3=1:=by kernel_rfl
theorem lI:Tryz.prog.cellsOf 4=1:=by kernel_rfl
end Go.Proofs.YthaaaecmeafofaaGreatDoor
namespace Go.Proofs.YthaaaecmeafofaaGreatDoor
open Go.ChangeShapes Go.WideShapes Go.ChangeAt Go.RowKit Go.Joins
theorem lJ:Tryz.prog.cellsOf 74=10:=by kernel_rfl
theorem oZ:Tryz.prog.cellsOf 72=1:=by kernel_rfl
theorem aHy {α:Type} {cs:List α} (h:cs.length=6) : ∃ c0 c1 c2 c3 c4 c5,cs = [c0,c1,c2,c3,c4,c5]:=by
 match cs,h with
 | [c0,c1,c2,c3,c4,c5],_=>exact ⟨c0,c1,c2,c3,c4,c5,rfl⟩
theorem aGq {α:Type} {cs:List α} (h:cs.length=10) : ∃ c0 c1 c2 c3 c4 c5 c6 c7 c8 c9,cs = [c0,c1,c2,c3,c4,c5,c6,c7,c8,c9]:=by
 match cs,h with
 | [c0,c1,c2,c3,c4,c5,c6,c7,c8,c9],_=>exact ⟨c0,c1,c2,c3,c4,c5,c6,c7,c8,c9,rfl⟩
section
variable {H:Type} {enc:TypeId × Value->H} {w:World} {base:Nat} {sp:Nat->Bool} {held:Bool}
theorem aBf {fuel:Nat} {cs:List Value} {x:DataW H × List MemPlace} (h:DataW.trod enc Tryz.prog w base sp held fuel 71 cs=some x) : ∃ a:At,cs = [.string a.n,.int .i64 a.op,.int .i64 a.v,.int .i64 a.sl,.string a.f,.bool a.on]:=by
 obtain ⟨xs,m,_,hx,hl,hlen,hel⟩:=DataW.trod_struct Tryz.underlying71 h
 obtain ⟨c0,c1,c2,c3,c4,c5,rfl⟩:=aHy (hl.trans oY)
 match xs,hlen with
 | [y0,y1,y2,y3,y4,y5],_=>
  obtain ⟨n,e0,g0,_⟩:=DataW.trod_string Tryz.underlying9 (by simpa using hel 0 _ rfl)
  obtain ⟨op,e1,g1,_⟩:=DataW.trod_int Tryz.underlying3 (by simpa using hel 1 _ rfl)
  obtain ⟨v,e2,g2,_⟩:=DataW.trod_int Tryz.underlying3 (by simpa using hel 2 _ rfl)
  obtain ⟨sl,e3,g3,_⟩:=DataW.trod_int Tryz.underlying3 (by simpa using hel 3 _ rfl)
  obtain ⟨f,e4,g4,_⟩:=DataW.trod_string Tryz.underlying9 (by simpa using hel 4 _ rfl)
  obtain ⟨on,e5,g5⟩:=DataW.trod_bool Tryz.underlying4 (by simpa using hel 5 _ rfl)
  refine ⟨⟨n,op,v,sl,f,on⟩,?_⟩
  simp [kK,lI,wJ] at e0 e1 e2 e3 e4 e5
  rw [e0,e1,e2,e3,e4,e5]
theorem aBg : ∀ (fuel:Nat) (cs:List Value) (x:DataW H × List MemPlace),DataW.trod enc Tryz.prog w base sp held fuel 74 cs=some x->∃ t:NT,aE (fun b=>b<w.heap.size) w t cs:=by
 intro fuel
 induction fuel using Nat.strongRecOn with
 | ind fuel ih=>
 intro cs x h
 obtain ⟨xs,m,hm,hx,hl,hlen,hel⟩:=DataW.trod_struct Tryz.underlying74 h
 obtain ⟨c0,c1,c2,c3,c4,c5,c6,c7,c8,c9,rfl⟩:=aGq (hl.trans lJ)
 match xs,hlen with
 | [y0,y1,y2,y3,y4],_=>
  obtain ⟨k,e0,-,-⟩:=DataW.trod_int Tryz.underlying3 (by simpa using hel 0 _ rfl)
  obtain ⟨a,e1⟩:=aBf (by simpa using hel 1 _ rfl)
  obtain ⟨fl,e2,-,-⟩:=DataW.trod_string Tryz.underlying9 (by simpa using hel 2 _ rfl)
  obtain ⟨nt,e3,-⟩:=DataW.trod_bool Tryz.underlying4 (by simpa using hel 3 _ rfl)
  have hs:=DataW.trod_slice Tryz.underlying72 (show DataW.trod enc Tryz.prog w base sp held m 72 _=some y4 by simpa using hel 4 _ rfl)
  simp [kK,lI,wJ,oY] at e0 e1 e2 e3
  obtain ⟨e10,e11,e12,e13,e14,e15⟩:=e1
  rcases hs with ⟨e4,-⟩ | ⟨ad,len,cap,elems,rest,mm,hmm,e4,-,-,hlc,hcm,hle,hcell,-,-⟩
  ·simp [oZ] at e4
   refine ⟨.node k a fl nt [],?_⟩
   rw [aE]
   exact ⟨none,0,by rw [e0,e10,e11,e12,e13,e14,e15,e2,e3,e4];rfl,Nat.le_refl _,by simp,by rw [aT];trivial⟩
  ·simp [oZ] at e4
   have key : ∀ (q i:Nat),i+q=len->∃ ts:List NT,ts.length=q/\aT (fun b=>b<w.heap.size) w ts (some ad) i:=by
    intro q
    induction q with
    | zero=>intro i _;exact ⟨[],rfl,by rw [aT];trivial⟩
    | succ q ihq=>
     intro i hi
     obtain ⟨ts,hts,hk⟩:=ihq (i+1) (by omega)
     have hci:=hcell i (by omega)
     rw [lJ,List.getElem?_eq_getElem (by omega)] at hci
     obtain ⟨csi,hc1,hc2⟩:=Option.bind_eq_some_iff.1 hci
     obtain ⟨t,ht⟩:=ih mm (by omega) csi _ hc2
     obtain ⟨hb1,hb2,hb3⟩:=World.cells?_some hc1
     have hblk:=World.cells?_block hc1 (by decide)
     refine ⟨t :: ts,by simp [hts],?_⟩
     rw [aT]
     refine ⟨⟨ad,csi,rfl,by rw [aX] at hblk;exact hblk,fun j v hv=> ?_,ht⟩,hk⟩
     have hj:j<10:=by rw [← hb2];exact (List.getElem?_eq_some_iff.1 hv).1
     rw [hb3 j hj];exact hv
   obtain ⟨ts,hts,hk⟩:=key len 0 (by omega)
   refine ⟨.node k a fl nt ts,?_⟩
   rw [aE]
   exact ⟨some ad,cap,by rw [e0,e10,e11,e12,e13,e14,e15,e2,e3,e4,hts],by omega,by unfold maxLen at hcm;omega,hk⟩
end
theorem aDb {w:World} (h:w.ShapedOpen Tryz.prog):gX w:=by
 obtain ⟨m,hm⟩:=cell_of_shapedOpen_int (g:=0) (t:=3) (zero:=#[.int .i64 0]) (k:= .i64) h (of_decide_eq_true (by kernel_rfl)) (by kernel_rfl) rfl (by kernel_rfl) (by kernel_rfl) Tryz.underlying3
 exact ⟨lY hm,m,hm⟩
theorem rB {H:Type} {enc:TypeId × Value->H} {a:Assume} {C:Checked} {os:Os} {f:FuncId} {fn:Func} {s:ChangeSpec} {conds:List PathCond} {apart fresh handsOn again:Bool} {X:World->Array Value->Prop}
  (hX : ∀ (w w':World) (args:Array Value),w.heap=w'.heap->X w args->X w' args)
  (own:ownKnob C.prog.godebug=none) (started:os.Started) (noInit:C.prog.inits.idxOf? f=none) (hfn:C.prog.funcs[f]? = some fn)
  (witness : ∃ (w:World) (tape:Tape) (i:Input),w.os=os/\(w.forCall tape i).Shaped C.prog/\i.vars = []/\Input.okWide C.prog (w.forCall tape i) .any w.heap.size f i/\
   ((s.pre enc C.prog fn conds apart (w.forCall tape i).memory i.args/\X (w.forCall tape i).memory i.args)/\sizedMet enc C.prog fn (OpenSpec.ofChange s) apart (w.forCall tape i).memory i.args)/\a.holds C.prog (lone (Frame.enter C.prog f i.args .normal) [] (w.forCall tape i)))
  (pC : ∀ (W:World) (base:Nat) (args:Array Value) (ds gs:List (DataW H)) (before:List MemPlace),
   (∀ (j:Nat) t v,fn.params[j]? = some t->args[j]? = some v->Value.okWide C.prog W .any base t v)->
   DataW.Whole enc C.prog fn.params.toList s.vars apart W args.toList ds gs before->
   X W args->W.ShapedOpen C.prog->
   Calls C.prog f args W fun e W'=> ∃ v,e=.returned v/\s.post enc C.prog fn apart fresh handsOn again W args v W') :
  ReturnsInHanded a C os f .any (fun w args=>(s.pre enc C.prog fn conds apart w args/\X w args)/\sizedMet enc C.prog fn (OpenSpec.ofChange s) apart w args) (s.post enc C.prog fn apart fresh handsOn again):=by
 refine returnsInHanded_of_calls own started noInit witness ?_
 intro w tape i _ hsh _ hok hpre _
 obtain ⟨_,_,_,fn',hfn',_,_,_,_,hval⟩:=hok
 obtain rfl:fn'=fn:=Option.some.inj (hfn'.symm.trans hfn)
 obtain ⟨⟨⟨ds,gs,before,hw,_⟩,hx⟩,_⟩:=hpre
 have hw':=DataW.Whole.of_heap (w':=w.forCall tape i) (by rfl) hw
 refine (pC (w.forCall tape i) w.heap.size i.args ds gs before hval hw' (hX _ _ _ (by rfl) hx) hsh).mono fun e W' ⟨v,he,hp⟩=> ?_
 subst he
 exact ChangeSpec.post_blind hp
end Go.Proofs.YthaaaecmeafofaaGreatDoor
