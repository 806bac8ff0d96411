/- Steps of the proof: RefFlagF, RefCheckNeed. -/
import Derived.Test.YthaaaecmeafofaaGreatDoorOs11
import Derived.Test.YthaaaecmeafofaaGreatDoorOs07
import Derived.Maps.Own
import Derived.StringKeys
import Derived.Laws.EntriesVeiled
import Derived.Sort.KeysCollected
import Derived.Test.YthaaaecmeafofaaGreatDoorOs17
import Derived.Maps.RangeWalk
import Derived.Sort.OwnSorted
import Derived.Maps.AppendAt
set_option maxHeartbeats 16000000
set_option maxRecDepth 100000
namespace Go.Proofs.YthaaaecmeafofaaGreatDoor
open Go.RowKit
def dX {H:Type} (D:DataW H) (fs:List ByteArray):DataW H:=fs.foldl (fun D f=>D.put (.string f.data.toList) (.lit (.bool true))) D
theorem lD {H:Type} (D:DataW H) (a b:List ByteArray):dX D (a++b)=dX (dX D a) b:=List.foldl_append ..
theorem tF:Maps.Keyed Tryz.prog 9:=Maps.string_keyed Tryz.underlying9
def aGa (b c:Nat) (w:World):Prop:=aB c 163 (.func (.func 121) #[] #[.pointer (some ⟨b,0,none⟩),.pointer (some ⟨c,0,none⟩)]) w
theorem rM (args:Array Value) (w:World):(callFunc 121 args).run Tryz.prog w=.ok (.enter 121 args) w:=enters_of Tryz.func121 (by kernel_rfl) rfl args w
structure lU {H:Type} (b g c n:Nat) (D:DataW H) (w:World):Prop where
 var:aB b 143 (.map (some g)) w
 self:aGa b c w
 own:w.ownsMap Tryz.prog 9 (plainElem Tryz.prog 4) g n D
theorem lU.keep {H:Type} {b g c n:Nat} {D:DataW H} {w w':World} (h:lU b g c n D w) (k:aA w w'):lU b g c n D w':=
 ⟨h.var.keep k h.var.facts.2.2,aB.keep h.self k (aB.facts h.self).2.2,by
  obtain ⟨es,clock,hb,F,hn,hD⟩:=h.own
  exact ⟨es,clock,(k.block g h.own.lt).trans hb,F,hn,hD⟩⟩
theorem rN (k:Int) (a:At) (fl:ByteArray) (nt:Bool) : ∀ (kids:List NT) (j:Nat) (h:j<kids.length) (f:ByteArray),f∈kids[j].flags->f∈(NT.node k a fl nt kids).flags:=by
 intro kids j h f hf
 rw [NT.flags]
 refine List.mem_append_right _ ?_
 induction kids generalizing j with
 | nil=>exact absurd h (Nat.not_lt_zero _)
 | cons t ts ih=>
  rw [bX]
  cases j with
  | zero=>exact List.mem_append_left _ hf
  | succ j=>exact List.mem_append_right _ (ih j (by simpa using h) hf)
theorem aB.grew {c g:Nat} {T:TypeId} {v:Value} {w w':World} (h:aB c T v w) (hg:w.grownBy w' (some g)) (hne:c≠g):aB c T v w':=by
 have hl:=h.facts.2.2
 unfold aB at *;rw [hg.block c hl (fun e=>hne (Option.some.inj e))];exact h
theorem aDl {g:Nat} {w w':World} (hg:w.grownBy w' (some g)):aR (One g) w w':=
 ⟨hg.os,hg.tape,hg.output,hg.size,fun b hb ho=>hg.block b hb (fun e=>ho (Option.some.inj e)),fun _ _ h=>h⟩
theorem aCa {b g:Nat} {cs:Array Value} {w w':World} (h:aH b cs w) (hg:w.grownBy w' (some g)) (hne:b≠g):aH b cs w':=
 ⟨Nat.lt_of_lt_of_le h.1 hg.size,fun o=>(World.cell?_of_block (w:=w) (hg.block b h.1 (fun e=>hne (Option.some.inj e)))).trans (h.2 o)⟩
theorem xA {H:Type} (b g c:Nat) (S:Nat->Prop) (hgb:b≠g) (hgc:c≠g) (hSg : ¬ S g) : ∀ (m:Nat) (t:NT),t.size<=m->∀ (cs:List Value) (n:Nat) (D:DataW H) (w:World),(∀ b,S b->b<w.heap.size)->lU b g c n D w->n+t.size<=maxLen->(∀ f∈t.flags,f.size<=maxLen)->aE S w t cs->
  Calls Tryz.prog 121 #[.agg cs.toArray,.pointer (some ⟨b,0,none⟩),.pointer (some ⟨c,0,none⟩)] w fun e w'=>e=.returned (.tuple #[])/\lU b g c (n+t.size) (dX D t.flags) w'/\aR (One g) w w':=by
 intro m
 induction m with
 | zero=>
  rintro ⟨k,a,fl,nt,kids⟩ hm
  rw [NT.size] at hm;omega
 | succ m ih=>
  rintro ⟨k,a,fl,nt,kids⟩ hm cs n D w hS hfm hnm hfl hn
  rw [NT.size] at hm hnm
  rw [aE] at hn
  obtain ⟨kp,kc,rfl,hcap,hmax,hkids⟩:=hn
  have hent:=rM
  have HK:=hid hkids
  have HIH:=hid ih
  have HFM:=hid hfm
  have HFL:=hid hfl
  have KB0:=hid (aA.alloc w (.cells #[.int .i64 k,.string a.n,.int .i64 a.op,.int .i64 a.v,.int .i64 a.sl,.string a.f,.bool a.on,.string fl,.bool nt,.slice kp kids.length kc] 74))
  have HB0:Hid (aH w.heap.size #[.int .i64 k,.string a.n,.int .i64 a.op,.int .i64 a.v,.int .i64 a.sl,.string a.f,.bool a.on,.string fl,.bool nt,.slice kp kids.length kc] (w.alloc (.cells #[.int .i64 k,.string a.n,.int .i64 a.op,.int .i64 a.v,.int .i64 a.sl,.string a.f,.bool a.on,.string fl,.bool nt,.slice kp kids.length kc] 74))):=aH.new w #[.int .i64 k,.string a.n,.int .i64 a.op,.int .i64 a.v,.int .i64 a.sl,.string a.f,.bool a.on,.string fl,.bool nt,.slice kp kids.length kc] 74
  clear ih hkids hfm hfl
  go_enter Tryz.func121,Tryz.ntmps121
  go_upto_region 1 with fail
  generalize w.alloc (.cells #[.int .i64 k,.string a.n,.int .i64 a.op,.int .i64 a.v,.int .i64 a.sl,.string a.f,.bool a.on,.string fl,.bool nt,.slice kp kids.length kc] 74)=W0 at KB0 HB0 ⊢
  have hc0:=HB0.out.2
  have hl0:=HB0.out.1
  have HM0:=hid (HFM.out.keep KB0.out)
  have HMX:Hid (n+(1+aS kids)<=maxLen):=hnm
  by_cases hk5:k=5
  ·subst hk5
   have HFE:Hid ((NT.node 5 a fl nt kids).flags=fl :: bX kids):=by show _=_;rw [NT.flags,if_pos rfl];rfl
   obtain ⟨hcv,hfv,hlv⟩:=HM0.out.var.facts
   have hflm:fl.size<=maxLen:=HFL.out fl (by rw [HFE.out];exact List.mem_cons_self)
   obtain ⟨W1,hrun,hown1,hgrow⟩:=HM0.out.own.update tF Tryz.underlying143 (by omega) (WideMaps.keyOf_string_mk Tryz.underlying9 hflm) (plainElem_bool Tryz.underlying4 true)
   have HO1:=hid hown1
   have HG1:=hid hgrow
   have HM1:Hid (lU b g c (n+1) (D.put (.string fl.data.toList) (.lit (.bool true))) W1):=⟨HM0.out.var.grew hgrow hgb,aB.grew HM0.out.self hgrow hgc,hown1⟩
   have HA1:Hid (aR (One g) w W1):=(bQ KB0.out).trans (aDl hgrow)
   have hne:w.heap.size≠g:=by have:=HFM.out.own.lt;omega
   have HB1:=hid (aCa HB0.out hgrow hne)
   have hc1:=HB1.out.2
   have hl1:=HB1.out.1
   clear hown1 hgrow hflm hnm
   go_wp2_with fail
   clear hrun hc0 hc1 hcv hfv
   go_loopg [15] kids.length (fun gk i wr=> ∃ (j n':Nat) (D':DataW H),j+gk=kids.length/\i=.int .i64 j/\lU b g c n' D' wr/\n'+aS (kids.drop j)<=n+(1+aS kids)/\dX D' (bX (kids.drop j))=dX D (NT.node 5 a fl nt kids).flags/\aR (One g) w wr)
   case atStart=>exact ⟨0,n+1,_,by simp,rfl,HM1.out,by simp<;>omega,by rw [HFE.out];rfl,HA1.out⟩
   case round=>
    obtain ⟨j,n',D',hj,rfl,hfm',hn',hput,hap⟩:=hrel
    have HM:=hid hfm'
    have HP:=hid hput
    have HA:=hid hap
    have HN':=hid hn'
    clear hfm' hput hap hn'
    by_cases hlt:j<kids.length
    ·obtain ⟨p,cs,hp,hSp,hcell,hneed⟩:=bY HK.out j hlt
     have HN:=hid hneed
     have HDR:Hid (bX (kids.drop j)=kids[j].flags++bX (kids.drop (j+1))):=by show _=_;rw [List.drop_eq_getElem_cons hlt,bX]
     have HDS:Hid (aS (kids.drop j)=kids[j].size+aS (kids.drop (j+1))):=by show _=_;rw [List.drop_eq_getElem_cons hlt,aS]
     have HFJ:Hid (∀ f∈kids[j].flags,f.size<=maxLen):=fun f hf=>HFL.out f (rN 5 a fl nt kids j hlt f hf)
     have hih:=HIH.out kids[j] (by have:=cK kids j hlt;omega)
     subst hp
     rw [Nat.zero_add] at hcell
     cases hkid:kids[j] with
     | node k' a' fl' nt' kids'=>
     rw [hkid,aE] at hneed
     obtain ⟨kp',kc',rfl,-,-,-⟩:=hneed
     have hcell' : ∀ m v,([.int .i64 k',.string a'.n,.int .i64 a'.op,.int .i64 a'.v,.int .i64 a'.sl,.string a'.f,.bool a'.on,.string fl',.bool nt',.slice kp' kids'.length kc']:List Value)[m]? = some v->wr.cell? ((p.add (j*10)).add m)=some v:=fun m v hv=>(HA.out.cell _ (by rw [aX,aX];exact hS _ hSp) (by rw [aX,aX];exact fun e=>hSg (e ▸ hSp))).trans (hcell m v hv)
     obtain ⟨c0,c1,c2,c3,c4,c5,c6,c7,c8,c9⟩:=eF hcell'
     clear hcell hcell' hkid
     have KA:=hid (aA.alloc wr (.cells #[.int .i64 k',.string a'.n,.int .i64 a'.op,.int .i64 a'.v,.int .i64 a'.sl,.string a'.f,.bool a'.on,.string fl',.bool nt',.slice kp' kids'.length kc'] 74))
     have HA2:=hid (HA.out.trans (bQ (c:=g) KA.out))
     have HM2:=hid (HM.out.keep KA.out)
     obtain ⟨hcv,-,hlv⟩:=aB.facts HM.out.self
     have HIJ:=hid (hih [.int .i64 k',.string a'.n,.int .i64 a'.op,.int .i64 a'.v,.int .i64 a'.sl,.string a'.f,.bool a'.on,.string fl',.bool nt',.slice kp' kids'.length kc'] n' D' _ (fun b hb=>Nat.lt_of_lt_of_le (hS b hb) HA2.out.size) HM2.out (by have:=HDS.out;have:=HN'.out;have:=HMX.out;omega) HFJ.out (aE.mono (fun p hp=>HA2.out.cell p (hS _ hp) (fun e=>hSg (e ▸ hp))) (fun _ h=>h) _ _ HN.out))
     clear hih
     generalize kids[j]=tj at HDR HDS HIJ HFJ HN
     go_wp2_with fail
     clear c0 c1 c2 c3 c4 c5 c6 c7 c8 c9
     refine HIJ.out.mono ?_
     rintro e w3 ⟨rfl,hm3,ha3⟩
     have HM3:=hid hm3
     have HA3:=hid (HA2.out.trans ha3)
     clear hm3 ha3 hcv
     go_wp2_with fail
     go_roundg (kids.length-(j+1))
     case measure=>omega
     case rel=>exact ⟨j+1,n'+tj.size,dX D' tj.flags,by omega,by go_num,HM3.out,by have:=HDS.out;have:=HN'.out;omega,by rw [← lD,← HDR.out,HP.out],HA3.out⟩
    ·have HX:Hid (dX D (NT.node 5 a fl nt kids).flags=D'):=by show _=_;rw [← HP.out,List.drop_eq_nil_of_le (by omega)];rfl
     go_wp2_with fail
     try simp only [Exit.inBlock,Exit.then]
     refine bodyPost_end (results_none rfl _ _ _) rfl ?_
     refine ⟨rfl,?_,HA.out⟩
     rw [HX.out,NT.size]
     exact ⟨HM.out.var,HM.out.self,HM.out.own.mono (by have:=HN'.out;omega)⟩
  ·have hk5':(k==5)=false:=by simp [hk5]
   have HFE:Hid ((NT.node k a fl nt kids).flags=bX kids):=by show _=_;rw [NT.flags,if_neg hk5];rfl
   clear hnm
   go_wp2_with fail
   clear hc0 hk5'
   go_loopg [15] kids.length (fun gk i wr=> ∃ (j n':Nat) (D':DataW H),j+gk=kids.length/\i=.int .i64 j/\lU b g c n' D' wr/\n'+aS (kids.drop j)<=n+(1+aS kids)/\dX D' (bX (kids.drop j))=dX D (NT.node k a fl nt kids).flags/\aR (One g) w wr)
   case atStart=>exact ⟨0,n,D,by simp,rfl,HM0.out,by simp<;>omega,by rw [HFE.out];rfl,bQ KB0.out⟩
   case round=>
    obtain ⟨j,n',D',hj,rfl,hfm',hn',hput,hap⟩:=hrel
    have HM:=hid hfm'
    have HP:=hid hput
    have HA:=hid hap
    have HN':=hid hn'
    clear hfm' hput hap hn'
    by_cases hlt:j<kids.length
    ·obtain ⟨p,cs,hp,hSp,hcell,hneed⟩:=bY HK.out j hlt
     have HN:=hid hneed
     have HDR:Hid (bX (kids.drop j)=kids[j].flags++bX (kids.drop (j+1))):=by show _=_;rw [List.drop_eq_getElem_cons hlt,bX]
     have HDS:Hid (aS (kids.drop j)=kids[j].size+aS (kids.drop (j+1))):=by show _=_;rw [List.drop_eq_getElem_cons hlt,aS]
     have HFJ:Hid (∀ f∈kids[j].flags,f.size<=maxLen):=fun f hf=>HFL.out f (rN k a fl nt kids j hlt f hf)
     have hih:=HIH.out kids[j] (by have:=cK kids j hlt;omega)
     subst hp
     rw [Nat.zero_add] at hcell
     cases hkid:kids[j] with
     | node k' a' fl' nt' kids'=>
     rw [hkid,aE] at hneed
     obtain ⟨kp',kc',rfl,-,-,-⟩:=hneed
     have hcell' : ∀ m v,([.int .i64 k',.string a'.n,.int .i64 a'.op,.int .i64 a'.v,.int .i64 a'.sl,.string a'.f,.bool a'.on,.string fl',.bool nt',.slice kp' kids'.length kc']:List Value)[m]? = some v->wr.cell? ((p.add (j*10)).add m)=some v:=fun m v hv=>(HA.out.cell _ (by rw [aX,aX];exact hS _ hSp) (by rw [aX,aX];exact fun e=>hSg (e ▸ hSp))).trans (hcell m v hv)
     obtain ⟨c0,c1,c2,c3,c4,c5,c6,c7,c8,c9⟩:=eF hcell'
     clear hcell hcell' hkid
     have KA:=hid (aA.alloc wr (.cells #[.int .i64 k',.string a'.n,.int .i64 a'.op,.int .i64 a'.v,.int .i64 a'.sl,.string a'.f,.bool a'.on,.string fl',.bool nt',.slice kp' kids'.length kc'] 74))
     have HA2:=hid (HA.out.trans (bQ (c:=g) KA.out))
     have HM2:=hid (HM.out.keep KA.out)
     obtain ⟨hcv,-,hlv⟩:=aB.facts HM.out.self
     have HIJ:=hid (hih [.int .i64 k',.string a'.n,.int .i64 a'.op,.int .i64 a'.v,.int .i64 a'.sl,.string a'.f,.bool a'.on,.string fl',.bool nt',.slice kp' kids'.length kc'] n' D' _ (fun b hb=>Nat.lt_of_lt_of_le (hS b hb) HA2.out.size) HM2.out (by have:=HDS.out;have:=HN'.out;have:=HMX.out;omega) HFJ.out (aE.mono (fun p hp=>HA2.out.cell p (hS _ hp) (fun e=>hSg (e ▸ hp))) (fun _ h=>h) _ _ HN.out))
     clear hih
     generalize kids[j]=tj at HDR HDS HIJ HFJ HN
     go_wp2_with fail
     clear c0 c1 c2 c3 c4 c5 c6 c7 c8 c9
     refine HIJ.out.mono ?_
     rintro e w3 ⟨rfl,hm3,ha3⟩
     have HM3:=hid hm3
     have HA3:=hid (HA2.out.trans ha3)
     clear hm3 ha3 hcv
     go_wp2_with fail
     go_roundg (kids.length-(j+1))
     case measure=>omega
     case rel=>exact ⟨j+1,n'+tj.size,dX D' tj.flags,by omega,by go_num,HM3.out,by have:=HDS.out;have:=HN'.out;omega,by rw [← lD,← HDR.out,HP.out],HA3.out⟩
    ·have HX:Hid (dX D (NT.node k a fl nt kids).flags=D'):=by show _=_;rw [← HP.out,List.drop_eq_nil_of_le (by omega)];rfl
     go_wp2_with fail
     try simp only [Exit.inBlock,Exit.then]
     refine bodyPost_end (results_none rfl _ _ _) rfl ?_
     refine ⟨rfl,?_,HA.out⟩
     rw [HX.out,NT.size]
     exact ⟨HM.out.var,HM.out.self,HM.out.own.mono (by have:=HN'.out;omega)⟩
end Go.Proofs.YthaaaecmeafofaaGreatDoor
namespace Go.Proofs.YthaaaecmeafofaaGreatDoor
open Go.RowKit Go.Lib
theorem fT {α:Type} [Inhabited α] [DecidableEq α] (d:Array α) : ∀ (m:Nat) (x:α),x∈compactUpTo d m ↔ ∃ j,j<m/\d[j]! = x
 | 0,x=>by simp [compactUpTo]
 | m+1,x=>by
  rw [compactUpTo_succ,List.mem_append,fT d m x]
  constructor
  ·rintro (⟨j,hj,e⟩ | h)
   ·exact ⟨j,by omega,e⟩
   ·split at h
    ·exact ⟨m,by omega,(List.mem_singleton.1 h).symm⟩
    ·cases h
  ·rintro ⟨j,hj,e⟩
   by_cases hjm:j<m
   ·exact Or.inl ⟨j,hjm,e⟩
   ·obtain rfl:j=m:=by omega
    by_cases h0:j=0
    ·subst h0
     rw [if_pos (keeps_lt_one d 0 (by omega))]
     exact Or.inr (List.mem_singleton.2 e.symm)
    ·by_cases hk:d[j]! = d[j-1]!
     ·exact Or.inl ⟨j-1,by omega,hk.symm.trans e⟩
     ·rw [if_pos (keeps_pos hk)]
      exact Or.inr (List.mem_singleton.2 e.symm)
theorem hI (d:Array (List UInt8)) (hd : ∀ i j,i<j->j<d.size->d[i]! <= d[j]!) : ∀ m,m<=d.size->(compactUpTo d m).Pairwise (fun x y=>x<=y/\x≠y)
 | 0,_=>by simp [compactUpTo]
 | m+1,hm=>by
  rw [compactUpTo_succ]
  refine List.pairwise_append.2 ⟨hI d hd m (by omega),by split<;>simp,?_⟩
  intro x hx y hy
  split at hy
  ·rename_i hk
   obtain rfl:=List.mem_singleton.1 hy
   obtain ⟨j,hj,rfl⟩:=(fT d m x).1 hx
   refine ⟨hd j m hj (by omega),fun e=> ?_⟩
   have h1:d[m]! = d[m-1]! :=by
    by_cases h:j=m-1
    ·rw [← h,e]
    ·exact List.le_antisymm (e ▸ hd j (m-1) (by omega) (by omega)) (hd (m-1) m (by omega) (by omega))
   rw [keeps_neg (by omega) h1] at hk
   cases hk
  ·cases hy
theorem vV {ss L:List (List UInt8)} (hnd:ss.Nodup) (hm : ∀ x,x∈ss↔x∈L):ss.mergeSort (fun x y=>decide (x<=y))=compact (L.mergeSort fun x y=>decide (x<=y)):=by
 have tr : ∀ a b c:List UInt8,decide (a<=b)=true->decide (b<=c)=true->decide (a<=c)=true:=fun a b c h1 h2=>by simp only [decide_eq_true_eq] at *;exact List.le_trans h1 h2
 have tot : ∀ a b:List UInt8,(decide (a<=b)||decide (b<=a))=true:=fun a b=>by simp only [Bool.or_eq_true,decide_eq_true_eq];exact List.le_total a b
 have hp:=List.pairwise_mergeSort (le:=fun x y:List UInt8=>decide (x<=y)) tr tot L
 have hmem : ∀ x,x∈compact (L.mergeSort fun x y=>decide (x<=y))↔x∈L:=fun x=>by
  unfold compact
  rw [fT,← (List.mergeSort_perm L fun x y=>decide (x<=y)).mem_iff]
  generalize L.mergeSort (fun x y=>decide (x<=y))=M
  rw [List.mem_iff_getElem]
  constructor
  ·rintro ⟨j,hj,e⟩
   exact ⟨j,hj,by rw [← e];simp [hj]⟩
  ·rintro ⟨j,hj,e⟩
   exact ⟨j,hj,by rw [← e];simp [hj]⟩
 have hr:(compact (L.mergeSort fun x y=>decide (x<=y))).Pairwise (fun x y=>x<=y/\x≠y):=by
  unfold compact
  refine hI _ (fun i j hij hj=> ?_) _ (by simp)
  generalize L.mergeSort (fun x y=>decide (x<=y))=M at hp hj ⊢
  have hj':j<M.length:=by simpa using hj
  have:=List.pairwise_iff_getElem.1 hp i j (by omega) hj' hij
  simpa [hj',show i<M.length by omega] using this
 refine List.Perm.eq_of_pairwise (le:=fun a b:List UInt8=>a<=b) (fun a b _ _ h1 h2=>List.le_antisymm h1 h2) ?_ (hr.imp fun h=>h.1) ?_
 ·exact (List.pairwise_mergeSort (le:=fun x y:List UInt8=>decide (x<=y)) tr tot ss).imp fun h=>by simpa using h
 ·refine (List.mergeSort_perm ss _).trans ((List.perm_ext_iff_of_nodup hnd (hr.imp fun h=>h.2)).2 fun x=>by rw [hmem,hm])
theorem pH {H:Type} (x:List UInt8) : ∀ (fs:List ByteArray) (D:DataW H),Maps.IsMap D->(Maps.has (dX D fs) (.string x)=true↔x∈fs.map (·.data.toList)∨Maps.has D (.string x)=true)
 | [],D,_=>by simp [dX]
 | f :: fs,D,hD=>by
  have ih:=pH x fs (D.put (.string f.data.toList) (.lit (.bool true))) (by cases D<;>simp_all [Maps.IsMap,DataW.put])
  show Maps.has (dX (D.put (.string f.data.toList) (.lit (.bool true))) fs) (.string x)=true↔_
  rw [ih,List.map_cons,List.mem_cons]
  by_cases h:x=f.data.toList
  ·subst h
   have:=Maps.has_put_same hD (k:= .string f.data.toList) (by simp [WideAt.IsKeyLit]) (.lit (.bool true))
   simp [this]
  ·rw [Maps.has_put_other (by simpa using h)]
   simp [h]
theorem tA {H:Type} {t:NT} {ss:List (List UInt8)} {left:Lit->Bool} (hC:Collected (dX (H:=H) (.map []) t.flags) left ss) (hl : ∀ kl,left kl=false):ss.mergeSort (fun x y=>decide (x<=y))=t.sorted:=by
 unfold NT.sorted
 refine vV hC.1 fun x=> ?_
 rw [hC.2 x,pH x _ _ (by simp [Maps.IsMap]),hl]
 simp [Maps.has]
end Go.Proofs.YthaaaecmeafofaaGreatDoor
namespace Go.Proofs.YthaaaecmeafofaaGreatDoor
open Go.RowKit Go.Sort Go.Maps
theorem zY (es:Array MapEntry) (seen:Array Nat):(leftOf es seen).size<=es.size:=by
 unfold leftOf;exact Array.size_filter_le
theorem aAu {H:Type} {P:Program} {k:TypeId} {R:Value->Option (DataW H × List MemPlace)} {w:World} {b r n cnt:Nat} {D:DataW H} {left:Lit->Bool} (h:w.ranges P k R b r n D left cnt):cnt<=n:=by
 obtain ⟨es,clock,since,seen,c0,-,-,hs,-,-,-,hc,-⟩:=h
 rw [← hc];exact Nat.le_trans (zY es seen) hs
def aHi (n:Nat):Value:= .bool (n != 0)
theorem lO {H:Type} {P:Program} {e:TypeId} (he:P.underlying e=some .bool) {v:Value} {y:DataW H × List MemPlace} (h:plainElem P e v=some y) : ∃ c,v=aHi c:=by
 unfold plainElem at h
 rw [he] at h
 cases v with
 | bool b=>exact ⟨if b then 1 else 0,by cases b<;>rfl⟩
 | _=>simp at h
theorem aEd {B g cap:Nat} {ss:List (List UInt8)} {w:World} (h:w.ownsRow B 9 1 (.slice (some ⟨g,0,none⟩) ss.length cap) ss.length (ss.map encStr)):fZ (.slice (some ⟨g,0,none⟩) ss.length cap) ss w:=by
 obtain ⟨-,⟨h,-⟩ | ⟨g3,cap3,cur3,e3,-,hb3,-,-,-,hm5⟩⟩:=h
 ·cases h
 cases e3
 refine Or.inr ⟨g,cap,rfl,(Array.getElem?_eq_some_iff.1 hb3).1,fun j x hx=> ?_⟩
 have hj:j<ss.length:=(List.getElem?_eq_some_iff.1 hx).1
 have h1:=congrArg (·[j]?) hm5
 simp only [Nat.mul_one,List.getElem?_take,List.getElem?_map,hx,Option.map_some] at h1
 rw [if_pos hj] at h1
 simp only [World.cell?,hb3,Nat.zero_add]
 simpa [encStr] using h1
theorem tP (S:Nat->Prop) (t:NT) (cs:List Value) (w:World) (hS : ∀ b,S b->b<w.heap.size) (hnm:t.size<=1048576) (hfl : ∀ f∈t.flags,f.size<=maxLen) (hn:aE S w t cs) :
  Calls Tryz.prog 56 #[.agg cs.toArray] w fun e w'=> ∃ v,e=.returned v/\fZ v t.sorted w'/\aA w w':=by
 have hmm:= @run_makeMap Tryz.prog
 have hent:=rM
 have HN:=hid hn
 rcases t with ⟨k,a,fl,nt,kids⟩
 rw [aE] at hn
 obtain ⟨kp,kc,rfl,hcap,hmax,hkids⟩:=hn
 clear hkids
 go_enter Tryz.func56,Tryz.ntmps56
 go_wp2_with fail
 have hg1:Hid (∀ h:S (w.heap.size+1),False):=fun h=>by have:=hS _ h;omega
 have HW:Hid (∃ W,W=((((w.alloc (Obj.cells #[.int .i64 k,.string a.n,.int .i64 a.op,.int .i64 a.v,.int .i64 a.sl,.string a.f,.bool a.on,.string fl,.bool nt,.slice kp kids.length kc] 74)).alloc (Obj.map #[] 0)).alloc (Obj.cells #[Value.map (some (w.heap.size+1))] 143)).alloc (Obj.cells #[Value.func (Fn.func 121) #[] #[Value.pointer (some { block:=w.heap.size+1+1,off:=0 }),Value.pointer (some { block:=w.heap.size+1+1+1,off:=0 })]] 163))):=⟨_,rfl⟩
 obtain ⟨W,hW⟩:=HW.out
 have KW:Hid (aA w W):=by
  rw [hW]
  exact (((aA.alloc w _).alloc' _).alloc' _).alloc' _
 have HSZ:Hid (W.heap.size=w.heap.size+4):=by show _=_;rw [hW];simp
 have HMW:Hid (lU (H:=Unit) (w.heap.size+1+1) (w.heap.size+1) (w.heap.size+1+1+1) 0 (.map []) W):=by
  rw [hW]
  refine ⟨?_,?_,?_⟩
  ·have:=aB.new ((w.alloc (Obj.cells #[.int .i64 k,.string a.n,.int .i64 a.op,.int .i64 a.v,.int .i64 a.sl,.string a.f,.bool a.on,.string fl,.bool nt,.slice kp kids.length kc] 74)).alloc (Obj.map #[] 0)) 143 (Value.map (some (w.heap.size+1)))
   have e:((w.alloc (Obj.cells #[.int .i64 k,.string a.n,.int .i64 a.op,.int .i64 a.v,.int .i64 a.sl,.string a.f,.bool a.on,.string fl,.bool nt,.slice kp kids.length kc] 74)).alloc (Obj.map #[] 0)).heap.size=w.heap.size+1+1:=by simp
   rw [e] at this
   exact this.keep (aA.alloc _ _) this.facts.2.2
  ·have:=aB.new (((w.alloc (Obj.cells #[.int .i64 k,.string a.n,.int .i64 a.op,.int .i64 a.v,.int .i64 a.sl,.string a.f,.bool a.on,.string fl,.bool nt,.slice kp kids.length kc] 74)).alloc (Obj.map #[] 0)).alloc (Obj.cells #[Value.map (some (w.heap.size+1))] 143)) 163 (Value.func (Fn.func 121) #[] #[Value.pointer (some { block:=w.heap.size+1+1,off:=0 }),Value.pointer (some { block:=w.heap.size+1+1+1,off:=0 })])
   have e:(((w.alloc (Obj.cells #[.int .i64 k,.string a.n,.int .i64 a.op,.int .i64 a.v,.int .i64 a.sl,.string a.f,.bool a.on,.string fl,.bool nt,.slice kp kids.length kc] 74)).alloc (Obj.map #[] 0)).alloc (Obj.cells #[Value.map (some (w.heap.size+1))] 143)).heap.size=w.heap.size+1+1+1:=by simp
   rw [e] at this
   exact this
  ·have:=World.ownsMap_made (H:=Unit) (w.alloc (Obj.cells #[.int .i64 k,.string a.n,.int .i64 a.op,.int .i64 a.v,.int .i64 a.sl,.string a.f,.bool a.on,.string fl,.bool nt,.slice kp kids.length kc] 74)) Tryz.prog 9 (plainElem Tryz.prog 4)
   have e:(w.alloc (Obj.cells #[.int .i64 k,.string a.n,.int .i64 a.op,.int .i64 a.v,.int .i64 a.sl,.string a.f,.bool a.on,.string fl,.bool nt,.slice kp kids.length kc] 74)).heap.size=w.heap.size+1:=by simp
   rw [e] at this
   exact (this.alloc _).alloc _
 rw [← hW]
 clear hW HW
 refine (xA (H:=Unit) _ (w.heap.size+1) _ S (by omega) (by omega) hg1.out _ (NT.node k a fl nt kids) (Nat.le_refl _) _ 0 (.map []) W (fun b hb=>Nat.lt_of_lt_of_le (hS b hb) KW.out.size) HMW.out (by unfold maxLen;omega) hfl (HN.out.keep hS KW.out)).mono ?_
 rintro e w3 ⟨rfl,hm3,ha3⟩
 have HM3:=hid hm3
 have K3:Hid (aA w w3):=Below.trans KW.out (ha3.below (B:=w.heap.size) KW.out.size fun b hb e=>by have:b=w.heap.size+1:=e;omega)
 have HS3:Hid (w.heap.size+4<=w3.heap.size):=HSZ.out ▸ ha3.size
 clear hm3 ha3 hmm
 obtain ⟨hcv,-,hlv⟩:=HM3.out.var.facts
 obtain ⟨i0,hi,hz0,hz1,hz2⟩:=info_parts yO
 go_wp2_with (first
  | (at_range;refine wpList_range_own _ rfl _ 143 rfl 9 4 tF Tryz.underlying143 _ (w.heap.size+1) _ _ rfl HM3.out.own ?_;intro w0 hrg0 hg0 hs0)
  | go_in)
 go_frame
 have hle:=aAu hrg0
 have K0:Hid (aA w w0):=K3.out.grown hg0 K3.out.size (fun j hj=>by cases hj)
 have HS0:Hid (w0.heap.size=w3.heap.size+1):=hs0
 have HRG0:=hid hrg0
 have hgl:w.heap.size+1<w3.heap.size:=by have:=HS3.out;omega
 clear hg0 hs0 hrg0 hcv hlv
 generalize hD:dX (DataW.map (H:=Unit) []) (NT.node k a fl nt kids).flags=D0 at HRG0 hle
 have HD:=hid hD
 clear hD
 go_loopw [5] (fun v wr=> ∃ (left:Lit->Bool) (cnt:Nat) (ss:List (List UInt8)),wr.ranges Tryz.prog 9 (plainElem Tryz.prog 4) (w.heap.size+1) w3.heap.size (0+(NT.node k a fl nt kids).size) D0 left cnt/\ss.length+cnt<=Maps.size D0/\wr.ownsRow (w3.heap.size+1) 9 1 v ss.length (ss.map encStr)/\Collected D0 left ss/\aA w wr/\w3.heap.size+1<=wr.heap.size)
  (fun _ wr=>wr.rangeLeft (w.heap.size+1) w3.heap.size)
 case atStart=>exact ⟨_,_,[],HRG0.out,by simp,World.ownsRow_nil _ _ _ _,Collected.start _,K0.out,by rw [HS0.out];exact Nat.le_refl _⟩
 case round=>
  obtain ⟨left,cnt,ss,hrg,hcs,hrow,hC,hkp,hsz⟩:=hrel
  have HRG:=hid hrg
  have HROW:=hid hrow
  have HC:=hid hC
  have HK:=hid hkp
  have HLE:=hid (Nat.le_trans hle (by rw [Nat.zero_add];exact hnm))
  clear hrg hrow hC hkp HRG0 hle
  go_wp2_with (first
   | (at_next;refine wpList_next_ranges _ rfl _ rfl 9 tF (plainElem Tryz.prog 4) encStr aHi (fun key kl hk=>by obtain ⟨x,hx,_⟩:=Maps.keyOf_str Tryz.underlying9 hk;exact ⟨x,hx⟩) (fun v y hv=>lO Tryz.underlying4 hv) (w.heap.size+1) w3.heap.size _ _ _ _ rfl HRG.out ?_ ?_)
   | go_in)
  ·intro hc0 hl0
   have HSO:Hid (ss.mergeSort (fun x y=>decide (x<=y))=(NT.node k a fl nt kids).sorted):=tA (H:=Unit) (by rw [HD.out];exact HC.out) hl0
   clear hc0 hl0
   by_cases hn0:ss.length=0
   ·have hss:ss = []:=List.length_eq_zero_iff.1 hn0
    subst hss
    have hsh : ∃ p cap,u5=Value.slice p 0 cap:=by
     obtain ⟨-,⟨e,-⟩ | ⟨g,cap,cur,e,-⟩⟩:=HROW.out
     ·exact ⟨_,_,e⟩
     ·exact ⟨_,_,e⟩
    obtain ⟨p,cap,rfl⟩:=hsh
    go_wp2_with fail
    refine (Tryz.sort_Strings_none p cap wr).mono ?_
    rintro e w4 ⟨rfl,hw4⟩
    rw [hw4]
    clear hw4
    go_wp2_with fail
    go_ret
    exact ⟨_,rfl,Or.inl ⟨by rw [← HSO.out,List.mergeSort_nil],p,cap,rfl⟩,HK.out⟩
   ·obtain ⟨hlen,⟨-,h0⟩ | ⟨g,cap,cur,rfl,hbase,hb,hn1,hn2,hn3,hn4⟩⟩:=HROW.out
    ·exact absurd h0 hn0
    rw [Nat.mul_one] at hn4
    have hgl2:=(Array.getElem?_eq_some_iff.1 hb).1
    have hH:Holds encStr wr g 0 ss.toArray:=holds_of_block hb hn4
    have HSORT:=hid (Tryz.sort_Strings g 0 cap ss wr hH hgl2 (by have:=HLE.out;omega))
    have HB:=hid hb
    clear hH hn4 hlen hb
    go_wp2_with fail
    refine HSORT.out.mono ?_
    rintro e w4 ⟨rfl,nn,os,hw4⟩
    have hml:(ss.mergeSort fun x y=>decide (x<=y)).length=ss.length:=by simp
    have own4:=ownsRow_sorted (n:=nn) (os:=os) (ss:=ss) (ts:=ss.mergeSort fun x y=>decide (x<=y)) hml hbase HB.out hn1 hn2 hn3
    have grow4:=grownBy_sorted (w:=wr) (g:=g) (n:=nn) (os:=os) (ss.mergeSort fun x y=>decide (x<=y)).toArray
    rw [← hw4] at own4 grow4
    have K4:Hid (aA w w4):=HK.out.grown grow4 HK.out.size (fun j hj=>by cases hj;have:=HS3.out;omega)
    have O4:=hid own4
    clear hw4 own4 grow4 HSORT
    go_wp2_with fail
    go_ret
    refine ⟨_,rfl,?_,K4.out⟩
    have:=O4.out
    rw [← hml] at this
    have:=aEd this
    rw [HSO.out] at this
    rw [← hml,HSO.out]
    exact this
  ·intro x c kl yd yp w2 cnt2 hkey hlk hv hat hrg2 hlt hg2 hs2 hen
   obtain ⟨x',ex,rfl,_⟩:=Maps.keyOf_str Tryz.underlying9 hkey
   obtain rfl:x=x':=encStr_inj ex
   have hrow2:=HROW.out.kept hg2 (Or.inr (fun e=>by have:=(HROW.out.lt _ e).1;omega))
   have HROW2:=hid hrow2
   have HRG2:=hid hrg2
   have HC2:=hid (HC.out.step hlk hat)
   have K2:Hid (aA w w2):=HK.out.grown hg2 HK.out.size (fun j hj=>by cases hj;omega)
   have HS2:Hid (w3.heap.size+1<=w2.heap.size):=Nat.le_trans hsz hg2.size
   have HLT:=hid hlt
   have HCS:=hid hcs
   clear hs2 hrow2 hrg2 hg2 hkey hlk hv hat hlt ex
   go_wp2_with (first
    | (at_builtin;refine wpList_append_own_at _ rfl _ _ 69 rfl (w3.heap.size+1) 9 i0 (.string ⟨#[]⟩) 1 16 Tryz.underlying69 hi hz0 hz1 hz2 rfl (by decide) _ ss.length (ss.map encStr) rfl (HROW2.out.alloc _) ⟨w2.heap.size,0,none⟩ 1 1 [encStr x] rfl rfl (cell_one_new _ _ _) (by simp [Value.oneCell',encStr]) (by unfold maxLen;have:=HLE.out;have:=HCS.out;have:=HLT.out;omega) (by have:=HLE.out;have:=HCS.out;have:=HLT.out;omega) (by have:=HS2.out;simp;omega) ?_;intro v' w4 h5 h6 _ _;go_frame)
    | go_in)
   have hrg3:=(HRG2.out.alloc (.cells #[encStr x] 9)).kept h6 (fun e=>by have:=(HROW2.out.lt _ e.symm).1;omega) (fun e=>by have:=(HROW2.out.lt _ e.symm).1;omega)
   go_roundw
   case rel=>
    refine ⟨_,cnt2,ss ++ [x],by rw [Nat.zero_add];exact hrg3,by simp;have:=HCS.out;have:=HLT.out;omega,by simpa using h5,HC2.out,?_,?_⟩
    ·exact Below.grown (K2.out.alloc' _) h6 (by have:=K2.out.size;simp;omega) (fun j hj=>by have:=(HROW2.out.lt _ hj).1;omega)
    ·have h7:=h6.size;have:=HS2.out;rw [aD] at h7;omega
   case measure=>rw [hrg3.left_eq,HRG.out.left_eq];exact HLT.out
end Go.Proofs.YthaaaecmeafofaaGreatDoor
namespace Go.Proofs.YthaaaecmeafofaaGreatDoor
open Go.RowKit
mutual
def cA:NT->Int
 | .node k a fl nt kids=>if aU (.node k a fl nt kids)≠0 then aU (.node k a fl nt kids) else dF kids
def dF:List NT->Int
 | []=>0
 | t :: ts=>if cA t≠0 then cA t else dF ts
end
mutual
theorem sL (inc:Int->Int) : ∀ (t:NT) (s d:Int),bM inc fE s t d=(cA t,cA t==0)
 | .node k a fl nt kids,s,d=>by
  rw [bM,cA]
  by_cases h:aU (.node k a fl nt kids)=0
  ·have e:(fE s (.node k a fl nt kids) d).2=true:=by simp [fE,h]
   have e1:(fE s (.node k a fl nt kids) d).1=0:=by simp [fE,h]
   rw [if_pos e,e1,if_neg (by simp [h]),rR]
  ·have e : ¬ (fE s (.node k a fl nt kids) d).2=true:=by simp [fE,h]
   rw [if_neg e,if_pos h]
   refine Prod.ext rfl ?_
   simp [h]
theorem rR (inc:Int->Int) : ∀ (ts:List NT) (d:Int),bD inc fE 0 ts d=(dF ts,dF ts==0)
 | [],d=>by rw [bD,dF];rfl
 | t :: ts,d=>by
  rw [bD,sL inc t 0 d,dF]
  by_cases h:cA t=0
  ·rw [if_pos (by simp [h]),if_neg (by simp [h]),h,rR]
  ·rw [if_neg (by simp [h]),if_pos h]
   refine Prod.ext rfl ?_
   simp [h]
end
theorem aCb (t:NT):cJ t=if cX t=true then 2 else cA t:=by
 unfold cJ;rw [sL]
theorem uJ (k:Int) (a:At) (fl:ByteArray) (n:Bool):cA (.node k a fl n [])=aU (.node k a fl n []):=by
 rw [cA,dF]
 split
 ·rfl
 ·rename_i h
  simp at h
  exact h.symm
theorem sB (k:Int) (a:At) (fl:ByteArray) (n:Bool) (hk:k=1∨k=2):aU (.node k a fl n [])=if (fl.toList.isEmpty && !n)=true then mA a else 4:=by
 rw [aU]
 rcases hk with rfl | rfl
 ·cases h:fl.toList.isEmpty<;>cases n<;>simp [bJ,bL,h]
 ·cases h:fl.toList.isEmpty<;>cases n<;>simp [bJ,bL,h]
def aGb (c:Nat) (w:World):Prop:=aB c 106 (.func (.func 120) #[] #[.pointer (some ⟨c,0,none⟩)]) w
theorem jK (args:Array Value) (w:World):(callFunc 120 args).run Tryz.prog w=.ok (.enter 120 args) w:=enters_of Tryz.func120 (by kernel_rfl) rfl args w
theorem vO (c:Nat) (S:Nat->Prop) : ∀ (m:Nat) (t:NT),t.size<=m->∀ (cs:List Value) (w:World),(∀ b,S b->b<w.heap.size)->aGb c w->aE S w t cs->
  Calls Tryz.prog 120 #[.agg cs.toArray,.pointer (some ⟨c,0,none⟩)] w fun e w'=>e=.returned (.int .i64 (cA t))/\aA w w':=by
 intro m
 induction m with
 | zero=>
  rintro ⟨k,a,fl,nt,kids⟩ hm
  rw [NT.size] at hm;omega
 | succ m ih=>
  rintro ⟨k,a,fl,nt,kids⟩ hm cs w hS hself hn
  rw [NT.size] at hm
  rw [aE] at hn
  obtain ⟨kp,kc,rfl,hcap,hmax,hkids⟩:=hn
  have hent:=jK
  have HK:=hid hkids
  have HIH:=hid ih
  have HV:Hid (aB c 106 (.func (.func 120) #[] #[.pointer (some ⟨c,0,none⟩)]) w):=hself
  have KB0:=hid (aA.alloc w (.cells #[.int .i64 k,.string a.n,.int .i64 a.op,.int .i64 a.v,.int .i64 a.sl,.string a.f,.bool a.on,.string fl,.bool nt,.slice kp kids.length kc] 74))
  have HB0:Hid (aH w.heap.size #[.int .i64 k,.string a.n,.int .i64 a.op,.int .i64 a.v,.int .i64 a.sl,.string a.f,.bool a.on,.string fl,.bool nt,.slice kp kids.length kc] (w.alloc (.cells #[.int .i64 k,.string a.n,.int .i64 a.op,.int .i64 a.v,.int .i64 a.sl,.string a.f,.bool a.on,.string fl,.bool nt,.slice kp kids.length kc] 74))):=aH.new w #[.int .i64 k,.string a.n,.int .i64 a.op,.int .i64 a.v,.int .i64 a.sl,.string a.f,.bool a.on,.string fl,.bool nt,.slice kp kids.length kc] 74
  clear ih hkids hself
  go_enter Tryz.func120,Tryz.ntmps120
  go_upto_region 1 with fail
  generalize w.alloc (.cells #[.int .i64 k,.string a.n,.int .i64 a.op,.int .i64 a.v,.int .i64 a.sl,.string a.f,.bool a.on,.string fl,.bool nt,.slice kp kids.length kc] 74)=W0 at KB0 HB0 ⊢
  have hc0:=HB0.out.2
  have hl0:=HB0.out.1
  have KBW:=KB0
  by_cases hk1:k<1
  ·have q1:(k==1)=false:=by simp;omega
   have q2:(k==2)=false:=by simp;omega
   have HE:Hid (cA (.node k a fl nt kids)=4):=by
    show _=_
    rw [cA,show aU (.node k a fl nt kids)=4 by rw [aU,if_pos];simp [bJ];omega];rfl
   go_wp2_with fail
   go_ret
   exact ⟨aC HE.out.symm,KBW.out⟩
  ·by_cases hk5:5<k
   ·have q1:(k==1)=false:=by simp;omega
    have q2:(k==2)=false:=by simp;omega
    have HE:Hid (cA (.node k a fl nt kids)=4):=by
     show _=_
     rw [cA,show aU (.node k a fl nt kids)=4 by rw [aU,if_pos];simp [bJ];omega];rfl
    go_wp2_with fail
    go_ret
    exact ⟨aC HE.out.symm,KBW.out⟩
   ·have hk:k=1∨k=2∨k=3∨k=4∨k=5:=by omega
    clear hk1 hk5
    rcases hk with rfl | rfl | rfl | rfl | rfl
    ·by_cases hlen:kids = []
     ·have HE0:Hid (∀ n,cA (.node 1 a fl n kids)=if (fl.toList.isEmpty && !n)=true then mA a else 4):=fun n=>by
       rw [hlen,uJ,sB 1 a fl n (by decide)]
      have hl0':kids.length=0:=by rw [hlen];rfl
      cases hfe:fl.toList.isEmpty<;>cases nt
      ·have HE:=hid (HE0.out false)
       rw [hfe] at HE
       go_wp2_with fail
       go_ret
       exact ⟨aC HE.out.symm,KBW.out⟩
      ·have HE:=hid (HE0.out true)
       rw [hfe] at HE
       go_wp2_with fail
       go_ret
       exact ⟨aC HE.out.symm,KBW.out⟩
      ·have HE:=hid (HE0.out false)
       rw [hfe] at HE
       go_wp2_with fail
       refine (mP _ _ _ _ _ _ _).mono ?_
       rintro e w3 ⟨rfl,k3⟩
       have K3:=hid (KBW.out.trans k3)
       clear k3
       go_wp2_with fail
       go_ret
       exact ⟨aC HE.out.symm,K3.out⟩
      ·have HE:=hid (HE0.out true)
       rw [hfe] at HE
       go_wp2_with fail
       go_ret
       exact ⟨aC HE.out.symm,KBW.out⟩
     ·have hpos:0<kids.length:=List.length_pos_iff.2 hlen
      have hne0:((kids.length:Int) != 0)=true:=by simp;omega
      have HE:Hid (cA (.node 1 a fl nt kids)=4):=by
       show _=_
       rw [cA,show aU (.node 1 a fl nt kids)=4 by rw [aU,if_pos];simp [bJ,bL,hpos]];rfl
      go_wp2_with fail
      go_ret
      exact ⟨aC HE.out.symm,KBW.out⟩
    ·by_cases hlen:kids = []
     ·have HE0:Hid (∀ n,cA (.node 2 a fl n kids)=if (fl.toList.isEmpty && !n)=true then mA a else 4):=fun n=>by
       rw [hlen,uJ,sB 2 a fl n (by decide)]
      have hl0':kids.length=0:=by rw [hlen];rfl
      cases hfe:fl.toList.isEmpty<;>cases nt
      ·have HE:=hid (HE0.out false)
       rw [hfe] at HE
       go_wp2_with fail
       go_ret
       exact ⟨aC HE.out.symm,KBW.out⟩
      ·have HE:=hid (HE0.out true)
       rw [hfe] at HE
       go_wp2_with fail
       go_ret
       exact ⟨aC HE.out.symm,KBW.out⟩
      ·have HE:=hid (HE0.out false)
       rw [hfe] at HE
       go_wp2_with fail
       refine (mP _ _ _ _ _ _ _).mono ?_
       rintro e w3 ⟨rfl,k3⟩
       have K3:=hid (KBW.out.trans k3)
       clear k3
       go_wp2_with fail
       go_ret
       exact ⟨aC HE.out.symm,K3.out⟩
      ·have HE:=hid (HE0.out true)
       rw [hfe] at HE
       go_wp2_with fail
       go_ret
       exact ⟨aC HE.out.symm,KBW.out⟩
     ·have hpos:0<kids.length:=List.length_pos_iff.2 hlen
      have hne0:((kids.length:Int) != 0)=true:=by simp;omega
      have HE:Hid (cA (.node 2 a fl nt kids)=4):=by
       show _=_
       rw [cA,show aU (.node 2 a fl nt kids)=4 by rw [aU,if_pos];simp [bJ,bL,hpos]];rfl
      go_wp2_with fail
      go_ret
      exact ⟨aC HE.out.symm,KBW.out⟩
    ·have heq:=fun wx=>nH a.n a.op a.v a.sl a.f a.on ⟨#[]⟩ 0 0 0 ⟨#[]⟩ false wx
     cases hz:kI a
     ·rw [show hY a.n a.op a.v a.sl a.f a.on ⟨#[]⟩ 0 0 0 ⟨#[]⟩ false=false from hz] at heq
      have HE:Hid (cA (.node 3 a fl nt kids)=4):=by
       show _=_
       rw [cA,show aU (.node 3 a fl nt kids)=4 by rw [aU,if_pos];simp [bJ,bL,hz]];rfl
      go_wp2_with fail
      go_ret
      exact ⟨aC HE.out.symm,KBW.out⟩
     ·rw [show hY a.n a.op a.v a.sl a.f a.on ⟨#[]⟩ 0 0 0 ⟨#[]⟩ false=true from hz] at heq
      cases hfe:fl.toList.isEmpty<;>cases nt
      iterate 2
       ·have HE:Hid (∀ n,cA (.node 3 a fl n kids)=4):=fun n=>by
         rw [cA,show aU (.node 3 a fl n kids)=4 by rw [aU,if_pos];simp [bJ,bL,hz,hfe]];rfl
        go_wp2_with fail
        go_ret
        exact ⟨aC (HE.out _).symm,KBW.out⟩
      rotate_left
      ·have HE:Hid (cA (.node 3 a fl true kids)=4):=by
        show _=_
        rw [cA,show aU (.node 3 a fl true kids)=4 by rw [aU,if_pos];simp [bJ,bL,hz,hfe]];rfl
       go_wp2_with fail
       go_ret
       exact ⟨aC HE.out.symm,KBW.out⟩
      ·have HE:Hid (cA (.node 3 a fl false kids)=dF kids):=by
        show _=_
        rw [cA,show aU (.node 3 a fl false kids)=0 by simp [aU,bJ,bL,hz,hfe]];rfl
       have HBW:Hid (aH w.heap.size #[.int .i64 3,.string a.n,.int .i64 a.op,.int .i64 a.v,.int .i64 a.sl,.string a.f,.bool a.on,.string fl,.bool false,.slice kp kids.length kc] W0):=HB0
       have hc1:=HBW.out.2
       have hl1:=HBW.out.1
       go_wp2_with fail
       clear hc1
       go_loopg [73] kids.length (fun gk i wr=> ∃ j:Nat,j+gk=kids.length/\i=.int .i64 j/\dF kids=dF (kids.drop j)/\aA w wr)
       case atStart=>exact ⟨0,by simp,rfl,by simp,KBW.out⟩
       case round=>
        obtain ⟨j,hj,rfl,heq,hkw⟩:=hrel
        have HEQ:=hid heq
        have HKW:=hid hkw
        clear heq hkw HBW KBW
        by_cases hlt:j<kids.length
        ·obtain ⟨p,cs,hp,hSp,hcell,hneed⟩:=bY HK.out j hlt
         have HN:=hid hneed
         have HDR:Hid (dF kids=if cA kids[j]≠0 then cA kids[j] else dF (kids.drop (j+1))):=by show _=_;rw [HEQ.out,List.drop_eq_getElem_cons hlt,dF]
         have hih:=HIH.out kids[j] (by have:=cK kids j hlt;omega)
         subst hp
         rw [Nat.zero_add] at hcell
         cases hkid:kids[j] with
         | node k' a' fl' nt' kids'=>
         rw [hkid,aE] at hneed
         obtain ⟨kp',kc',rfl,-,-,-⟩:=hneed
         have hcell' : ∀ m v,([.int .i64 k',.string a'.n,.int .i64 a'.op,.int .i64 a'.v,.int .i64 a'.sl,.string a'.f,.bool a'.on,.string fl',.bool nt',.slice kp' kids'.length kc']:List Value)[m]? = some v->wr.cell? ((p.add (j*10)).add m)=some v:=fun m v hv=>(HKW.out.cell (by rw [aX,aX];exact hS _ hSp)).trans (hcell m v hv)
         obtain ⟨c0,c1,c2,c3,c4,c5,c6,c7,c8,c9⟩:=eF hcell'
         clear hcell hcell' hkid
         have K2:=hid (HKW.out.alloc' (.cells #[.int .i64 k',.string a'.n,.int .i64 a'.op,.int .i64 a'.v,.int .i64 a'.sl,.string a'.f,.bool a'.on,.string fl',.bool nt',.slice kp' kids'.length kc'] 74))
         have HV2:=HV.out.keep HKW.out HV.out.facts.2.2
         obtain ⟨hcv,-,hlv⟩:=HV2.facts
         have HIJ:=hid (hih [.int .i64 k',.string a'.n,.int .i64 a'.op,.int .i64 a'.v,.int .i64 a'.sl,.string a'.f,.bool a'.on,.string fl',.bool nt',.slice kp' kids'.length kc'] _ (fun b hb=>Nat.lt_of_lt_of_le (hS b hb) K2.out.size) (HV.out.keep K2.out HV.out.facts.2.2) (HN.out.keep hS K2.out))
         clear hih HV2
         generalize cA kids[j]=r at HDR HIJ
         go_wp2_with fail
         clear c0 c1 c2 c3 c4 c5 c6 c7 c8 c9
         refine HIJ.out.mono ?_
         rintro e w3 ⟨rfl,k3⟩
         have K3:=hid (K2.out.trans k3)
         clear k3 hcv
         by_cases hr:r=0
         ·have HX:Hid (dF kids=dF (kids.drop (j+1))):=by show _=_;rw [HDR.out,if_neg (by simp [hr])]
          subst hr
          go_wp2_with fail
          go_roundg (kids.length-(j+1))
          case measure=>omega
          case rel=>exact ⟨j+1,by omega,by go_num,HX.out,K3.out⟩
         ·have hr1:(r != 0)=true:=by simpa using hr
          have HX:Hid (dF kids=r):=by show _=_;rw [HDR.out,if_pos hr]
          clear hr
          go_wp2_with fail
          go_ret
          exact ⟨aC (by rw [HE.out,HX.out]),K3.out⟩
        ·have HX:Hid (dF kids=0):=by show _=_;rw [HEQ.out,List.drop_eq_nil_of_le (by omega),dF]
         go_wp2_with fail
         go_ret
         exact ⟨aC (by rw [HE.out,HX.out]),HKW.out⟩
    ·have heq:=fun wx=>nH a.n a.op a.v a.sl a.f a.on ⟨#[]⟩ 0 0 0 ⟨#[]⟩ false wx
     cases hz:kI a
     ·rw [show hY a.n a.op a.v a.sl a.f a.on ⟨#[]⟩ 0 0 0 ⟨#[]⟩ false=false from hz] at heq
      have HE:Hid (cA (.node 4 a fl nt kids)=4):=by
       show _=_
       rw [cA,show aU (.node 4 a fl nt kids)=4 by rw [aU,if_pos];simp [bJ,bL,hz]];rfl
      go_wp2_with fail
      go_ret
      exact ⟨aC HE.out.symm,KBW.out⟩
     ·rw [show hY a.n a.op a.v a.sl a.f a.on ⟨#[]⟩ 0 0 0 ⟨#[]⟩ false=true from hz] at heq
      cases hfe:fl.toList.isEmpty<;>cases nt
      iterate 2
       ·have HE:Hid (∀ n,cA (.node 4 a fl n kids)=4):=fun n=>by
         rw [cA,show aU (.node 4 a fl n kids)=4 by rw [aU,if_pos];simp [bJ,bL,hz,hfe]];rfl
        go_wp2_with fail
        go_ret
        exact ⟨aC (HE.out _).symm,KBW.out⟩
      rotate_left
      ·have HE:Hid (cA (.node 4 a fl true kids)=4):=by
        show _=_
        rw [cA,show aU (.node 4 a fl true kids)=4 by rw [aU,if_pos];simp [bJ,bL,hz,hfe]];rfl
       go_wp2_with fail
       go_ret
       exact ⟨aC HE.out.symm,KBW.out⟩
      ·have HE:Hid (cA (.node 4 a fl false kids)=dF kids):=by
        show _=_
        rw [cA,show aU (.node 4 a fl false kids)=0 by simp [aU,bJ,bL,hz,hfe]];rfl
       have HBW:Hid (aH w.heap.size #[.int .i64 4,.string a.n,.int .i64 a.op,.int .i64 a.v,.int .i64 a.sl,.string a.f,.bool a.on,.string fl,.bool false,.slice kp kids.length kc] W0):=HB0
       have hc1:=HBW.out.2
       have hl1:=HBW.out.1
       go_wp2_with fail
       clear hc1
       go_loopg [73] kids.length (fun gk i wr=> ∃ j:Nat,j+gk=kids.length/\i=.int .i64 j/\dF kids=dF (kids.drop j)/\aA w wr)
       case atStart=>exact ⟨0,by simp,rfl,by simp,KBW.out⟩
       case round=>
        obtain ⟨j,hj,rfl,heq,hkw⟩:=hrel
        have HEQ:=hid heq
        have HKW:=hid hkw
        clear heq hkw HBW KBW
        by_cases hlt:j<kids.length
        ·obtain ⟨p,cs,hp,hSp,hcell,hneed⟩:=bY HK.out j hlt
         have HN:=hid hneed
         have HDR:Hid (dF kids=if cA kids[j]≠0 then cA kids[j] else dF (kids.drop (j+1))):=by show _=_;rw [HEQ.out,List.drop_eq_getElem_cons hlt,dF]
         have hih:=HIH.out kids[j] (by have:=cK kids j hlt;omega)
         subst hp
         rw [Nat.zero_add] at hcell
         cases hkid:kids[j] with
         | node k' a' fl' nt' kids'=>
         rw [hkid,aE] at hneed
         obtain ⟨kp',kc',rfl,-,-,-⟩:=hneed
         have hcell' : ∀ m v,([.int .i64 k',.string a'.n,.int .i64 a'.op,.int .i64 a'.v,.int .i64 a'.sl,.string a'.f,.bool a'.on,.string fl',.bool nt',.slice kp' kids'.length kc']:List Value)[m]? = some v->wr.cell? ((p.add (j*10)).add m)=some v:=fun m v hv=>(HKW.out.cell (by rw [aX,aX];exact hS _ hSp)).trans (hcell m v hv)
         obtain ⟨c0,c1,c2,c3,c4,c5,c6,c7,c8,c9⟩:=eF hcell'
         clear hcell hcell' hkid
         have K2:=hid (HKW.out.alloc' (.cells #[.int .i64 k',.string a'.n,.int .i64 a'.op,.int .i64 a'.v,.int .i64 a'.sl,.string a'.f,.bool a'.on,.string fl',.bool nt',.slice kp' kids'.length kc'] 74))
         have HV2:=HV.out.keep HKW.out HV.out.facts.2.2
         obtain ⟨hcv,-,hlv⟩:=HV2.facts
         have HIJ:=hid (hih [.int .i64 k',.string a'.n,.int .i64 a'.op,.int .i64 a'.v,.int .i64 a'.sl,.string a'.f,.bool a'.on,.string fl',.bool nt',.slice kp' kids'.length kc'] _ (fun b hb=>Nat.lt_of_lt_of_le (hS b hb) K2.out.size) (HV.out.keep K2.out HV.out.facts.2.2) (HN.out.keep hS K2.out))
         clear hih HV2
         generalize cA kids[j]=r at HDR HIJ
         go_wp2_with fail
         clear c0 c1 c2 c3 c4 c5 c6 c7 c8 c9
         refine HIJ.out.mono ?_
         rintro e w3 ⟨rfl,k3⟩
         have K3:=hid (K2.out.trans k3)
         clear k3 hcv
         by_cases hr:r=0
         ·have HX:Hid (dF kids=dF (kids.drop (j+1))):=by show _=_;rw [HDR.out,if_neg (by simp [hr])]
          subst hr
          go_wp2_with fail
          go_roundg (kids.length-(j+1))
          case measure=>omega
          case rel=>exact ⟨j+1,by omega,by go_num,HX.out,K3.out⟩
         ·have hr1:(r != 0)=true:=by simpa using hr
          have HX:Hid (dF kids=r):=by show _=_;rw [HDR.out,if_pos hr]
          clear hr
          go_wp2_with fail
          go_ret
          exact ⟨aC (by rw [HE.out,HX.out]),K3.out⟩
        ·have HX:Hid (dF kids=0):=by show _=_;rw [HEQ.out,List.drop_eq_nil_of_le (by omega),dF]
         go_wp2_with fail
         go_ret
         exact ⟨aC (by rw [HE.out,HX.out]),HKW.out⟩
    ·have heq:=fun wx=>nH a.n a.op a.v a.sl a.f a.on ⟨#[]⟩ 0 0 0 ⟨#[]⟩ false wx
     cases hz:kI a
     ·rw [show hY a.n a.op a.v a.sl a.f a.on ⟨#[]⟩ 0 0 0 ⟨#[]⟩ false=false from hz] at heq
      have HE:Hid (cA (.node 5 a fl nt kids)=4):=by
       show _=_
       rw [cA,show aU (.node 5 a fl nt kids)=4 by rw [aU,if_pos];simp [bJ,bL,hz]];rfl
      go_wp2_with fail
      go_ret
      exact ⟨aC HE.out.symm,KBW.out⟩
     ·rw [show hY a.n a.op a.v a.sl a.f a.on ⟨#[]⟩ 0 0 0 ⟨#[]⟩ false=true from hz] at heq
      go_wp2_with fail
      refine (dK _ _).mono ?_
      rintro e w1 ⟨rfl,k1⟩
      have HBW:=hid (HB0.out.keep k1 HB0.out.1)
      have KBW:=hid (KB0.out.trans k1)
      clear k1 hc0
      cases hnm:aI fl.data.toList
      ·have HE:Hid (cA (.node 5 a fl nt kids)=1):=by
        show _=_
        rw [cA,show aU (.node 5 a fl nt kids)=1 by simp [aU,bJ,bL,hz,hnm]];rfl
       go_wp2_with fail
       go_ret
       exact ⟨aC HE.out.symm,KBW.out⟩
      ·have HE:Hid (cA (.node 5 a fl nt kids)=dF kids):=by
        show _=_
        rw [cA,show aU (.node 5 a fl nt kids)=0 by simp [aU,bJ,bL,hz,hnm]];rfl
       have hc1:=HBW.out.2
       have hl1:=HBW.out.1
       go_wp2_with fail
       clear hc1
       go_loopg [73] kids.length (fun gk i wr=> ∃ j:Nat,j+gk=kids.length/\i=.int .i64 j/\dF kids=dF (kids.drop j)/\aA w wr)
       case atStart=>exact ⟨0,by simp,rfl,by simp,KBW.out⟩
       case round=>
        obtain ⟨j,hj,rfl,heq,hkw⟩:=hrel
        have HEQ:=hid heq
        have HKW:=hid hkw
        clear heq hkw HBW KBW
        by_cases hlt:j<kids.length
        ·obtain ⟨p,cs,hp,hSp,hcell,hneed⟩:=bY HK.out j hlt
         have HN:=hid hneed
         have HDR:Hid (dF kids=if cA kids[j]≠0 then cA kids[j] else dF (kids.drop (j+1))):=by show _=_;rw [HEQ.out,List.drop_eq_getElem_cons hlt,dF]
         have hih:=HIH.out kids[j] (by have:=cK kids j hlt;omega)
         subst hp
         rw [Nat.zero_add] at hcell
         cases hkid:kids[j] with
         | node k' a' fl' nt' kids'=>
         rw [hkid,aE] at hneed
         obtain ⟨kp',kc',rfl,-,-,-⟩:=hneed
         have hcell' : ∀ m v,([.int .i64 k',.string a'.n,.int .i64 a'.op,.int .i64 a'.v,.int .i64 a'.sl,.string a'.f,.bool a'.on,.string fl',.bool nt',.slice kp' kids'.length kc']:List Value)[m]? = some v->wr.cell? ((p.add (j*10)).add m)=some v:=fun m v hv=>(HKW.out.cell (by rw [aX,aX];exact hS _ hSp)).trans (hcell m v hv)
         obtain ⟨c0,c1,c2,c3,c4,c5,c6,c7,c8,c9⟩:=eF hcell'
         clear hcell hcell' hkid
         have K2:=hid (HKW.out.alloc' (.cells #[.int .i64 k',.string a'.n,.int .i64 a'.op,.int .i64 a'.v,.int .i64 a'.sl,.string a'.f,.bool a'.on,.string fl',.bool nt',.slice kp' kids'.length kc'] 74))
         have HV2:=HV.out.keep HKW.out HV.out.facts.2.2
         obtain ⟨hcv,-,hlv⟩:=HV2.facts
         have HIJ:=hid (hih [.int .i64 k',.string a'.n,.int .i64 a'.op,.int .i64 a'.v,.int .i64 a'.sl,.string a'.f,.bool a'.on,.string fl',.bool nt',.slice kp' kids'.length kc'] _ (fun b hb=>Nat.lt_of_lt_of_le (hS b hb) K2.out.size) (HV.out.keep K2.out HV.out.facts.2.2) (HN.out.keep hS K2.out))
         clear hih HV2
         generalize cA kids[j]=r at HDR HIJ
         go_wp2_with fail
         clear c0 c1 c2 c3 c4 c5 c6 c7 c8 c9
         refine HIJ.out.mono ?_
         rintro e w3 ⟨rfl,k3⟩
         have K3:=hid (K2.out.trans k3)
         clear k3 hcv
         by_cases hr:r=0
         ·have HX:Hid (dF kids=dF (kids.drop (j+1))):=by show _=_;rw [HDR.out,if_neg (by simp [hr])]
          subst hr
          go_wp2_with fail
          go_roundg (kids.length-(j+1))
          case measure=>omega
          case rel=>exact ⟨j+1,by omega,by go_num,HX.out,K3.out⟩
         ·have hr1:(r != 0)=true:=by simpa using hr
          have HX:Hid (dF kids=r):=by show _=_;rw [HDR.out,if_pos hr]
          clear hr
          go_wp2_with fail
          go_ret
          exact ⟨aC (by rw [HE.out,HX.out]),K3.out⟩
        ·have HX:Hid (dF kids=0):=by show _=_;rw [HEQ.out,List.drop_eq_nil_of_le (by omega),dF]
         go_wp2_with fail
         go_ret
         exact ⟨aC (by rw [HE.out,HX.out]),HKW.out⟩
end Go.Proofs.YthaaaecmeafofaaGreatDoor
namespace Go.Proofs.YthaaaecmeafofaaGreatDoor
open Go.RowKit
theorem nQ (t:NT) (cs:List Value) (w:World) (S:Nat->Prop) (hS : ∀ b,S b->b<w.heap.size) (hn:aE S w t cs) :
  Calls Tryz.prog 55 #[.agg cs.toArray] w fun e w'=>e=.returned (.int .i64 (cJ t))/\aA w w':=by
 have HN:=hid hn
 cases ht:t with
 | node k a fl nt kids=>
 rw [ht,aE] at hn
 obtain ⟨kp,kc,rfl,-,-,-⟩:=hn
 rw [← ht]
 have hent:=jK
 have hmf : ∀ (fn:Fn) (first cap:Array Value) (w:World),(Instr.makeFunc fn first cap).run Tryz.prog w=.ok (.func fn first cap) w:=fun _ _ _ _=>rfl
 have K0:=hid (aA.alloc w (.cells #[.int .i64 k,.string a.n,.int .i64 a.op,.int .i64 a.v,.int .i64 a.sl,.string a.f,.bool a.on,.string fl,.bool nt,.slice kp kids.length kc] 74))
 have HB0:Hid (aH w.heap.size #[.int .i64 k,.string a.n,.int .i64 a.op,.int .i64 a.v,.int .i64 a.sl,.string a.f,.bool a.on,.string fl,.bool nt,.slice kp kids.length kc] (w.alloc (.cells #[.int .i64 k,.string a.n,.int .i64 a.op,.int .i64 a.v,.int .i64 a.sl,.string a.f,.bool a.on,.string fl,.bool nt,.slice kp kids.length kc] 74))):=aH.new w #[.int .i64 k,.string a.n,.int .i64 a.op,.int .i64 a.v,.int .i64 a.sl,.string a.f,.bool a.on,.string fl,.bool nt,.slice kp kids.length kc] 74
 have HC:=hid (aCb t)
 have HL:=hid (vS t)
 have hb:=lR t 4
 clear ht
 go_enter Tryz.func55,Tryz.ntmps55
 go_wp2_with fail
 generalize w.alloc (.cells #[.int .i64 k,.string a.n,.int .i64 a.op,.int .i64 a.v,.int .i64 a.sl,.string a.f,.bool a.on,.string fl,.bool nt,.slice kp kids.length kc] 74)=W0 at K0 HB0 ⊢
 refine (aBa S _ t (Nat.le_refl _) 4 _ W0 (by decide) (fun b hb=>Nat.lt_of_lt_of_le (hS b hb) K0.out.size) (HN.out.keep hS K0.out)).mono ?_
 rintro e w1 ⟨rfl,k1⟩
 have K1:=hid (K0.out.trans k1)
 have HB1:=hid (HB0.out.keep k1 HB0.out.1)
 clear k1 K0 HB0
 generalize szN t 4=r at HL hb ⊢
 obtain ⟨r1,r2⟩:=r
 simp only at hb
 have BIG:(r1 > 20∨r2 > 4)->Hid (cJ t=2):=fun h=>by
  show _=_
  rw [HC.out,if_pos (HL.out.1 h)]
 have SML : ¬ (r1 > 20∨r2 > 4)->Hid (cJ t=cA t):=fun h=>by
  show _=_
  rw [HC.out,if_neg (fun e=>h (HL.out.2 e))]
 have HBIG:=hid BIG
 have HSML:=hid SML
 clear BIG SML
 by_cases h1:r1 > 20
 ·have HX:=HBIG.out (Or.inl h1)
  go_wp2_with fail
  go_ret
  exact ⟨aC HX.out.symm,K1.out⟩
 ·by_cases h2:r2 > 4
  ·have HX:=HBIG.out (Or.inr h2)
   go_wp2_with fail
   go_ret
   exact ⟨aC HX.out.symm,K1.out⟩
  ·have HX:=HSML.out (by omega)
   have hc1:=HB1.out.2
   have hl1:=HB1.out.1
   have V1:Hid (aB w1.heap.size 106 .nilFunc (w1.alloc (.cells #[.nilFunc] 106))):=aB.new _ _ _
   have KA:=hid (K1.out.alloc' (.cells #[.nilFunc] 106))
   have HBA:=hid (HB1.out.keep (aA.alloc w1 (.cells #[.nilFunc] 106)) HB1.out.1)
   go_upto_region 5 with fail
   generalize w1.alloc (.cells #[.nilFunc] 106)=W1 at V1 KA HBA ⊢
   clear hc1
   have hc1:=HBA.out.2
   obtain ⟨hcv,hzv,hlv⟩:=V1.out.facts
   have hws:=K1.out.size
   have V2:=hid (V1.out.set (.func (.func 120) #[] #[.pointer (some ⟨w1.heap.size,0,none⟩)]))
   have K2:Hid (aA w (W1.setCell ⟨w1.heap.size,0,none⟩ (.func (.func 120) #[] #[.pointer (some ⟨w1.heap.size,0,none⟩)]))):=KA.out.set (p:=⟨w1.heap.size,0,none⟩) hws _
   have hne:w.heap.size≠w1.heap.size:=by omega
   go_wp2_with fail
   clear hc1
   refine (vO w1.heap.size S _ t (Nat.le_refl _) _ _ (fun b hb=>Nat.lt_of_lt_of_le (hS b hb) K2.out.size) V2.out (HN.out.keep hS K2.out)).mono ?_
   rintro e w3 ⟨rfl,k3⟩
   have K3:=hid (K2.out.trans k3)
   clear k3
   go_wp2_with fail
   go_ret
   exact ⟨aC HX.out.symm,K3.out⟩
end Go.Proofs.YthaaaecmeafofaaGreatDoor
