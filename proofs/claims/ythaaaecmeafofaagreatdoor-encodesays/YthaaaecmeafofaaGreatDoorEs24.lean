/- Steps of the proof: RefFlagF, RefCheck. -/
import Derived.Test.YthaaaecmeafofaaGreatDoorEs22
import Derived.Test.YthaaaecmeafofaaGreatDoorEs07
import Derived.Maps.Own
import Derived.StringKeys
import Derived.Laws.EntriesVeiled
import Derived.Sort.KeysCollected
import Derived.Test.YthaaaecmeafofaaGreatDoorEs23
import Derived.Maps.RangeWalk
import Derived.Sort.OwnSorted
import Derived.Maps.AppendAt
import Derived.Test.YthaaaecmeafofaaGreatDoorEs03
import Derived.Shelf.Strings.SlTrimAscii
import Derived.Lib.ParseIntBTie
set_option maxHeartbeats 16000000
set_option maxRecDepth 100000
namespace Go.Proofs.YthaaaecmeafofaaGreatDoor
open Go.RowKit
def eC {H:Type} (D:DataW H) (fs:List ByteArray):DataW H:=fs.foldl (fun D f=>D.put (.string f.data.toList) (.lit (.bool true))) D
theorem mA {H:Type} (D:DataW H) (a b:List ByteArray):eC D (a++b)=eC (eC D a) b:=List.foldl_append ..
theorem vM:Maps.Keyed Tryz.prog 9:=Maps.string_keyed Tryz.underlying9
def aKr (b c:Nat) (w:World):Prop:=aE c 163 (.func (.func 121) #[] #[.pointer (some ⟨b,0,none⟩),.pointer (some ⟨c,0,none⟩)]) w
theorem tR (args:Array Value) (w:World):(callFunc 121 args).run Tryz.prog w=.ok (.enter 121 args) w:=enters_of Tryz.func121 (by kernel_rfl) rfl args w
structure mR {H:Type} (b g c n:Nat) (D:DataW H) (w:World):Prop where
 var:aE b 143 (.map (some g)) w
 self:aKr b c w
 own:w.ownsMap Tryz.prog 9 (plainElem Tryz.prog 4) g n D
theorem mR.keep {H:Type} {b g c n:Nat} {D:DataW H} {w w':World} (h:mR b g c n D w) (k:aA w w'):mR b g c n D w':=
 ⟨h.var.keep k h.var.facts.2.2,aE.keep h.self k (aE.facts h.self).2.2,by
  obtain ⟨es,clock,hb,F,hn,hD⟩:=h.own
  exact ⟨es,clock,(k.block g h.own.lt).trans hb,F,hn,hD⟩⟩
theorem tT (k:Int) (a:At) (fl:ByteArray) (nt:Bool) : ∀ (kids:List NT) (j:Nat) (h:j<kids.length) (f:ByteArray),f∈kids[j].flags->f∈(NT.node k a fl nt kids).flags:=by
 intro kids j h f hf
 rw [NT.flags]
 refine List.mem_append_right _ ?_
 induction kids generalizing j with
 | nil=>exact absurd h (Nat.not_lt_zero _)
 | cons t ts ih=>
  rw [bO]
  cases j with
  | zero=>exact List.mem_append_left _ hf
  | succ j=>exact List.mem_append_right _ (ih j (by simpa using h) hf)
theorem aE.grew {c g:Nat} {T:TypeId} {v:Value} {w w':World} (h:aE c T v w) (hg:w.grownBy w' (some g)) (hne:c≠g):aE c T v w':=by
 have hl:=h.facts.2.2
 unfold aE at *;rw [hg.block c hl (fun e=>hne (Option.some.inj e))];exact h
theorem aHt {g:Nat} {w w':World} (hg:w.grownBy w' (some g)):aW (One g) w w':=
 ⟨hg.os,hg.tape,hg.output,hg.size,fun b hb ho=>hg.block b hb (fun e=>ho (Option.some.inj e)),fun _ _ h=>h⟩
theorem aGh {b g:Nat} {cs:Array Value} {w w':World} (h:aJ b cs w) (hg:w.grownBy w' (some g)) (hne:b≠g):aJ b cs w':=
 ⟨Nat.lt_of_lt_of_le h.1 hg.size,fun o=>(World.cell?_of_block (w:=w) (hg.block b h.1 (fun e=>hne (Option.some.inj e)))).trans (h.2 o)⟩
theorem aAd {H:Type} (b g c:Nat) (S:Nat->Prop) (hgb:b≠g) (hgc:c≠g) (hSg : ¬ S g) : ∀ (m:Nat) (t:NT),t.size<=m->∀ (cs:List Value) (n:Nat) (D:DataW H) (w:World),(∀ b,S b->b<w.heap.size)->mR b g c n D w->n+t.size<=maxLen->(∀ f∈t.flags,f.size<=maxLen)->aF S w t cs->
  Calls Tryz.prog 121 #[.agg cs.toArray,.pointer (some ⟨b,0,none⟩),.pointer (some ⟨c,0,none⟩)] w fun e w'=>e=.returned (.tuple #[])/\mR b g c (n+t.size) (eC D t.flags) w'/\aW (One g) w w':=by
 intro m
 induction m with
 | zero=>
  rintro ⟨k,a,fl,nt,kids⟩ hm
  rw [NT.size] at hm;omega
 | succ m ih=>
  rintro ⟨k,a,fl,nt,kids⟩ hm cs n D w hS hfm hnm hfl hn
  rw [NT.size] at hm hnm
  rw [aF] at hn
  obtain ⟨kp,kc,rfl,hcap,hmax,hkids⟩:=hn
  have hent:=tR
  have HK:=hid hkids
  have HIH:=hid ih
  have HFM:=hid hfm
  have HFL:=hid hfl
  have KB0:=hid (aA.alloc w (.cells #[.int .i64 k,.string a.n,.int .i64 a.op,.int .i64 a.v,.int .i64 a.sl,.string a.f,.bool a.on,.string fl,.bool nt,.slice kp kids.length kc] 74))
  have HB0:Hid (aJ w.heap.size #[.int .i64 k,.string a.n,.int .i64 a.op,.int .i64 a.v,.int .i64 a.sl,.string a.f,.bool a.on,.string fl,.bool nt,.slice kp kids.length kc] (w.alloc (.cells #[.int .i64 k,.string a.n,.int .i64 a.op,.int .i64 a.v,.int .i64 a.sl,.string a.f,.bool a.on,.string fl,.bool nt,.slice kp kids.length kc] 74))):=aJ.new w #[.int .i64 k,.string a.n,.int .i64 a.op,.int .i64 a.v,.int .i64 a.sl,.string a.f,.bool a.on,.string fl,.bool nt,.slice kp kids.length kc] 74
  clear ih hkids hfm hfl
  go_enter Tryz.func121,Tryz.ntmps121
  go_upto_region 1 with fail
  generalize w.alloc (.cells #[.int .i64 k,.string a.n,.int .i64 a.op,.int .i64 a.v,.int .i64 a.sl,.string a.f,.bool a.on,.string fl,.bool nt,.slice kp kids.length kc] 74)=W0 at KB0 HB0 ⊢
  have hc0:=HB0.out.2
  have hl0:=HB0.out.1
  have HM0:=hid (HFM.out.keep KB0.out)
  have HMX:Hid (n+(1+aT kids)<=maxLen):=hnm
  by_cases hk5:k=5
  ·subst hk5
   have HFE:Hid ((NT.node 5 a fl nt kids).flags=fl :: bO kids):=by show _=_;rw [NT.flags,if_pos rfl];rfl
   obtain ⟨hcv,hfv,hlv⟩:=HM0.out.var.facts
   have hflm:fl.size<=maxLen:=HFL.out fl (by rw [HFE.out];exact List.mem_cons_self)
   obtain ⟨W1,hrun,hown1,hgrow⟩:=HM0.out.own.update vM Tryz.underlying143 (by omega) (WideMaps.keyOf_string_mk Tryz.underlying9 hflm) (plainElem_bool Tryz.underlying4 true)
   have HO1:=hid hown1
   have HG1:=hid hgrow
   have HM1:Hid (mR b g c (n+1) (D.put (.string fl.data.toList) (.lit (.bool true))) W1):=⟨HM0.out.var.grew hgrow hgb,aE.grew HM0.out.self hgrow hgc,hown1⟩
   have HA1:Hid (aW (One g) w W1):=(cG KB0.out).trans (aHt hgrow)
   have hne:w.heap.size≠g:=by have:=HFM.out.own.lt;omega
   have HB1:=hid (aGh HB0.out hgrow hne)
   have hc1:=HB1.out.2
   have hl1:=HB1.out.1
   clear hown1 hgrow hflm hnm
   go_wp2_with fail
   clear hrun hc0 hc1 hcv hfv
   go_loopg [15] kids.length (fun gk i wr=> ∃ (j n':Nat) (D':DataW H),j+gk=kids.length/\i=.int .i64 j/\mR b g c n' D' wr/\n'+aT (kids.drop j)<=n+(1+aT kids)/\eC D' (bO (kids.drop j))=eC D (NT.node 5 a fl nt kids).flags/\aW (One g) w wr)
   case atStart=>exact ⟨0,n+1,_,by simp,rfl,HM1.out,by simp<;>omega,by rw [HFE.out];rfl,HA1.out⟩
   case round=>
    obtain ⟨j,n',D',hj,rfl,hfm',hn',hput,hap⟩:=hrel
    have HM:=hid hfm'
    have HP:=hid hput
    have HA:=hid hap
    have HN':=hid hn'
    clear hfm' hput hap hn'
    by_cases hlt:j<kids.length
    ·obtain ⟨p,cs,hp,hSp,hcell,hneed⟩:=cX HK.out j hlt
     have HN:=hid hneed
     have HDR:Hid (bO (kids.drop j)=kids[j].flags++bO (kids.drop (j+1))):=by show _=_;rw [List.drop_eq_getElem_cons hlt,bO]
     have HDS:Hid (aT (kids.drop j)=kids[j].size+aT (kids.drop (j+1))):=by show _=_;rw [List.drop_eq_getElem_cons hlt,aT]
     have HFJ:Hid (∀ f∈kids[j].flags,f.size<=maxLen):=fun f hf=>HFL.out f (tT 5 a fl nt kids j hlt f hf)
     have hih:=HIH.out kids[j] (by have:=dU kids j hlt;omega)
     subst hp
     rw [Nat.zero_add] at hcell
     cases hkid:kids[j] with
     | node k' a' fl' nt' kids'=>
     rw [hkid,aF] at hneed
     obtain ⟨kp',kc',rfl,-,-,-⟩:=hneed
     have hcell' : ∀ m v,([.int .i64 k',.string a'.n,.int .i64 a'.op,.int .i64 a'.v,.int .i64 a'.sl,.string a'.f,.bool a'.on,.string fl',.bool nt',.slice kp' kids'.length kc']:List Value)[m]? = some v->wr.cell? ((p.add (j*10)).add m)=some v:=fun m v hv=>(HA.out.cell _ (by rw [bM,bM];exact hS _ hSp) (by rw [bM,bM];exact fun e=>hSg (e ▸ hSp))).trans (hcell m v hv)
     obtain ⟨c0,c1,c2,c3,c4,c5,c6,c7,c8,c9⟩:=fS hcell'
     clear hcell hcell' hkid
     have KA:=hid (aA.alloc wr (.cells #[.int .i64 k',.string a'.n,.int .i64 a'.op,.int .i64 a'.v,.int .i64 a'.sl,.string a'.f,.bool a'.on,.string fl',.bool nt',.slice kp' kids'.length kc'] 74))
     have HA2:=hid (HA.out.trans (cG (c:=g) KA.out))
     have HM2:=hid (HM.out.keep KA.out)
     obtain ⟨hcv,-,hlv⟩:=aE.facts HM.out.self
     have HIJ:=hid (hih [.int .i64 k',.string a'.n,.int .i64 a'.op,.int .i64 a'.v,.int .i64 a'.sl,.string a'.f,.bool a'.on,.string fl',.bool nt',.slice kp' kids'.length kc'] n' D' _ (fun b hb=>Nat.lt_of_lt_of_le (hS b hb) HA2.out.size) HM2.out (by have:=HDS.out;have:=HN'.out;have:=HMX.out;omega) HFJ.out (aF.mono (fun p hp=>HA2.out.cell p (hS _ hp) (fun e=>hSg (e ▸ hp))) (fun _ h=>h) _ _ HN.out))
     clear hih
     generalize kids[j]=tj at HDR HDS HIJ HFJ HN
     go_wp2_with fail
     clear c0 c1 c2 c3 c4 c5 c6 c7 c8 c9
     refine HIJ.out.mono ?_
     rintro e w3 ⟨rfl,hm3,ha3⟩
     have HM3:=hid hm3
     have HA3:=hid (HA2.out.trans ha3)
     clear hm3 ha3 hcv
     go_wp2_with fail
     go_roundg (kids.length-(j+1))
     case measure=>omega
     case rel=>exact ⟨j+1,n'+tj.size,eC D' tj.flags,by omega,by go_num,HM3.out,by have:=HDS.out;have:=HN'.out;omega,by rw [← mA,← HDR.out,HP.out],HA3.out⟩
    ·have HX:Hid (eC D (NT.node 5 a fl nt kids).flags=D'):=by show _=_;rw [← HP.out,List.drop_eq_nil_of_le (by omega)];rfl
     go_wp2_with fail
     try simp only [Exit.inBlock,Exit.then]
     refine bodyPost_end (results_none rfl _ _ _) rfl ?_
     refine ⟨rfl,?_,HA.out⟩
     rw [HX.out,NT.size]
     exact ⟨HM.out.var,HM.out.self,HM.out.own.mono (by have:=HN'.out;omega)⟩
  ·have hk5':(k==5)=false:=by simp [hk5]
   have HFE:Hid ((NT.node k a fl nt kids).flags=bO kids):=by show _=_;rw [NT.flags,if_neg hk5];rfl
   clear hnm
   go_wp2_with fail
   clear hc0 hk5'
   go_loopg [15] kids.length (fun gk i wr=> ∃ (j n':Nat) (D':DataW H),j+gk=kids.length/\i=.int .i64 j/\mR b g c n' D' wr/\n'+aT (kids.drop j)<=n+(1+aT kids)/\eC D' (bO (kids.drop j))=eC D (NT.node k a fl nt kids).flags/\aW (One g) w wr)
   case atStart=>exact ⟨0,n,D,by simp,rfl,HM0.out,by simp<;>omega,by rw [HFE.out];rfl,cG KB0.out⟩
   case round=>
    obtain ⟨j,n',D',hj,rfl,hfm',hn',hput,hap⟩:=hrel
    have HM:=hid hfm'
    have HP:=hid hput
    have HA:=hid hap
    have HN':=hid hn'
    clear hfm' hput hap hn'
    by_cases hlt:j<kids.length
    ·obtain ⟨p,cs,hp,hSp,hcell,hneed⟩:=cX HK.out j hlt
     have HN:=hid hneed
     have HDR:Hid (bO (kids.drop j)=kids[j].flags++bO (kids.drop (j+1))):=by show _=_;rw [List.drop_eq_getElem_cons hlt,bO]
     have HDS:Hid (aT (kids.drop j)=kids[j].size+aT (kids.drop (j+1))):=by show _=_;rw [List.drop_eq_getElem_cons hlt,aT]
     have HFJ:Hid (∀ f∈kids[j].flags,f.size<=maxLen):=fun f hf=>HFL.out f (tT k a fl nt kids j hlt f hf)
     have hih:=HIH.out kids[j] (by have:=dU kids j hlt;omega)
     subst hp
     rw [Nat.zero_add] at hcell
     cases hkid:kids[j] with
     | node k' a' fl' nt' kids'=>
     rw [hkid,aF] at hneed
     obtain ⟨kp',kc',rfl,-,-,-⟩:=hneed
     have hcell' : ∀ m v,([.int .i64 k',.string a'.n,.int .i64 a'.op,.int .i64 a'.v,.int .i64 a'.sl,.string a'.f,.bool a'.on,.string fl',.bool nt',.slice kp' kids'.length kc']:List Value)[m]? = some v->wr.cell? ((p.add (j*10)).add m)=some v:=fun m v hv=>(HA.out.cell _ (by rw [bM,bM];exact hS _ hSp) (by rw [bM,bM];exact fun e=>hSg (e ▸ hSp))).trans (hcell m v hv)
     obtain ⟨c0,c1,c2,c3,c4,c5,c6,c7,c8,c9⟩:=fS hcell'
     clear hcell hcell' hkid
     have KA:=hid (aA.alloc wr (.cells #[.int .i64 k',.string a'.n,.int .i64 a'.op,.int .i64 a'.v,.int .i64 a'.sl,.string a'.f,.bool a'.on,.string fl',.bool nt',.slice kp' kids'.length kc'] 74))
     have HA2:=hid (HA.out.trans (cG (c:=g) KA.out))
     have HM2:=hid (HM.out.keep KA.out)
     obtain ⟨hcv,-,hlv⟩:=aE.facts HM.out.self
     have HIJ:=hid (hih [.int .i64 k',.string a'.n,.int .i64 a'.op,.int .i64 a'.v,.int .i64 a'.sl,.string a'.f,.bool a'.on,.string fl',.bool nt',.slice kp' kids'.length kc'] n' D' _ (fun b hb=>Nat.lt_of_lt_of_le (hS b hb) HA2.out.size) HM2.out (by have:=HDS.out;have:=HN'.out;have:=HMX.out;omega) HFJ.out (aF.mono (fun p hp=>HA2.out.cell p (hS _ hp) (fun e=>hSg (e ▸ hp))) (fun _ h=>h) _ _ HN.out))
     clear hih
     generalize kids[j]=tj at HDR HDS HIJ HFJ HN
     go_wp2_with fail
     clear c0 c1 c2 c3 c4 c5 c6 c7 c8 c9
     refine HIJ.out.mono ?_
     rintro e w3 ⟨rfl,hm3,ha3⟩
     have HM3:=hid hm3
     have HA3:=hid (HA2.out.trans ha3)
     clear hm3 ha3 hcv
     go_wp2_with fail
     go_roundg (kids.length-(j+1))
     case measure=>omega
     case rel=>exact ⟨j+1,n'+tj.size,eC D' tj.flags,by omega,by go_num,HM3.out,by have:=HDS.out;have:=HN'.out;omega,by rw [← mA,← HDR.out,HP.out],HA3.out⟩
    ·have HX:Hid (eC D (NT.node k a fl nt kids).flags=D'):=by show _=_;rw [← HP.out,List.drop_eq_nil_of_le (by omega)];rfl
     go_wp2_with fail
     try simp only [Exit.inBlock,Exit.then]
     refine bodyPost_end (results_none rfl _ _ _) rfl ?_
     refine ⟨rfl,?_,HA.out⟩
     rw [HX.out,NT.size]
     exact ⟨HM.out.var,HM.out.self,HM.out.own.mono (by have:=HN'.out;omega)⟩
end Go.Proofs.YthaaaecmeafofaaGreatDoor
namespace Go.Proofs.YthaaaecmeafofaaGreatDoor
open Go.RowKit Go.Lib
theorem gG {α:Type} [Inhabited α] [DecidableEq α] (d:Array α) : ∀ (m:Nat) (x:α),x∈compactUpTo d m ↔ ∃ j,j<m/\d[j]! = x
 | 0,x=>by simp [compactUpTo]
 | m+1,x=>by
  rw [compactUpTo_succ,List.mem_append,gG d m x]
  constructor
  ·rintro (⟨j,hj,e⟩ | h)
   ·exact ⟨j,by omega,e⟩
   ·split at h
    ·exact ⟨m,by omega,(List.mem_singleton.1 h).symm⟩
    ·cases h
  ·rintro ⟨j,hj,e⟩
   by_cases hjm:j<m
   ·exact Or.inl ⟨j,hjm,e⟩
   ·obtain rfl:j=m:=by omega
    by_cases h0:j=0
    ·subst h0
     rw [if_pos (keeps_lt_one d 0 (by omega))]
     exact Or.inr (List.mem_singleton.2 e.symm)
    ·by_cases hk:d[j]! = d[j-1]!
     ·exact Or.inl ⟨j-1,by omega,hk.symm.trans e⟩
     ·rw [if_pos (keeps_pos hk)]
      exact Or.inr (List.mem_singleton.2 e.symm)
theorem iG (d:Array (List UInt8)) (hd : ∀ i j,i<j->j<d.size->d[i]! <= d[j]!) : ∀ m,m<=d.size->(compactUpTo d m).Pairwise (fun x y=>x<=y/\x≠y)
 | 0,_=>by simp [compactUpTo]
 | m+1,hm=>by
  rw [compactUpTo_succ]
  refine List.pairwise_append.2 ⟨iG d hd m (by omega),by split<;>simp,?_⟩
  intro x hx y hy
  split at hy
  ·rename_i hk
   obtain rfl:=List.mem_singleton.1 hy
   obtain ⟨j,hj,rfl⟩:=(gG d m x).1 hx
   refine ⟨hd j m hj (by omega),fun e=> ?_⟩
   have h1:d[m]! = d[m-1]! :=by
    by_cases h:j=m-1
    ·rw [← h,e]
    ·exact List.le_antisymm (e ▸ hd j (m-1) (by omega) (by omega)) (hd (m-1) m (by omega) (by omega))
   rw [keeps_neg (by omega) h1] at hk
   cases hk
  ·cases hy
theorem yY {ss L:List (List UInt8)} (hnd:ss.Nodup) (hm : ∀ x,x∈ss↔x∈L):ss.mergeSort (fun x y=>decide (x<=y))=compact (L.mergeSort fun x y=>decide (x<=y)):=by
 have tr : ∀ a b c:List UInt8,decide (a<=b)=true->decide (b<=c)=true->decide (a<=c)=true:=fun a b c h1 h2=>by simp only [decide_eq_true_eq] at *;exact List.le_trans h1 h2
 have tot : ∀ a b:List UInt8,(decide (a<=b)||decide (b<=a))=true:=fun a b=>by simp only [Bool.or_eq_true,decide_eq_true_eq];exact List.le_total a b
 have hp:=List.pairwise_mergeSort (le:=fun x y:List UInt8=>decide (x<=y)) tr tot L
 have hmem : ∀ x,x∈compact (L.mergeSort fun x y=>decide (x<=y))↔x∈L:=fun x=>by
  unfold compact
  rw [gG,← (List.mergeSort_perm L fun x y=>decide (x<=y)).mem_iff]
  generalize L.mergeSort (fun x y=>decide (x<=y))=M
  rw [List.mem_iff_getElem]
  constructor
  ·rintro ⟨j,hj,e⟩
   exact ⟨j,hj,by rw [← e];simp [hj]⟩
  ·rintro ⟨j,hj,e⟩
   exact ⟨j,hj,by rw [← e];simp [hj]⟩
 have hr:(compact (L.mergeSort fun x y=>decide (x<=y))).Pairwise (fun x y=>x<=y/\x≠y):=by
  unfold compact
  refine iG _ (fun i j hij hj=> ?_) _ (by simp)
  generalize L.mergeSort (fun x y=>decide (x<=y))=M at hp hj ⊢
  have hj':j<M.length:=by simpa using hj
  have:=List.pairwise_iff_getElem.1 hp i j (by omega) hj' hij
  simpa [hj',show i<M.length by omega] using this
 refine List.Perm.eq_of_pairwise (le:=fun a b:List UInt8=>a<=b) (fun a b _ _ h1 h2=>List.le_antisymm h1 h2) ?_ (hr.imp fun h=>h.1) ?_
 ·exact (List.pairwise_mergeSort (le:=fun x y:List UInt8=>decide (x<=y)) tr tot ss).imp fun h=>by simpa using h
 ·refine (List.mergeSort_perm ss _).trans ((List.perm_ext_iff_of_nodup hnd (hr.imp fun h=>h.2)).2 fun x=>by rw [hmem,hm])
theorem qS {H:Type} (x:List UInt8) : ∀ (fs:List ByteArray) (D:DataW H),Maps.IsMap D->(Maps.has (eC D fs) (.string x)=true↔x∈fs.map (·.data.toList)∨Maps.has D (.string x)=true)
 | [],D,_=>by simp [eC]
 | f :: fs,D,hD=>by
  have ih:=qS x fs (D.put (.string f.data.toList) (.lit (.bool true))) (by cases D<;>simp_all [Maps.IsMap,DataW.put])
  show Maps.has (eC (D.put (.string f.data.toList) (.lit (.bool true))) fs) (.string x)=true↔_
  rw [ih,List.map_cons,List.mem_cons]
  by_cases h:x=f.data.toList
  ·subst h
   have:=Maps.has_put_same hD (k:= .string f.data.toList) (by simp [WideAt.IsKeyLit]) (.lit (.bool true))
   simp [this]
  ·rw [Maps.has_put_other (by simpa using h)]
   simp [h]
theorem vF {H:Type} {t:NT} {ss:List (List UInt8)} {left:Lit->Bool} (hC:Collected (eC (H:=H) (.map []) t.flags) left ss) (hl : ∀ kl,left kl=false):ss.mergeSort (fun x y=>decide (x<=y))=t.sorted:=by
 unfold NT.sorted
 refine yY hC.1 fun x=> ?_
 rw [hC.2 x,qS x _ _ (by simp [Maps.IsMap]),hl]
 simp [Maps.has]
end Go.Proofs.YthaaaecmeafofaaGreatDoor
namespace Go.Proofs.YthaaaecmeafofaaGreatDoor
open Go.RowKit Go.Sort Go.Maps
theorem aEc (es:Array MapEntry) (seen:Array Nat):(leftOf es seen).size<=es.size:=by
 unfold leftOf;exact Array.size_filter_le
theorem aEu {H:Type} {P:Program} {k:TypeId} {R:Value->Option (DataW H × List MemPlace)} {w:World} {b r n cnt:Nat} {D:DataW H} {left:Lit->Bool} (h:w.ranges P k R b r n D left cnt):cnt<=n:=by
 obtain ⟨es,clock,since,seen,c0,-,-,hs,-,-,-,hc,-⟩:=h
 rw [← hc];exact Nat.le_trans (aEc es seen) hs
def aMd (n:Nat):Value:= .bool (n != 0)
theorem mK {H:Type} {P:Program} {e:TypeId} (he:P.underlying e=some .bool) {v:Value} {y:DataW H × List MemPlace} (h:plainElem P e v=some y) : ∃ c,v=aMd c:=by
 unfold plainElem at h
 rw [he] at h
 cases v with
 | bool b=>exact ⟨if b then 1 else 0,by cases b<;>rfl⟩
 | _=>simp at h
theorem aIl {B g cap:Nat} {ss:List (List UInt8)} {w:World} (h:w.ownsRow B 9 1 (.slice (some ⟨g,0,none⟩) ss.length cap) ss.length (ss.map encStr)):gK (.slice (some ⟨g,0,none⟩) ss.length cap) ss w:=by
 obtain ⟨-,⟨h,-⟩ | ⟨g3,cap3,cur3,e3,-,hb3,-,-,-,hm5⟩⟩:=h
 ·cases h
 cases e3
 refine Or.inr ⟨g,cap,rfl,(Array.getElem?_eq_some_iff.1 hb3).1,fun j x hx=> ?_⟩
 have hj:j<ss.length:=(List.getElem?_eq_some_iff.1 hx).1
 have h1:=congrArg (·[j]?) hm5
 simp only [Nat.mul_one,List.getElem?_take,List.getElem?_map,hx,Option.map_some] at h1
 rw [if_pos hj] at h1
 simp only [World.cell?,hb3,Nat.zero_add]
 simpa [encStr] using h1
theorem vT (S:Nat->Prop) (t:NT) (cs:List Value) (w:World) (hS : ∀ b,S b->b<w.heap.size) (hnm:t.size<=1048576) (hfl : ∀ f∈t.flags,f.size<=maxLen) (hn:aF S w t cs) :
  Calls Tryz.prog 56 #[.agg cs.toArray] w fun e w'=> ∃ v,e=.returned v/\gK v t.sorted w'/\aA w w':=by
 have hmm:= @run_makeMap Tryz.prog
 have hent:=tR
 have HN:=hid hn
 rcases t with ⟨k,a,fl,nt,kids⟩
 rw [aF] at hn
 obtain ⟨kp,kc,rfl,hcap,hmax,hkids⟩:=hn
 clear hkids
 go_enter Tryz.func56,Tryz.ntmps56
 go_wp2_with fail
 have hg1:Hid (∀ h:S (w.heap.size+1),False):=fun h=>by have:=hS _ h;omega
 have HW:Hid (∃ W,W=((((w.alloc (Obj.cells #[.int .i64 k,.string a.n,.int .i64 a.op,.int .i64 a.v,.int .i64 a.sl,.string a.f,.bool a.on,.string fl,.bool nt,.slice kp kids.length kc] 74)).alloc (Obj.map #[] 0)).alloc (Obj.cells #[Value.map (some (w.heap.size+1))] 143)).alloc (Obj.cells #[Value.func (Fn.func 121) #[] #[Value.pointer (some { block:=w.heap.size+1+1,off:=0 }),Value.pointer (some { block:=w.heap.size+1+1+1,off:=0 })]] 163))):=⟨_,rfl⟩
 obtain ⟨W,hW⟩:=HW.out
 have KW:Hid (aA w W):=by
  rw [hW]
  exact (((aA.alloc w _).alloc' _).alloc' _).alloc' _
 have HSZ:Hid (W.heap.size=w.heap.size+4):=by show _=_;rw [hW];simp
 have HMW:Hid (mR (H:=Unit) (w.heap.size+1+1) (w.heap.size+1) (w.heap.size+1+1+1) 0 (.map []) W):=by
  rw [hW]
  refine ⟨?_,?_,?_⟩
  ·have:=aE.new ((w.alloc (Obj.cells #[.int .i64 k,.string a.n,.int .i64 a.op,.int .i64 a.v,.int .i64 a.sl,.string a.f,.bool a.on,.string fl,.bool nt,.slice kp kids.length kc] 74)).alloc (Obj.map #[] 0)) 143 (Value.map (some (w.heap.size+1)))
   have e:((w.alloc (Obj.cells #[.int .i64 k,.string a.n,.int .i64 a.op,.int .i64 a.v,.int .i64 a.sl,.string a.f,.bool a.on,.string fl,.bool nt,.slice kp kids.length kc] 74)).alloc (Obj.map #[] 0)).heap.size=w.heap.size+1+1:=by simp
   rw [e] at this
   exact this.keep (aA.alloc _ _) this.facts.2.2
  ·have:=aE.new (((w.alloc (Obj.cells #[.int .i64 k,.string a.n,.int .i64 a.op,.int .i64 a.v,.int .i64 a.sl,.string a.f,.bool a.on,.string fl,.bool nt,.slice kp kids.length kc] 74)).alloc (Obj.map #[] 0)).alloc (Obj.cells #[Value.map (some (w.heap.size+1))] 143)) 163 (Value.func (Fn.func 121) #[] #[Value.pointer (some { block:=w.heap.size+1+1,off:=0 }),Value.pointer (some { block:=w.heap.size+1+1+1,off:=0 })])
   have e:(((w.alloc (Obj.cells #[.int .i64 k,.string a.n,.int .i64 a.op,.int .i64 a.v,.int .i64 a.sl,.string a.f,.bool a.on,.string fl,.bool nt,.slice kp kids.length kc] 74)).alloc (Obj.map #[] 0)).alloc (Obj.cells #[Value.map (some (w.heap.size+1))] 143)).heap.size=w.heap.size+1+1+1:=by simp
   rw [e] at this
   exact this
  ·have:=World.ownsMap_made (H:=Unit) (w.alloc (Obj.cells #[.int .i64 k,.string a.n,.int .i64 a.op,.int .i64 a.v,.int .i64 a.sl,.string a.f,.bool a.on,.string fl,.bool nt,.slice kp kids.length kc] 74)) Tryz.prog 9 (plainElem Tryz.prog 4)
   have e:(w.alloc (Obj.cells #[.int .i64 k,.string a.n,.int .i64 a.op,.int .i64 a.v,.int .i64 a.sl,.string a.f,.bool a.on,.string fl,.bool nt,.slice kp kids.length kc] 74)).heap.size=w.heap.size+1:=by simp
   rw [e] at this
   exact (this.alloc _).alloc _
 rw [← hW]
 clear hW HW
 refine (aAd (H:=Unit) _ (w.heap.size+1) _ S (by omega) (by omega) hg1.out _ (NT.node k a fl nt kids) (Nat.le_refl _) _ 0 (.map []) W (fun b hb=>Nat.lt_of_lt_of_le (hS b hb) KW.out.size) HMW.out (by unfold maxLen;omega) hfl (HN.out.keep hS KW.out)).mono ?_
 rintro e w3 ⟨rfl,hm3,ha3⟩
 have HM3:=hid hm3
 have K3:Hid (aA w w3):=Below.trans KW.out (ha3.below (B:=w.heap.size) KW.out.size fun b hb e=>by have:b=w.heap.size+1:=e;omega)
 have HS3:Hid (w.heap.size+4<=w3.heap.size):=HSZ.out ▸ ha3.size
 clear hm3 ha3 hmm
 obtain ⟨hcv,-,hlv⟩:=HM3.out.var.facts
 obtain ⟨i0,hi,hz0,hz1,hz2⟩:=info_parts aCf
 go_wp2_with (first
  | (at_range;refine wpList_range_own _ rfl _ 143 rfl 9 4 vM Tryz.underlying143 _ (w.heap.size+1) _ _ rfl HM3.out.own ?_;intro w0 hrg0 hg0 hs0)
  | go_in)
 go_frame
 have hle:=aEu hrg0
 have K0:Hid (aA w w0):=K3.out.grown hg0 K3.out.size (fun j hj=>by cases hj)
 have HS0:Hid (w0.heap.size=w3.heap.size+1):=hs0
 have HRG0:=hid hrg0
 have hgl:w.heap.size+1<w3.heap.size:=by have:=HS3.out;omega
 clear hg0 hs0 hrg0 hcv hlv
 generalize hD:eC (DataW.map (H:=Unit) []) (NT.node k a fl nt kids).flags=D0 at HRG0 hle
 have HD:=hid hD
 clear hD
 go_loopw [5] (fun v wr=> ∃ (left:Lit->Bool) (cnt:Nat) (ss:List (List UInt8)),wr.ranges Tryz.prog 9 (plainElem Tryz.prog 4) (w.heap.size+1) w3.heap.size (0+(NT.node k a fl nt kids).size) D0 left cnt/\ss.length+cnt<=Maps.size D0/\wr.ownsRow (w3.heap.size+1) 9 1 v ss.length (ss.map encStr)/\Collected D0 left ss/\aA w wr/\w3.heap.size+1<=wr.heap.size)
  (fun _ wr=>wr.rangeLeft (w.heap.size+1) w3.heap.size)
 case atStart=>exact ⟨_,_,[],HRG0.out,by simp,World.ownsRow_nil _ _ _ _,Collected.start _,K0.out,by rw [HS0.out];exact Nat.le_refl _⟩
 case round=>
  obtain ⟨left,cnt,ss,hrg,hcs,hrow,hC,hkp,hsz⟩:=hrel
  have HRG:=hid hrg
  have HROW:=hid hrow
  have HC:=hid hC
  have HK:=hid hkp
  have HLE:=hid (Nat.le_trans hle (by rw [Nat.zero_add];exact hnm))
  clear hrg hrow hC hkp HRG0 hle
  go_wp2_with (first
   | (at_next;refine wpList_next_ranges _ rfl _ rfl 9 vM (plainElem Tryz.prog 4) encStr aMd (fun key kl hk=>by obtain ⟨x,hx,_⟩:=Maps.keyOf_str Tryz.underlying9 hk;exact ⟨x,hx⟩) (fun v y hv=>mK Tryz.underlying4 hv) (w.heap.size+1) w3.heap.size _ _ _ _ rfl HRG.out ?_ ?_)
   | go_in)
  ·intro hc0 hl0
   have HSO:Hid (ss.mergeSort (fun x y=>decide (x<=y))=(NT.node k a fl nt kids).sorted):=vF (H:=Unit) (by rw [HD.out];exact HC.out) hl0
   clear hc0 hl0
   by_cases hn0:ss.length=0
   ·have hss:ss = []:=List.length_eq_zero_iff.1 hn0
    subst hss
    have hsh : ∃ p cap,u5=Value.slice p 0 cap:=by
     obtain ⟨-,⟨e,-⟩ | ⟨g,cap,cur,e,-⟩⟩:=HROW.out
     ·exact ⟨_,_,e⟩
     ·exact ⟨_,_,e⟩
    obtain ⟨p,cap,rfl⟩:=hsh
    go_wp2_with fail
    refine (Tryz.sort_Strings_none p cap wr).mono ?_
    rintro e w4 ⟨rfl,hw4⟩
    rw [hw4]
    clear hw4
    go_wp2_with fail
    go_ret
    exact ⟨_,rfl,Or.inl ⟨by rw [← HSO.out,List.mergeSort_nil],p,cap,rfl⟩,HK.out⟩
   ·obtain ⟨hlen,⟨-,h0⟩ | ⟨g,cap,cur,rfl,hbase,hb,hn1,hn2,hn3,hn4⟩⟩:=HROW.out
    ·exact absurd h0 hn0
    rw [Nat.mul_one] at hn4
    have hgl2:=(Array.getElem?_eq_some_iff.1 hb).1
    have hH:Holds encStr wr g 0 ss.toArray:=holds_of_block hb hn4
    have HSORT:=hid (Tryz.sort_Strings g 0 cap ss wr hH hgl2 (by have:=HLE.out;omega))
    have HB:=hid hb
    clear hH hn4 hlen hb
    go_wp2_with fail
    refine HSORT.out.mono ?_
    rintro e w4 ⟨rfl,nn,os,hw4⟩
    have hml:(ss.mergeSort fun x y=>decide (x<=y)).length=ss.length:=by simp
    have own4:=ownsRow_sorted (n:=nn) (os:=os) (ss:=ss) (ts:=ss.mergeSort fun x y=>decide (x<=y)) hml hbase HB.out hn1 hn2 hn3
    have grow4:=grownBy_sorted (w:=wr) (g:=g) (n:=nn) (os:=os) (ss.mergeSort fun x y=>decide (x<=y)).toArray
    rw [← hw4] at own4 grow4
    have K4:Hid (aA w w4):=HK.out.grown grow4 HK.out.size (fun j hj=>by cases hj;have:=HS3.out;omega)
    have O4:=hid own4
    clear hw4 own4 grow4 HSORT
    go_wp2_with fail
    go_ret
    refine ⟨_,rfl,?_,K4.out⟩
    have:=O4.out
    rw [← hml] at this
    have:=aIl this
    rw [HSO.out] at this
    rw [← hml,HSO.out]
    exact this
  ·intro x c kl yd yp w2 cnt2 hkey hlk hv hat hrg2 hlt hg2 hs2 hen
   obtain ⟨x',ex,rfl,_⟩:=Maps.keyOf_str Tryz.underlying9 hkey
   obtain rfl:x=x':=encStr_inj ex
   have hrow2:=HROW.out.kept hg2 (Or.inr (fun e=>by have:=(HROW.out.lt _ e).1;omega))
   have HROW2:=hid hrow2
   have HRG2:=hid hrg2
   have HC2:=hid (HC.out.step hlk hat)
   have K2:Hid (aA w w2):=HK.out.grown hg2 HK.out.size (fun j hj=>by cases hj;omega)
   have HS2:Hid (w3.heap.size+1<=w2.heap.size):=Nat.le_trans hsz hg2.size
   have HLT:=hid hlt
   have HCS:=hid hcs
   clear hs2 hrow2 hrg2 hg2 hkey hlk hv hat hlt ex
   go_wp2_with (first
    | (at_builtin;refine wpList_append_own_at _ rfl _ _ 69 rfl (w3.heap.size+1) 9 i0 (.string ⟨#[]⟩) 1 16 Tryz.underlying69 hi hz0 hz1 hz2 rfl (by decide) _ ss.length (ss.map encStr) rfl (HROW2.out.alloc _) ⟨w2.heap.size,0,none⟩ 1 1 [encStr x] rfl rfl (cell_one_new _ _ _) (by simp [Value.oneCell',encStr]) (by unfold maxLen;have:=HLE.out;have:=HCS.out;have:=HLT.out;omega) (by have:=HLE.out;have:=HCS.out;have:=HLT.out;omega) (by have:=HS2.out;simp;omega) ?_;intro v' w4 h5 h6 _ _;go_frame)
    | go_in)
   have hrg3:=(HRG2.out.alloc (.cells #[encStr x] 9)).kept h6 (fun e=>by have:=(HROW2.out.lt _ e.symm).1;omega) (fun e=>by have:=(HROW2.out.lt _ e.symm).1;omega)
   go_roundw
   case rel=>
    refine ⟨_,cnt2,ss ++ [x],by rw [Nat.zero_add];exact hrg3,by simp;have:=HCS.out;have:=HLT.out;omega,by simpa using h5,HC2.out,?_,?_⟩
    ·exact Below.grown (K2.out.alloc' _) h6 (by have:=K2.out.size;simp;omega) (fun j hj=>by have:=(HROW2.out.lt _ hj).1;omega)
    ·have h7:=h6.size;have:=HS2.out;rw [aC] at h7;omega
   case measure=>rw [hrg3.left_eq,HRG.out.left_eq];exact HLT.out
end Go.Proofs.YthaaaecmeafofaaGreatDoor
namespace Go.Proofs.YthaaaecmeafofaaGreatDoor
open Go.RowKit Go.Sort
def nH:List UInt8:= [97,98,99,100,101,102,103,104,105,106,107,108,109,110,111,112,113,114,115,116,117,118,119,120,121,122]
def iR:List UInt8:= [97,98,99,100,101,102,103,104,105,106,107,108,109,110,111,112,113,114,115,116,117,118,119,120,121,122,48,49,50,51,52,53,54,55,56,57]
theorem xU : ∀ n:Fin 256,decide (0<=Lib.indexByte nH (UInt8.ofNat n.val))=iA (UInt8.ofNat n.val):=by decide +kernel
theorem aEy : ∀ n:Fin 256,iR.contains (UInt8.ofNat n.val)=okB (UInt8.ofNat n.val):=by decide +kernel
theorem qG (c:UInt8):UInt8.ofNat c.toNat=c:=by simp
theorem rI (c:UInt8):decide (0<=Lib.indexByte nH c)=iA c:=by
 have:=xU ⟨c.toNat,c.toNat_lt⟩
 rwa [qG] at this
theorem yS (c:UInt8):iR.contains c=okB c:=by
 have:=aEy ⟨c.toNat,c.toNat_lt⟩
 rwa [qG] at this
theorem fU {p:UInt8->Bool} : ∀ l:List UInt8,(l.dropWhile p = [])↔l.all p=true
 | []=>by simp
 | c :: l=>by
  rw [List.dropWhile_cons,List.all_cons]
  cases h:p c
  ·simp
  ·simp [fU l]
theorem aIo (l:List UInt8):(Lib.trimS l iR = [])↔l.all okB=true:=by
 have e : ∀ l:List UInt8,l.all (iR.contains ·)=l.all okB:=fun l=>by
  induction l with
  | nil=>rfl
  | cons c l ih=>rw [List.all_cons,List.all_cons,yS,ih]
 unfold Lib.trimS Lib.trimLeftS Lib.trimRightS
 rw [fU,e]
 constructor
 ·intro h
  by_cases hh:l.reverse.all okB=true
  ·simpa using hh
  ·exfalso
   have hne:l.reverse.dropWhile (iR.contains ·) ≠ []:=fun h0=>hh (by rw [← e];exact (fU _).1 h0)
   obtain ⟨c,r,hr⟩:=List.exists_cons_of_ne_nil hne
   have hc:=List.head?_dropWhile_not (iR.contains ·) l.reverse
   rw [hr] at hc h
   rw [List.all_reverse,List.all_cons,Bool.and_eq_true] at h
   have:okB c=false:=by rw [← yS];simpa using hc
   rw [this] at h
   cases h.1
 ·intro h
  have:l.reverse.dropWhile (iR.contains ·) = []:=(fU _).2 (by rw [e,List.all_reverse];exact h)
  rw [this];rfl
theorem aIn (s:ByteArray) (w:World) (hs:s.size<=8) :
  Calls Tryz.prog 118 #[.string s,.string ⟨#[97,98,99,100,101,102,103,104,105,106,107,108,109,110,111,112,113,114,115,116,117,118,119,120,121,122,48,49,50,51,52,53,54,55,56,57]⟩] w fun e w'=> ∃ t:ByteArray,e=.returned (.string t)/\t.toList.isEmpty=s.data.toList.all okB/\aA w w':=by
 have c:Calls Tryz.prog 118 #[.string s,.string ⟨#[97,98,99,100,101,102,103,104,105,106,107,108,109,110,111,112,113,114,115,116,117,118,119,120,121,122,48,49,50,51,52,53,54,55,56,57]⟩] w fun e w'=>e=.returned (.string ⟨(Lib.trimS s.data.toList iR).toArray⟩)/\Below w.heap.size w w':=
  Any.strings_Trim_laid Tryz.lays160 (by kernel_rfl) s ⟨iR.toArray⟩ w (by omega) (by decide) (ascii_of_all (by decide))
 refine c.mono ?_
 rintro e w' ⟨rfl,k⟩
 refine ⟨_,rfl,?_,k⟩
 rw [Lib.toList_data]
 show (Lib.trimS s.data.toList iR).isEmpty=_
 rw [Bool.eq_iff_iff,List.isEmpty_iff,aIo]
theorem aDj {n m:ByteArray} (h:n.data.toList=m.data.toList):n=m:=by
 cases n;cases m;simp at h;rw [h]
theorem aGv (s:ByteArray) (h:0<s.size):tV s.data.toList=iA s[0]:=by rw [oI s h];rfl
theorem xY (s:ByteArray) (h:0<s.size) (h8:s.size<=8):aK s.data.toList=(iA s[0]&&s.data.toList.all okB):=by
 unfold aK
 rw [aGv s h,decide_eq_true (by rw [aQ];exact h8)]
 rfl
theorem dM (s:ByteArray) (w:World) :
  Calls Tryz.prog 54 #[.string s] w fun e w'=>e=.returned (.bool (aK s.data.toList))/\aA w w':=by
 by_cases h1:s.size<1
 ·have H:Hid (aK s.data.toList=false):=lP s (Or.inl h1)
  have h1':decide ((0:Int)<(s.size:Int))=false:=decide_eq_false (by omega)
  go_enter Tryz.func54,Tryz.ntmps54
  go_wp2
  go_ret
  exact ⟨aI H.out.symm,aA.refl _⟩
 ·by_cases h8:8<s.size
  ·have H:Hid (aK s.data.toList=false):=lP s (Or.inr h8)
   have h1':(0:Int)<(s.size:Int):=by omega
   have h8':decide ((s.size:Int)<=8)=false:=decide_eq_false (by omega)
   go_enter Tryz.func54,Tryz.ntmps54
   go_wp2
   go_ret
   exact ⟨aI H.out.symm,aA.refl _⟩
  ·have hp:0<s.size:=by omega
   have h1':(0:Int)<(s.size:Int):=by omega
   have h8':(s.size:Int)<=8:=by omega
   have q1:(1:Int)<=(s.size:Int):=by omega
   have HN:Hid (aK s.data.toList=(iA s[0]&&s.data.toList.all okB)):=xY s hp (by omega)
   have hx:s.extract 0 1=⟨#[s[0]]⟩:=aDj (by rw [Lib.extract_data,oI s hp];rfl)
   have HX:Hid (s.extract 0 1=⟨#[s[0]]⟩):=hx
   clear hx
   cases hl:iA s[0]
   ·have HL:Hid (iA s[0]=false):=hl
    clear hl
    go_enter Tryz.func54,Tryz.ntmps54
    go_wp2_with fail
    rw [HX.out]
    refine (Tryz.strings_Contains_one _ _ _).mono ?_
    rintro e w' ⟨rfl,hw⟩
    rw [hw,show (ByteArray.mk #[97,98,99,100,101,102,103,104,105,106,107,108,109,110,111,112,113,114,115,116,117,118,119,120,121,122]).data.toList=nH from rfl,rI,HL.out]
    clear hw
    go_wp2_with fail
    go_ret
    exact ⟨aI (by rw [HN.out,HL.out];rfl),aA.refl _⟩
   ·have HL:Hid (iA s[0]=true):=hl
    clear hl
    go_enter Tryz.func54,Tryz.ntmps54
    go_wp2_with fail
    rw [HX.out]
    refine (Tryz.strings_Contains_one _ _ _).mono ?_
    rintro e w' ⟨rfl,hw⟩
    rw [hw,show (ByteArray.mk #[97,98,99,100,101,102,103,104,105,106,107,108,109,110,111,112,113,114,115,116,117,118,119,120,121,122]).data.toList=nH from rfl,rI,HL.out]
    clear hw
    go_wp2_with fail
    refine (aIn _ _ (by omega)).mono ?_
    rintro e w2 ⟨t,rfl,ht,k2⟩
    have HTT:Hid (t.toList.isEmpty=s.data.toList.all okB):=ht
    clear ht
    go_wp2_with fail
    go_ret
    exact ⟨aI (by rw [HN.out,HL.out,← HTT.out];rfl),k2⟩
end Go.Proofs.YthaaaecmeafofaaGreatDoor
namespace Go.Proofs.YthaaaecmeafofaaGreatDoor
open Go.RowKit
theorem wQ (n:List UInt8) (op v sl:Int) (f:List UInt8) (on:Bool) (hn:aK n=true) (hf:f = []∨aK f=true) :
  (op<0/\Hid (chk n op v sl f on=3))∨(0<=op/\3<op/\Hid (chk n op v sl f on=3))∨(0<=op/\op<=3/\sl<0/\Hid (chk n op v sl f on=3))∨(0<=op/\op<=3/\0<=sl/\9<sl/\Hid (chk n op v sl f on=3))
  ∨(0<=op/\op<=3/\0<=sl/\sl<=9/\(op==0)=true/\(v != 0)=true/\Hid (chk n op v sl f on=3))
  ∨(0<=op/\op<=3/\0<=sl/\sl<=9/\(op==0)=false/\0<op/\v<1/\Hid (chk n op v sl f on=3))
  ∨(0<=op/\op<=3/\0<=sl/\sl<=9/\(op==0)=false/\0<op/\1<=v/\99<v/\Hid (chk n op v sl f on=3))
  ∨(0<=op/\op<=3/\0<=sl/\sl<=9/\(op==0)=true/\(v != 0)=false/\op<=0/\Hid (chk n op v sl f on=if on=true/\f = [] then 4 else 0))
  ∨(0<=op/\op<=3/\0<=sl/\sl<=9/\(op==0)=false/\0<op/\1<=v/\v<=99/\Hid (chk n op v sl f on=if on=true/\f = [] then 4 else 0)):=by
 rcases qJ n op v sl f on hn hf with ⟨r1,HC⟩ | ⟨r1,r2,HC⟩ | ⟨r1,r2,r3,HC⟩ | ⟨r1,r2,r3,r4,HC⟩ | ⟨r1,r2,r3,r4,HV,HC⟩ | ⟨r1,r2,r3,r4,HV,HC⟩
 ·exact Or.inl ⟨r1,HC⟩
 ·exact Or.inr (Or.inl ⟨r1,by omega,HC⟩)
 ·exact Or.inr (Or.inr (Or.inl ⟨r1,by omega,r3,HC⟩))
 ·exact Or.inr (Or.inr (Or.inr (Or.inl ⟨r1,by omega,r3,r4,HC⟩)))
 ·have hv:=HV.out
  unfold jH at hv
  by_cases e:op=0
  ·rw [if_pos e] at hv
   exact Or.inr (Or.inr (Or.inr (Or.inr (Or.inl ⟨r1,by omega,r3,r4,by simp [e],by simpa using hv,HC⟩))))
  ·rw [if_neg e] at hv
   by_cases e1:v<1
   ·exact Or.inr (Or.inr (Or.inr (Or.inr (Or.inr (Or.inl ⟨r1,by omega,r3,r4,by simp [e],by omega,e1,HC⟩)))))
   ·have e2:99<v:=by
     have h1:decide (1<=v)=true:=decide_eq_true (by omega)
     rw [h1] at hv
     simpa using hv
    exact Or.inr (Or.inr (Or.inr (Or.inr (Or.inr (Or.inr (Or.inl ⟨r1,by omega,r3,r4,by simp [e],by omega,by omega,e2,HC⟩))))))
 ·have hv:=HV.out
  by_cases e:op=0
  ·have:v=0:=by subst e;exact jI hv
   exact Or.inr (Or.inr (Or.inr (Or.inr (Or.inr (Or.inr (Or.inr (Or.inl ⟨r1,by omega,r3,r4,by simp [e],by simp [this],by omega,HC⟩)))))))
  ·obtain ⟨a,b⟩:=lF e hv
   exact Or.inr (Or.inr (Or.inr (Or.inr (Or.inr (Or.inr (Or.inr (Or.inr ⟨r1,by omega,r3,r4,by simp [e],by omega,a,b,HC⟩)))))))
theorem nQ (n f:ByteArray) (op v sl:Int) (on:Bool) (w:World) (h:aK n.data.toList=false∨(f.data.toList ≠ []/\aK f.data.toList=false)) :
  Calls Tryz.prog 86 #[.agg #[.string n,.int .i64 op,.int .i64 v,.int .i64 sl,.string f,.bool on]] w fun e w'=>e=.returned (.int .i64 (chk n.data.toList op v sl f.data.toList on))/\aA w w':=by
 have HC:Hid (chk n.data.toList op v sl f.data.toList on=1):=by show _=_;unfold chk;rw [if_pos h]
 have k0:=aA.alloc w (.cells #[.string n,.int .i64 op,.int .i64 v,.int .i64 sl,.string f,.bool on] 71)
 have a0:Hid (aR w.heap.size n op v sl f on (w.alloc (.cells #[.string n,.int .i64 op,.int .i64 v,.int .i64 sl,.string f,.bool on] 71))):=lT _ _
 cases hn:aK n.data.toList
 ·have HN:Hid (aK n.data.toList=false):=hn
  clear hn h
  go_enter Tryz.func86,Tryz.ntmps86
  go_wp2_with fail
  generalize w.alloc (.cells #[.string n,.int .i64 op,.int .i64 v,.int .i64 sl,.string f,.bool on] 71)=W0 at k0 a0 ⊢
  refine (dM _ _).mono ?_
  rintro e w1 ⟨rfl,k1⟩
  rw [HN.out]
  have K1:aA w w1:=k0.trans k1
  go_wp2_with fail
  go_ret
  exact ⟨aD HC.out.symm,K1⟩
 ·have HN:Hid (aK n.data.toList=true):=hn
  rw [hn] at h
  obtain ⟨h1,h2⟩:f.data.toList ≠ []/\aK f.data.toList=false:=h.resolve_left (by simp)
  have HF:Hid (aK f.data.toList=false):=h2
  have hfe:=dL h1
  clear hn h h1 h2
  go_enter Tryz.func86,Tryz.ntmps86
  go_wp2_with fail
  generalize w.alloc (.cells #[.string n,.int .i64 op,.int .i64 v,.int .i64 sl,.string f,.bool on] 71)=W0 at k0 a0 ⊢
  refine (dM _ _).mono ?_
  rintro e w1 ⟨rfl,k1⟩
  rw [HN.out]
  have K1:aA w w1:=k0.trans k1
  have a1:Hid (aR w.heap.size n op v sl f on w1):=a0.out.below k1 a0.out.facts.2.2
  obtain ⟨hc1,_,_⟩:=a1.out.facts
  go_wp2_with fail
  refine (dM _ _).mono ?_
  rintro e w2 ⟨rfl,k2⟩
  rw [HF.out]
  have K2:aA w w2:=K1.trans k2
  go_wp2_with fail
  go_ret
  exact ⟨aD HC.out.symm,K2⟩
theorem rU (n f:ByteArray) (op v sl:Int) (on:Bool) (w:World) (hn:aK n.data.toList=true) (hf:f.data.toList = []) :
  Calls Tryz.prog 86 #[.agg #[.string n,.int .i64 op,.int .i64 v,.int .i64 sl,.string f,.bool on]] w fun e w'=>e=.returned (.int .i64 (chk n.data.toList op v sl f.data.toList on))/\aA w w':=by
 have hr:=wQ n.data.toList op v sl f.data.toList on hn (Or.inl hf)
 have HN:Hid (aK n.data.toList=true):=hn
 have HF:Hid (f.data.toList = []):=hf
 have hfe:=gZ hf
 have k0:=aA.alloc w (.cells #[.string n,.int .i64 op,.int .i64 v,.int .i64 sl,.string f,.bool on] 71)
 have a0:Hid (aR w.heap.size n op v sl f on (w.alloc (.cells #[.string n,.int .i64 op,.int .i64 v,.int .i64 sl,.string f,.bool on] 71))):=lT _ _
 clear hn hf
 go_enter Tryz.func86,Tryz.ntmps86
 go_wp2_with fail
 generalize w.alloc (.cells #[.string n,.int .i64 op,.int .i64 v,.int .i64 sl,.string f,.bool on] 71)=W0 at k0 a0 ⊢
 refine (dM _ _).mono ?_
 rintro e w1 ⟨rfl,k1⟩
 rw [HN.out]
 have K1:aA w w1:=k0.trans k1
 have a1:Hid (aR w.heap.size n op v sl f on w1):=a0.out.below k1 a0.out.facts.2.2
 obtain ⟨hc1,_,_⟩:=a1.out.facts
 have HON:Hid (∀ c:Int,c=(if on=true/\f.data.toList = [] then 4 else 0)->c=if on=true then 4 else 0):=fun c e=>by rw [e];simp [HF.out]
 rcases hr with ⟨r1,HC⟩ | ⟨r1,r2,HC⟩ | ⟨r1,r2,r3,HC⟩ | ⟨r1,r2,r3,r4,HC⟩ | ⟨r1,r2,r3,r4,r5,r6,HC⟩ | ⟨r1,r2,r3,r4,r5,r6,r7,HC⟩ | ⟨r1,r2,r3,r4,r5,r6,r7,r8,HC⟩ | ⟨r1,r2,r3,r4,r5,r6,r7,HC⟩ | ⟨r1,r2,r3,r4,r5,r6,r7,r8,HC⟩
 iterate 7
  ·go_wp2_with fail
   go_ret
   exact ⟨aD HC.out.symm,K1⟩
 iterate 2
  ·cases on
   ·have HC':Hid (chk n.data.toList op v sl f.data.toList false=0):=HON.out _ HC.out
    clear HC HON
    go_wp2_with fail
    go_ret
    exact ⟨aD HC'.out.symm,K1⟩
   ·have HC':Hid (chk n.data.toList op v sl f.data.toList true=4):=HON.out _ HC.out
    clear HC HON
    go_wp2_with fail
    go_ret
    exact ⟨aD HC'.out.symm,K1⟩
theorem tJ (n f:ByteArray) (op v sl:Int) (on:Bool) (w:World) (hn:aK n.data.toList=true) (hf:aK f.data.toList=true) :
  Calls Tryz.prog 86 #[.agg #[.string n,.int .i64 op,.int .i64 v,.int .i64 sl,.string f,.bool on]] w fun e w'=>e=.returned (.int .i64 (chk n.data.toList op v sl f.data.toList on))/\aA w w':=by
 have hr:=wQ n.data.toList op v sl f.data.toList on hn (Or.inr hf)
 have HN:Hid (aK n.data.toList=true):=hn
 have HF:Hid (aK f.data.toList=true):=hf
 have hfe:=dL (gS hf)
 have HP:Hid (f.data.toList ≠ []):=gS hf
 have k0:=aA.alloc w (.cells #[.string n,.int .i64 op,.int .i64 v,.int .i64 sl,.string f,.bool on] 71)
 have a0:Hid (aR w.heap.size n op v sl f on (w.alloc (.cells #[.string n,.int .i64 op,.int .i64 v,.int .i64 sl,.string f,.bool on] 71))):=lT _ _
 clear hn hf
 go_enter Tryz.func86,Tryz.ntmps86
 go_wp2_with fail
 generalize w.alloc (.cells #[.string n,.int .i64 op,.int .i64 v,.int .i64 sl,.string f,.bool on] 71)=W0 at k0 a0 ⊢
 refine (dM _ _).mono ?_
 rintro e w1 ⟨rfl,k1⟩
 rw [HN.out]
 have K1:aA w w1:=k0.trans k1
 have a1:Hid (aR w.heap.size n op v sl f on w1):=a0.out.below k1 a0.out.facts.2.2
 obtain ⟨hc1,_,_⟩:=a1.out.facts
 go_wp2_with fail
 refine (dM _ _).mono ?_
 rintro e w2 ⟨rfl,k2⟩
 rw [HF.out]
 have K2:aA w w2:=K1.trans k2
 have a2:Hid (aR w.heap.size n op v sl f on w2):=a1.out.below k2 a1.out.facts.2.2
 clear hc1
 obtain ⟨hc2,_,_⟩:=a2.out.facts
 rcases hr with ⟨r1,HC⟩ | ⟨r1,r2,HC⟩ | ⟨r1,r2,r3,HC⟩ | ⟨r1,r2,r3,r4,HC⟩ | ⟨r1,r2,r3,r4,r5,r6,HC⟩ | ⟨r1,r2,r3,r4,r5,r6,r7,HC⟩ | ⟨r1,r2,r3,r4,r5,r6,r7,r8,HC⟩ | ⟨r1,r2,r3,r4,r5,r6,r7,HC⟩ | ⟨r1,r2,r3,r4,r5,r6,r7,r8,HC⟩
 iterate 7
  ·go_wp2_with fail
   go_ret
   exact ⟨aD HC.out.symm,K2⟩
 iterate 2
  ·have HC':Hid (chk n.data.toList op v sl f.data.toList on=0):=by show _=_;rw [HC.out,if_neg (fun h=>HP.out h.2)]
   clear HC
   cases on
   ·go_wp2_with fail
    go_ret
    exact ⟨aD HC'.out.symm,K2⟩
   ·go_wp2_with fail
    go_ret
    exact ⟨aD HC'.out.symm,K2⟩
theorem jW (n f:ByteArray) (op v sl:Int) (on:Bool) (w:World) :
  Calls Tryz.prog 86 #[.agg #[.string n,.int .i64 op,.int .i64 v,.int .i64 sl,.string f,.bool on]] w fun e w'=>e=.returned (.int .i64 (chk n.data.toList op v sl f.data.toList on))/\aA w w':=by
 cases hn:aK n.data.toList
 ·exact nQ n f op v sl on w (Or.inl hn)
 ·by_cases hf:f.data.toList = []
  ·exact rU n f op v sl on w hn hf
  ·cases hg:aK f.data.toList
   ·exact nQ n f op v sl on w (Or.inr ⟨hf,hg⟩)
   ·exact tJ n f op v sl on w hn hg
end Go.Proofs.YthaaaecmeafofaaGreatDoor
