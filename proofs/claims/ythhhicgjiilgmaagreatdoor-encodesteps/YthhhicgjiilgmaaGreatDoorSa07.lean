/- Steps of the proof: NeedParse, NeedSameAll. -/
import Derived.Test.YthhhicgjiilgmaaGreatDoorSa06
import Derived.Deep.RegionLaw
import Derived.BigRegion
import Derived.Deep.CutRange
namespace Go.Proofs.YthhhicgjiilgmaaGreatDoor
open Go.RowKit
theorem rd_if {g:Nat} {wd:Word} {ws:List Word} (h:Lib.hasSuffix wd [63]=true):rdNeed (g+1) wd ws=rdGroup g 5 At.zero ⟨(flagW wd).toArray⟩ (notW wd) ws:=by
 have e:(⟨(flagW wd).toArray⟩:ByteArray).data.toList=flagW wd:=by simp
 rw [rdNeed,if_pos h]
 unfold rdGroup
 rw [e]
 cases hn:nameB (flagW wd)
 ·rw [if_neg (by decide),if_pos ⟨rfl,rfl⟩]
 ·rw [if_pos rfl,if_neg (by simp)]
theorem rd_some {g:Nat} {wd:Word} {ws:List Word} (h:Lib.hasSuffix wd [63]=false) (h2:wd = [124,124]):rdNeed (g+1) wd ws=rdGroup g 4 At.zero ⟨#[]⟩ false ws:=by
 rw [rdNeed,if_neg (by rw [h];decide),if_pos h2]
 unfold rdGroup
 rw [if_neg (by simp)]
theorem rd_all {g:Nat} {wd:Word} {ws:List Word} (h:Lib.hasSuffix wd [63]=false) (h2:wd ≠ [124,124]) (h3:wd = [40]):rdNeed (g+1) wd ws=kidsAll (rdNeed g) (.node 3 At.zero ⟨#[]⟩ false) ws:=by
 rw [rdNeed,if_neg (by rw [h];decide),if_neg h2,if_pos h3]
theorem rd_leaf {g:Nat} {wd:Word} {ws:List Word} (h:Lib.hasSuffix wd [63]=false) (h2:wd ≠ [124,124]) (h3:wd ≠ [40]):rdNeed (g+1) wd ws=(rdLeaf wd).map fun t=>(t,ws):=by
 rw [rdNeed,if_neg (by rw [h];decide),if_neg h2,if_neg h3]
set_option maxHeartbeats 1000000 in
theorem need_zero:NeedReads 0:=by
 intro rb wd ws d w hd _ _ _ _ _
 have R1:Hid (NBox w.heap.size #[.int .i64 0,.string ⟨#[]⟩,.int .i64 0,.int .i64 0,.int .i64 0,.string ⟨#[]⟩,.bool false,.string ⟨#[]⟩,.bool false,.slice none 0 0] (w.alloc (.cells #[.int .i64 0,.string ⟨#[]⟩,.int .i64 0,.int .i64 0,.int .i64 0,.string ⟨#[]⟩,.bool false,.string ⟨#[]⟩,.bool false,.slice none 0 0] 104))):=NBox.new _ _
 have A1:Hid (Apart (One rb) w (w.alloc (.cells #[.int .i64 0,.string ⟨#[]⟩,.int .i64 0,.int .i64 0,.int .i64 0,.string ⟨#[]⟩,.bool false,.string ⟨#[]⟩,.bool false,.slice none 0 0] 104))):=apart_alloc _ _
 have hd5:d=5:=by omega
 subst hd5
 go_enter Tryz.func185,Tryz.ntmps185
 go_upto_region 1 with fail
 generalize w.alloc (.cells #[.int .i64 0,.string ⟨#[]⟩,.int .i64 0,.int .i64 0,.int .i64 0,.string ⟨#[]⟩,.bool false,.string ⟨#[]⟩,.bool false,.slice none 0 0] 104)=W1 at R1 A1 ⊢
 obtain ⟨hcr,hzr,hlr3⟩:=R1.out.facts
 go_wp2_with fail
 clear hcr hzr
 refine ret_need (.bool false) R1.out rfl rfl ?_
 intro W BW KW SW OW
 obtain ⟨hcW,_,_⟩:=BW.out.facts
 refine ⟨by simp [results,Tryz.results185,go_sem,hcW],?_⟩
 show NeedDone _ _ w _ W
 exact ⟨rfl,apart_set A1.out KW.out (Nat.le_refl _)⟩
set_option maxHeartbeats 2000000 in
set_option maxRecDepth 100000 in
theorem need_succ (g:Nat) (H:NeedReads g):NeedReads (g+1):=by
 intro rb wd ws d w hd hd1 hE hO hr hwd
 have hd4:d+g=4:=by omega
 have hlr:=hr.1.lt
 have HE:=hid hE
 have HO:=hid hO
 have HH:=hid H
 have R1:Hid (NBox w.heap.size #[.int .i64 0,.string ⟨#[]⟩,.int .i64 0,.int .i64 0,.int .i64 0,.string ⟨#[]⟩,.bool false,.string ⟨#[]⟩,.bool false,.slice none 0 0] (w.alloc (.cells #[.int .i64 0,.string ⟨#[]⟩,.int .i64 0,.int .i64 0,.int .i64 0,.string ⟨#[]⟩,.bool false,.string ⟨#[]⟩,.bool false,.slice none 0 0] 104))):=NBox.new _ _
 have A1:Hid (Apart (One rb) w (w.alloc (.cells #[.int .i64 0,.string ⟨#[]⟩,.int .i64 0,.int .i64 0,.int .i64 0,.string ⟨#[]⟩,.bool false,.string ⟨#[]⟩,.bool false,.slice none 0 0] 104))):=apart_alloc _ _
 have HR1:=hid (hr.keep (Keep.alloc w (.cells #[.int .i64 0,.string ⟨#[]⟩,.int .i64 0,.int .i64 0,.int .i64 0,.string ⟨#[]⟩,.bool false,.string ⟨#[]⟩,.bool false,.slice none 0 0] 104)))
 clear hE hO H hr hd
 go_enter Tryz.func185,Tryz.ntmps185
 go_wp2_with fail
 generalize w.alloc (.cells #[.int .i64 0,.string ⟨#[]⟩,.int .i64 0,.int .i64 0,.int .i64 0,.string ⟨#[]⟩,.bool false,.string ⟨#[]⟩,.bool false,.slice none 0 0] 104)=W1 at R1 A1 HR1 ⊢
 have hl1:=R1.out.facts.2.2
 refine (Tryz.strings_CutSuffix wd ⟨#[63]⟩ W1 (by omega)).mono ?_
 rintro e w2 ⟨rfl,hw2⟩
 rw [hw2,show (⟨#[63]⟩:ByteArray).data.toList = [63] from rfl]
 clear hw2 w2
 cases hsuf:Lib.hasSuffix wd.data.toList [63]
 ·have HSUF:=hid hsuf
  clear hsuf
  go_upto_region 7 with fail
  rcases word_is wd [124,124] with ⟨hw1,hw2,hw3⟩ | ⟨hw1,hw2,hw3⟩
  ·have HRES:=hid (rd_some (g:=g) (ws:=ws.map (·.data.toList)) HSUF.out hw1)
   clear hw1
   go_wp2_with fail
   refine (group_open g HH.out rb 4 ⟨#[]⟩ ⟨#[]⟩ 0 0 0 false ⟨#[]⟩ false ws d W1 hd4 hd1 (HE.out.apart HO.out hlr A1.out) HO.out HR1.out).mono ?_
   rintro e w3 hdone
   have hdone':NeedDone rb (rdNeed (g+1) wd.data.toList (ws.map (·.data.toList))) W1 e w3:=by rw [HRES.out];exact hdone
   clear hdone
   cases hq:rdNeed (g+1) wd.data.toList (ws.map (·.data.toList)) with
   | none=>
    rw [hq] at hdone'
    obtain ⟨rfl,ha3⟩:=hdone'
    have R3:=hid (R1.out.apart ha3 (by omega))
    have A3:=hid (A1.out.trans ha3)
    have HQ:=hid hq
    clear ha3 hq
    unfold zeroV
    obtain ⟨hcr,hzr,hlr3⟩:=R3.out.facts
    go_wp2_with fail
    clear hcr hzr
    refine ret_need (.bool false) R3.out rfl rfl ?_
    intro W BW KW SW OW
    obtain ⟨hcW,_,_⟩:=BW.out.facts
    refine ⟨by simp [results,Tryz.results185,go_sem,hcW],?_⟩
    show NeedDone _ _ w _ W
    rw [HQ.out]
    exact ⟨rfl,apart_set A3.out KW.out (Nat.le_refl _)⟩
   | some r=>
    obtain ⟨t,rs⟩:=r
    rw [hq] at hdone'
    obtain ⟨cs,ws3,rfl,hn3,hr3,hm3,ha3⟩:=hdone'
    have R3:=hid (R1.out.apart ha3 (by omega))
    have A3:=hid (A1.out.trans ha3)
    have HQ:=hid hq
    have HN3:=hid hn3
    have HR3:=hid hr3
    have HM3:=hid hm3
    clear ha3 hq hr3 hm3
    cases t with
    | node k' a' fl' nt' kids'=>
    rw [NeedIs] at hn3
    obtain ⟨kp',kc',rfl,-,-,-⟩:=hn3
    obtain ⟨hcr,hzr,hlr3⟩:=R3.out.facts
    go_wp2_with fail
    clear hcr hzr
    refine ret_need (.bool true) R3.out rfl rfl ?_
    intro W BW KW SW OW
    obtain ⟨hcW,_,_⟩:=BW.out.facts
    refine ⟨by simp [results,Tryz.results185,go_sem,hcW],?_⟩
    show NeedDone _ _ w _ W
    rw [HQ.out]
    obtain ⟨d1,d2⟩:=done_lift (X:=w.heap.size) (w:=w) (Nat.le_refl _) hl1 HN3.out HR3.out hlr OW.out SW.out
    exact ⟨_,ws3,rfl,d1,d2,HM3.out,apart_set A3.out KW.out (Nat.le_refl _)⟩
  ·have HW1:=hid hw1
   clear hw1
   rcases word_is wd [40] with ⟨hv1,hv2,hv3⟩ | ⟨hv1,hv2,hv3⟩
   ·have HRES:=hid (rd_all (g:=g) (ws:=ws.map (·.data.toList)) HSUF.out HW1.out hv1)
    clear hv1
    go_wp2_with fail
    refine (kids_any g HH.out rb 3 ⟨#[]⟩ ⟨#[]⟩ 0 0 0 false ⟨#[]⟩ false ws d W1 hd4 hd1 (HE.out.apart HO.out hlr A1.out) HO.out HR1.out).mono ?_
    rintro e w3 hdone
    have hdone':NeedDone rb (rdNeed (g+1) wd.data.toList (ws.map (·.data.toList))) W1 e w3:=by rw [HRES.out];exact hdone
    clear hdone
    cases hq:rdNeed (g+1) wd.data.toList (ws.map (·.data.toList)) with
    | none=>
     rw [hq] at hdone'
     obtain ⟨rfl,ha3⟩:=hdone'
     have R3:=hid (R1.out.apart ha3 (by omega))
     have A3:=hid (A1.out.trans ha3)
     have HQ:=hid hq
     clear ha3 hq
     unfold zeroV
     obtain ⟨hcr,hzr,hlr3⟩:=R3.out.facts
     go_wp2_with fail
     clear hcr hzr
     refine ret_need (.bool false) R3.out rfl rfl ?_
     intro W BW KW SW OW
     obtain ⟨hcW,_,_⟩:=BW.out.facts
     refine ⟨by simp [results,Tryz.results185,go_sem,hcW],?_⟩
     show NeedDone _ _ w _ W
     rw [HQ.out]
     exact ⟨rfl,apart_set A3.out KW.out (Nat.le_refl _)⟩
    | some r=>
     obtain ⟨t,rs⟩:=r
     rw [hq] at hdone'
     obtain ⟨cs,ws3,rfl,hn3,hr3,hm3,ha3⟩:=hdone'
     have R3:=hid (R1.out.apart ha3 (by omega))
     have A3:=hid (A1.out.trans ha3)
     have HQ:=hid hq
     have HN3:=hid hn3
     have HR3:=hid hr3
     have HM3:=hid hm3
     clear ha3 hq hr3 hm3
     cases t with
     | node k' a' fl' nt' kids'=>
     rw [NeedIs] at hn3
     obtain ⟨kp',kc',rfl,-,-,-⟩:=hn3
     obtain ⟨hcr,hzr,hlr3⟩:=R3.out.facts
     go_wp2_with fail
     clear hcr hzr
     refine ret_need (.bool true) R3.out rfl rfl ?_
     intro W BW KW SW OW
     obtain ⟨hcW,_,_⟩:=BW.out.facts
     refine ⟨by simp [results,Tryz.results185,go_sem,hcW],?_⟩
     show NeedDone _ _ w _ W
     rw [HQ.out]
     obtain ⟨d1,d2⟩:=done_lift (X:=w.heap.size) (w:=w) (Nat.le_refl _) hl1 HN3.out HR3.out hlr OW.out SW.out
     exact ⟨_,ws3,rfl,d1,d2,HM3.out,apart_set A3.out KW.out (Nat.le_refl _)⟩
   ·have HRES:=hid (rd_leaf (g:=g) (ws:=ws.map (·.data.toList)) HSUF.out HW1.out hv1)
    clear hv1
    go_wp2_with fail
    refine (leaf_any wd W1 (HE.out.apart HO.out hlr A1.out)).mono ?_
    rintro e w3 hdone
    cases hq:rdLeaf wd.data.toList with
    | none=>
     unfold LeafDone at hdone
     rw [hq] at hdone
     obtain ⟨rfl,k3⟩:=hdone
     have HQ:Hid (rdNeed (g+1) wd.data.toList (ws.map (·.data.toList))=none):=by show _=_;rw [HRES.out,hq];rfl
     have R3:=hid (R1.out.keep k3 hl1)
     have A3:=hid (A1.out.trans (one_keep k3))
     clear hq k3
     unfold zeroV
     obtain ⟨hcr,hzr,hlr3⟩:=R3.out.facts
     go_wp2_with fail
     clear hcr hzr
     refine ret_need (.bool false) R3.out rfl rfl ?_
     intro W BW KW SW OW
     obtain ⟨hcW,_,_⟩:=BW.out.facts
     refine ⟨by simp [results,Tryz.results185,go_sem,hcW],?_⟩
     show NeedDone _ _ w _ W
     rw [HQ.out]
     exact ⟨rfl,apart_set A3.out KW.out (Nat.le_refl _)⟩
    | some tt=>
     unfold LeafDone at hdone
     rw [hq] at hdone
     obtain ⟨cs,rfl,hn3,k3⟩:=hdone
     have HQ:Hid (rdNeed (g+1) wd.data.toList (ws.map (·.data.toList))=some (tt,ws.map (·.data.toList))):=by show _=_;rw [HRES.out,hq];rfl
     have R3:=hid (R1.out.keep k3 hl1)
     have A3:=hid (A1.out.trans (one_keep k3))
     have HR3:=hid (HR1.out.keep k3)
     have HN3:=hid (hn3 (fun b=>W1.heap.size<=b/\b<w3.heap.size))
     have hn4:=HN3.out
     clear hq k3 hn3
     cases tt with
     | node k' a' fl' nt' kids'=>
     rw [NeedIs] at hn4
     obtain ⟨kp',kc',rfl,-,-,-⟩:=hn4
     obtain ⟨hcr,hzr,hlr3⟩:=R3.out.facts
     go_wp2_with fail
     clear hcr hzr
     refine ret_need (.bool true) R3.out rfl rfl ?_
     intro W BW KW SW OW
     obtain ⟨hcW,_,_⟩:=BW.out.facts
     refine ⟨by simp [results,Tryz.results185,go_sem,hcW],?_⟩
     show NeedDone _ _ w _ W
     rw [HQ.out]
     obtain ⟨d1,d2⟩:=done_lift (X:=w.heap.size) (w:=w) (Nat.le_refl _) hl1 HN3.out HR3.out hlr OW.out SW.out
     exact ⟨_,ws,rfl,d1,d2,rfl,apart_set A3.out KW.out (Nat.le_refl _)⟩
 ·have HRES:=hid (rd_if (g:=g) (ws:=ws.map (·.data.toList)) hsuf)
  clear hsuf
  go_wp2_with fail
  refine (Tryz.strings_CutPrefix _ _ _).mono ?_
  rintro e w2 ⟨rfl,hw2⟩
  rw [hw2,show (⟨#[33]⟩:ByteArray).data.toList = [33] from rfl,show (⟨(Lib.trimSuffix wd.data.toList [63]).toArray⟩:ByteArray).data.toList=Lib.trimSuffix wd.data.toList [63] by simp]
  clear hw2 w2
  have hfl:(⟨(flagW wd.data.toList).toArray⟩:ByteArray).size<=20000:=by
   rw [mk_size]
   have h1:(flagW wd.data.toList).length<=(Lib.trimSuffix wd.data.toList [63]).length:=trim_len _ _
   have h2:(Lib.trimSuffix wd.data.toList [63]).length<=wd.data.toList.length:=by unfold Lib.trimSuffix;split<;>simp
   rw [size_list] at h2
   omega
  rw [show Lib.trimPrefix (Lib.trimSuffix wd.data.toList [63]) [33]=flagW wd.data.toList from rfl,show Lib.hasPrefix (Lib.trimSuffix wd.data.toList [63]) [33]=notW wd.data.toList from rfl]
  generalize (⟨(flagW wd.data.toList).toArray⟩:ByteArray)=flx at HRES hfl ⊢
  generalize notW wd.data.toList=ntx at HRES ⊢
  go_wp2_with fail
  refine (clone_any flx W1 (by omega)).mono ?_
  rintro e w2 ⟨rfl,k2⟩
  have R2:=hid (R1.out.keep k2 hl1)
  have A2:=hid (A1.out.trans (one_keep k2))
  have HR2:=hid (HR1.out.keep k2)
  clear k2 hl1 R1 A1 HR1
  have hl1:=R2.out.facts.2.2
  go_wp2_with fail
  refine (group_open g HH.out rb 5 ⟨#[]⟩ ⟨#[]⟩ 0 0 0 false flx ntx ws d w2 hd4 hd1 (HE.out.apart HO.out hlr A2.out) HO.out HR2.out).mono ?_
  rintro e w3 hdone
  have hdone':NeedDone rb (rdNeed (g+1) wd.data.toList (ws.map (·.data.toList))) w2 e w3:=by rw [HRES.out];exact hdone
  clear hdone
  cases hq:rdNeed (g+1) wd.data.toList (ws.map (·.data.toList)) with
  | none=>
   rw [hq] at hdone'
   obtain ⟨rfl,ha3⟩:=hdone'
   have R3:=hid (R2.out.apart ha3 (by omega))
   have A3:=hid (A2.out.trans ha3)
   have HQ:=hid hq
   clear ha3 hq
   unfold zeroV
   obtain ⟨hcr,hzr,hlr3⟩:=R3.out.facts
   go_wp2_with fail
   clear hcr hzr
   refine ret_need (.bool false) R3.out rfl rfl ?_
   intro W BW KW SW OW
   obtain ⟨hcW,_,_⟩:=BW.out.facts
   refine ⟨by simp [results,Tryz.results185,go_sem,hcW],?_⟩
   show NeedDone _ _ w _ W
   rw [HQ.out]
   exact ⟨rfl,apart_set A3.out KW.out (Nat.le_refl _)⟩
  | some r=>
   obtain ⟨t,rs⟩:=r
   rw [hq] at hdone'
   obtain ⟨cs,ws3,rfl,hn3,hr3,hm3,ha3⟩:=hdone'
   have R3:=hid (R2.out.apart ha3 (by omega))
   have A3:=hid (A2.out.trans ha3)
   have HQ:=hid hq
   have HN3:=hid hn3
   have HR3:=hid hr3
   have HM3:=hid hm3
   clear ha3 hq hr3 hm3
   cases t with
   | node k' a' fl' nt' kids'=>
   rw [NeedIs] at hn3
   obtain ⟨kp',kc',rfl,-,-,-⟩:=hn3
   obtain ⟨hcr,hzr,hlr3⟩:=R3.out.facts
   go_wp2_with fail
   clear hcr hzr
   refine ret_need (.bool true) R3.out rfl rfl ?_
   intro W BW KW SW OW
   obtain ⟨hcW,_,_⟩:=BW.out.facts
   refine ⟨by simp [results,Tryz.results185,go_sem,hcW],?_⟩
   show NeedDone _ _ w _ W
   rw [HQ.out]
   obtain ⟨d1,d2⟩:=done_lift (X:=w.heap.size) (w:=w) (Nat.le_refl _) hl1 HN3.out HR3.out hlr OW.out SW.out
   exact ⟨_,ws3,rfl,d1,d2,HM3.out,apart_set A3.out KW.out (Nat.le_refl _)⟩
theorem need_reads : ∀ g:Nat,NeedReads g
 | 0=>need_zero
 | g+1=>need_succ g (need_reads g)
end Go.Proofs.YthhhicgjiilgmaaGreatDoor
namespace Go.Proofs.YthhhicgjiilgmaaGreatDoor
open Go.RowKit
def zeroL:List Value:= [.int .i64 0,.string ⟨#[]⟩,.int .i64 0,.int .i64 0,.int .i64 0,.string ⟨#[]⟩,.bool false,.string ⟨#[]⟩,.bool false,.slice none 0 0]
def ParseN (l:List UInt8) (w:World) (e:Ending) (w':World):Prop:=
 ∃ cs:List Value,e=.returned (.tuple #[.agg cs.toArray,.int .i64 (rdE l)])/\(rdE l=0->∃ t,rdText l=some t/\NeedIs (fun b=>w.heap.size<=b/\b<w'.heap.size) w' t cs)/\(rdE l≠0->cs=zeroL)/\Keep w w'
def MaxAt (w:World):Prop:=0<w.heap.size/\∃ m,w.cell? ⟨0,0,none⟩=some (.int .i64 m)
theorem MaxAt.keep {w w':World} (h:MaxAt w) (k:Keep w w'):MaxAt w':=by
 obtain ⟨h1,m,h2⟩:=h
 exact ⟨Nat.lt_of_lt_of_le h1 k.size,m,(k.cell (p:=⟨0,0,none⟩) h1).trans h2⟩
theorem splitK_len : ∀ (k:Nat) (l x:List UInt8),x∈Lib.splitK [32] 0 k l->x.length<=l.length
 | 0,l,x,h=>by rw [List.mem_singleton.1 h];exact Nat.le_refl _
 | k+1,l,x,h=>by
  rw [Lib.splitK] at h
  split at h
  ·rw [List.mem_singleton.1 h];exact Nat.le_refl _
  ·rcases List.mem_cons.1 h with rfl | h
   ·rw [List.length_take];exact Nat.min_le_right _ _
   ·have:=splitK_len k _ x h
    simp at this;omega
theorem words_of (s:ByteArray) : ∃ ws:List ByteArray,ws=Lib.splitB ⟨#[32]⟩ 0 (Lib.countB s ⟨#[32]⟩) s/\ws.length=Lib.countB s ⟨#[32]⟩+1/\ws.length<=s.size+1/\ws.map (·.data.toList)=Lib.split s.data.toList [32]/\∀ x∈ws,x.size<=s.size:=by
 have h1:1<=(⟨#[32]⟩:ByteArray).size:=by decide
 have hl:=Lib.splitB_all ⟨#[32]⟩ h1 0 _ s rfl
 have hc:=Lib.countB_le ⟨#[32]⟩ h1 s.size s (Nat.le_refl _)
 have hd:(Lib.splitB ⟨#[32]⟩ 0 (Lib.countB s ⟨#[32]⟩) s).map (·.data.toList)=Lib.split s.data.toList [32]:=Lib.splitB_data ⟨#[32]⟩ 0 _ s
 refine ⟨_,rfl,hl,by omega,hd,fun x hx=> ?_⟩
 have:x.data.toList∈Lib.split s.data.toList [32]:=by rw [← hd];exact List.mem_map.2 ⟨x,hx,rfl⟩
 have h2:=splitK_len _ _ _ this
 rw [size_list,size_list] at h2
 exact h2
theorem old_of {w:World} (h:Env w) {b:Nat} (hb:w.heap.size<=b):Old b:=⟨Nat.lt_of_lt_of_le h.1.1 hb,Nat.lt_of_lt_of_le h.2.1.1 hb,Nat.lt_of_lt_of_le h.2.2.1.1 hb,Nat.lt_of_lt_of_le h.2.2.2.1 hb⟩
theorem rd_new {w:World} {ws:List ByteArray} (h1:ws.length<=20001) (h2 : ∀ x∈ws,x.size<=20000) :
  RdS (w.heap.size+1) ws ((w.alloc (.cells (ws.map Value.string).toArray 9)).alloc (.cells #[.slice (some ⟨w.heap.size,0,none⟩) ws.length ws.length] 236)):=by
 have e:=alloc_size w (.cells (ws.map Value.string).toArray 9)
 have hv:=VarAt.new (w.alloc (.cells (ws.map Value.string).toArray 9)) 236 (.slice (some ⟨w.heap.size,0,none⟩) ws.length ws.length)
 rw [e] at hv
 refine ⟨⟨_,_,hv,Nat.le_refl _,by omega,fun _=>⟨w.heap.size,0,rfl,by omega,fun j x hx=> ?_⟩⟩,h2⟩
 rw [(Keep.alloc (w.alloc (.cells (ws.map Value.string).toArray 9)) _).cell (p:=⟨w.heap.size,0+j,none⟩) (by rw [e];show w.heap.size<_;omega)]
 have:=many_news (w:=w) (cs:=ws.map Value.string) (T:=9) j (.string x) (by simp [hx])
 rwa [Addr.add_mid] at this
set_option maxHeartbeats 1000000 in
theorem needParse_long (s:ByteArray) (w:World) (hs:20000<s.size) :
  Calls Tryz.prog 165 #[.string s] w fun e w'=>ParseN s.data.toList w e w':=by
 have HP:Hid (rdE s.data.toList=2):=by show _=_;unfold rdE;rw [size_list,if_pos hs]
 have q1:(20000:Int)<(s.size:Int):=by omega
 have R1:Hid (NBox w.heap.size #[.int .i64 0,.string ⟨#[]⟩,.int .i64 0,.int .i64 0,.int .i64 0,.string ⟨#[]⟩,.bool false,.string ⟨#[]⟩,.bool false,.slice none 0 0] (w.alloc (.cells #[.int .i64 0,.string ⟨#[]⟩,.int .i64 0,.int .i64 0,.int .i64 0,.string ⟨#[]⟩,.bool false,.string ⟨#[]⟩,.bool false,.slice none 0 0] 104))):=NBox.new _ _
 have K1:=hid (Keep.alloc w (.cells #[.int .i64 0,.string ⟨#[]⟩,.int .i64 0,.int .i64 0,.int .i64 0,.string ⟨#[]⟩,.bool false,.string ⟨#[]⟩,.bool false,.slice none 0 0] 104))
 go_enter Tryz.func165,Tryz.ntmps165
 go_upto_region 1 with fail
 generalize w.alloc (.cells #[.int .i64 0,.string ⟨#[]⟩,.int .i64 0,.int .i64 0,.int .i64 0,.string ⟨#[]⟩,.bool false,.string ⟨#[]⟩,.bool false,.slice none 0 0] 104)=W1 at R1 K1 ⊢
 obtain ⟨hcr,hzr,hlr3⟩:=R1.out.facts
 go_wp2_with fail
 clear hcr hzr
 refine ret_need (.int .i64 (2)) R1.out rfl rfl ?_
 intro W BW KW SW OW
 obtain ⟨hcW,_,_⟩:=BW.out.facts
 refine ⟨by simp [results,Tryz.results165,go_sem,hcW],?_⟩
 show ParseN _ w _ W
 exact ⟨zeroL,by rw [HP.out];rfl,fun e=>absurd (HP.out.symm.trans e) (by decide),fun _=>rfl,Below.trans K1.out KW.out⟩
set_option maxHeartbeats 2000000 in
set_option maxRecDepth 100000 in
theorem needParse_short (s:ByteArray) (w:World) (hE:Env w) (hM:MaxAt w) (hs:s.size<=20000) :
  Calls Tryz.prog 165 #[.string s] w fun e w'=>ParseN s.data.toList w e w':=by
 have q1 : ¬ (20000:Int)<(s.size:Int):=by omega
 have HL:Hid (¬ 20000<s.data.toList.length):=by show ¬ _;rw [size_list];omega
 have R1:Hid (NBox w.heap.size #[.int .i64 0,.string ⟨#[]⟩,.int .i64 0,.int .i64 0,.int .i64 0,.string ⟨#[]⟩,.bool false,.string ⟨#[]⟩,.bool false,.slice none 0 0] (w.alloc (.cells #[.int .i64 0,.string ⟨#[]⟩,.int .i64 0,.int .i64 0,.int .i64 0,.string ⟨#[]⟩,.bool false,.string ⟨#[]⟩,.bool false,.slice none 0 0] 104))):=NBox.new _ _
 have K1:=hid (Keep.alloc w (.cells #[.int .i64 0,.string ⟨#[]⟩,.int .i64 0,.int .i64 0,.int .i64 0,.string ⟨#[]⟩,.bool false,.string ⟨#[]⟩,.bool false,.slice none 0 0] 104))
 have hs1:=hid (alloc_size w (.cells #[.int .i64 0,.string ⟨#[]⟩,.int .i64 0,.int .i64 0,.int .i64 0,.string ⟨#[]⟩,.bool false,.string ⟨#[]⟩,.bool false,.slice none 0 0] 104))
 have HE:=hid hE
 have HM:=hid hM
 obtain ⟨ws,hws,hwl,hwl2,hwd,hwsz⟩:=words_of s
 have HWS:=hid hws
 have HWD:=hid hwd
 have HSZ:=hid hwsz
 have HWL:=hid hwl
 clear hE hM hws hwd hwsz hwl
 go_enter Tryz.func165,Tryz.ntmps165
 go_wp2_with fail
 generalize w.alloc (.cells #[.int .i64 0,.string ⟨#[]⟩,.int .i64 0,.int .i64 0,.int .i64 0,.string ⟨#[]⟩,.bool false,.string ⟨#[]⟩,.bool false,.slice none 0 0] 104)=W1 at R1 K1 hs1 ⊢
 have hm1:=(HM.out.keep K1.out)
 obtain ⟨mm,hmm⟩:=hm1.2
 refine (Tryz.strings_Split s ⟨#[32]⟩ mm W1 (by omega) hmm (by decide)).mono ?_
 rintro e w2 ⟨rfl,hw2⟩
 rw [hw2,← HWS.out,← HWL.out]
 clear hw2 w2 hm1 hmm
 have RS3:=hid (rd_new (w:=W1) (ws:=ws) (by omega) (fun x hx=>Nat.le_trans (HSZ.out x hx) hs))
 have K3:=hid ((K1.out.alloc' (.cells (ws.map Value.string).toArray 9)).alloc' (.cells #[.slice (some ⟨W1.heap.size,0,none⟩) ws.length ws.length] 236))
 have R3:=hid ((R1.out.keep (Keep.alloc W1 (.cells (ws.map Value.string).toArray 9)) R1.out.facts.2.2).keep (Keep.alloc _ (.cells #[.slice (some ⟨W1.heap.size,0,none⟩) ws.length ws.length] 236)) (R1.out.keep (Keep.alloc W1 (.cells (ws.map Value.string).toArray 9)) R1.out.facts.2.2).facts.2.2)
 go_wp2_with fail
 generalize (W1.alloc (.cells (ws.map Value.string).toArray 9)).alloc (.cells #[.slice (some ⟨W1.heap.size,0,none⟩) ws.length ws.length] 236)=W3 at RS3 K3 R3 ⊢
 have hrb:w.heap.size+1<W1.heap.size+1:=by rw [hs1.out];omega
 generalize W1.heap.size+1=rb at RS3 hrb ⊢
 refine (rdS_next rb ws W3 RS3.out).mono ?_
 rintro e w4 ⟨rfl,hr4,hl4,ha4⟩
 have R4:=hid (R3.out.apart ha4 (by omega))
 have K4:Hid (Keep w w4):=Below.trans K3.out (ha4.below K3.out.size (fun b hb e=>by have:b=rb:=e;omega))
 have HR4:=hid hr4
 obtain ⟨g4,hg4⟩ : ∃ g4:Nat,g4=4:=⟨4,rfl⟩
 have HG4:=hid hg4
 clear hg4
 have HT4:Hid (rdText s.data.toList=match rdNeed g4 (ws.headD ⟨#[]⟩).data.toList (ws.tail.map (·.data.toList)) with
  | some (t,[])=>some t
  | _=>none):=by
  show _=_
  unfold rdText
  rw [← HWD.out,HG4.out]
  cases ws with
  | nil=>exact absurd HWL.out (by simp)
  | cons x l=>rfl
 generalize ws.headD ⟨#[]⟩=x4 at hl4 HT4 ⊢
 generalize ws.tail=tl4 at HR4 hr4 HT4
 clear hr4 ha4
 go_wp2_with fail
 refine (need_reads g4 rb x4 tl4 1 w4 (by have:=HG4.out;omega) (by decide) (HE.out.keep K4.out) (old_of HE.out (by omega)) HR4.out hl4).mono ?_
 rintro e w5 hdone
 have hlw:w.heap.size<w4.heap.size:=R4.out.facts.2.2
 cases hq:rdNeed g4 x4.data.toList (tl4.map (·.data.toList)) with
 | none=>
  rw [hq] at hdone
  obtain ⟨rfl,ha5⟩:=hdone
  have HP:Hid (rdE s.data.toList=1):=by show _=_;unfold rdE;rw [if_neg HL.out,HT4.out,hq]
  have R5:=hid ((R4.out.apart ha5 (by omega)).keep (Keep.alloc w5 (.cells #[.int .i64 0,.string ⟨#[]⟩,.int .i64 0,.int .i64 0,.int .i64 0,.string ⟨#[]⟩,.bool false,.string ⟨#[]⟩,.bool false,.slice none 0 0] 104)) (R4.out.apart ha5 (by omega)).facts.2.2)
  have K5:Hid (Keep w (w5.alloc (.cells #[.int .i64 0,.string ⟨#[]⟩,.int .i64 0,.int .i64 0,.int .i64 0,.string ⟨#[]⟩,.bool false,.string ⟨#[]⟩,.bool false,.slice none 0 0] 104))):=Keep.alloc' (Below.trans K4.out (ha5.below K4.out.size (fun b hb e=>by have:b=rb:=e;omega))) _
  clear ha5 hq
  unfold zeroV
  go_upto_region 5 with fail
  generalize w5.alloc (.cells #[.int .i64 0,.string ⟨#[]⟩,.int .i64 0,.int .i64 0,.int .i64 0,.string ⟨#[]⟩,.bool false,.string ⟨#[]⟩,.bool false,.slice none 0 0] 104)=W5 at R5 K5 ⊢
  obtain ⟨hcr,hzr,hlr3⟩:=R5.out.facts
  go_wp2_with fail
  clear hcr hzr
  refine ret_need (.int .i64 (1)) R5.out rfl rfl ?_
  intro W BW KW SW OW
  obtain ⟨hcW,_,_⟩:=BW.out.facts
  refine ⟨by simp [results,Tryz.results165,go_sem,hcW],?_⟩
  show ParseN _ w _ W
  exact ⟨zeroL,by rw [HP.out];rfl,fun e=>absurd (HP.out.symm.trans e) (by decide),fun _=>rfl,Below.trans K5.out KW.out⟩
 | some r=>
  obtain ⟨t,rs⟩:=r
  rw [hq] at hdone
  obtain ⟨cs,ws5,rfl,hn5,hr5,hm5,ha5⟩:=hdone
  have HM5:Hid (ws5.map (·.data.toList)=rs):=hm5
  have HN5:Hid (NeedIs (fun b=>w4.heap.size<=b/\b<w5.heap.size) w5 t cs):=hn5
  have HQ:=hid hq
  cases t with
  | node k' a' fl' nt' kids'=>
  rw [NeedIs] at hn5
  obtain ⟨kp',kc',rfl,-,-,-⟩:=hn5
  have R5:=hid ((R4.out.apart ha5 (by omega)).keep (Keep.alloc w5 (.cells #[.int .i64 k',.string a'.n,.int .i64 a'.op,.int .i64 a'.v,.int .i64 a'.sl,.string a'.f,.bool a'.on,.string fl',.bool nt',.slice kp' kids'.length kc'] 104)) (R4.out.apart ha5 (by omega)).facts.2.2)
  have C5:Hid (NBox w5.heap.size #[.int .i64 k',.string a'.n,.int .i64 a'.op,.int .i64 a'.v,.int .i64 a'.sl,.string a'.f,.bool a'.on,.string fl',.bool nt',.slice kp' kids'.length kc'] (w5.alloc (.cells #[.int .i64 k',.string a'.n,.int .i64 a'.op,.int .i64 a'.v,.int .i64 a'.sl,.string a'.f,.bool a'.on,.string fl',.bool nt',.slice kp' kids'.length kc'] 104))):=NBox.new _ _
  have K5:Hid (Keep w (w5.alloc (.cells #[.int .i64 k',.string a'.n,.int .i64 a'.op,.int .i64 a'.v,.int .i64 a'.sl,.string a'.f,.bool a'.on,.string fl',.bool nt',.slice kp' kids'.length kc'] 104))):=Keep.alloc' (Below.trans K4.out (ha5.below K4.out.size (fun b hb e=>by have:b=rb:=e;omega))) _
  have HR5:=hid (hr5.keep (Keep.alloc w5 (.cells #[.int .i64 k',.string a'.n,.int .i64 a'.op,.int .i64 a'.v,.int .i64 a'.sl,.string a'.f,.bool a'.on,.string fl',.bool nt',.slice kp' kids'.length kc'] 104)))
  have HN6:Hid (NeedIs (fun b=>w4.heap.size<=b/\b<w5.heap.size) (w5.alloc (.cells #[.int .i64 k',.string a'.n,.int .i64 a'.op,.int .i64 a'.v,.int .i64 a'.sl,.string a'.f,.bool a'.on,.string fl',.bool nt',.slice kp' kids'.length kc'] 104)) (.node k' a' fl' nt' kids') [.int .i64 k',.string a'.n,.int .i64 a'.op,.int .i64 a'.v,.int .i64 a'.sl,.string a'.f,.bool a'.on,.string fl',.bool nt',.slice kp' kids'.length kc']):=HN5.out.keep (fun b hb=>hb.2) (Keep.alloc w5 (.cells #[.int .i64 k',.string a'.n,.int .i64 a'.op,.int .i64 a'.v,.int .i64 a'.sl,.string a'.f,.bool a'.on,.string fl',.bool nt',.slice kp' kids'.length kc'] 104))
  have hs45:w4.heap.size<=w5.heap.size:=ha5.size
  clear ha5 hq hm5 hr5
  go_upto_region 5 with fail
  have hs5:=alloc_size w5 (.cells #[.int .i64 k',.string a'.n,.int .i64 a'.op,.int .i64 a'.v,.int .i64 a'.sl,.string a'.f,.bool a'.on,.string fl',.bool nt',.slice kp' kids'.length kc'] 104)
  generalize w5.alloc (.cells #[.int .i64 k',.string a'.n,.int .i64 a'.op,.int .i64 a'.v,.int .i64 a'.sl,.string a'.f,.bool a'.on,.string fl',.bool nt',.slice kp' kids'.length kc'] 104)=W5 at R5 C5 K5 HR5 HN6 hs5 ⊢
  obtain ⟨pp,cc,hvar,-,-,-⟩:=HR5.out.1
  obtain ⟨hcv,-,-⟩:=hvar.facts
  obtain ⟨hck,hzk,hlk⟩:=C5.out.facts
  have HS5:=hid hs5
  clear hvar hs5
  cases rs with
  | cons y rs'=>
   have HP:Hid (rdE s.data.toList=1):=by show _=_;unfold rdE;rw [if_neg HL.out,HT4.out,HQ.out]
   have hpos:(0:Int)<(ws5.length:Int):=by
    have:=congrArg List.length HM5.out
    simp at this;omega
   obtain ⟨hcr,hzr,hlr3⟩:=R5.out.facts
   go_wp2_with fail
   clear hcr hzr
   refine ret_need (.int .i64 (1)) R5.out rfl rfl ?_
   intro W BW KW SW OW
   obtain ⟨hcW,_,_⟩:=BW.out.facts
   refine ⟨by simp [results,Tryz.results165,go_sem,hcW],?_⟩
   show ParseN _ w _ W
   exact ⟨zeroL,by rw [HP.out];rfl,fun e=>absurd (HP.out.symm.trans e) (by decide),fun _=>rfl,Below.trans K5.out KW.out⟩
  | nil=>
   have HP:Hid (rdE s.data.toList=chkN (.node k' a' fl' nt' kids')):=by show _=_;unfold rdE;rw [if_neg HL.out,HT4.out,HQ.out]
   have HTX:Hid (rdText s.data.toList=some (.node k' a' fl' nt' kids')):=by show _=_;rw [HT4.out,HQ.out]
   obtain rfl:ws5 = []:=by
    have:=congrArg List.length HM5.out
    simp at this
    exact this
   go_wp2_with fail
   refine (needCheck_any (.node k' a' fl' nt' kids') _ W5 (fun b=>w4.heap.size<=b/\b<w5.heap.size) (fun b hb=>by have:=HS5.out;omega) HN6.out).mono ?_
   rintro e w6 ⟨rfl,k6⟩
   have R6:=hid (R5.out.keep k6 R5.out.facts.2.2)
   have C6:=hid (C5.out.keep k6 C5.out.facts.2.2)
   have K6:=hid (K5.out.trans k6)
   have HN7:Hid (NeedIs (fun b=>w4.heap.size<=b/\b<w5.heap.size) w6 (.node k' a' fl' nt' kids') [.int .i64 k',.string a'.n,.int .i64 a'.op,.int .i64 a'.v,.int .i64 a'.sl,.string a'.f,.bool a'.on,.string fl',.bool nt',.slice kp' kids'.length kc']):=HN6.out.keep (fun b hb=>by have:=HS5.out;omega) k6
   have hs6:=k6.size
   clear k6 hck hzk hcv
   obtain ⟨hck,hzk,hlk6⟩:=C6.out.facts
   have hwne:w.heap.size≠w5.heap.size:=by omega
   by_cases hz:chkN (.node k' a' fl' nt' kids')=0
   ·have HZ:=hid hz
    rw [hz]
    clear hz
    obtain ⟨hcr,hzr,hlr3⟩:=R6.out.facts
    go_wp2_with fail
    clear hcr hzr
    refine ret_need (.int .i64 (0)) R6.out rfl rfl ?_
    intro W BW KW SW OW
    obtain ⟨hcW,_,_⟩:=BW.out.facts
    refine ⟨by simp [results,Tryz.results165,go_sem,hcW],?_⟩
    show ParseN _ w _ W
    refine ⟨[.int .i64 k',.string a'.n,.int .i64 a'.op,.int .i64 a'.v,.int .i64 a'.sl,.string a'.f,.bool a'.on,.string fl',.bool nt',.slice kp' kids'.length kc'],by rw [HP.out,HZ.out],fun _=>⟨_,HTX.out,?_⟩,fun e=>absurd (HP.out.trans HZ.out) e,Below.trans K6.out KW.out⟩
    exact NeedIs.mono (fun p hp=>World.cell?_of_block (w:=w6) (OW.out _ (by have:=HS5.out;omega))) (fun b hb=>⟨by omega,by have:=SW.out;have:=HS5.out;omega⟩) _ _ HN7.out
   ·have hz1:(chkN (.node k' a' fl' nt' kids') != 0)=true:=by simpa using hz
    have HZ:Hid (rdE s.data.toList≠0):=by show _≠_;rw [HP.out];exact hz
    clear hz
    generalize chkN (.node k' a' fl' nt' kids')=cc6 at hz1 HP ⊢
    obtain ⟨hcr,hzr,hlr3⟩:=R6.out.facts
    go_wp2_with fail
    clear hcr hzr
    refine ret_need (.int .i64 (cc6)) R6.out rfl rfl ?_
    intro W BW KW SW OW
    obtain ⟨hcW,_,_⟩:=BW.out.facts
    refine ⟨by simp [results,Tryz.results165,go_sem,hcW],?_⟩
    show ParseN _ w _ W
    exact ⟨zeroL,by rw [HP.out];rfl,fun e=>absurd e HZ.out,fun _=>rfl,Below.trans K6.out KW.out⟩
theorem needParse_any (s:ByteArray) (w:World) (hE:Env w) (hM:MaxAt w) :
  Calls Tryz.prog 165 #[.string s] w fun e w'=>ParseN s.data.toList w e w':=by
 by_cases h:20000<s.size
 ·exact needParse_long s w h
 ·exact needParse_short s w hE hM (by omega)
end Go.Proofs.YthhhicgjiilgmaaGreatDoor
namespace Go.Proofs.YthhhicgjiilgmaaGreatDoor
open Go.RowKit
end Go.Proofs.YthhhicgjiilgmaaGreatDoor
namespace Go.Proofs.YthhhicgjiilgmaaGreatDoor
open Go.RowKit
theorem step_append_own {P:Program} {ops:Array Oper} {o:Oper} {a:Act} {w:World} {K:Act->World->Prop} {Q:Exit->Act->World->Prop} {E:Prop}
  (hg:o.guard=none) (s x:Operand) (t:TypeId) (hop:o.op=Op.call { callee:=Callee.builtin Builtin.append,args:=#[s,x],argTypes:=#[t,t] })
  (base:Nat) (e:TypeId) (i:TypeInfo) (z:Value) (size bytes:Nat) (ht:P.underlying t=some (.slice e)) (hi:P.info? e=some i) (hz:i.zero=some z)
  (hsize:i.size=size) (hby:i.bytes=bytes) (hzs:z.cells.size=size) (hsz:0<size)
  (v:Value) (n:Nat) (xs:List Value) (hs:a.eval s=v) (hown:w.ownsRow base e size v n xs)
  (ad:Addr) (m c:Nat) (news:List Value) (hx:a.eval x=.slice (some ad) m c) (hl:news.length=m*size) (hnews : ∀ j u,news[j]? = some u->w.cell? (ad.add j)=some u) (h1 : ∀ u∈news,u.oneCell'=true)
  (h63:n+m<=maxLen) (hbytes:(n+m)*bytes<=140737488355328) (hbase:base<=w.heap.size)
  (hK : ∀ v' w',w'.ownsRow base e size v' (n+m) (xs++news)->w.grownBy w' v.ownBlock->(v'.ownBlock=v.ownBlock∨v'.ownBlock=some w.heap.size)->K (a.put o.dst v') w') :
  if Region.wanted o (yielded ops a.tmps)=true then Oper.wp P o a w K Q else E:=by
 have hw:Region.wanted o (yielded ops a.tmps)=true:=by simp [Region.wanted,hg]
 rw [if_pos hw]
 obtain ⟨v',w',hr,h2,h3,-,h5⟩:=run_append_own_at (P:=P) w base t o.type e i z size bytes ht hi hz hsize hby hzs hsz v n xs hown ad m c news hl hnews h1 h63 hbytes hbase
 unfold Oper.wp
 simp [execOp,hop,resolve,invoke,builtin,hs,hx,hr,Result.andThen]
 exact hK v' w' h2 h3 h5
end Go.Proofs.YthhhicgjiilgmaaGreatDoor
namespace Go.Proofs.YthhhicgjiilgmaaGreatDoor
open Go.RowKit
end Go.Proofs.YthhhicgjiilgmaaGreatDoor
