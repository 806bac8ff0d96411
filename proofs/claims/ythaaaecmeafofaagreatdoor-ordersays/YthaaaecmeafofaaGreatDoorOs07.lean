/- Steps of the proof: NeedParse, NeedSameAll, NeedFlagged. -/
import Derived.Test.YthaaaecmeafofaaGreatDoorOs06
import Derived.Deep.RegionLaw
import Derived.BigRegion
import Derived.Deep.CutRange
import Derived.Test.YthaaaecmeafofaaGreatDoorOs05
import Derived.Sort.OwnSorted
set_option maxHeartbeats 16000000
set_option maxRecDepth 100000
namespace Go.Proofs.YthaaaecmeafofaaGreatDoor
open Go.RowKit
theorem aHz {g:Nat} {wd:bH} {ws:List bH} (h:Lib.hasSuffix wd [63]=true):aQ (g+1) wd ws=dM g 5 At.zero ⟨(gL wd).toArray⟩ (tG wd) ws:=by
 have e:(⟨(gL wd).toArray⟩:ByteArray).data.toList=gL wd:=by simp
 rw [aQ,if_pos h]
 unfold dM
 rw [e]
 cases hn:aI (gL wd)
 ·rw [if_neg (by decide),if_pos ⟨rfl,rfl⟩]
 ·rw [if_pos rfl,if_neg (by simp)]
theorem aFr {g:Nat} {wd:bH} {ws:List bH} (h:Lib.hasSuffix wd [63]=false) (h2:wd = [124,124]):aQ (g+1) wd ws=dM g 4 At.zero ⟨#[]⟩ false ws:=by
 rw [aQ,if_neg (by rw [h];decide),if_pos h2]
 unfold dM
 rw [if_neg (by simp)]
theorem aGz {g:Nat} {wd:bH} {ws:List bH} (h:Lib.hasSuffix wd [63]=false) (h2:wd ≠ [124,124]) (h3:wd = [40]):aQ (g+1) wd ws=dB (aQ g) (.node 3 At.zero ⟨#[]⟩ false) ws:=by
 rw [aQ,if_neg (by rw [h];decide),if_neg h2,if_pos h3]
theorem aFq {g:Nat} {wd:bH} {ws:List bH} (h:Lib.hasSuffix wd [63]=false) (h2:wd ≠ [124,124]) (h3:wd ≠ [40]):aQ (g+1) wd ws=(eX wd).map fun t=>(t,ws):=by
 rw [aQ,if_neg (by rw [h];decide),if_neg h2,if_neg h3]
theorem aAj:gA 0:=by
 intro rb wd ws d w hd _ _ _ _ _
 have R1:Hid (cC w.heap.size #[.int .i64 0,.string ⟨#[]⟩,.int .i64 0,.int .i64 0,.int .i64 0,.string ⟨#[]⟩,.bool false,.string ⟨#[]⟩,.bool false,.slice none 0 0] (w.alloc (.cells #[.int .i64 0,.string ⟨#[]⟩,.int .i64 0,.int .i64 0,.int .i64 0,.string ⟨#[]⟩,.bool false,.string ⟨#[]⟩,.bool false,.slice none 0 0] 74))):=cC.new _ _
 have A1:Hid (aR (One rb) w (w.alloc (.cells #[.int .i64 0,.string ⟨#[]⟩,.int .i64 0,.int .i64 0,.int .i64 0,.string ⟨#[]⟩,.bool false,.string ⟨#[]⟩,.bool false,.slice none 0 0] 74))):=dG _ _
 have hd5:d=5:=by omega
 subst hd5
 go_enter Tryz.func224,Tryz.ntmps224
 go_upto_region 1 with fail
 generalize w.alloc (.cells #[.int .i64 0,.string ⟨#[]⟩,.int .i64 0,.int .i64 0,.int .i64 0,.string ⟨#[]⟩,.bool false,.string ⟨#[]⟩,.bool false,.slice none 0 0] 74)=W1 at R1 A1 ⊢
 obtain ⟨hcr,hzr,hlr3⟩:=R1.out.facts
 go_wp2_with fail
 clear hcr hzr
 refine bC (.bool false) R1.out rfl rfl ?_
 intro W BW KW SW OW
 obtain ⟨hcW,_,_⟩:=BW.out.facts
 refine ⟨by simp [results,Tryz.results224,go_sem,hcW],?_⟩
 show bE _ _ w _ W
 exact ⟨rfl,bK A1.out KW.out (Nat.le_refl _)⟩
theorem aAi (g:Nat) (H:gA g):gA (g+1):=by
 intro rb wd ws d w hd hd1 hE hO hr hwd
 have hd4:d+g=4:=by omega
 have hlr:=hr.1.lt
 have HE:=hid hE
 have HO:=hid hO
 have HH:=hid H
 have R1:Hid (cC w.heap.size #[.int .i64 0,.string ⟨#[]⟩,.int .i64 0,.int .i64 0,.int .i64 0,.string ⟨#[]⟩,.bool false,.string ⟨#[]⟩,.bool false,.slice none 0 0] (w.alloc (.cells #[.int .i64 0,.string ⟨#[]⟩,.int .i64 0,.int .i64 0,.int .i64 0,.string ⟨#[]⟩,.bool false,.string ⟨#[]⟩,.bool false,.slice none 0 0] 74))):=cC.new _ _
 have A1:Hid (aR (One rb) w (w.alloc (.cells #[.int .i64 0,.string ⟨#[]⟩,.int .i64 0,.int .i64 0,.int .i64 0,.string ⟨#[]⟩,.bool false,.string ⟨#[]⟩,.bool false,.slice none 0 0] 74))):=dG _ _
 have HR1:=hid (hr.keep (aA.alloc w (.cells #[.int .i64 0,.string ⟨#[]⟩,.int .i64 0,.int .i64 0,.int .i64 0,.string ⟨#[]⟩,.bool false,.string ⟨#[]⟩,.bool false,.slice none 0 0] 74)))
 clear hE hO H hr hd
 go_enter Tryz.func224,Tryz.ntmps224
 go_wp2_with fail
 generalize w.alloc (.cells #[.int .i64 0,.string ⟨#[]⟩,.int .i64 0,.int .i64 0,.int .i64 0,.string ⟨#[]⟩,.bool false,.string ⟨#[]⟩,.bool false,.slice none 0 0] 74)=W1 at R1 A1 HR1 ⊢
 have hl1:=R1.out.facts.2.2
 refine (Tryz.strings_CutSuffix wd ⟨#[63]⟩ W1 (by omega)).mono ?_
 rintro e w2 ⟨rfl,hw2⟩
 rw [hw2,show (⟨#[63]⟩:ByteArray).data.toList = [63] from rfl]
 clear hw2 w2
 cases hsuf:Lib.hasSuffix wd.data.toList [63]
 ·have HSUF:=hid hsuf
  clear hsuf
  go_upto_region 7 with fail
  rcases iY wd [124,124] with ⟨hw1,hw2,hw3⟩ | ⟨hw1,hw2,hw3⟩
  ·have HRES:=hid (aFr (g:=g) (ws:=ws.map (·.data.toList)) HSUF.out hw1)
   clear hw1
   go_wp2_with fail
   refine (pG g HH.out rb 4 ⟨#[]⟩ ⟨#[]⟩ 0 0 0 false ⟨#[]⟩ false ws d W1 hd4 hd1 (HE.out.apart HO.out hlr A1.out) HO.out HR1.out).mono ?_
   rintro e w3 hdone
   have hdone':bE rb (aQ (g+1) wd.data.toList (ws.map (·.data.toList))) W1 e w3:=by rw [HRES.out];exact hdone
   clear hdone
   cases hq:aQ (g+1) wd.data.toList (ws.map (·.data.toList)) with
   | none=>
    rw [hq] at hdone'
    obtain ⟨rfl,ha3⟩:=hdone'
    have R3:=hid (R1.out.apart ha3 (by omega))
    have A3:=hid (A1.out.trans ha3)
    have HQ:=hid hq
    clear ha3 hq
    unfold kJ
    obtain ⟨hcr,hzr,hlr3⟩:=R3.out.facts
    go_wp2_with fail
    clear hcr hzr
    refine bC (.bool false) R3.out rfl rfl ?_
    intro W BW KW SW OW
    obtain ⟨hcW,_,_⟩:=BW.out.facts
    refine ⟨by simp [results,Tryz.results224,go_sem,hcW],?_⟩
    show bE _ _ w _ W
    rw [HQ.out]
    exact ⟨rfl,bK A3.out KW.out (Nat.le_refl _)⟩
   | some r=>
    obtain ⟨t,rs⟩:=r
    rw [hq] at hdone'
    obtain ⟨cs,ws3,rfl,hn3,hr3,hm3,ha3⟩:=hdone'
    have R3:=hid (R1.out.apart ha3 (by omega))
    have A3:=hid (A1.out.trans ha3)
    have HQ:=hid hq
    have HN3:=hid hn3
    have HR3:=hid hr3
    have HM3:=hid hm3
    clear ha3 hq hr3 hm3
    cases t with
    | node k' a' fl' nt' kids'=>
    rw [aE] at hn3
    obtain ⟨kp',kc',rfl,-,-,-⟩:=hn3
    obtain ⟨hcr,hzr,hlr3⟩:=R3.out.facts
    go_wp2_with fail
    clear hcr hzr
    refine bC (.bool true) R3.out rfl rfl ?_
    intro W BW KW SW OW
    obtain ⟨hcW,_,_⟩:=BW.out.facts
    refine ⟨by simp [results,Tryz.results224,go_sem,hcW],?_⟩
    show bE _ _ w _ W
    rw [HQ.out]
    obtain ⟨d1,d2⟩:=gB (X:=w.heap.size) (w:=w) (Nat.le_refl _) hl1 HN3.out HR3.out hlr OW.out SW.out
    exact ⟨_,ws3,rfl,d1,d2,HM3.out,bK A3.out KW.out (Nat.le_refl _)⟩
  ·have HW1:=hid hw1
   clear hw1
   rcases iY wd [40] with ⟨hv1,hv2,hv3⟩ | ⟨hv1,hv2,hv3⟩
   ·have HRES:=hid (aGz (g:=g) (ws:=ws.map (·.data.toList)) HSUF.out HW1.out hv1)
    clear hv1
    go_wp2_with fail
    refine (pU g HH.out rb 3 ⟨#[]⟩ ⟨#[]⟩ 0 0 0 false ⟨#[]⟩ false ws d W1 hd4 hd1 (HE.out.apart HO.out hlr A1.out) HO.out HR1.out).mono ?_
    rintro e w3 hdone
    have hdone':bE rb (aQ (g+1) wd.data.toList (ws.map (·.data.toList))) W1 e w3:=by rw [HRES.out];exact hdone
    clear hdone
    cases hq:aQ (g+1) wd.data.toList (ws.map (·.data.toList)) with
    | none=>
     rw [hq] at hdone'
     obtain ⟨rfl,ha3⟩:=hdone'
     have R3:=hid (R1.out.apart ha3 (by omega))
     have A3:=hid (A1.out.trans ha3)
     have HQ:=hid hq
     clear ha3 hq
     unfold kJ
     obtain ⟨hcr,hzr,hlr3⟩:=R3.out.facts
     go_wp2_with fail
     clear hcr hzr
     refine bC (.bool false) R3.out rfl rfl ?_
     intro W BW KW SW OW
     obtain ⟨hcW,_,_⟩:=BW.out.facts
     refine ⟨by simp [results,Tryz.results224,go_sem,hcW],?_⟩
     show bE _ _ w _ W
     rw [HQ.out]
     exact ⟨rfl,bK A3.out KW.out (Nat.le_refl _)⟩
    | some r=>
     obtain ⟨t,rs⟩:=r
     rw [hq] at hdone'
     obtain ⟨cs,ws3,rfl,hn3,hr3,hm3,ha3⟩:=hdone'
     have R3:=hid (R1.out.apart ha3 (by omega))
     have A3:=hid (A1.out.trans ha3)
     have HQ:=hid hq
     have HN3:=hid hn3
     have HR3:=hid hr3
     have HM3:=hid hm3
     clear ha3 hq hr3 hm3
     cases t with
     | node k' a' fl' nt' kids'=>
     rw [aE] at hn3
     obtain ⟨kp',kc',rfl,-,-,-⟩:=hn3
     obtain ⟨hcr,hzr,hlr3⟩:=R3.out.facts
     go_wp2_with fail
     clear hcr hzr
     refine bC (.bool true) R3.out rfl rfl ?_
     intro W BW KW SW OW
     obtain ⟨hcW,_,_⟩:=BW.out.facts
     refine ⟨by simp [results,Tryz.results224,go_sem,hcW],?_⟩
     show bE _ _ w _ W
     rw [HQ.out]
     obtain ⟨d1,d2⟩:=gB (X:=w.heap.size) (w:=w) (Nat.le_refl _) hl1 HN3.out HR3.out hlr OW.out SW.out
     exact ⟨_,ws3,rfl,d1,d2,HM3.out,bK A3.out KW.out (Nat.le_refl _)⟩
   ·have HRES:=hid (aFq (g:=g) (ws:=ws.map (·.data.toList)) HSUF.out HW1.out hv1)
    clear hv1
    go_wp2_with fail
    refine (aCx wd W1 (HE.out.apart HO.out hlr A1.out)).mono ?_
    rintro e w3 hdone
    cases hq:eX wd.data.toList with
    | none=>
     unfold gH at hdone
     rw [hq] at hdone
     obtain ⟨rfl,k3⟩:=hdone
     have HQ:Hid (aQ (g+1) wd.data.toList (ws.map (·.data.toList))=none):=by show _=_;rw [HRES.out,hq];rfl
     have R3:=hid (R1.out.keep k3 hl1)
     have A3:=hid (A1.out.trans (bQ k3))
     clear hq k3
     unfold kJ
     obtain ⟨hcr,hzr,hlr3⟩:=R3.out.facts
     go_wp2_with fail
     clear hcr hzr
     refine bC (.bool false) R3.out rfl rfl ?_
     intro W BW KW SW OW
     obtain ⟨hcW,_,_⟩:=BW.out.facts
     refine ⟨by simp [results,Tryz.results224,go_sem,hcW],?_⟩
     show bE _ _ w _ W
     rw [HQ.out]
     exact ⟨rfl,bK A3.out KW.out (Nat.le_refl _)⟩
    | some tt=>
     unfold gH at hdone
     rw [hq] at hdone
     obtain ⟨cs,rfl,hn3,k3⟩:=hdone
     have HQ:Hid (aQ (g+1) wd.data.toList (ws.map (·.data.toList))=some (tt,ws.map (·.data.toList))):=by show _=_;rw [HRES.out,hq];rfl
     have R3:=hid (R1.out.keep k3 hl1)
     have A3:=hid (A1.out.trans (bQ k3))
     have HR3:=hid (HR1.out.keep k3)
     have HN3:=hid (hn3 (fun b=>W1.heap.size<=b/\b<w3.heap.size))
     have hn4:=HN3.out
     clear hq k3 hn3
     cases tt with
     | node k' a' fl' nt' kids'=>
     rw [aE] at hn4
     obtain ⟨kp',kc',rfl,-,-,-⟩:=hn4
     obtain ⟨hcr,hzr,hlr3⟩:=R3.out.facts
     go_wp2_with fail
     clear hcr hzr
     refine bC (.bool true) R3.out rfl rfl ?_
     intro W BW KW SW OW
     obtain ⟨hcW,_,_⟩:=BW.out.facts
     refine ⟨by simp [results,Tryz.results224,go_sem,hcW],?_⟩
     show bE _ _ w _ W
     rw [HQ.out]
     obtain ⟨d1,d2⟩:=gB (X:=w.heap.size) (w:=w) (Nat.le_refl _) hl1 HN3.out HR3.out hlr OW.out SW.out
     exact ⟨_,ws,rfl,d1,d2,rfl,bK A3.out KW.out (Nat.le_refl _)⟩
 ·have HRES:=hid (aHz (g:=g) (ws:=ws.map (·.data.toList)) hsuf)
  clear hsuf
  go_wp2_with fail
  refine (Tryz.strings_CutPrefix _ _ _).mono ?_
  rintro e w2 ⟨rfl,hw2⟩
  rw [hw2,show (⟨#[33]⟩:ByteArray).data.toList = [33] from rfl,show (⟨(Lib.trimSuffix wd.data.toList [63]).toArray⟩:ByteArray).data.toList=Lib.trimSuffix wd.data.toList [63] by simp]
  clear hw2 w2
  have hfl:(⟨(gL wd.data.toList).toArray⟩:ByteArray).size<=20000:=by
   rw [mL]
   have h1:(gL wd.data.toList).length<=(Lib.trimSuffix wd.data.toList [63]).length:=mV _ _
   have h2:(Lib.trimSuffix wd.data.toList [63]).length<=wd.data.toList.length:=by unfold Lib.trimSuffix;split<;>simp
   rw [aO] at h2
   omega
  rw [show Lib.trimPrefix (Lib.trimSuffix wd.data.toList [63]) [33]=gL wd.data.toList from rfl,show Lib.hasPrefix (Lib.trimSuffix wd.data.toList [63]) [33]=tG wd.data.toList from rfl]
  generalize (⟨(gL wd.data.toList).toArray⟩:ByteArray)=flx at HRES hfl ⊢
  generalize tG wd.data.toList=ntx at HRES ⊢
  go_wp2_with fail
  refine (kL flx W1 (by omega)).mono ?_
  rintro e w2 ⟨rfl,k2⟩
  have R2:=hid (R1.out.keep k2 hl1)
  have A2:=hid (A1.out.trans (bQ k2))
  have HR2:=hid (HR1.out.keep k2)
  clear k2 hl1 R1 A1 HR1
  have hl1:=R2.out.facts.2.2
  go_wp2_with fail
  refine (pG g HH.out rb 5 ⟨#[]⟩ ⟨#[]⟩ 0 0 0 false flx ntx ws d w2 hd4 hd1 (HE.out.apart HO.out hlr A2.out) HO.out HR2.out).mono ?_
  rintro e w3 hdone
  have hdone':bE rb (aQ (g+1) wd.data.toList (ws.map (·.data.toList))) w2 e w3:=by rw [HRES.out];exact hdone
  clear hdone
  cases hq:aQ (g+1) wd.data.toList (ws.map (·.data.toList)) with
  | none=>
   rw [hq] at hdone'
   obtain ⟨rfl,ha3⟩:=hdone'
   have R3:=hid (R2.out.apart ha3 (by omega))
   have A3:=hid (A2.out.trans ha3)
   have HQ:=hid hq
   clear ha3 hq
   unfold kJ
   obtain ⟨hcr,hzr,hlr3⟩:=R3.out.facts
   go_wp2_with fail
   clear hcr hzr
   refine bC (.bool false) R3.out rfl rfl ?_
   intro W BW KW SW OW
   obtain ⟨hcW,_,_⟩:=BW.out.facts
   refine ⟨by simp [results,Tryz.results224,go_sem,hcW],?_⟩
   show bE _ _ w _ W
   rw [HQ.out]
   exact ⟨rfl,bK A3.out KW.out (Nat.le_refl _)⟩
  | some r=>
   obtain ⟨t,rs⟩:=r
   rw [hq] at hdone'
   obtain ⟨cs,ws3,rfl,hn3,hr3,hm3,ha3⟩:=hdone'
   have R3:=hid (R2.out.apart ha3 (by omega))
   have A3:=hid (A2.out.trans ha3)
   have HQ:=hid hq
   have HN3:=hid hn3
   have HR3:=hid hr3
   have HM3:=hid hm3
   clear ha3 hq hr3 hm3
   cases t with
   | node k' a' fl' nt' kids'=>
   rw [aE] at hn3
   obtain ⟨kp',kc',rfl,-,-,-⟩:=hn3
   obtain ⟨hcr,hzr,hlr3⟩:=R3.out.facts
   go_wp2_with fail
   clear hcr hzr
   refine bC (.bool true) R3.out rfl rfl ?_
   intro W BW KW SW OW
   obtain ⟨hcW,_,_⟩:=BW.out.facts
   refine ⟨by simp [results,Tryz.results224,go_sem,hcW],?_⟩
   show bE _ _ w _ W
   rw [HQ.out]
   obtain ⟨d1,d2⟩:=gB (X:=w.heap.size) (w:=w) (Nat.le_refl _) hl1 HN3.out HR3.out hlr OW.out SW.out
   exact ⟨_,ws3,rfl,d1,d2,HM3.out,bK A3.out KW.out (Nat.le_refl _)⟩
theorem qC : ∀ g:Nat,gA g
 | 0=>aAj
 | g+1=>aAi g (qC g)
end Go.Proofs.YthaaaecmeafofaaGreatDoor
namespace Go.Proofs.YthaaaecmeafofaaGreatDoor
open Go.RowKit
def sO:List Value:= [.int .i64 0,.string ⟨#[]⟩,.int .i64 0,.int .i64 0,.int .i64 0,.string ⟨#[]⟩,.bool false,.string ⟨#[]⟩,.bool false,.slice none 0 0]
def jF (l:List UInt8) (w:World) (e:Ending) (w':World):Prop:=
 ∃ cs:List Value,e=.returned (.tuple #[.agg cs.toArray,.int .i64 (rdE l)])/\(rdE l=0->∃ t,gS l=some t/\aE (fun b=>w.heap.size<=b/\b<w'.heap.size) w' t cs)/\(rdE l≠0->cs=sO)/\aA w w'
def gX (w:World):Prop:=0<w.heap.size/\∃ m,w.cell? ⟨0,0,none⟩=some (.int .i64 m)
theorem gX.keep {w w':World} (h:gX w) (k:aA w w'):gX w':=by
 obtain ⟨h1,m,h2⟩:=h
 exact ⟨Nat.lt_of_lt_of_le h1 k.size,m,(k.cell (p:=⟨0,0,none⟩) h1).trans h2⟩
theorem lQ : ∀ (k:Nat) (l x:List UInt8),x∈Lib.splitK [32] 0 k l->x.length<=l.length
 | 0,l,x,h=>by rw [List.mem_singleton.1 h];exact Nat.le_refl _
 | k+1,l,x,h=>by
  rw [Lib.splitK] at h
  split at h
  ·rw [List.mem_singleton.1 h];exact Nat.le_refl _
  ·rcases List.mem_cons.1 h with rfl | h
   ·rw [List.length_take];exact Nat.min_le_right _ _
   ·have:=lQ k _ x h
    simp at this;omega
theorem aEk (s:ByteArray) : ∃ ws:List ByteArray,ws=Lib.splitB ⟨#[32]⟩ 0 (Lib.countB s ⟨#[32]⟩) s/\ws.length=Lib.countB s ⟨#[32]⟩+1/\ws.length<=s.size+1/\ws.map (·.data.toList)=Lib.split s.data.toList [32]/\∀ x∈ws,x.size<=s.size:=by
 have h1:1<=(⟨#[32]⟩:ByteArray).size:=by decide
 have hl:=Lib.splitB_all ⟨#[32]⟩ h1 0 _ s rfl
 have hc:=Lib.countB_le ⟨#[32]⟩ h1 s.size s (Nat.le_refl _)
 have hd:(Lib.splitB ⟨#[32]⟩ 0 (Lib.countB s ⟨#[32]⟩) s).map (·.data.toList)=Lib.split s.data.toList [32]:=Lib.splitB_data ⟨#[32]⟩ 0 _ s
 refine ⟨_,rfl,hl,by omega,hd,fun x hx=> ?_⟩
 have:x.data.toList∈Lib.split s.data.toList [32]:=by rw [← hd];exact List.mem_map.2 ⟨x,hx,rfl⟩
 have h2:=lQ _ _ _ this
 rw [aO,aO] at h2
 exact h2
theorem aGx {w:World} (h:Env w) {b:Nat} (hb:w.heap.size<=b):Old b:=⟨Nat.lt_of_lt_of_le h.1.1 hb,Nat.lt_of_lt_of_le h.2.1.1 hb,Nat.lt_of_lt_of_le h.2.2.1.1 hb,Nat.lt_of_lt_of_le h.2.2.2.1 hb⟩
theorem aHb {w:World} {ws:List ByteArray} (h1:ws.length<=20001) (h2 : ∀ x∈ws,x.size<=20000) :
  RdS (w.heap.size+1) ws ((w.alloc (.cells (ws.map Value.string).toArray 9)).alloc (.cells #[.slice (some ⟨w.heap.size,0,none⟩) ws.length ws.length] 265)):=by
 have e:=aD w (.cells (ws.map Value.string).toArray 9)
 have hv:=aB.new (w.alloc (.cells (ws.map Value.string).toArray 9)) 265 (.slice (some ⟨w.heap.size,0,none⟩) ws.length ws.length)
 rw [e] at hv
 refine ⟨⟨_,_,hv,Nat.le_refl _,by omega,fun _=>⟨w.heap.size,0,rfl,by omega,fun j x hx=> ?_⟩⟩,h2⟩
 rw [(aA.alloc (w.alloc (.cells (ws.map Value.string).toArray 9)) _).cell (p:=⟨w.heap.size,0+j,none⟩) (by rw [e];show w.heap.size<_;omega)]
 have:=eA (w:=w) (cs:=ws.map Value.string) (T:=9) j (.string x) (by simp [hx])
 rwa [Addr.add_mid] at this
theorem qB (s:ByteArray) (w:World) (hs:20000<s.size) :
  Calls Tryz.prog 190 #[.string s] w fun e w'=>jF s.data.toList w e w':=by
 have HP:Hid (rdE s.data.toList=2):=by show _=_;unfold rdE;rw [aO,if_pos hs]
 have q1:(20000:Int)<(s.size:Int):=by omega
 have R1:Hid (cC w.heap.size #[.int .i64 0,.string ⟨#[]⟩,.int .i64 0,.int .i64 0,.int .i64 0,.string ⟨#[]⟩,.bool false,.string ⟨#[]⟩,.bool false,.slice none 0 0] (w.alloc (.cells #[.int .i64 0,.string ⟨#[]⟩,.int .i64 0,.int .i64 0,.int .i64 0,.string ⟨#[]⟩,.bool false,.string ⟨#[]⟩,.bool false,.slice none 0 0] 74))):=cC.new _ _
 have K1:=hid (aA.alloc w (.cells #[.int .i64 0,.string ⟨#[]⟩,.int .i64 0,.int .i64 0,.int .i64 0,.string ⟨#[]⟩,.bool false,.string ⟨#[]⟩,.bool false,.slice none 0 0] 74))
 go_enter Tryz.func190,Tryz.ntmps190
 go_upto_region 1 with fail
 generalize w.alloc (.cells #[.int .i64 0,.string ⟨#[]⟩,.int .i64 0,.int .i64 0,.int .i64 0,.string ⟨#[]⟩,.bool false,.string ⟨#[]⟩,.bool false,.slice none 0 0] 74)=W1 at R1 K1 ⊢
 obtain ⟨hcr,hzr,hlr3⟩:=R1.out.facts
 go_wp2_with fail
 clear hcr hzr
 refine bC (.int .i64 (2)) R1.out rfl rfl ?_
 intro W BW KW SW OW
 obtain ⟨hcW,_,_⟩:=BW.out.facts
 refine ⟨by simp [results,Tryz.results190,go_sem,hcW],?_⟩
 show jF _ w _ W
 exact ⟨sO,by rw [HP.out];rfl,fun e=>absurd (HP.out.symm.trans e) (by decide),fun _=>rfl,Below.trans K1.out KW.out⟩
theorem oL (s:ByteArray) (w:World) (hE:Env w) (hM:gX w) (hs:s.size<=20000) :
  Calls Tryz.prog 190 #[.string s] w fun e w'=>jF s.data.toList w e w':=by
 have q1 : ¬ (20000:Int)<(s.size:Int):=by omega
 have HL:Hid (¬ 20000<s.data.toList.length):=by show ¬ _;rw [aO];omega
 have R1:Hid (cC w.heap.size #[.int .i64 0,.string ⟨#[]⟩,.int .i64 0,.int .i64 0,.int .i64 0,.string ⟨#[]⟩,.bool false,.string ⟨#[]⟩,.bool false,.slice none 0 0] (w.alloc (.cells #[.int .i64 0,.string ⟨#[]⟩,.int .i64 0,.int .i64 0,.int .i64 0,.string ⟨#[]⟩,.bool false,.string ⟨#[]⟩,.bool false,.slice none 0 0] 74))):=cC.new _ _
 have K1:=hid (aA.alloc w (.cells #[.int .i64 0,.string ⟨#[]⟩,.int .i64 0,.int .i64 0,.int .i64 0,.string ⟨#[]⟩,.bool false,.string ⟨#[]⟩,.bool false,.slice none 0 0] 74))
 have hs1:=hid (aD w (.cells #[.int .i64 0,.string ⟨#[]⟩,.int .i64 0,.int .i64 0,.int .i64 0,.string ⟨#[]⟩,.bool false,.string ⟨#[]⟩,.bool false,.slice none 0 0] 74))
 have HE:=hid hE
 have HM:=hid hM
 obtain ⟨ws,hws,hwl,hwl2,hwd,hwsz⟩:=aEk s
 have HWS:=hid hws
 have HWD:=hid hwd
 have HSZ:=hid hwsz
 have HWL:=hid hwl
 clear hE hM hws hwd hwsz hwl
 go_enter Tryz.func190,Tryz.ntmps190
 go_wp2_with fail
 generalize w.alloc (.cells #[.int .i64 0,.string ⟨#[]⟩,.int .i64 0,.int .i64 0,.int .i64 0,.string ⟨#[]⟩,.bool false,.string ⟨#[]⟩,.bool false,.slice none 0 0] 74)=W1 at R1 K1 hs1 ⊢
 have hm1:=(HM.out.keep K1.out)
 obtain ⟨mm,hmm⟩:=hm1.2
 refine (Tryz.strings_Split s ⟨#[32]⟩ mm W1 (by omega) hmm (by decide)).mono ?_
 rintro e w2 ⟨rfl,hw2⟩
 rw [hw2,← HWS.out,← HWL.out]
 clear hw2 w2 hm1 hmm
 have RS3:=hid (aHb (w:=W1) (ws:=ws) (by omega) (fun x hx=>Nat.le_trans (HSZ.out x hx) hs))
 have K3:=hid ((K1.out.alloc' (.cells (ws.map Value.string).toArray 9)).alloc' (.cells #[.slice (some ⟨W1.heap.size,0,none⟩) ws.length ws.length] 265))
 have R3:=hid ((R1.out.keep (aA.alloc W1 (.cells (ws.map Value.string).toArray 9)) R1.out.facts.2.2).keep (aA.alloc _ (.cells #[.slice (some ⟨W1.heap.size,0,none⟩) ws.length ws.length] 265)) (R1.out.keep (aA.alloc W1 (.cells (ws.map Value.string).toArray 9)) R1.out.facts.2.2).facts.2.2)
 go_wp2_with fail
 generalize (W1.alloc (.cells (ws.map Value.string).toArray 9)).alloc (.cells #[.slice (some ⟨W1.heap.size,0,none⟩) ws.length ws.length] 265)=W3 at RS3 K3 R3 ⊢
 have hrb:w.heap.size+1<W1.heap.size+1:=by rw [hs1.out];omega
 generalize W1.heap.size+1=rb at RS3 hrb ⊢
 refine (kE rb ws W3 RS3.out).mono ?_
 rintro e w4 ⟨rfl,hr4,hl4,ha4⟩
 have R4:=hid (R3.out.apart ha4 (by omega))
 have K4:Hid (aA w w4):=Below.trans K3.out (ha4.below K3.out.size (fun b hb e=>by have:b=rb:=e;omega))
 have HR4:=hid hr4
 obtain ⟨g4,hg4⟩ : ∃ g4:Nat,g4=4:=⟨4,rfl⟩
 have HG4:=hid hg4
 clear hg4
 have HT4:Hid (gS s.data.toList=match aQ g4 (ws.headD ⟨#[]⟩).data.toList (ws.tail.map (·.data.toList)) with
  | some (t,[])=>some t
  | _=>none):=by
  show _=_
  unfold gS
  rw [← HWD.out,HG4.out]
  cases ws with
  | nil=>exact absurd HWL.out (by simp)
  | cons x l=>rfl
 generalize ws.headD ⟨#[]⟩=x4 at hl4 HT4 ⊢
 generalize ws.tail=tl4 at HR4 hr4 HT4
 clear hr4 ha4
 go_wp2_with fail
 refine (qC g4 rb x4 tl4 1 w4 (by have:=HG4.out;omega) (by decide) (HE.out.keep K4.out) (aGx HE.out (by omega)) HR4.out hl4).mono ?_
 rintro e w5 hdone
 have hlw:w.heap.size<w4.heap.size:=R4.out.facts.2.2
 cases hq:aQ g4 x4.data.toList (tl4.map (·.data.toList)) with
 | none=>
  rw [hq] at hdone
  obtain ⟨rfl,ha5⟩:=hdone
  have HP:Hid (rdE s.data.toList=1):=by show _=_;unfold rdE;rw [if_neg HL.out,HT4.out,hq]
  have R5:=hid ((R4.out.apart ha5 (by omega)).keep (aA.alloc w5 (.cells #[.int .i64 0,.string ⟨#[]⟩,.int .i64 0,.int .i64 0,.int .i64 0,.string ⟨#[]⟩,.bool false,.string ⟨#[]⟩,.bool false,.slice none 0 0] 74)) (R4.out.apart ha5 (by omega)).facts.2.2)
  have K5:Hid (aA w (w5.alloc (.cells #[.int .i64 0,.string ⟨#[]⟩,.int .i64 0,.int .i64 0,.int .i64 0,.string ⟨#[]⟩,.bool false,.string ⟨#[]⟩,.bool false,.slice none 0 0] 74))):=aA.alloc' (Below.trans K4.out (ha5.below K4.out.size (fun b hb e=>by have:b=rb:=e;omega))) _
  clear ha5 hq
  unfold kJ
  go_upto_region 5 with fail
  generalize w5.alloc (.cells #[.int .i64 0,.string ⟨#[]⟩,.int .i64 0,.int .i64 0,.int .i64 0,.string ⟨#[]⟩,.bool false,.string ⟨#[]⟩,.bool false,.slice none 0 0] 74)=W5 at R5 K5 ⊢
  obtain ⟨hcr,hzr,hlr3⟩:=R5.out.facts
  go_wp2_with fail
  clear hcr hzr
  refine bC (.int .i64 (1)) R5.out rfl rfl ?_
  intro W BW KW SW OW
  obtain ⟨hcW,_,_⟩:=BW.out.facts
  refine ⟨by simp [results,Tryz.results190,go_sem,hcW],?_⟩
  show jF _ w _ W
  exact ⟨sO,by rw [HP.out];rfl,fun e=>absurd (HP.out.symm.trans e) (by decide),fun _=>rfl,Below.trans K5.out KW.out⟩
 | some r=>
  obtain ⟨t,rs⟩:=r
  rw [hq] at hdone
  obtain ⟨cs,ws5,rfl,hn5,hr5,hm5,ha5⟩:=hdone
  have HM5:Hid (ws5.map (·.data.toList)=rs):=hm5
  have HN5:Hid (aE (fun b=>w4.heap.size<=b/\b<w5.heap.size) w5 t cs):=hn5
  have HQ:=hid hq
  cases t with
  | node k' a' fl' nt' kids'=>
  rw [aE] at hn5
  obtain ⟨kp',kc',rfl,-,-,-⟩:=hn5
  have R5:=hid ((R4.out.apart ha5 (by omega)).keep (aA.alloc w5 (.cells #[.int .i64 k',.string a'.n,.int .i64 a'.op,.int .i64 a'.v,.int .i64 a'.sl,.string a'.f,.bool a'.on,.string fl',.bool nt',.slice kp' kids'.length kc'] 74)) (R4.out.apart ha5 (by omega)).facts.2.2)
  have C5:Hid (cC w5.heap.size #[.int .i64 k',.string a'.n,.int .i64 a'.op,.int .i64 a'.v,.int .i64 a'.sl,.string a'.f,.bool a'.on,.string fl',.bool nt',.slice kp' kids'.length kc'] (w5.alloc (.cells #[.int .i64 k',.string a'.n,.int .i64 a'.op,.int .i64 a'.v,.int .i64 a'.sl,.string a'.f,.bool a'.on,.string fl',.bool nt',.slice kp' kids'.length kc'] 74))):=cC.new _ _
  have K5:Hid (aA w (w5.alloc (.cells #[.int .i64 k',.string a'.n,.int .i64 a'.op,.int .i64 a'.v,.int .i64 a'.sl,.string a'.f,.bool a'.on,.string fl',.bool nt',.slice kp' kids'.length kc'] 74))):=aA.alloc' (Below.trans K4.out (ha5.below K4.out.size (fun b hb e=>by have:b=rb:=e;omega))) _
  have HR5:=hid (hr5.keep (aA.alloc w5 (.cells #[.int .i64 k',.string a'.n,.int .i64 a'.op,.int .i64 a'.v,.int .i64 a'.sl,.string a'.f,.bool a'.on,.string fl',.bool nt',.slice kp' kids'.length kc'] 74)))
  have HN6:Hid (aE (fun b=>w4.heap.size<=b/\b<w5.heap.size) (w5.alloc (.cells #[.int .i64 k',.string a'.n,.int .i64 a'.op,.int .i64 a'.v,.int .i64 a'.sl,.string a'.f,.bool a'.on,.string fl',.bool nt',.slice kp' kids'.length kc'] 74)) (.node k' a' fl' nt' kids') [.int .i64 k',.string a'.n,.int .i64 a'.op,.int .i64 a'.v,.int .i64 a'.sl,.string a'.f,.bool a'.on,.string fl',.bool nt',.slice kp' kids'.length kc']):=HN5.out.keep (fun b hb=>hb.2) (aA.alloc w5 (.cells #[.int .i64 k',.string a'.n,.int .i64 a'.op,.int .i64 a'.v,.int .i64 a'.sl,.string a'.f,.bool a'.on,.string fl',.bool nt',.slice kp' kids'.length kc'] 74))
  have hs45:w4.heap.size<=w5.heap.size:=ha5.size
  clear ha5 hq hm5 hr5
  go_upto_region 5 with fail
  have hs5:=aD w5 (.cells #[.int .i64 k',.string a'.n,.int .i64 a'.op,.int .i64 a'.v,.int .i64 a'.sl,.string a'.f,.bool a'.on,.string fl',.bool nt',.slice kp' kids'.length kc'] 74)
  generalize w5.alloc (.cells #[.int .i64 k',.string a'.n,.int .i64 a'.op,.int .i64 a'.v,.int .i64 a'.sl,.string a'.f,.bool a'.on,.string fl',.bool nt',.slice kp' kids'.length kc'] 74)=W5 at R5 C5 K5 HR5 HN6 hs5 ⊢
  obtain ⟨pp,cc,hvar,-,-,-⟩:=HR5.out.1
  obtain ⟨hcv,-,-⟩:=hvar.facts
  obtain ⟨hck,hzk,hlk⟩:=C5.out.facts
  have HS5:=hid hs5
  clear hvar hs5
  cases rs with
  | cons y rs'=>
   have HP:Hid (rdE s.data.toList=1):=by show _=_;unfold rdE;rw [if_neg HL.out,HT4.out,HQ.out]
   have hpos:(0:Int)<(ws5.length:Int):=by
    have:=congrArg List.length HM5.out
    simp at this;omega
   obtain ⟨hcr,hzr,hlr3⟩:=R5.out.facts
   go_wp2_with fail
   clear hcr hzr
   refine bC (.int .i64 (1)) R5.out rfl rfl ?_
   intro W BW KW SW OW
   obtain ⟨hcW,_,_⟩:=BW.out.facts
   refine ⟨by simp [results,Tryz.results190,go_sem,hcW],?_⟩
   show jF _ w _ W
   exact ⟨sO,by rw [HP.out];rfl,fun e=>absurd (HP.out.symm.trans e) (by decide),fun _=>rfl,Below.trans K5.out KW.out⟩
  | nil=>
   have HP:Hid (rdE s.data.toList=cJ (.node k' a' fl' nt' kids')):=by show _=_;unfold rdE;rw [if_neg HL.out,HT4.out,HQ.out]
   have HTX:Hid (gS s.data.toList=some (.node k' a' fl' nt' kids')):=by show _=_;rw [HT4.out,HQ.out]
   obtain rfl:ws5 = []:=by
    have:=congrArg List.length HM5.out
    simp at this
    exact this
   go_wp2_with fail
   refine (lC (.node k' a' fl' nt' kids') _ W5 (fun b=>w4.heap.size<=b/\b<w5.heap.size) (fun b hb=>by have:=HS5.out;omega) HN6.out).mono ?_
   rintro e w6 ⟨rfl,k6⟩
   have R6:=hid (R5.out.keep k6 R5.out.facts.2.2)
   have C6:=hid (C5.out.keep k6 C5.out.facts.2.2)
   have K6:=hid (K5.out.trans k6)
   have HN7:Hid (aE (fun b=>w4.heap.size<=b/\b<w5.heap.size) w6 (.node k' a' fl' nt' kids') [.int .i64 k',.string a'.n,.int .i64 a'.op,.int .i64 a'.v,.int .i64 a'.sl,.string a'.f,.bool a'.on,.string fl',.bool nt',.slice kp' kids'.length kc']):=HN6.out.keep (fun b hb=>by have:=HS5.out;omega) k6
   have hs6:=k6.size
   clear k6 hck hzk hcv
   obtain ⟨hck,hzk,hlk6⟩:=C6.out.facts
   have hwne:w.heap.size≠w5.heap.size:=by omega
   by_cases hz:cJ (.node k' a' fl' nt' kids')=0
   ·have HZ:=hid hz
    rw [hz]
    clear hz
    obtain ⟨hcr,hzr,hlr3⟩:=R6.out.facts
    go_wp2_with fail
    clear hcr hzr
    refine bC (.int .i64 (0)) R6.out rfl rfl ?_
    intro W BW KW SW OW
    obtain ⟨hcW,_,_⟩:=BW.out.facts
    refine ⟨by simp [results,Tryz.results190,go_sem,hcW],?_⟩
    show jF _ w _ W
    refine ⟨[.int .i64 k',.string a'.n,.int .i64 a'.op,.int .i64 a'.v,.int .i64 a'.sl,.string a'.f,.bool a'.on,.string fl',.bool nt',.slice kp' kids'.length kc'],by rw [HP.out,HZ.out],fun _=>⟨_,HTX.out,?_⟩,fun e=>absurd (HP.out.trans HZ.out) e,Below.trans K6.out KW.out⟩
    exact aE.mono (fun p hp=>World.cell?_of_block (w:=w6) (OW.out _ (by have:=HS5.out;omega))) (fun b hb=>⟨by omega,by have:=SW.out;have:=HS5.out;omega⟩) _ _ HN7.out
   ·have hz1:(cJ (.node k' a' fl' nt' kids') != 0)=true:=by simpa using hz
    have HZ:Hid (rdE s.data.toList≠0):=by show _≠_;rw [HP.out];exact hz
    clear hz
    generalize cJ (.node k' a' fl' nt' kids')=cc6 at hz1 HP ⊢
    obtain ⟨hcr,hzr,hlr3⟩:=R6.out.facts
    go_wp2_with fail
    clear hcr hzr
    refine bC (.int .i64 (cc6)) R6.out rfl rfl ?_
    intro W BW KW SW OW
    obtain ⟨hcW,_,_⟩:=BW.out.facts
    refine ⟨by simp [results,Tryz.results190,go_sem,hcW],?_⟩
    show jF _ w _ W
    exact ⟨sO,by rw [HP.out];rfl,fun e=>absurd e HZ.out,fun _=>rfl,Below.trans K6.out KW.out⟩
theorem rE (s:ByteArray) (w:World) (hE:Env w) (hM:gX w) :
  Calls Tryz.prog 190 #[.string s] w fun e w'=>jF s.data.toList w e w':=by
 by_cases h:20000<s.size
 ·exact qB s w h
 ·exact oL s w hE hM (by omega)
end Go.Proofs.YthaaaecmeafofaaGreatDoor
namespace Go.Proofs.YthaaaecmeafofaaGreatDoor
open Go.RowKit
end Go.Proofs.YthaaaecmeafofaaGreatDoor
namespace Go.Proofs.YthaaaecmeafofaaGreatDoor
open Go.RowKit
theorem eG {P:Program} {ops:Array Oper} {o:Oper} {a:Act} {w:World} {K:Act->World->Prop} {Q:Exit->Act->World->Prop} {E:Prop}
  (hg:o.guard=none) (s x:Operand) (t:TypeId) (hop:o.op=Op.call { callee:=Callee.builtin Builtin.append,args:=#[s,x],argTypes:=#[t,t] })
  (base:Nat) (e:TypeId) (i:TypeInfo) (z:Value) (size bytes:Nat) (ht:P.underlying t=some (.slice e)) (hi:P.info? e=some i) (hz:i.zero=some z)
  (hsize:i.size=size) (hby:i.bytes=bytes) (hzs:z.cells.size=size) (hsz:0<size)
  (v:Value) (n:Nat) (xs:List Value) (hs:a.eval s=v) (hown:w.ownsRow base e size v n xs)
  (ad:Addr) (m c:Nat) (news:List Value) (hx:a.eval x=.slice (some ad) m c) (hl:news.length=m*size) (hnews : ∀ j u,news[j]? = some u->w.cell? (ad.add j)=some u) (h1 : ∀ u∈news,u.oneCell'=true)
  (h63:n+m<=maxLen) (hbytes:(n+m)*bytes<=140737488355328) (hbase:base<=w.heap.size)
  (hK : ∀ v' w',w'.ownsRow base e size v' (n+m) (xs++news)->w.grownBy w' v.ownBlock->(v'.ownBlock=v.ownBlock∨v'.ownBlock=some w.heap.size)->K (a.put o.dst v') w') :
  if Region.wanted o (yielded ops a.tmps)=true then Oper.wp P o a w K Q else E:=by
 have hw:Region.wanted o (yielded ops a.tmps)=true:=by simp [Region.wanted,hg]
 rw [if_pos hw]
 obtain ⟨v',w',hr,h2,h3,-,h5⟩:=run_append_own_at (P:=P) w base t o.type e i z size bytes ht hi hz hsize hby hzs hsz v n xs hown ad m c news hl hnews h1 h63 hbytes hbase
 unfold Oper.wp
 simp [execOp,hop,resolve,invoke,builtin,hs,hx,hr,Result.andThen]
 exact hK v' w' h2 h3 h5
end Go.Proofs.YthaaaecmeafofaaGreatDoor
namespace Go.Proofs.YthaaaecmeafofaaGreatDoor
open Go.RowKit
end Go.Proofs.YthaaaecmeafofaaGreatDoor
namespace Go.Proofs.YthaaaecmeafofaaGreatDoor
open Go.RowKit
def dP {σ:Type} (Inv:σ->World->Prop) (Live:σ->Nat->Prop) (Own:World->Nat->Prop) (n:Nat) (w:World) (r:σ × Bool) (e:Ending) (w':World):Prop:=
 e=.returned (.bool r.2)/\Inv r.1 w'/\(r.2=true->Live r.1 n)/\aR Own w w'
structure sS {σ:Type} (F:Nat) (cap:Array Value) (S:Nat->Prop) (f:σ->NT->Int->σ × Bool) (Inv:σ->World->Prop) (Live:σ->Nat->Prop) (Own:World->Nat->Prop):Prop where
 keep : ∀ s w w',Inv s w->aA w w'->Inv s w'/\aR Own w w'/\∀ b,Own w' b->Own w b
 old : ∀ s w,Inv s w->∀ b,S b->b<w.heap.size/\¬ Own w b
 own : ∀ s w,Inv s w->∀ b,Own w b->b<w.heap.size
 call : ∀ n s t d cs w,Inv s w->Live s (n+1)->t.ok->aE S w t cs->Calls Tryz.prog F (#[.agg cs.toArray,.int .i64 d]++cap) w fun e w'=>dP Inv Live Own n w (f s t d) e w'
theorem aE.apartC {σ:Type} {F:Nat} {cap:Array Value} {S:Nat->Prop} {f:σ->NT->Int->σ × Bool} {Inv:σ->World->Prop} {Live:σ->Nat->Prop} {Own:World->Nat->Prop} (V:sS F cap S f Inv Live Own)
  {s:σ} {w w':World} (hi:Inv s w) (ha:aR Own w w') {t:NT} {cs:List Value} (h:aE S w t cs):aE S w' t cs:=
 aE.mono (fun p hp=>ha.cell p (V.old s w hi _ hp).1 (V.old s w hi _ hp).2) (fun _ h=>h) t cs h
theorem aT.apartC {σ:Type} {F:Nat} {cap:Array Value} {S:Nat->Prop} {f:σ->NT->Int->σ × Bool} {Inv:σ->World->Prop} {Live:σ->Nat->Prop} {Own:World->Nat->Prop} (V:sS F cap S f Inv Live Own)
  {s:σ} {w w':World} (hi:Inv s w) (ha:aR Own w w') {ts:List NT} {kp:Option Addr} {i:Nat} (h:aT S w ts kp i):aT S w' ts kp i:=
 aT.mono (fun p hp=>ha.cell p (V.old s w hi _ hp).1 (V.old s w hi _ hp).2) (fun _ h=>h) ts kp i h
theorem wF {σ:Type} {F:Nat} {cap:Array Value} {S:Nat->Prop} {f:σ->NT->Int->σ × Bool} {Inv:σ->World->Prop} {Live:σ->Nat->Prop} {Own:World->Nat->Prop} (V:sS F cap S f Inv Live Own)
  (hF : ∀ args w,(callFunc F args).run Tryz.prog w=.ok (.enter F args) w) :
  ∀ (m:Nat) (t:NT),t.size<=m->∀ (n:Nat) (s:σ) (d:Int) (cs:List Value) (w:World),Inv s w->Live s (t.size+n)->t.ok->aE S w t cs->
   Calls Tryz.prog 232 #[.agg cs.toArray,.int .i64 d,.func (.func F) #[] cap] w fun e w'=>dP Inv Live Own n w (bM aK f s t d) e w':=by
 intro m
 induction m with
 | zero=>
  rintro ⟨k,a,fl,nt,kids⟩ hm
  rw [NT.size] at hm;omega
 | succ m ih=>
  rintro ⟨k,a,fl,nt,kids⟩ hm n s d cs w hi hl hok hn
  rw [NT.size] at hm hl
  rw [show 1+aS kids+n=aS kids+n+1 by omega] at hl
  have HOK:Hid (okL kids):=by rw [NT.ok] at hok;exact hok.2
  have hn':=hn
  rw [aE] at hn
  obtain ⟨kp,kc,rfl,hcap,hmax,hkids⟩:=hn
  have hv : ∀ (w:World) (cs:List Value),Inv s w->aE S w (.node k a fl nt kids) cs->Calls Tryz.prog F (#[.agg cs.toArray,.int .i64 d]++cap) w fun e w'=>dP Inv Live Own (aS kids+n) w (f s (.node k a fl nt kids) d) e w':=fun w cs h1 h2=>V.call _ s _ d cs w h1 hl hok h2
  rw [show bM aK f s (.node k a fl nt kids) d=if (f s (.node k a fl nt kids) d).2=true then bD aK f (f s (.node k a fl nt kids) d).1 kids (aK d) else ((f s (.node k a fl nt kids) d).1,false) from by rw [bM]]
  generalize f s (.node k a fl nt kids) d=r at hv ⊢
  obtain ⟨s1,b1⟩:=r
  have hb0:=aH.new w #[.int .i64 k,.string a.n,.int .i64 a.op,.int .i64 a.v,.int .i64 a.sl,.string a.f,.bool a.on,.string fl,.bool nt,.slice kp kids.length kc] 74
  have K0:=aA.alloc w (.cells #[.int .i64 k,.string a.n,.int .i64 a.op,.int .i64 a.v,.int .i64 a.sl,.string a.f,.bool a.on,.string fl,.bool nt,.slice kp kids.length kc] 74)
  go_enter Tryz.func232,Tryz.ntmps232
  go_wp2_with fail
  generalize w.alloc (.cells #[.int .i64 k,.string a.n,.int .i64 a.op,.int .i64 a.v,.int .i64 a.sl,.string a.f,.bool a.on,.string fl,.bool nt,.slice kp kids.length kc] 74)=W0 at K0 hb0 ⊢
  obtain ⟨hi0,ha0,ho0⟩:=V.keep s w W0 hi K0
  have HB0:Hid (aH w.heap.size #[.int .i64 k,.string a.n,.int .i64 a.op,.int .i64 a.v,.int .i64 a.sl,.string a.f,.bool a.on,.string fl,.bool nt,.slice kp kids.length kc] W0):=hb0
  have hno : ¬ Own W0 w.heap.size:=fun h=>absurd (V.own s w hi _ (ho0 _ h)) (Nat.lt_irrefl _)
  refine (hv W0 _ hi0 (aE.apartC V hi ha0 hn')).mono ?_
  rintro e w1 ⟨rfl,hi1,hl1,ha1⟩
  have HB1:Hid (aH w.heap.size #[.int .i64 k,.string a.n,.int .i64 a.op,.int .i64 a.v,.int .i64 a.sl,.string a.f,.bool a.on,.string fl,.bool nt,.slice kp kids.length kc] w1):=
   ⟨Nat.lt_of_lt_of_le HB0.out.1 ha1.size,fun o=>(ha1.cell ⟨w.heap.size,o,none⟩ HB0.out.1 hno).trans (HB0.out.2 o)⟩
  have hk1:aT S w1 kids kp 0:=aT.apartC V hi (ha0.trans ha1) hkids
  have HA1:Hid (aR Own w w1):=ha0.trans ha1
  have hc1:=HB1.out.2
  have hb1:=HB1.out.1
  clear hn' hkids hb0 K0 hi0 ha0 ho0 HB0 hno ha1 hi hl HB1 hv hok
  cases b1
  ·go_wp2_with fail
   go_ret
   exact (show dP Inv Live Own n w (s1,false) _ _ from ⟨rfl,hi1,fun h=>(by cases h),HA1.out⟩)
  ·have HL1:Hid (Live s1 (aS kids+n)):=hl1 rfl
   have HI1:Hid (Inv s1 w1):=hi1
   have HK1:Hid (aT S w1 kids kp 0):=hk1
   clear hl1 hi1 hk1
   go_wp2_with fail
   go_loopw [17] (fun i wr=> ∃ j:Nat,j<=kids.length/\i=.int .i64 j/\∃ s',Inv s' wr/\Live s' (aS (kids.drop j)+n)/\bD aK f s1 kids (aK d)=bD aK f s' (kids.drop j) (aK d)/\aT S wr kids kp 0/\aR Own w wr) (fun i _=>kids.length-(intOf i).toNat)
   case atStart=>exact ⟨0,Nat.zero_le _,rfl,s1,HI1.out,by rw [List.drop_zero];exact HL1.out,by simp,HK1.out,HA1.out⟩
   case round=>
    obtain ⟨j,hj,rfl,s',hi',hl',he',hk',ha'⟩:=hrel
    have HI:Hid (Inv s' wr):=hi'
    have HL:Hid (Live s' (aS (kids.drop j)+n)):=hl'
    have HE:Hid (bD aK f s1 kids (aK d)=bD aK f s' (kids.drop j) (aK d)):=he'
    have HK:Hid (aT S wr kids kp 0):=hk'
    have HA:Hid (aR Own w wr):=ha'
    clear hi' hl' he' hk' ha' HL1 HI1 HK1 HA1 hc1
    by_cases hlt:j<kids.length
    ·have HE2:Hid (bD aK f s1 kids (aK d)=if (bM aK f s' kids[j] (aK d)).2=true then bD aK f (bM aK f s' kids[j] (aK d)).1 (kids.drop (j+1)) (aK d) else ((bM aK f s' kids[j] (aK d)).1,false)):=by
      show _=_
      rw [HE.out,pT aK f s' kids (aK d) j hlt]
     obtain ⟨p,cs,hp,hS,hcell,hneed⟩:=bY HK.out j hlt
     have hdr:aS (kids.drop j)=kids[j].size+aS (kids.drop (j+1)):=by rw [List.drop_eq_getElem_cons hlt,aS]
     have HLJ:Hid (Live s' (kids[j].size+(aS (kids.drop (j+1))+n))):=by have:=HL.out;rw [hdr,Nat.add_assoc] at this;exact this
     have hih:=ih kids[j] (by have:=cK kids j hlt;omega) (aS (kids.drop (j+1))+n) s' (aK d)
     clear hdr
     have HN:Hid (aE S wr kids[j] cs):=hneed
     subst hp
     rw [Nat.zero_add] at hcell
     cases hkid:kids[j] with
     | node k' a' fl' nt' kids'=>
     rw [hkid,aE] at hneed
     obtain ⟨kp',kc',rfl,-,-,-⟩:=hneed
     obtain ⟨c0,c1,c2,c3,c4,c5,c6,c7,c8,c9⟩:=eF hcell
     clear hcell
     have HIH:Hid (∀ (cs:List Value) (w:World),Inv s' w->Live s' (kids[j].size+(aS (kids.drop (j+1))+n))->kids[j].ok->aE S w kids[j] cs->Calls Tryz.prog 232 #[.agg cs.toArray,.int .i64 (aK d),.func (.func F) #[] cap] w fun e w'=>dP Inv Live Own (aS (kids.drop (j+1))+n) w (bM aK f s' kids[j] (aK d)) e w'):=hih
     clear hih ih
     have k2:=aA.alloc wr (.cells #[.int .i64 k',.string a'.n,.int .i64 a'.op,.int .i64 a'.v,.int .i64 a'.sl,.string a'.f,.bool a'.on,.string fl',.bool nt',.slice kp' kids'.length kc'] 74)
     obtain ⟨hi2,ha2,-⟩:=V.keep s' wr _ HI.out k2
     have hn2:=aE.apartC V HI.out ha2 HN.out
     have HI2:Hid (Inv s' (wr.alloc (.cells #[.int .i64 k',.string a'.n,.int .i64 a'.op,.int .i64 a'.v,.int .i64 a'.sl,.string a'.f,.bool a'.on,.string fl',.bool nt',.slice kp' kids'.length kc'] 74))):=hi2
     have HA2:Hid (aR Own wr (wr.alloc (.cells #[.int .i64 k',.string a'.n,.int .i64 a'.op,.int .i64 a'.v,.int .i64 a'.sl,.string a'.f,.bool a'.on,.string fl',.bool nt',.slice kp' kids'.length kc'] 74))):=ha2
     have HN2:Hid (aE S (wr.alloc (.cells #[.int .i64 k',.string a'.n,.int .i64 a'.op,.int .i64 a'.v,.int .i64 a'.sl,.string a'.f,.bool a'.on,.string fl',.bool nt',.slice kp' kids'.length kc'] 74)) kids[j] [Value.int IntKind.i64 k',Value.string a'.n,Value.int IntKind.i64 a'.op,Value.int IntKind.i64 a'.v,Value.int IntKind.i64 a'.sl,Value.string a'.f,Value.bool a'.on,Value.string fl',Value.bool nt',Value.slice kp' kids'.length kc']):=hn2
     clear hi2 ha2 hn2 k2 hkid
     go_wp2_with fail
     generalize wr.alloc (.cells #[.int .i64 k',.string a'.n,.int .i64 a'.op,.int .i64 a'.v,.int .i64 a'.sl,.string a'.f,.bool a'.on,.string fl',.bool nt',.slice kp' kids'.length kc'] 74)=W2 at HI2 HA2 HN2 ⊢
     clear c0 c1 c2 c3 c4 c5 c6 c7 c8 c9
     rw [show wrap64 (d+1)=aK d from rfl]
     refine (HIH.out _ W2 HI2.out HLJ.out (tI HOK.out j hlt) HN2.out).mono ?_
     rintro e w3 ⟨rfl,hi3,hl3,ha3⟩
     have HA3:Hid (aR Own wr w3):=HA2.out.trans ha3
     generalize bM aK f s' kids[j] (aK d)=r at HE2 hi3 hl3 ⊢
     obtain ⟨s3,b3⟩:=r
     have HI3:Hid (Inv s3 w3):=hi3
     clear hi3 ha3 HIH HE
     cases b3
     ·clear hl3
      go_wp2_with fail
      go_ret
      show dP Inv Live Own n w (bD aK f s1 kids (aK d)) _ _
      rw [HE2.out]
      exact ⟨rfl,HI3.out,fun h=>(by cases h),HA.out.trans HA3.out⟩
     ·have HL3:Hid (Live s3 (aS (kids.drop (j+1))+n)):=hl3 rfl
      clear hl3
      go_wp2_with fail
      go_roundw
      case rel=>exact ⟨j+1,by omega,by go_num,s3,HI3.out,HL3.out,HE2.out,aT.apartC V HI.out HA3.out HK.out,HA.out.trans HA3.out⟩
      case measure=>simp [intOf];omega
    ·go_wp2_with fail
     go_ret
     show dP Inv Live Own n w (bD aK f s1 kids (aK d)) _ _
     rw [HE.out,List.drop_eq_nil_of_le (by omega),bD]
     exact ⟨rfl,HI.out,fun _=>by have:=HL.out;rw [List.drop_eq_nil_of_le (by omega),aS,Nat.zero_add] at this;exact this,HA.out⟩
end Go.Proofs.YthaaaecmeafofaaGreatDoor
namespace Go.Proofs.YthaaaecmeafofaaGreatDoor
open Go.RowKit
mutual
def NT.flags:NT->List ByteArray
 | .node k _ fl _ kids=>(if k=5 then [fl] else [])++bX kids
def bX:List NT->List ByteArray
 | []=> []
 | t :: ts=>t.flags++bX ts
end
def fF (s:List ByteArray) (t:NT) (_:Int):List ByteArray × Bool:=match t with
 | .node k _ fl _ _=>(if k=5 then s ++ [fl] else s,true)
mutual
theorem aFz (inc:Int->Int) : ∀ (t:NT) (s:List ByteArray) (d:Int),bM inc fF s t d=(s++t.flags,true)
 | .node k a fl nt kids,s,d=>by
  have e:(fF s (.node k a fl nt kids) d).2=true:=rfl
  rw [bM,if_pos e,aFx,NT.flags]
  show ((if k=5 then s ++ [fl] else s)++bX kids,true)=_
  split<;>simp
theorem aFx (inc:Int->Int) : ∀ (ts:List NT) (s:List ByteArray) (d:Int),bD inc fF s ts d=(s++bX ts,true)
 | [],s,d=>by rw [bD,bX,List.append_nil]
 | t :: ts,s,d=>by rw [bD,aFz,if_pos rfl,aFx,bX,List.append_assoc]
end
mutual
theorem kM : ∀ t:NT,t.flags.length<=t.size
 | .node k a fl nt kids=>by
  have:=pE kids
  rw [NT.flags,NT.size,List.length_append]
  split<;>simp<;>omega
theorem pE : ∀ ts:List NT,(bX ts).length<=aS ts
 | []=>Nat.zero_le _
 | t :: ts=>by
  have:=kM t
  have:=pE ts
  rw [bX,aS,List.length_append];omega
end
def sT (c:Nat) (w:World) (b:Nat):Prop:=b=c∨∃ a l k,w.cell? ⟨c,0,none⟩=some (.slice (some a) l k)/\a.block=b
def eS (c:Nat) (s:List ByteArray) (w:World):Prop:= ∃ v,aB c 69 v w/\eU (c+1) v s w
theorem eS.keep {c:Nat} {s:List ByteArray} {w w':World} (h:eS c s w) (k:aA w w'):eS c s w':=by
 obtain ⟨v,h1,h2⟩:=h
 exact ⟨v,h1.keep k h1.facts.2.2,h2.keep k⟩
theorem eS.own {c:Nat} {s:List ByteArray} {w:World} (h:eS c s w) {b:Nat} (ho:sT c w b):c<=b/\b<w.heap.size:=by
 obtain ⟨v,h1,h2⟩:=h
 rcases ho with rfl | ⟨a,l,k,e,rfl⟩
 ·exact ⟨Nat.le_refl _,h1.facts.2.2⟩
 ·have hv:v=.slice (some a) l k:=Option.some.inj (h1.facts.1.symm.trans e)
  have:=cW h2 (g:=a.block) (by rw [hv];rfl)
  omega
theorem jL {c:Nat} {s:List ByteArray} {w w':World} (h:eS c s w) (k:aA w w'):aR (sT c) w w'/\∀ b,sT c w' b->sT c w b:=by
 obtain ⟨v,h1,h2⟩:=h
 have hc:w'.cell? ⟨c,0,none⟩=w.cell? ⟨c,0,none⟩:=k.cell (p:=⟨c,0,none⟩) h1.facts.2.2
 have ho : ∀ b,sT c w' b->sT c w b:=fun b hb=>by
  rcases hb with hb | ⟨a,l,kk,e,hb⟩
  ·exact Or.inl hb
  ·exact Or.inr ⟨a,l,kk,hc.symm.trans e,hb⟩
 exact ⟨⟨k.os,k.tape,k.output,k.size,fun b hb _=>k.block b hb,fun b _ hb=>ho b hb⟩,ho⟩
theorem xE {c:Nat} {s:List ByteArray} {fl:ByteArray} {w w1 w2:World} {v v':Value} {o:Obj} (hv:aB c 69 v w) (hw:eU (c+1) v s w) (k:aA w w1) (h1:w2.ownsRow (c+1) 9 1 v' (s.length+1) (s.map Value.string ++ [.string fl])) (h2:(w1.alloc o).grownBy w2 v.ownBlock)
  (h3:v'.ownBlock=v.ownBlock∨v'.ownBlock=some (w1.alloc o).heap.size):eS c (s ++ [fl]) (w2.setCell ⟨c,0,none⟩ v')/\aR (sT c) w (w2.setCell ⟨c,0,none⟩ v'):=by
 have hlt:=hv.facts.2.2
 have e:=aD w1 o
 have hv1:aB c 69 v w1:=hv.keep k hlt
 have hne:v.ownBlock≠some c:=fun e=>by have:=cW hw e;omega
 have k2:Below (c+1) (w1.alloc o) w2:=(Below.refl _ _).grown h2 (by have:=k.size;omega) (fun g hg=>(cW hw hg).1)
 have hv2:aB c 69 v w2:=(hv1.keep (aA.alloc w1 o) hv1.facts.2.2).keep k2 (Nat.lt_succ_self c)
 have hset:=hv2.set v'
 have hbl : ∀ b,b≠c->(w2.setCell ⟨c,0,none⟩ v').heap[b]? = w2.heap[b]? :=bG w2 c 0 v'
 have hsz:w.heap.size<=w2.heap.size:=by have:=k.size;have:=h2.size;omega
 refine ⟨⟨v',hset,?_⟩,?_⟩
 ·have hw2:eU (c+1) v' (s ++ [fl]) w2:=by unfold eU;simpa using h1
  obtain ⟨a1,a2⟩:=hw2
  refine ⟨a1,a2.imp id ?_⟩
  rintro ⟨g,cap,cur,e1,e2,e3,e4⟩
  exact ⟨g,cap,cur,e1,e2,by rw [hbl g (by omega)];exact e3,e4⟩
 ·have hs:=dT c w2 v'
  refine ⟨(hs.os.trans h2.os).trans k.os,(hs.tape.trans h2.tape).trans k.tape,(hs.output.trans h2.output).trans k.output,by have:=hs.size;omega,fun b hb ho=> ?_,fun b hb ho=> ?_⟩
  ·have hbc:b≠c:=fun e=>ho (Or.inl e)
   have hbv:v.ownBlock≠some b:=fun e=>by
    refine ho (Or.inr ?_)
    obtain ⟨-,⟨rfl,-⟩ | ⟨g,cap,cur,rfl,-⟩⟩:=hw
    ·cases e
    ·exact ⟨_,_,_,hv.facts.1,Option.some.inj e⟩
   rw [hbl b hbc,h2.block b (by have:=k.size;omega) (fun e=>hbv e.symm),(aA.alloc w1 o).block b (by have:=k.size;omega),k.block b hb]
  ·rcases ho with ho | ⟨a,l,kk,e2,rfl⟩
   ·exact Or.inl ho
   ·have e3:v'=.slice (some a) l kk:=Option.some.inj (hset.facts.1.symm.trans e2)
    rcases h3 with h3 | h3
    ·refine Or.inr ?_
     have:v.ownBlock=some a.block:=by rw [← h3,e3];rfl
     obtain ⟨-,⟨rfl,-⟩ | ⟨g,cap,cur,rfl,-⟩⟩:=hw
     ·cases this
     ·exact ⟨_,_,_,hv.facts.1,Option.some.inj this⟩
    ·have:some a.block=some (w1.alloc o).heap.size:=by rw [← h3,e3];rfl
     have:=Option.some.inj this
     have:=k.size
     omega
theorem dW {w w':World} (k:aA w.drew w'):aA w w':=⟨k.os,k.tape,k.output,k.size,k.block⟩
theorem aB.grown {c:Nat} {T:TypeId} {v:Value} {w w':World} {o:Obj} {row:Option Nat} (h:aB c T v w) (hg:(w.alloc o).grownBy w' row) (hne:row≠some c):aB c T v w':=by
 have h1:=h.keep (aA.alloc w o) h.facts.2.2
 have hl:=h1.facts.2.2
 unfold aB at *;rw [hg.block c hl (fun e=>hne e.symm)];exact h1
theorem xD (n c:Nat) (s:List ByteArray) (k:Int) (a:At) (fl:ByteArray) (nt:Bool) (kp:Option Addr) (len kc:Nat) (d:Int) (kids:List NT) (w:World) (hi:eS c s w) (hl:s.length+(n+1)<=1000) (hfl:k=5->fl.size<=8) :
  Calls Tryz.prog 233 #[.agg #[.int .i64 k,.string a.n,.int .i64 a.op,.int .i64 a.v,.int .i64 a.sl,.string a.f,.bool a.on,.string fl,.bool nt,.slice kp len kc],.int .i64 d,.pointer (some ⟨c,0,none⟩)] w
   fun e w'=>dP (eS c) (fun s n=>s.length+n<=1000) (sT c) n w (fF s (.node k a fl nt kids) d) e w':=by
 obtain ⟨i0,hi0,hz0,hz1,hz2⟩:=info_parts yO
 have k0:=hid (aA.alloc w (.cells #[.int .i64 k,.string a.n,.int .i64 a.op,.int .i64 a.v,.int .i64 a.sl,.string a.f,.bool a.on,.string fl,.bool nt,.slice kp len kc] 74))
 have hb0:Hid (aH w.heap.size #[.int .i64 k,.string a.n,.int .i64 a.op,.int .i64 a.v,.int .i64 a.sl,.string a.f,.bool a.on,.string fl,.bool nt,.slice kp len kc] (w.alloc (.cells #[.int .i64 k,.string a.n,.int .i64 a.op,.int .i64 a.v,.int .i64 a.sl,.string a.f,.bool a.on,.string fl,.bool nt,.slice kp len kc] 74))):=aH.new w #[.int .i64 k,.string a.n,.int .i64 a.op,.int .i64 a.v,.int .i64 a.sl,.string a.f,.bool a.on,.string fl,.bool nt,.slice kp len kc] 74
 have HI:=hid hi
 by_cases h5:k=5
 ·have h5':(k==5)=true:=by simp [h5]
  have hfl8:=hfl h5
  have HF:Hid (fF s (.node k a fl nt kids) d=(s ++ [fl],true)):=by show _=_;unfold fF;simp [h5]
  obtain ⟨v,hv,hw⟩:=hi
  clear h5 hfl
  go_enter Tryz.func233,Tryz.ntmps233
  go_upto_region 2 with fail
  generalize w.alloc (.cells #[.int .i64 k,.string a.n,.int .i64 a.op,.int .i64 a.v,.int .i64 a.sl,.string a.f,.bool a.on,.string fl,.bool nt,.slice kp len kc] 74)=W0 at k0 hb0 ⊢
  have HV:=hid hv
  have HW:=hid hw
  have hv0:=hv.keep k0.out hv.facts.2.2
  obtain ⟨hc0,hz00,hl0⟩:=hv0.facts
  have hbc:=hb0.out.2
  have hbl:=hb0.out.1
  have HV0:=hid hv0
  have HW0:=hid (hw.keep k0.out)
  have HNE:Hid (v.ownBlock≠some c):=fun e=>by have:=cW hw e;omega
  clear hv hw hv0
  go_region_law (first | (refine eG rfl _ _ 69 rfl (c+1) 9 i0 (.string ByteArray.empty) 1 16 Tryz.underlying69 hi0 hz0 hz1 hz2 rfl (by decide) v s.length (s.map Value.string) rfl (HW1.out.alloc _) ⟨w1.heap.size,0,none⟩ 1 1 [.string fl] rfl rfl fO aDk (by unfold maxLen;omega) (by omega) (by have:=aD w1 (.cells #[.string fl] 9);omega) ?_;intro v2 w2 h1 h2 h3;obtain ⟨g5,cap5,rfl⟩:=cN h1 (Nat.succ_pos _);obtain ⟨hc2,hz20,hl2⟩:=(HV1.out.grown h2 HNE.out).facts) | (go_simp;go_at_call 191;refine (kL fl _ (by omega)).mono ?_;rintro e w1 ⟨rfl,k1⟩;have HK1:=hid (dW k1);have HV1:=hid (HV0.out.keep HK1.out HV0.out.facts.2.2);have HW1:=hid (HW0.out.keep HK1.out);obtain ⟨hc1,hz10,hl1⟩:=HV1.out.facts;have hkl:=HK1.out.size;go_simp))
  all_goals
   have HP:=hid (xE (fl:=fl) (w1:=w1) (w2:=w2) (o:= .cells #[.string fl] 9) HV.out HW.out (k0.out.trans HK1.out) h1 h2 (by first | exact h3 | (rw [aD];exact h3)))
   go_wp2_with fail
   go_ret
   show dP _ _ _ _ w (fF s (.node k a fl nt kids) d) _ _
   rw [HF.out]
   exact ⟨rfl,HP.out.1,fun _=>by show (s ++ [fl]).length+n<=1000;simp;omega,HP.out.2⟩
 ·have h5':(k==5)=false:=by simp [h5]
  have HF:Hid (fF s (.node k a fl nt kids) d=(s,true)):=by show _=_;unfold fF;simp [h5]
  clear h5 hfl hi
  go_enter Tryz.func233,Tryz.ntmps233
  go_wp2_with fail
  go_ret
  show dP _ _ _ _ w (fF s (.node k a fl nt kids) d) _ _
  rw [HF.out]
  exact ⟨rfl,HI.out.keep k0.out,fun _=>by show s.length+n<=1000;omega,(jL HI.out k0.out).1⟩
end Go.Proofs.YthaaaecmeafofaaGreatDoor
namespace Go.Proofs.YthaaaecmeafofaaGreatDoor
open Go.RowKit Go.Sort
theorem sZ (c:Nat) (S:Nat->Prop) (hS : ∀ b,S b->b<c):sS 233 #[.pointer (some ⟨c,0,none⟩)] S fF (eS c) (fun s n=>s.length+n<=1000) (sT c) where
 keep s w w' hi k:=⟨hi.keep k,(jL hi k).1,(jL hi k).2⟩
 old s w hi b hb:=by
  refine ⟨?_,fun e=> ?_⟩
  ·obtain ⟨v,h1,-⟩:=hi
   exact Nat.lt_trans (hS b hb) h1.facts.2.2
  ·have:=hi.own e
   have:=hS b hb
   omega
 own s w hi b hb:=(hi.own hb).2
 call n s t d cs w hi hl hok hn:=by
  obtain ⟨k,a,fl,nt,kids⟩:=t
  rw [aE] at hn
  obtain ⟨kp,kc,rfl,-,-,-⟩:=hn
  refine xD n c s k a fl nt kp kids.length kc d kids w hi hl (fun h5=> ?_)
  rw [NT.ok] at hok
  rcases eI hok.1 with ⟨hk,-⟩ | ⟨hk,-⟩ | ⟨-,-,hn⟩
  ·omega
  ·omega
  ·have:=jY hn
   rw [aO] at this
   exact this
theorem uI (args:Array Value) (w:World):(callFunc 233 args).run Tryz.prog w=.ok (.enter 233 args) w:=enters_of Tryz.func233 (by kernel_rfl) rfl args w
def NT.sorted (t:NT):List (List UInt8):=Lib.compact ((t.flags.map (·.data.toList)).mergeSort fun x y=>decide (x<=y))
def fZ (v:Value) (fs:List (List UInt8)) (w:World):Prop:=(fs = []/\∃ p cap,v=.slice p 0 cap)∨∃ g cap,v=.slice (some ⟨g,0,none⟩) fs.length cap/\g<w.heap.size/\∀ (j:Nat) x,fs[j]? = some x->w.cell? ⟨g,0+j,none⟩=some (.string ⟨x.toArray⟩)
def yZ (t:NT) (w:World) (e:Ending) (w':World):Prop:=
 ∃ v,e=.returned (.tuple #[v,.int .i64 (cJ t)])/\(cJ t≠0->v=.slice none 0 0)/\(cJ t=0->fZ v t.sorted w')/\aA w w'
theorem jJ (zs:List (List UInt8)):(Lib.compact zs).length<=zs.length:=by
 unfold Lib.compact Lib.compactUpTo
 rw [List.length_map]
 exact Nat.le_trans (List.length_filter_le _ _) (by simp)
theorem hJ:Lib.compact ([]:List (List UInt8)) = []:=by rfl
theorem rD (t:NT) (cs:List Value) (w:World) (S:Nat->Prop) (hS : ∀ b,S b->b<w.heap.size) (hn:aE S w t cs) :
  Calls Tryz.prog 202 #[.agg cs.toArray] w fun e w'=>yZ t w e w':=by
 have HN:Hid (aE S w t cs):=hn
 cases ht:t with
 | node k a fl nt kids=>
 rw [ht,aE] at hn
 obtain ⟨kp,kc,rfl,-,-,-⟩:=hn
 rw [← ht]
 have hmf : ∀ (fn:Fn) (first cap:Array Value) (w:World),(Instr.makeFunc fn first cap).run Tryz.prog w=.ok (.func fn first cap) w:=fun _ _ _ _=>rfl
 have k0:=hid (aA.alloc w (.cells #[.int .i64 k,.string a.n,.int .i64 a.op,.int .i64 a.v,.int .i64 a.sl,.string a.f,.bool a.on,.string fl,.bool nt,.slice kp kids.length kc] 74))
 have hb0:Hid (aH w.heap.size #[.int .i64 k,.string a.n,.int .i64 a.op,.int .i64 a.v,.int .i64 a.sl,.string a.f,.bool a.on,.string fl,.bool nt,.slice kp kids.length kc] (w.alloc (.cells #[.int .i64 k,.string a.n,.int .i64 a.op,.int .i64 a.v,.int .i64 a.sl,.string a.f,.bool a.on,.string fl,.bool nt,.slice kp kids.length kc] 74))):=aH.new w #[.int .i64 k,.string a.n,.int .i64 a.op,.int .i64 a.v,.int .i64 a.sl,.string a.f,.bool a.on,.string fl,.bool nt,.slice kp kids.length kc] 74
 clear ht
 go_enter Tryz.func202,Tryz.ntmps202
 go_wp2_with fail
 generalize w.alloc (.cells #[.int .i64 k,.string a.n,.int .i64 a.op,.int .i64 a.v,.int .i64 a.sl,.string a.f,.bool a.on,.string fl,.bool nt,.slice kp kids.length kc] 74)=W0 at k0 hb0 ⊢
 refine (lC t _ W0 S (fun b hb=>Nat.lt_of_lt_of_le (hS b hb) k0.out.size) (HN.out.keep hS k0.out)).mono ?_
 rintro e w1 ⟨rfl,k1⟩
 have K1:Hid (aA w w1):=k0.out.trans k1
 have HB1:Hid (aH w.heap.size #[.int .i64 k,.string a.n,.int .i64 a.op,.int .i64 a.v,.int .i64 a.sl,.string a.f,.bool a.on,.string fl,.bool nt,.slice kp kids.length kc] w1):=hb0.out.keep k1 hb0.out.1
 have hc1:=HB1.out.2
 have hlt1:=HB1.out.1
 clear k1 hb0 k0
 by_cases hz:cJ t=0
 ·have HZ:Hid (cJ t=0):=hz
  rw [hz]
  clear hz
  obtain ⟨hlarge,hok⟩:=cQ.1 HZ.out
  have hsz:=(gU hlarge).1
  have HOK:=hid hok
  have V2:Hid (eS w1.heap.size [] (w1.alloc (.cells #[.slice none 0 0] 69))):=⟨_,aB.new w1 _ _,World.ownsRow_nil _ _ _ _⟩
  have K2:=hid (K1.out.alloc' (.cells #[.slice none 0 0] 69))
  clear hlarge hok
  go_wp2_with fail
  clear hc1
  generalize w1.alloc (.cells #[.slice none 0 0] 69)=W2 at V2 K2 ⊢
  refine (wF (sZ w1.heap.size S (fun b hb=>Nat.lt_of_lt_of_le (hS b hb) K1.out.size)) uI _ t (Nat.le_refl _) 0 [] 1 _ W2 V2.out (by show 0+(t.size+0)<=1000;omega) HOK.out (HN.out.keep hS K2.out)).mono ?_
  rintro e w3 ⟨rfl,hi3,-,ha3⟩
  rw [aFz] at hi3 ⊢
  obtain ⟨v,hv3,hw3⟩:=hi3
  have hw3':eU (w1.heap.size+1) v t.flags w3:=by simpa using hw3
  have K3:Hid (aA w w3):=Below.trans K2.out (ha3.below K2.out.size (fun b hb e=>by have:=V2.out.own e;have:=K1.out.size;omega))
  have HV3:=hid hv3
  have hfl:=kM t
  have hw1s:=K1.out.size
  obtain ⟨hcv,hzv,hlv⟩:=hv3.facts
  clear ha3 hw3 hv3
  obtain ⟨hlen,⟨rfl,h0⟩ | ⟨g,cap,cur,rfl,hbase,hb,hn1,hn2,hn3,hn4⟩⟩:=hw3'
  ·have hnil:Hid (t.sorted = []):=by
    show _=_
    have:t.flags = []:=List.length_eq_zero_iff.1 h0
    unfold NT.sorted
    rw [this,List.map_nil,List.mergeSort_nil];exact hJ
   go_wp2_with fail
   refine (Tryz.slices_Sort_string_none none 0 w3).mono ?_
   rintro e w4 ⟨rfl,hw4⟩
   rw [hw4]
   clear hw4
   go_wp2_with fail
   refine (Tryz.slices_Compact_string_empty none 0 w3).mono ?_
   rintro e w5 ⟨rfl,hw5⟩
   rw [hw5]
   clear hw5
   go_wp2_with fail
   go_ret2
   exact ⟨.slice none 0 0,by rw [HZ.out];rfl,fun h=>absurd HZ.out h,fun _=>Or.inl ⟨hnil.out,none,0,rfl⟩,K3.out⟩
  ·have hss:t.flags.map Value.string=(t.flags.map (·.data.toList)).map encStr:=by
    rw [List.map_map]
    apply List.map_congr_left
    intro x _
    show Value.string x=Value.string _
    rw [cB]
   rw [hss,Nat.mul_one] at hn4
   have hgl:=(Array.getElem?_eq_some_iff.1 hb).1
   have hln:(t.flags.map (·.data.toList)).length=t.flags.length:=by simp
   have hH:Holds encStr w3 g 0 (t.flags.map (·.data.toList)).toArray:=holds_of_block hb (by rw [hln];exact hn4)
   have HSRT:Hid (t.sorted=Lib.compact ((t.flags.map (·.data.toList)).mergeSort fun x y=>decide (x<=y))):=rfl
   generalize hFF:t.flags.map (·.data.toList)=FF at hH hln HSRT
   clear hFF hss hn4 hlen
   have hsort:=Tryz.slices_Sort_string g 0 cap FF w3 hH hgl (by omega)
   rw [hln] at hsort
   have HSORT:=hid hsort
   clear hsort
   go_wp2_with fail
   refine HSORT.out.mono ?_
   rintro e w4 ⟨rfl,nn,os,hw4⟩
   have hml:(FF.mergeSort fun x y=>decide (x<=y)).length=FF.length:=by simp
   have own4:=ownsRow_sorted (n:=nn) (os:=os) (ss:=FF) (ts:=FF.mergeSort fun x y=>decide (x<=y)) hml hbase hb (by omega) hn2 hn3
   have grow4:=grownBy_sorted (w:=w3) (g:=g) (n:=nn) (os:=os) (FF.mergeSort fun x y=>decide (x<=y)).toArray
   rw [← hw4] at own4 grow4
   clear hw4
   have HV4:Hid (aB w1.heap.size 69 (.slice (some ⟨g,0,none⟩) t.flags.length cap) w4):=by
    have:=HV3.out
    unfold aB at this
    show w4.heap[_]? = _
    rw [grow4.block _ hlv (fun e=>by have:=Option.some.inj e;omega)];exact this
   have K4:Hid (aA w w4):=Below.grown K3.out grow4 (by have:=K3.out.size;omega) (fun g' hg'=>by have:g=g':=Option.some.inj hg';omega)
   obtain ⟨-,⟨h,-⟩ | ⟨g2,cap2,cur2,e2,-,hb2,hm1,hm2,hm3,hm4⟩⟩:=own4
   ·cases h
   cases e2
   rw [Nat.mul_one] at hm4
   generalize FF.mergeSort (fun x y=>decide (x<=y))=GG at hml hm4 HSRT
   have hH2:Holds encStr w4 g 0 GG.toArray:=holds_of_block hb2 (by rw [hml];exact hm4)
   have hcomp:=Tryz.slices_Compact_string g 0 cap GG w4 hH2 (by omega) (by omega)
   rw [hml,hln] at hcomp
   have HCOMP:=hid hcomp
   obtain ⟨hcv4,hzv4,hlv4⟩:=HV4.out.facts
   have HB2:=hid hb2
   have hgl4:=(Array.getElem?_eq_some_iff.1 hb2).1
   clear hcomp hcv hzv grow4 hm4
   go_wp2_with fail
   refine HCOMP.out.mono ?_
   rintro e w5 ⟨rfl,qq,hw5⟩
   have hcl:=jJ GG
   have own5:=ownsRow_sorted (n:=qq) (os:=#[]) (ss:=GG) (ts:=Lib.compact GG++List.replicate (GG.length-(Lib.compact GG).length) []) (by simp;omega) hbase HB2.out (cap:=cap) (by omega) hm2 hm3
   have grow5:=grownBy_sorted (w:=w4) (g:=g) (n:=qq) (os:=#[]) (Lib.compact GG++List.replicate (GG.length-(Lib.compact GG).length) []).toArray
   rw [grow_empty,hml,hln] at own5
   rw [grow_empty,hml,hln] at grow5
   rw [← hw5] at own5 grow5
   clear hw5
   have K5:Hid (aA w w5):=Below.grown K4.out grow5 (by have:=K4.out.size;omega) (fun g' hg'=>by have:g=g':=Option.some.inj hg';omega)
   have HT5:Hid (fZ (.slice (some ⟨g,0,none⟩) (Lib.compact GG).length cap) t.sorted w5):=by
    refine Or.inr ⟨g,cap,by rw [HSRT.out],by have:=grow5.size;omega,fun j x hx=> ?_⟩
    rw [HSRT.out] at hx
    have hj:j<(Lib.compact GG).length:=(List.getElem?_eq_some_iff.1 hx).1
    obtain ⟨-,⟨h,-⟩ | ⟨g3,cap3,cur3,e3,-,hb3,-,-,-,hm5⟩⟩:=own5
    ·cases h
    cases e3
    have h1:=congrArg (·[j]?) hm5
    simp only [Nat.mul_one,List.getElem?_take,List.getElem?_map,List.getElem?_append_left hj,hx,Option.map_some] at h1
    rw [if_pos (by omega)] at h1
    simp only [World.cell?,hb3,Nat.zero_add]
    simpa [encStr] using h1
   clear own5 grow5
   go_wp2_with fail
   go_ret2
   exact ⟨_,by rw [HZ.out];rfl,fun h=>absurd HZ.out h,fun _=>HT5.out,K5.out⟩
 ·have hz':(cJ t==0)=false:=by simpa using hz
  have hz2:(cJ t != 0)=true:=by simpa using hz
  have HZ:Hid (cJ t≠0):=hz
  clear hz
  go_wp2_with fail
  go_ret2
  exact ⟨.slice none 0 0,rfl,fun _=>rfl,fun h=>absurd h HZ.out,K1.out⟩
end Go.Proofs.YthaaaecmeafofaaGreatDoor
