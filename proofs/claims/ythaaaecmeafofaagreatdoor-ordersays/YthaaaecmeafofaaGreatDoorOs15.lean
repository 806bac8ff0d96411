/- Steps of the proof: ResAts, OrdWant, EncRefCh, EncPair, EncRefSet, EncRefJoin, EncRefOk, OrdLeans. -/
import Derived.Test.YthaaaecmeafofaaGreatDoorOs11
import Derived.Test.YthaaaecmeafofaaGreatDoorOs14
import Derived.Lib.SliceRun
import Derived.Maps.AppendAt
import Derived.Test.YthaaaecmeafofaaGreatDoorOs13
import Derived.Test.YthaaaecmeafofaaGreatDoorOs12
import Derived.Laws.StructEq
set_option maxHeartbeats 16000000
set_option maxRecDepth 100000
namespace Go.Proofs.YthaaaecmeafofaaGreatDoor
open Go.RowKit Go.Lib
def clA (a:At):List Value:= [.string a.n,.int .i64 a.op,.int .i64 a.v,.int .i64 a.sl,.string a.f,.bool a.on]
def kF (ts:List At):List Value:=ts.flatMap clA
theorem sG (a:At) (ts:List At):kF (a :: ts)=clA a++kF ts:=by simp [kF]
theorem aDu (xs ys:List At):kF (xs++ys)=kF xs++kF ys:=by simp [kF]
theorem yX : ∀ (ts:List At) (j c:Nat),c<6->(kF ts)[j*6+c]? = (ts[j]?).bind fun a=>(clA a)[c]?
 | [],j,c,_=>by simp [kF]
 | a :: ts,0,c,hc=>by
  rw [sG,Nat.zero_mul,Nat.zero_add,List.getElem?_append_left (by simp [clA];omega)];rfl
 | a :: ts,j+1,c,hc=>by
  rw [sG,List.getElem?_append_right (by simp [clA];omega),show (j+1)*6+c-(clA a).length=j*6+c by simp [clA];omega,yX ts j c hc]
  rfl
theorem aDv (ts:List At) : ∀ u∈kF ts,u.oneCell'=true:=fun u hu=>by
 obtain ⟨a,-,h⟩:=List.mem_flatMap.1 hu
 simp only [clA,List.mem_cons,List.not_mem_nil,or_false] at h
 rcases h with rfl | rfl | rfl | rfl | rfl | rfl<;>rfl
theorem aFu {S:Nat->Prop} {w:World} {ts:List At} {b off cap:Nat} (hb:0<ts.length->S b) (hl:ts.length<=9223372036854775807) (h : ∀ j u,(kF ts)[j]? = some u->w.cell? ⟨b,off+j,none⟩=some u):fV S w ts (.slice (some ⟨b,off,none⟩) ts.length cap):=by
 refine ⟨_,_,rfl,hl,fun h0=>⟨b,off,rfl,hb h0,fun j a ha=> ?_⟩⟩
 have g : ∀ c u,c<6->(clA a)[c]? = some u->w.cell? ⟨b,off+j*6+c,none⟩=some u:=fun c u hc hu=>by
  rw [Nat.add_assoc]
  exact h (j*6+c) u (by rw [yX ts j c hc,ha];exact hu)
 exact ⟨g 0 _ (by decide) rfl,g 1 _ (by decide) rfl,g 2 _ (by decide) rfl,g 3 _ (by decide) rfl,g 4 _ (by decide) rfl,g 5 _ (by decide) rfl⟩
def jB (B:Nat) (v:Value) (ts:List At) (w:World):Prop:=w.ownsRow B 71 6 v ts.length (kF ts)
theorem jB.is {B:Nat} {v:Value} {ts:List At} {w:World} (h:jB B v ts w):fV (fun b=>B<=b/\b<w.heap.size) w ts v:=by
 obtain ⟨-,⟨rfl,h0⟩ | ⟨g,cap,cur,rfl,hg,ho,hn,hm,hs,ht⟩⟩:=h
 ·obtain rfl:ts = []:=List.length_eq_zero_iff.1 h0
  exact ⟨_,_,rfl,by simp,fun h=>absurd h (by simp)⟩
 ·have hlt:g<w.heap.size:=(Array.getElem?_eq_some_iff.1 ho).1
  refine aFu (fun _=>⟨hg,hlt⟩) (by unfold maxLen at hm;omega) fun j u hu=> ?_
  rw [Nat.zero_add]
  rw [← ht,List.getElem?_take] at hu
  split at hu
  ·rw [Array.getElem?_toList] at hu
   simp only [World.cell?,ho]
   simpa using hu
  ·cases hu
theorem aGo:(Tryz.prog.info? 71).map (fun i=>(i.zero,i.size,i.bytes))=some (some (.agg #[.string ⟨#[]⟩,.int .i64 0,.int .i64 0,.int .i64 0,.string ⟨#[]⟩,.bool false]),6,64):=by kernel_rfl
end Go.Proofs.YthaaaecmeafofaaGreatDoor
namespace Go.Proofs.YthaaaecmeafofaaGreatDoor
open Go.RowKit Go.Sort Go.Lib
structure gI (B ba cm cp cw:Nat) (mcs pcs:Array Value) (v:Value) (acc:List At) (w:World):Prop where
 var:aB ba 43 v w
 own:jB B v acc w
 mb:aH cm mcs w
 pk:aH cp pcs w
 self:aB cw 163 (.func (.func 107) #[] #[.pointer (some ⟨ba,0,none⟩),.pointer (some ⟨cm,0,none⟩),.pointer (some ⟨cp,0,none⟩),.pointer (some ⟨cw,0,none⟩)]) w
theorem gI.keep {B ba cm cp cw:Nat} {mcs pcs:Array Value} {v:Value} {acc:List At} {w w':World} (h:gI B ba cm cp cw mcs pcs v acc w) (k:aA w w'):gI B ba cm cp cw mcs pcs v acc w':=
 ⟨h.var.keep k h.var.facts.2.2,cS h.own k,h.mb.keep k h.mb.1,h.pk.keep k h.pk.1,h.self.keep k h.self.facts.2.2⟩
theorem aCc (a:At) : ∀ u∈clA a,u.oneCell'=true:=fun u hu=>aDv [a] u (by simpa [kF] using hu)
theorem aH.other {b c o:Nat} {cs:Array Value} {w:World} {x:Value} (h:aH b cs w) (hb:b≠c):aH b cs (w.setCell ⟨c,o,none⟩ x):=
 ⟨by rw [cO];exact h.1,fun i=>(World.cell?_of_block (bG w c o x b hb)).trans (h.2 i)⟩
theorem gI.push {B0 B ba cm cp cw:Nat} {mcs pcs:Array Value} {v v':Value} {acc:List At} {a:At} {w w':World} {o:Obj} (hlt:B0<=ba/\ba<B/\cm<B/\cp<B/\cw<B/\cm≠ba/\cp≠ba/\cw≠ba) (hB:B<=w.heap.size) (h:gI B ba cm cp cw mcs pcs v acc w)
  (h1:w'.ownsRow B 71 6 v' (acc.length+1) (kF acc++clA a)) (h2:(w.alloc o).grownBy w' v.ownBlock):gI B ba cm cp cw mcs pcs v' (acc ++ [a]) (w'.setCell ⟨ba,0,none⟩ v')/\Below B0 w (w'.setCell ⟨ba,0,none⟩ v')/\aB ba 43 v w'/\∀ c,c<w.heap.size->v.ownBlock≠some c->c≠ba->(w'.setCell ⟨ba,0,none⟩ v').heap[c]? = w.heap[c]? :=by
 obtain ⟨l1,l2,l3,l4,l5,n1,n2,n3⟩:=hlt
 have hk:Below B w w':=Below.grown ((Below.refl B w).alloc hB o) h2 (by have:=aD w o;omega) (fun g hg=>(cW h.own hg).1)
 have hv:aB ba 43 v w':=h.var.keep hk l2
 have hap:=dT ba w' v'
 have h1':jB B v' (acc ++ [a]) w':=by
  unfold jB
  rw [List.length_append,aDu,show kF [a]=clA a by simp [kF]]
  exact h1
 refine ⟨⟨hv.set _,Cn.iW h1' fun g hg=>bG w' ba 0 v' g (by have:=(cW h1' hg).1;omega),(h.mb.keep hk l3).other n1,(h.pk.keep hk l4).other n2,(h.self.keep hk l5).apart hap n3⟩,Below.trans (hk.mono (by omega)) ((aM w' ba 0 v').mono l1),hv,fun c hc hne hcb=>by
  rw [bG w' ba 0 v' c hcb,h2.block c (by rw [aD];omega) (fun e=>hne e.symm)]
  exact (aA.alloc w o).block c hc⟩
theorem nW (args:Array Value) (w:World):(callFunc 107 args).run Tryz.prog w=.ok (.enter 107 args) w:=enters_of Tryz.func107 (by kernel_rfl) rfl args w
theorem aBk (S:Nat->Prop) (p:PK) (m:MB) (B0 B ba cm cp cw:Nat) (mcs pcs:Array Value) (op fp:Option Addr) (oc fc:Nat) (hlt:B0<=ba/\ba<B/\cm<B/\cp<B/\cw<B/\cm≠ba/\cp≠ba/\cw≠ba) (hS : ∀ b,S b->b<B0) (hmc:mcs[1]? = some (.slice op m.on.length oc)) (hpc:pcs[3]? = some (.slice fp p.fl.length fc)) (hon:m.on.length=p.fl.length) (_hom:m.on.length<=9223372036854775807) :
  ∀ (s:Nat) (t:NT),t.size<=s->(∀ f∈t.flags,aY p.fl f<p.fl.length)->∀ (cs:List Value) (acc:List At) (v:Value) (w:World),B<=w.heap.size->gI B ba cm cp cw mcs pcs v acc w->aN S w m.on (.slice op m.on.length oc)->bT S w p.fl (.slice fp p.fl.length fc)->aE S w t cs->acc.length+t.size<=1000->
  Calls Tryz.prog 107 #[.agg cs.toArray,.pointer (some ⟨ba,0,none⟩),.pointer (some ⟨cm,0,none⟩),.pointer (some ⟨cp,0,none⟩),.pointer (some ⟨cw,0,none⟩)] w fun e w'=>e=.returned (.tuple #[])/\Below B0 w w'/\∃ v',gI B ba cm cp cw mcs pcs v' (acc++cF p m t) w'/\(cF p m t).length<=t.size:=by
 intro s
 induction s with
 | zero=>
  rintro ⟨kd,a,fl,nt,kids⟩ hm
  rw [NT.size] at hm;omega
 | succ s ih=>
  rintro ⟨kd,a,fl,nt,kids⟩ hm hfl cs acc v w hB hwm hbl hst hn hsz
  rw [NT.size] at hm hsz
  rw [aE] at hn
  obtain ⟨kp,kc,rfl,hcap,hmax,hkids⟩:=hn
  have hent:=nW
  obtain ⟨i0,hi,hz0,hz1,hz2⟩:=info_parts aGo
  have HLT:=hid hlt
  have HK:=hid hkids
  have HIH:=hid ih
  have HWM:=hid hwm
  have HFL:=hid hfl
  have HBL:=hid hbl
  have HST:=hid hst
  have HMC:=hid hmc
  have HPC:=hid hpc
  have HON:=hid hon
  have HSZ:Hid (acc.length+(1+aS kids)<=1000):=hsz
  have HB0:Hid (B0<=B/\B<=w.heap.size):=⟨by omega,hB⟩
  have KB0:=hid (aA.alloc w (.cells #[.int .i64 kd,.string a.n,.int .i64 a.op,.int .i64 a.v,.int .i64 a.sl,.string a.f,.bool a.on,.string fl,.bool nt,.slice kp kids.length kc] 74))
  have HBX:Hid (aH w.heap.size #[.int .i64 kd,.string a.n,.int .i64 a.op,.int .i64 a.v,.int .i64 a.sl,.string a.f,.bool a.on,.string fl,.bool nt,.slice kp kids.length kc] (w.alloc (.cells #[.int .i64 kd,.string a.n,.int .i64 a.op,.int .i64 a.v,.int .i64 a.sl,.string a.f,.bool a.on,.string fl,.bool nt,.slice kp kids.length kc] 74))):=aH.new w #[.int .i64 kd,.string a.n,.int .i64 a.op,.int .i64 a.v,.int .i64 a.sl,.string a.f,.bool a.on,.string fl,.bool nt,.slice kp kids.length kc] 74
  clear ih hkids hwm hfl hbl hst hmc hpc hlt hB hsz hon
  go_enter Tryz.func107,Tryz.ntmps107
  go_upto_region 1 with fail
  generalize w.alloc (.cells #[.int .i64 kd,.string a.n,.int .i64 a.op,.int .i64 a.v,.int .i64 a.sl,.string a.f,.bool a.on,.string fl,.bool nt,.slice kp kids.length kc] 74)=W0 at KB0 HBX ⊢
  have hc0:=HBX.out.2
  have hl0:=HBX.out.1
  have HM0:=hid (HWM.out.keep KB0.out)
  have HK0:Hid (Below B0 w W0):=KB0.out.mono (by have:=HB0.out;omega)
  by_cases h1:kd=1
  ·subst h1
   have HXE:Hid (cF p m (.node 1 a fl nt kids)=a :: dE p m kids):=by show _=_;rw [cF,if_pos rfl]
   have HO0:=hid HM0.out.own
   obtain ⟨hbv,hbf,hbb⟩:=HM0.out.var.facts
   go_upto_region 7 with (at_builtin;go_loud (refine wpList_append_own_at _ rfl _ _ 43 rfl B 71 i0 (.agg #[.string ⟨#[]⟩,.int .i64 0,.int .i64 0,.int .i64 0,.string ⟨#[]⟩,.bool false]) 6 64 Tryz.underlying43 hi hz0 hz1 hz2 rfl (by decide) v acc.length (kF acc) rfl (World.ownsRow.alloc HO0.out _) ⟨W0.heap.size,0,none⟩ 1 1 (clA a) rfl rfl eA (aCc a) (by unfold maxLen;have:=HSZ.out;omega) (by have:=HSZ.out;omega) (by rw [aD];have:=HB0.out;have:=KB0.out.size;omega) ?_;intro v5 w5 h1 h2 _ h4;obtain ⟨g5,cap5,rfl⟩:=Cn.cN h1 (Nat.succ_pos _);have P5:=hid (gI.push HLT.out (by have:=HB0.out;have:=KB0.out.size;omega) HM0.out h1 h2);have hbl5:=P5.out.2.2.1.facts.2.2;have hbc5:=P5.out.2.2.1.facts.1;have hbf5:=P5.out.2.2.1.facts.2.1;clear h1 h2 h4))
   have HBX2:=hid (show aH w.heap.size #[.int .i64 1,.string a.n,.int .i64 a.op,.int .i64 a.v,.int .i64 a.sl,.string a.f,.bool a.on,.string fl,.bool nt,.slice kp kids.length kc] (w5.setCell ⟨ba,0,none⟩ (.slice (some ⟨g5,0,none⟩) (acc.length+1) cap5)) from ⟨by rw [cO];have:=P5.out.2.1.size;rw [cO] at this;omega,fun o=>(World.cell?_of_block (P5.out.2.2.2 w.heap.size hl0 (fun e=>by have:=(cW HWM.out.own e).2;omega) (by have:=HLT.out;have:=HB0.out;omega))).trans (hc0 o)⟩)
   refine aZ (fun W'=>gI B ba cm cp cw mcs pcs (.slice (some ⟨g5,0,none⟩) (acc.length+1) cap5) (acc ++ [a]) W'/\Below B0 W0 W'/\aH w.heap.size #[.int .i64 1,.string a.n,.int .i64 a.op,.int .i64 a.v,.int .i64 a.sl,.string a.f,.bool a.on,.string fl,.bool nt,.slice kp kids.length kc] W') ?_ ?_
   ·exact ⟨P5.out.1,P5.out.2.1,HBX2.out⟩
   rintro W6 ⟨m6,k6,b6⟩
   have HM6:=hid m6
   have K6:=hid (Below.trans HK0.out k6)
   have hc6:=b6.2
   have hl6:=b6.1
   clear m6 k6 b6 hbv hbf hbb P5 hbl5 hbc5 hbf5 HBX2 hc0 hl0
   go_wp2_with fail
   clear hc6
   go_loopg [36] kids.length (fun gk i wr=> ∃ (j:Nat) (acc':List At) (v':Value),j+gk=kids.length/\i=.int .i64 j/\gI B ba cm cp cw mcs pcs v' acc' wr/\Below B0 w wr/\acc'.length+aS (kids.drop j)<=acc.length+(1+aS kids)/\acc'++dE p m (kids.drop j)=acc++cF p m (.node 1 a fl nt kids))
   case atStart=>exact ⟨0,acc ++ [a],_,by simp,rfl,HM6.out,K6.out,by simp;omega,by rw [HXE.out];simp⟩
   case round=>
    obtain ⟨j,acc',v',hj,rfl,hwm',hkp,hn',hput⟩:=hrel
    have HM:=hid hwm'
    have HP:=hid hput
    have HA:=hid hkp
    have HN':=hid hn'
    clear hwm' hput hkp hn'
    by_cases hlt:j<kids.length
    ·obtain ⟨pp,cs,hp,hSp,hcell,hneed⟩:=bY HK.out j hlt
     have HN:=hid hneed
     have HDR:Hid (dE p m (kids.drop j)=cF p m kids[j]++dE p m (kids.drop (j+1))):=by show _=_;rw [List.drop_eq_getElem_cons hlt,dE]
     have HDS:Hid (aS (kids.drop j)=kids[j].size+aS (kids.drop (j+1))):=by show _=_;rw [List.drop_eq_getElem_cons hlt,aS]
     have HFJ:Hid (∀ f∈kids[j].flags,aY p.fl f<p.fl.length):=fun f hf=>HFL.out f (kO 1 a fl nt kids j hlt f hf)
     have hih:=HIH.out kids[j] (by have:=cK kids j hlt;omega) HFJ.out
     subst hp
     rw [Nat.zero_add] at hcell
     cases hkid:kids[j] with
     | node k' a' fl' nt' kids'=>
     rw [hkid,aE] at hneed
     obtain ⟨kp',kc',rfl,-,-,-⟩:=hneed
     have hcell' : ∀ m v,([.int .i64 k',.string a'.n,.int .i64 a'.op,.int .i64 a'.v,.int .i64 a'.sl,.string a'.f,.bool a'.on,.string fl',.bool nt',.slice kp' kids'.length kc']:List Value)[m]? = some v->wr.cell? ((pp.add (j*10)).add m)=some v:=fun m v hv=>(HA.out.cell (p:=(pp.add (j*10)).add m) (by rw [aX,aX];exact hS _ hSp)).trans (hcell m v hv)
     obtain ⟨c0,c1,c2,c3,c4,c5,c6,c7,c8,c9⟩:=eF hcell'
     clear hcell hcell' hkid
     have KA:=hid (aA.alloc wr (.cells #[.int .i64 k',.string a'.n,.int .i64 a'.op,.int .i64 a'.v,.int .i64 a'.sl,.string a'.f,.bool a'.on,.string fl',.bool nt',.slice kp' kids'.length kc'] 74))
     have HA2:=hid (Below.trans HA.out (Below.mono KA.out (by have:=HB0.out;have:=HA.out.size;omega)))
     have HM2:=hid (HM.out.keep KA.out)
     obtain ⟨hcv,-,hlv⟩:=aB.facts HM.out.self
     have HIJ:=hid (hih [.int .i64 k',.string a'.n,.int .i64 a'.op,.int .i64 a'.v,.int .i64 a'.sl,.string a'.f,.bool a'.on,.string fl',.bool nt',.slice kp' kids'.length kc'] acc' v' _ (by have:=HA2.out.size;have:=HB0.out;omega) HM2.out (HBL.out.keep hS HA2.out) (HST.out.keep hS HA2.out) (aE.mono (fun p hp=>HA2.out.cell (p:=p) (hS _ hp)) (fun _ h=>h) _ _ HN.out) (by have:=HDS.out;have:=HN'.out;have:=HSZ.out;omega))
     clear hih
     generalize kids[j]=tj at HDR HDS HIJ HFJ HN
     go_wp2_with fail
     clear c0 c1 c2 c3 c4 c5 c6 c7 c8 c9
     refine HIJ.out.mono ?_
     rintro e w3 ⟨rfl,ha3,v3,hm3,hl3⟩
     have HM3:=hid hm3
     have HL3:=hid hl3
     have HA3:=hid (Below.trans HA2.out ha3)
     clear hm3 ha3 hcv hl3
     go_wp2_with fail
     go_roundg (kids.length-(j+1))
     case measure=>omega
     case rel=>exact ⟨j+1,acc'++cF p m tj,v3,by omega,by go_num,HM3.out,HA3.out,by have:=HDS.out;have:=HN'.out;have:=HL3.out;rw [List.length_append];omega,by rw [List.append_assoc,← HDR.out,HP.out]⟩
    ·have HX:Hid (acc++cF p m (.node 1 a fl nt kids)=acc'):=by show _=_;rw [← HP.out,List.drop_eq_nil_of_le (by omega),dE,List.append_nil]
     have HX2:Hid ((cF p m (.node 1 a fl nt kids)).length<=(NT.node 1 a fl nt kids).size):=by
      have h1:=congrArg List.length HX.out
      have h2:=HN'.out
      rw [List.length_append] at h1
      rw [NT.size]
      show _<=_
      omega
     go_wp2_with fail
     try simp only [Exit.inBlock,Exit.then]
     refine bodyPost_end (results_none rfl _ _ _) rfl ?_
     refine ⟨rfl,HA.out,v',?_,HX2.out⟩
     rw [HX.out]
     exact HM.out
  ·have b1:(kd==1)=false:=by simp [h1]
   by_cases h5:kd=5
   ·have HFA:=hid (HFL.out fl (by rw [NT.flags,if_pos h5];simp))
    subst h5
    clear h1 b1
    have HXE:Hid (cF p m (.node 5 a fl nt kids)=if (m.on.getD (aY p.fl fl) false==nt)=true then [] else dE p m kids):=by
     show _=_
     rw [cF,if_neg (by decide)]
     simp only [true_and]
    have hqo:aY p.fl fl<m.on.length:=by rw [HON.out];exact HFA.out
    obtain ⟨ob,ooff,hop,hSo,hcell⟩:=(HBL.out.keep hS HK0.out).cell hqo
    subst hop
    have hob:ob<W0.heap.size:=by have:=hS ob hSo;have:=HB0.out;have:=KB0.out.size;omega
    have hcm1:W0.cell? ⟨cm,1,none⟩=some (.slice (some ⟨ob,ooff,none⟩) m.on.length oc):=(HM0.out.mb.2 1).trans HMC.out
    have hcml:=HM0.out.mb.1
    have hcp3:W0.cell? ⟨cp,3,none⟩=some (.slice fp p.fl.length fc):=(HM0.out.pk.2 3).trans HPC.out
    have hcpl:=HM0.out.pk.1
    have HST0:=hid (HST.out.keep hS HK0.out)
    generalize hqe:aY p.fl fl=q at hqo hcell HXE HFA
    have HQE:=hid hqe
    generalize m.on.getD q false=β at hcell HXE
    have hq:=hid (show ∀ n,Calls Tryz.prog 61 #[.slice fp p.fl.length fc,.string fl] (W0.drewN n) fun e w''=>e=.returned (.int .i64 (q:Int))/\∃ n',w''=W0.drewN n' from fun n=>by
     refine (nJ S p.fl _ fl (W0.drewN n) (HST0.out.mono (fun _ _=>rfl) fun _ h=>h)).mono ?_
     rintro e w' ⟨rfl,rfl⟩
     exact ⟨by rw [HQE.out,if_pos HFA.out],n,rfl⟩)
    clear hqe
    go_upto_region 5 with fail
    go_quiet ((go_at_call 61;exact hq.out _))
    have k3:aA W0 (W0.drewN nq):=aA.drewN (aA.refl _) _
    generalize W0.drewN nq=W3 at k3
    have HM3:=hid (HM0.out.keep k3)
    have HK3:Hid (Below B0 w W3):=(KB0.out.trans k3).mono (by have:=HB0.out;omega)
    have B3:=hid (HBX.out.keep k3 HBX.out.1)
    have hc3:=B3.out.2
    have hl3:=B3.out.1
    clear k3 hcell hcm1 hcml hcp3 hcpl hq hc0 hl0
    cases hβ:(β==nt)
    ·have HXE2:Hid (cF p m (.node 5 a fl nt kids)=dE p m kids):=by show _=_;rw [HXE.out,hβ];rfl
     clear HXE
     go_wp2_with fail
     clear hc3
     go_loopg [36] kids.length (fun gk i wr=> ∃ (j:Nat) (acc':List At) (v':Value),j+gk=kids.length/\i=.int .i64 j/\gI B ba cm cp cw mcs pcs v' acc' wr/\Below B0 w wr/\acc'.length+aS (kids.drop j)<=acc.length+(1+aS kids)/\acc'++dE p m (kids.drop j)=acc++cF p m (.node 5 a fl nt kids))
     case atStart=>exact ⟨0,acc,v,by simp,rfl,HM3.out,HK3.out,by rw [List.drop_zero];omega,by rw [HXE2.out];rfl⟩
     case round=>
      obtain ⟨j,acc',v',hj,rfl,hwm',hkp,hn',hput⟩:=hrel
      have HM:=hid hwm'
      have HP:=hid hput
      have HA:=hid hkp
      have HN':=hid hn'
      clear hwm' hput hkp hn'
      by_cases hlt:j<kids.length
      ·obtain ⟨pp,cs,hp,hSp,hcell,hneed⟩:=bY HK.out j hlt
       have HN:=hid hneed
       have HDR:Hid (dE p m (kids.drop j)=cF p m kids[j]++dE p m (kids.drop (j+1))):=by show _=_;rw [List.drop_eq_getElem_cons hlt,dE]
       have HDS:Hid (aS (kids.drop j)=kids[j].size+aS (kids.drop (j+1))):=by show _=_;rw [List.drop_eq_getElem_cons hlt,aS]
       have HFJ:Hid (∀ f∈kids[j].flags,aY p.fl f<p.fl.length):=fun f hf=>HFL.out f (kO 5 a fl nt kids j hlt f hf)
       have hih:=HIH.out kids[j] (by have:=cK kids j hlt;omega) HFJ.out
       subst hp
       rw [Nat.zero_add] at hcell
       cases hkid:kids[j] with
       | node k' a' fl' nt' kids'=>
       rw [hkid,aE] at hneed
       obtain ⟨kp',kc',rfl,-,-,-⟩:=hneed
       have hcell' : ∀ m v,([.int .i64 k',.string a'.n,.int .i64 a'.op,.int .i64 a'.v,.int .i64 a'.sl,.string a'.f,.bool a'.on,.string fl',.bool nt',.slice kp' kids'.length kc']:List Value)[m]? = some v->wr.cell? ((pp.add (j*10)).add m)=some v:=fun m v hv=>(HA.out.cell (p:=(pp.add (j*10)).add m) (by rw [aX,aX];exact hS _ hSp)).trans (hcell m v hv)
       obtain ⟨c0,c1,c2,c3,c4,c5,c6,c7,c8,c9⟩:=eF hcell'
       clear hcell hcell' hkid
       have KA:=hid (aA.alloc wr (.cells #[.int .i64 k',.string a'.n,.int .i64 a'.op,.int .i64 a'.v,.int .i64 a'.sl,.string a'.f,.bool a'.on,.string fl',.bool nt',.slice kp' kids'.length kc'] 74))
       have HA2:=hid (Below.trans HA.out (Below.mono KA.out (by have:=HB0.out;have:=HA.out.size;omega)))
       have HM2:=hid (HM.out.keep KA.out)
       obtain ⟨hcv,-,hlv⟩:=aB.facts HM.out.self
       have HIJ:=hid (hih [.int .i64 k',.string a'.n,.int .i64 a'.op,.int .i64 a'.v,.int .i64 a'.sl,.string a'.f,.bool a'.on,.string fl',.bool nt',.slice kp' kids'.length kc'] acc' v' _ (by have:=HA2.out.size;have:=HB0.out;omega) HM2.out (HBL.out.keep hS HA2.out) (HST.out.keep hS HA2.out) (aE.mono (fun p hp=>HA2.out.cell (p:=p) (hS _ hp)) (fun _ h=>h) _ _ HN.out) (by have:=HDS.out;have:=HN'.out;have:=HSZ.out;omega))
       clear hih
       generalize kids[j]=tj at HDR HDS HIJ HFJ HN
       go_wp2_with fail
       clear c0 c1 c2 c3 c4 c5 c6 c7 c8 c9
       refine HIJ.out.mono ?_
       rintro e w3 ⟨rfl,ha3,v3,hm3,hl3⟩
       have HM3:=hid hm3
       have HL3:=hid hl3
       have HA3:=hid (Below.trans HA2.out ha3)
       clear hm3 ha3 hcv hl3
       go_wp2_with fail
       go_roundg (kids.length-(j+1))
       case measure=>omega
       case rel=>exact ⟨j+1,acc'++cF p m tj,v3,by omega,by go_num,HM3.out,HA3.out,by have:=HDS.out;have:=HN'.out;have:=HL3.out;rw [List.length_append];omega,by rw [List.append_assoc,← HDR.out,HP.out]⟩
      ·have HX:Hid (acc++cF p m (.node 5 a fl nt kids)=acc'):=by show _=_;rw [← HP.out,List.drop_eq_nil_of_le (by omega),dE,List.append_nil]
       have HX2:Hid ((cF p m (.node 5 a fl nt kids)).length<=(NT.node 5 a fl nt kids).size):=by
        have h1:=congrArg List.length HX.out
        have h2:=HN'.out
        rw [List.length_append] at h1
        rw [NT.size]
        show _<=_
        omega
       go_wp2_with fail
       try simp only [Exit.inBlock,Exit.then]
       refine bodyPost_end (results_none rfl _ _ _) rfl ?_
       refine ⟨rfl,HA.out,v',?_,HX2.out⟩
       rw [HX.out]
       exact HM.out
    ·have HXE2:Hid (cF p m (.node 5 a fl nt kids) = []):=by show _=_;rw [HXE.out,hβ];rfl
     clear HXE
     go_wp2_with fail
     refine bodyPost_ret (results_none rfl _ _ _) rfl ?_
     refine ⟨rfl,HK3.out,v,?_,?_⟩
     ·rw [HXE2.out,List.append_nil];exact HM3.out
     ·rw [HXE2.out];exact Nat.zero_le _
   ·have b5:(kd==5)=false:=by simp [h5]
    have HXE:Hid (cF p m (.node kd a fl nt kids)=dE p m kids):=by show _=_;rw [cF,if_neg h1,if_neg (fun h=>h5 h.1)]
    clear h1 h5
    go_wp2_with fail
    clear hc0 b1 b5
    go_loopg [36] kids.length (fun gk i wr=> ∃ (j:Nat) (acc':List At) (v':Value),j+gk=kids.length/\i=.int .i64 j/\gI B ba cm cp cw mcs pcs v' acc' wr/\Below B0 w wr/\acc'.length+aS (kids.drop j)<=acc.length+(1+aS kids)/\acc'++dE p m (kids.drop j)=acc++cF p m (.node kd a fl nt kids))
    case atStart=>exact ⟨0,acc,v,by simp,rfl,HM0.out,HK0.out,by rw [List.drop_zero];omega,by rw [HXE.out];rfl⟩
    case round=>
     obtain ⟨j,acc',v',hj,rfl,hwm',hkp,hn',hput⟩:=hrel
     have HM:=hid hwm'
     have HP:=hid hput
     have HA:=hid hkp
     have HN':=hid hn'
     clear hwm' hput hkp hn'
     by_cases hlt:j<kids.length
     ·obtain ⟨pp,cs,hp,hSp,hcell,hneed⟩:=bY HK.out j hlt
      have HN:=hid hneed
      have HDR:Hid (dE p m (kids.drop j)=cF p m kids[j]++dE p m (kids.drop (j+1))):=by show _=_;rw [List.drop_eq_getElem_cons hlt,dE]
      have HDS:Hid (aS (kids.drop j)=kids[j].size+aS (kids.drop (j+1))):=by show _=_;rw [List.drop_eq_getElem_cons hlt,aS]
      have HFJ:Hid (∀ f∈kids[j].flags,aY p.fl f<p.fl.length):=fun f hf=>HFL.out f (kO kd a fl nt kids j hlt f hf)
      have hih:=HIH.out kids[j] (by have:=cK kids j hlt;omega) HFJ.out
      subst hp
      rw [Nat.zero_add] at hcell
      cases hkid:kids[j] with
      | node k' a' fl' nt' kids'=>
      rw [hkid,aE] at hneed
      obtain ⟨kp',kc',rfl,-,-,-⟩:=hneed
      have hcell' : ∀ m v,([.int .i64 k',.string a'.n,.int .i64 a'.op,.int .i64 a'.v,.int .i64 a'.sl,.string a'.f,.bool a'.on,.string fl',.bool nt',.slice kp' kids'.length kc']:List Value)[m]? = some v->wr.cell? ((pp.add (j*10)).add m)=some v:=fun m v hv=>(HA.out.cell (p:=(pp.add (j*10)).add m) (by rw [aX,aX];exact hS _ hSp)).trans (hcell m v hv)
      obtain ⟨c0,c1,c2,c3,c4,c5,c6,c7,c8,c9⟩:=eF hcell'
      clear hcell hcell' hkid
      have KA:=hid (aA.alloc wr (.cells #[.int .i64 k',.string a'.n,.int .i64 a'.op,.int .i64 a'.v,.int .i64 a'.sl,.string a'.f,.bool a'.on,.string fl',.bool nt',.slice kp' kids'.length kc'] 74))
      have HA2:=hid (Below.trans HA.out (Below.mono KA.out (by have:=HB0.out;have:=HA.out.size;omega)))
      have HM2:=hid (HM.out.keep KA.out)
      obtain ⟨hcv,-,hlv⟩:=aB.facts HM.out.self
      have HIJ:=hid (hih [.int .i64 k',.string a'.n,.int .i64 a'.op,.int .i64 a'.v,.int .i64 a'.sl,.string a'.f,.bool a'.on,.string fl',.bool nt',.slice kp' kids'.length kc'] acc' v' _ (by have:=HA2.out.size;have:=HB0.out;omega) HM2.out (HBL.out.keep hS HA2.out) (HST.out.keep hS HA2.out) (aE.mono (fun p hp=>HA2.out.cell (p:=p) (hS _ hp)) (fun _ h=>h) _ _ HN.out) (by have:=HDS.out;have:=HN'.out;have:=HSZ.out;omega))
      clear hih
      generalize kids[j]=tj at HDR HDS HIJ HFJ HN
      go_wp2_with fail
      clear c0 c1 c2 c3 c4 c5 c6 c7 c8 c9
      refine HIJ.out.mono ?_
      rintro e w3 ⟨rfl,ha3,v3,hm3,hl3⟩
      have HM3:=hid hm3
      have HL3:=hid hl3
      have HA3:=hid (Below.trans HA2.out ha3)
      clear hm3 ha3 hcv hl3
      go_wp2_with fail
      go_roundg (kids.length-(j+1))
      case measure=>omega
      case rel=>exact ⟨j+1,acc'++cF p m tj,v3,by omega,by go_num,HM3.out,HA3.out,by have:=HDS.out;have:=HN'.out;have:=HL3.out;rw [List.length_append];omega,by rw [List.append_assoc,← HDR.out,HP.out]⟩
     ·have HX:Hid (acc++cF p m (.node kd a fl nt kids)=acc'):=by show _=_;rw [← HP.out,List.drop_eq_nil_of_le (by omega),dE,List.append_nil]
      have HX2:Hid ((cF p m (.node kd a fl nt kids)).length<=(NT.node kd a fl nt kids).size):=by
       have h1:=congrArg List.length HX.out
       have h2:=HN'.out
       rw [List.length_append] at h1
       rw [NT.size]
       show _<=_
       omega
      go_wp2_with fail
      try simp only [Exit.inBlock,Exit.then]
      refine bodyPost_end (results_none rfl _ _ _) rfl ?_
      refine ⟨rfl,HA.out,v',?_,HX2.out⟩
      rw [HX.out]
      exact HM.out
theorem jB.lower {B B':Nat} {v:Value} {ts:List At} {w:World} (h:jB B v ts w) (hB:B'<=B):jB B' v ts w:=by
 obtain ⟨h1,h2⟩:=h
 refine ⟨h1,h2.imp id ?_⟩
 rintro ⟨g,cap,cur,e1,e2,e3⟩
 exact ⟨g,cap,cur,e1,by omega,e3⟩
theorem aBl (S:Nat->Prop) (p:PK) (cs:List Value) (m:MB) (op:Option Addr) (oc:Nat) (w:World) (hS : ∀ b,S b->b<w.heap.size) (hp:cZ S w p cs) (hb:aN S w m.on (.slice op m.on.length oc)) (hon:m.on.length=p.fl.length) (hom:m.on.length<=9223372036854775807) (hfl : ∀ f∈p.nd.flags,aY p.fl f<p.fl.length) (hsz:p.nd.size<=1000) :
  Calls Tryz.prog 44 #[.agg cs.toArray,.agg #[.int .i64 m.pl,.slice op m.on.length oc]] w fun e w'=> ∃ v,e=.returned v/\fV (fun b=>w.heap.size<=b/\b<w'.heap.size) w' (mW p m) v/\aA w w':=by
 obtain ⟨kk,a,fl,nt,kids,kp,fp,kc,fc,hnd,hfm,rfl,hf,hn⟩:=hp.spelt
 have HF:=hid hf
 have HB:=hid hb
 have HN:=hid hn
 have HFL:=hid hfl
 have HON:=hid hon
 have HS:=hid hS
 have HSZ:=hid hsz
 have HWT:Hid (mW p m = []++cF p m p.nd):=rfl
 clear hp hf hb hn hfl hon hsz hS
 rcases p with ⟨n,pv,sl,fs,nd⟩
 rcases m with ⟨pl,on⟩
 simp only at HON HB HF HN hom hfm hnd HFL HSZ HWT ⊢
 have hmf : ∀ (fn:Fn) (first cap:Array Value) (w:World),(Instr.makeFunc fn first cap).run Tryz.prog w=.ok (.func fn first cap) w:=fun _ _ _ _=>rfl
 have hent:=nW
 go_enter Tryz.func44,Tryz.ntmps44
 go_upto_region 1 with fail
 refine aZ (fun W'=>aA w W'/\aH w.heap.size #[.string n,.int .i64 pv,.int .i64 sl,.slice fp fs.length fc,.int .i64 kk,.string a.n,.int .i64 a.op,.int .i64 a.v,.int .i64 a.sl,.string a.f,.bool a.on,.string fl,.bool nt,.slice kp kids.length kc] W'/\aH (w.heap.size+1) #[.int .i64 pl,.slice op on.length oc] W'/\W'.heap.size=w.heap.size+2) ⟨(aA.alloc _ _).alloc' _,(aH.new _ _ _).keep (aA.alloc _ _) (by simp),?_,by simp⟩ ?_
 ·have:=aH.new (w.alloc (.cells #[.string n,.int .i64 pv,.int .i64 sl,.slice fp fs.length fc,.int .i64 kk,.string a.n,.int .i64 a.op,.int .i64 a.v,.int .i64 a.sl,.string a.f,.bool a.on,.string fl,.bool nt,.slice kp kids.length kc] 76)) #[.int .i64 pl,.slice op on.length oc] 64
  rw [aD] at this;exact this
 rintro W0 ⟨k0,b0,b1,z0⟩
 have K0:=hid k0
 have B0:=hid b0
 have B1:=hid b1
 have Z0:=hid z0
 clear k0 b0 b1 z0
 go_upto_region 3 with fail
 refine aZ (fun W'=>aA W0 W'/\aB W0.heap.size 43 (.slice none 0 0) W'/\aB (W0.heap.size+1) 163 .nilFunc W'/\W'.heap.size=W0.heap.size+2) ⟨(aA.alloc _ _).alloc' _,(aB.new _ _ _).keep (aA.alloc _ _) (by simp),?_,by simp⟩ ?_
 ·have:=aB.new (W0.alloc (.cells #[.slice none 0 0] 43)) 163 .nilFunc
  rw [aD] at this;exact this
 rintro W1 ⟨k1,v0,v1,z1⟩
 have hz0:W0.heap.size=w.heap.size+2:=Z0.out
 rw [hz0] at v0 v1 z1 ⊢
 have K1:=hid k1
 have V0:=hid v0
 have V1:=hid v1
 have Z1:=hid z1
 clear k1 v0 v1 z1
 obtain ⟨h0,hh0⟩ : ∃ h0,h0=w.heap.size:=⟨_,rfl⟩
 have HH0:=hid hh0
 have HBW:Hid (h0=w.heap.size/\W0.heap.size=h0+2):=⟨hh0,by omega⟩
 rw [← hh0] at B0 B1 V0 V1 Z1 ⊢
 clear hz0 Z0 hh0
 obtain ⟨hvc,hvf,hvl⟩:=V1.out.facts
 have HQ:=hid (show gI (h0+4) (h0+2) (h0+1) h0 (h0+3) #[.int .i64 pl,.slice op on.length oc] #[.string n,.int .i64 pv,.int .i64 sl,.slice fp fs.length fc,.int .i64 kk,.string a.n,.int .i64 a.op,.int .i64 a.v,.int .i64 a.sl,.string a.f,.bool a.on,.string fl,.bool nt,.slice kp kids.length kc] (.slice none 0 0) [] (W1.setCell ⟨h0+2+1,0,none⟩ (.func (.func 107) #[] #[.pointer (some ⟨h0+2,0,none⟩),.pointer (some ⟨h0+1,0,none⟩),.pointer (some ⟨h0,0,none⟩),.pointer (some ⟨h0+3,0,none⟩)]))/\aA w (W1.setCell ⟨h0+2+1,0,none⟩ (.func (.func 107) #[] #[.pointer (some ⟨h0+2,0,none⟩),.pointer (some ⟨h0+1,0,none⟩),.pointer (some ⟨h0,0,none⟩),.pointer (some ⟨h0+3,0,none⟩)]))/\h0+4<=(W1.setCell ⟨h0+2+1,0,none⟩ (.func (.func 107) #[] #[.pointer (some ⟨h0+2,0,none⟩),.pointer (some ⟨h0+1,0,none⟩),.pointer (some ⟨h0,0,none⟩),.pointer (some ⟨h0+3,0,none⟩)])).heap.size from by
  have hap:=dT (h0+2+1) W1 (.func (.func 107) #[] #[.pointer (some ⟨h0+2,0,none⟩),.pointer (some ⟨h0+1,0,none⟩),.pointer (some ⟨h0,0,none⟩),.pointer (some ⟨h0+3,0,none⟩)])
  have h3:=HBW.out
  refine ⟨⟨V0.out.apart hap (by omega),World.ownsRow_nil _ _ _ _,(B1.out.keep K1.out B1.out.1).other (by omega),(B0.out.keep K1.out B0.out.1).other (by omega),V1.out.set _⟩,Below.trans (K0.out.trans K1.out) ((aM W1 (h0+2+1) 0 _).mono (by omega)),by rw [cO];have:=Z1.out;omega⟩)
 go_upto_region 4 with fail
 refine aZ (fun W'=>gI (h0+4) (h0+2) (h0+1) h0 (h0+3) #[.int .i64 pl,.slice op on.length oc] #[.string n,.int .i64 pv,.int .i64 sl,.slice fp fs.length fc,.int .i64 kk,.string a.n,.int .i64 a.op,.int .i64 a.v,.int .i64 a.sl,.string a.f,.bool a.on,.string fl,.bool nt,.slice kp kids.length kc] (.slice none 0 0) [] W'/\aA w W'/\h0+4<=W'.heap.size) ?_ ?_
 ·exact HQ.out
 rintro W2 ⟨m2,k2,z2⟩
 have M2:=hid m2
 have K2:=hid k2
 have Z2:=hid z2
 clear m2 k2 z2 HQ hvc hvf hvl V0 V1 K1 Z1 B0 B1
 obtain ⟨hsc,-,hsl⟩:=M2.out.self.facts
 have hpc:=M2.out.pk.2
 have hpl:=M2.out.pk.1
 go_wp2_with fail
 clear hsc hpc
 have hcall:=aBk S ⟨n,pv,sl,fs,nd⟩ ⟨pl,on⟩ h0 (h0+4) (h0+2) (h0+1) h0 (h0+3) #[.int .i64 pl,.slice op on.length oc] #[.string n,.int .i64 pv,.int .i64 sl,.slice fp fs.length fc,.int .i64 kk,.string a.n,.int .i64 a.op,.int .i64 a.v,.int .i64 a.sl,.string a.f,.bool a.on,.string fl,.bool nt,.slice kp kids.length kc] op fp oc fc (by omega) (fun b hb=>by rw [HH0.out];exact HS.out b hb) rfl rfl HON.out hom nd.size nd (Nat.le_refl _) HFL.out _ [] (.slice none 0 0) W2 Z2.out M2.out (HB.out.keep HS.out K2.out) (HF.out.keep HS.out K2.out) (HN.out.keep HS.out K2.out) (by have:=HSZ.out;simpa using this)
 refine Calls.mono hcall ?_
 rintro e w5 ⟨rfl,k5,v5,m5,-⟩
 have M5:=hid m5
 have K5:=hid (show aA w w5 from Below.trans K2.out (by rw [← HH0.out];exact k5))
 clear k5 m5 hcall
 obtain ⟨hvc,-,hvl⟩:=M5.out.var.facts
 go_wp2_with fail
 go_ret
 refine ⟨_,rfl,?_,K5.out⟩
 rw [HWT.out]
 have:=(M5.out.own.lower (B':=w.heap.size) (by have:=HH0.out;omega)).is
 exact this
end Go.Proofs.YthaaaecmeafofaaGreatDoor
namespace Go.Proofs.YthaaaecmeafofaaGreatDoor
open Go.RowKit Go.Lib
def plI (ms:List MB):List Int:=ms.map fun m=>m.pl
end Go.Proofs.YthaaaecmeafofaaGreatDoor
namespace Go.Proofs.YthaaaecmeafofaaGreatDoor
theorem aCj {l:List Int} (h : ∀ k,0<k->k<l.length->l.getD (k-1) 0<l.getD k 0) (i:Nat) : ∀ d,i+d+1<l.length->l.getD i 0<l.getD (i+d+1) 0
 | 0,hl=>by have:=h (i+1) (by omega) hl;simpa using this
 | d+1,hl=>by
  have h1:=aCj h i d (by omega)
  have h2:=h (i+(d+1)+1) (by omega) hl
  rw [show i+(d+1)+1-1=i+d+1 by omega] at h2
  omega
theorem aFv {l:List Int} (h : ∀ k,0<k->k<l.length->l.getD (k-1) 0<l.getD k 0):l.Pairwise (· < ·):=by
 rw [List.pairwise_iff_getElem]
 intro i j hi hj hij
 have h1:=aCj h i (j-i-1) (by omega)
 rw [show i+(j-i-1)+1=j by omega] at h1
 rw [List.getD_eq_getElem?_getD,List.getD_eq_getElem?_getD,List.getElem?_eq_getElem hi,List.getElem?_eq_getElem hj] at h1
 exact h1
theorem aFy {l:List Int} (h : ∀ k,0<k->k<l.length->l.getD (k-1) 0<l.getD k 0) (h0 : ∀ x∈l,0<=x) : ∀ k,k<l.length->(k:Int)<=l.getD k 0
 | 0,hk=>by
  have:=h0 (l.getD 0 0) (by rw [List.getD_eq_getElem?_getD,List.getElem?_eq_getElem hk];exact List.getElem_mem hk)
  simpa using this
 | k+1,hk=>by
  have h1:=aFy h h0 k (by omega)
  have h2:=h (k+1) (by omega) hk
  rw [Nat.add_sub_cancel] at h2
  omega
theorem yS (ms:List MB) (k:Nat):(plI ms).getD k 0=(ms.getD k MB.zero).pl:=by
 unfold plI
 rw [List.getD_eq_getElem?_getD,List.getD_eq_getElem?_getD,List.getElem?_map]
 cases ms[k]? <;> rfl
theorem fG {ps:List PK} {ms:List MB} (h:bP ps ms=0):ps.length<=8/\(∀ p∈ps,p.fl.length<=2)/\(plI ms).Pairwise (· < ·)/\(∀ x∈plI ms,0<=x/\x<ps.length)/\ms.length<=8/\yK ps ms:=by
 have hok:=aDy h
 have ht:dO ps=0:=by
  unfold bP at h
  by_cases e:dO ps=0
  ·exact e
  ·rw [if_pos e] at h;exact h
 have hs:nG ps ms=0:=by unfold bP at h;rw [ht] at h;simpa using h
 have hz:=(fL ms.length 0).1 hs
 obtain ⟨h8,hp⟩:=jH ht
 have hup : ∀ k,0<k->k<(plI ms).length->(plI ms).getD (k-1) 0<(plI ms).getD k 0:=fun k h0 hk=>by
  have hk2:k<ms.length:=by simpa [plI] using hk
  have h1:=hz k hk2
  rw [Nat.zero_add] at h1
  rw [yS,yS]
  unfold mbE at h1
  by_cases e1:(ms.getD k MB.zero).pl<0∨(ps.length:Int)<=(ms.getD k MB.zero).pl
  ·rw [if_pos e1] at h1;omega
  ·rw [if_neg e1] at h1
   by_cases e2:0<k/\(ms.getD k MB.zero).pl<=(ms.getD (k-1) MB.zero).pl
   ·rw [if_pos e2] at h1;omega
   ·omega
 have hin : ∀ x∈plI ms,0<=x/\x<ps.length:=fun x hx=>by
  obtain ⟨m,hm,rfl⟩:=List.mem_map.1 hx
  obtain ⟨i,hi⟩:=List.mem_iff_getElem?.1 hm
  exact ⟨(hok i m hi).1,(hok i m hi).2.1⟩
 have hlen:ms.length<=8:=by
  by_cases h0:ms.length=0
  ·omega
  ·have hl:(plI ms).length=ms.length:=by simp [plI]
   have h1:=aFy hup (fun x hx=>(hin x hx).1) (ms.length-1) (by omega)
   have h2:=(hin ((plI ms).getD (ms.length-1) 0) (by rw [List.getD_eq_getElem?_getD,List.getElem?_eq_getElem (by omega)];exact List.getElem_mem _)).2
   omega
 refine ⟨h8,fun p hpm=> ?_,aFv hup,hin,hlen,hok⟩
 have h1:=hp p hpm
 by_cases h2:2<p.fl.length
 ·have h3:bZ p.fl=2:=by unfold bZ;rw [if_pos h2]
  unfold dC at h1
  rw [h3] at h1
  split at h1
  ·omega
  ·split at h1
   ·omega
   ·simp at h1
 ·omega
end Go.Proofs.YthaaaecmeafofaaGreatDoor
namespace Go.Proofs.YthaaaecmeafofaaGreatDoor
open Go.RowKit Go.Sort Go.Lib
def aL (l:List Nat):List Int:=l.map fun (i:Nat)=>(i:Int)
def cG (S:Nat->Prop) (w:World) (L:List (List Int)) (v:Value):Prop:=
 ∃ (p:Option Addr) (cap:Nat),v=.slice p L.length cap/\L.length<=9223372036854775807/\(0<L.length->∃ b off,p=some ⟨b,off,none⟩/\S b/\∀ (j:Nat) (zs:List Int),L[j]? = some zs->∃ rv,w.cell? ⟨b,off+j,none⟩=some rv/\bN S w zs rv)
theorem cG.mono {S S':Nat->Prop} {w w':World} (hw : ∀ p:Addr,S p.block->w'.cell? p=w.cell? p) (hS : ∀ b,S b->S' b) {L:List (List Int)} {v:Value} (h:cG S w L v):cG S' w' L v:=by
 obtain ⟨p,cap,h1,h2,h3⟩:=h
 refine ⟨p,cap,h1,h2,fun h=> ?_⟩
 obtain ⟨b,off,h4,h5,h6⟩:=h3 h
 refine ⟨b,off,h4,hS _ h5,fun j zs hz=> ?_⟩
 obtain ⟨rv,h7,h8⟩:=h6 j zs hz
 exact ⟨rv,(hw ⟨b,_,none⟩ h5).trans h7,h8.mono hw hS⟩
theorem cG.keep {S:Nat->Prop} {w w':World} {B:Nat} (hS : ∀ b,S b->b<B) (k:Below B w w') {L:List (List Int)} {v:Value} (h:cG S w L v):cG S w' L v:=h.mono (bO hS k) fun _ h=>h
def cU (ps:List PK) (ms:List MB):List (List Int):=(aCy ps ms).map aL
theorem cR (ps:List PK) (ms:List MB):(cU ps ms).length=ms.length:=by simp [cU,aCy]
theorem gC {ps:List PK} {ms:List MB} {k:Nat} (h:k<ms.length):(cU ps ms)[k]? = some (aL (dA ps ms k)):=by
 unfold cU aCy
 rw [List.getElem?_map,List.getElem?_map,List.getElem?_range h];rfl
def eM (ps:List PK) (ms:List MB) (k i:Nat):List Int:=aL ((List.range i).filter (hQ ps ms k))
theorem pW (ps:List PK) (ms:List MB) (k i:Nat):eM ps ms k (i+1)=if hQ ps ms k i=true then eM ps ms k i ++ [(i:Int)] else eM ps ms k i:=by
 unfold eM aL
 rw [List.range_succ,List.filter_append,List.map_append]
 by_cases h:hQ ps ms k i=true
 ·simp [h]
 ·simp [h]
theorem rW (ps:List PK) (ms:List MB) (k i:Nat):(eM ps ms k i).length<=i:=by
 unfold eM aL
 rw [List.length_map]
 exact Nat.le_trans (List.length_filter_le _ _) (by simp)
theorem rV {ps:List PK} {ms:List MB} {k:Nat} (h:k<ms.length):eM ps ms k ms.length=aL (dA ps ms k):=by
 unfold eM dA;rw [if_pos h]
theorem cV {B:Nat} {v:Value} {zs:List Int} {w:World} (h:cT B v zs w):bN (fun b=>B<=b/\b<w.heap.size) w zs v:=by
 obtain ⟨-,⟨rfl,h0⟩ | ⟨g,cap,cur,rfl,hg,ho,hn,hm,hs,ht⟩⟩:=h
 ·obtain rfl:zs = []:=List.length_eq_zero_iff.1 h0
  exact ⟨_,_,rfl,by simp,fun h=>absurd h (by simp)⟩
 ·have hlt:g<w.heap.size:=(Array.getElem?_eq_some_iff.1 ho).1
  refine ⟨_,_,rfl,by unfold maxLen at hm;omega,fun _=>⟨g,0,rfl,⟨hg,hlt⟩,fun j x hx=> ?_⟩⟩
  have hj:j<zs.length:=(List.getElem?_eq_some_iff.1 hx).1
  have h1:=congrArg (·[j]?) ht
  simp only [Nat.mul_one,List.getElem?_take,List.getElem?_map,hx,Option.map_some] at h1
  rw [if_pos hj,Array.getElem?_toList] at h1
  rw [Nat.zero_add]
  simp only [World.cell?,ho]
  simpa using h1
theorem uP:(Tryz.prog.info? 37).map (fun i=>(i.zero,i.size,i.bytes))=some (some (.slice none 0 0),1,24):=by kernel_rfl
def lW (g n k:Nat) (L:Nat->List Int) (w:World):Prop:= ∃ vs:List Value,aW g 37 vs.toArray w/\vs.length=n/\(∀ j,j<k->∃ v,vs[j]? = some v/\bN (fun b=>g<b/\b<w.heap.size) w (L j) v)/\∀ j,k<=j->j<n->vs[j]? = some (.slice none 0 0)
def jE (g B n k:Nat) (L:Nat->List Int) (rv:Value) (acc:List Int) (w:World):Prop:= ∃ vs:List Value,aW g 37 (vs.set k rv).toArray w/\vs.length=n/\cT B rv acc w/\(∀ j,j<k->∃ v,vs[j]? = some v/\bN (fun b=>g<b/\b<B) w (L j) v)/\(∀ j,k<j->j<n->vs[j]? = some (.slice none 0 0))/\g<B/\B<=w.heap.size
theorem lW.keep {g n k:Nat} {L:Nat->List Int} {w w':World} (h:lW g n k L w) (kp:aA w w'):lW g n k L w':=by
 obtain ⟨vs,h1,h2,h3,h4⟩:=h
 refine ⟨vs,h1.keep kp h1.facts.2.2,h2,fun j hj=> ?_,h4⟩
 obtain ⟨v,e,hv⟩:=h3 j hj
 exact ⟨v,e,hv.mono (fun p hp=>kp.cell (p:=p) hp.2) fun b hb=>⟨hb.1,Nat.lt_of_lt_of_le hb.2 kp.size⟩⟩
theorem lW.into {g n k:Nat} {L:Nat->List Int} {w:World} (h:lW g n k L w) (hk:k<n):jE g w.heap.size n k L (.slice none 0 0) [] w:=by
 obtain ⟨vs,h1,h2,h3,h4⟩:=h
 refine ⟨vs,?_,h2,World.ownsRow_nil _ _ _ _,h3,fun j hj hn=>h4 j (by omega) hn,h1.facts.2.2,Nat.le_refl _⟩
 have e:vs.set k (.slice none 0 0)=vs:=by
  have:=h4 k (Nat.le_refl _) hk
  refine List.ext_getElem? fun i=> ?_
  by_cases hi:i=k
  ·subst hi;rw [List.getElem?_set_self (by omega),this]
  ·rw [List.getElem?_set_ne (fun e=>hi e.symm)]
 rw [e];exact h1
theorem jE.keep {g B n k:Nat} {L:Nat->List Int} {rv:Value} {acc:List Int} {w w':World} (h:jE g B n k L rv acc w) (kp:aA w w'):jE g B n k L rv acc w':=by
 obtain ⟨vs,h1,h2,h3,h4,h5,h6,h7⟩:=h
 refine ⟨vs,h1.keep kp h1.facts.2.2,h2,cS h3 kp,fun j hj=> ?_,h5,h6,Nat.le_trans h7 kp.size⟩
 obtain ⟨v,e,hv⟩:=h4 j hj
 exact ⟨v,e,hv.mono (fun p hp=>kp.cell (p:=p) (Nat.lt_of_lt_of_le hp.2 h7)) fun b hb=>hb⟩
theorem jE.out {g B n k:Nat} {L:Nat->List Int} {rv:Value} {w:World} (h:jE g B n k L rv (L k) w) (hk:k<n):lW g n (k+1) L w:=by
 obtain ⟨vs,h1,h2,h3,h4,h5,h6,h7⟩:=h
 refine ⟨vs.set k rv,h1,by rw [List.length_set];exact h2,fun j hj=> ?_,fun j hj hn=> ?_⟩
 ·by_cases e:j=k
  ·subst e
   exact ⟨rv,List.getElem?_set_self (by omega),(cV h3).mono (fun _ _=>rfl) fun b hb=>⟨by omega,hb.2⟩⟩
  ·obtain ⟨v,e1,hv⟩:=h4 j (by omega)
   exact ⟨v,by rw [List.getElem?_set_ne (fun h=>e h.symm)];exact e1,hv.mono (fun _ _=>rfl) fun b hb=>⟨hb.1,Nat.lt_of_lt_of_le hb.2 h7⟩⟩
 ·rw [List.getElem?_set_ne (by omega)];exact h5 j (by omega) hn
theorem jE.cell {g B n k:Nat} {L:Nat->List Int} {rv:Value} {acc:List Int} {w:World} (h:jE g B n k L rv acc w) (hk:k<n):w.cell? ⟨g,k,none⟩=some rv/\w.frozen? ⟨g,k,none⟩=false/\g<w.heap.size:=by
 obtain ⟨vs,h1,h2,-⟩:=h
 obtain ⟨a,b,c⟩:=h1.facts
 exact ⟨by rw [a];simp [h2,hk],b k,c⟩
theorem jE.own {g B n k:Nat} {L:Nat->List Int} {rv:Value} {acc:List Int} {w:World} (h:jE g B n k L rv acc w):cT B rv acc w/\g<B/\B<=w.heap.size:=by
 obtain ⟨vs,h1,h2,h3,h4,h5,h6,h7⟩:=h;exact ⟨h3,h6,h7⟩
theorem jE.push {g B n k:Nat} {L:Nat->List Int} {rv v':Value} {acc:List Int} {x:Int} {w w':World} {o:Obj} (h:jE g B n k L rv acc w) (hk:k<n) (h1:w'.ownsRow B 3 1 v' (acc.length+1) (acc.map (Value.int .i64) ++ [.int .i64 x])) (h2:(w.alloc o).grownBy w' rv.ownBlock) :
  jE g B n k L v' (acc ++ [x]) (w'.setCell ⟨g,k,none⟩ v')/\(∀ b,b<B->b≠g->(w'.setCell ⟨g,k,none⟩ v').heap[b]? = w.heap[b]?)/\Below g w (w'.setCell ⟨g,k,none⟩ v')/\w'.cell? ⟨g,k,none⟩=some rv/\w'.frozen? ⟨g,k,none⟩=false/\g<w'.heap.size:=by
 obtain ⟨vs,e1,e2,e3,e4,e5,e6,e7⟩:=h
 obtain ⟨p1,p2⟩:=fC e7 e3 h1 h2
 have hbx:=e1.keep p2 e6
 have hlow : ∀ b,b<B->b≠g->(w'.setCell ⟨g,k,none⟩ v').heap[b]? = w.heap[b]? :=fun b hb hn=>by rw [bG w' g k v' b hn];exact p2.block b hb
 refine ⟨⟨vs,?_,e2,Cn.iW p1 fun c hc=>bG w' g k v' c (by have:=(cW p1 hc).1;omega),fun j hj=> ?_,e5,e6,by rw [cO];exact Nat.le_trans e7 p2.size⟩,hlow,Below.trans (p2.mono (by omega)) (aM w' g k v'),?_,hbx.facts.2.1 k,hbx.facts.2.2⟩
 ·have:=hbx.set k v'
  rw [List.setIfInBounds_toArray,List.set_set] at this
  exact this
 ·obtain ⟨v,e,hv⟩:=e4 j hj
  exact ⟨v,e,hv.mono (fun p hp=>World.cell?_of_block (hlow p.block hp.2 (by omega))) fun b hb=>hb⟩
 ·rw [hbx.facts.1];simp [e2,hk]
def mZ (ps:List PK) (ms:List MB) (w:World) (e:Ending) (w':World):Prop:=aA w w'/\((bP ps ms≠0/\e=.returned (.tuple #[.slice none 0 0,.int .i64 (bP ps ms)]))∨(bP ps ms=0/\∃ v,e=.returned (.tuple #[v,.int .i64 0])/\cG (fun b=>w.heap.size<=b/\b<w'.heap.size) w' (cU ps ms) v))
theorem rX (S:Nat->Prop) (ps:List PK) (ms:List MB) (tv lv:Value) (w:World) (hS : ∀ b,S b->b<w.heap.size) (hp:bA S w ps tv) (hm:cI S w ms lv) :
  Calls Tryz.prog 10 #[.agg #[tv],lv] w (mZ ps ms w):=by
 have HP:=hid hp
 have HMS:=hid hm
 obtain ⟨tp,tc,rfl,hlen⟩:=hp.len
 obtain ⟨lp,lc,rfl,hllen⟩:=hm.len
 clear hp hm
 obtain ⟨i0,hi,hz0,hz1,hz2⟩:=info_parts uP
 obtain ⟨j0,hj,hy0,hy1,hy2⟩:=info_parts hN
 have hmf : ∀ (fn:Fn) (first cap:Array Value) (w:World),(Instr.makeFunc fn first cap).run Tryz.prog w=.ok (.func fn first cap) w:=fun _ _ _ _=>rfl
 go_enter Tryz.func10,Tryz.ntmps10
 go_upto_region 1 with fail
 refine aZ (fun W'=>aA w W'/\aB w.heap.size 24 (.slice tp ps.length tc) W') ⟨aA.alloc _ _,aB.new _ _ _⟩ ?_
 rintro W0 ⟨k0,v0⟩
 have K0:=hid k0
 have V0:=hid v0
 obtain ⟨g0,-,l0⟩:=v0.facts
 clear k0 v0
 generalize w.heap.size=ct at V0 g0 l0 ⊢
 go_wp2_with fail
 refine (lZ S ps ms _ _ W0 (fun b hb=>Nat.lt_of_lt_of_le (hS b hb) K0.out.size) (HP.out.keep hS K0.out) (HMS.out.keep hS K0.out)).mono ?_
 rintro e W1 ⟨rfl,k1⟩
 have K1:=hid (K0.out.trans k1)
 have V1:=hid (V0.out.keep k1 V0.out.facts.2.2)
 clear k1 g0 l0 V0
 by_cases hz:bP ps ms=0
 ·have hc1:(bP ps ms != 0)=false:=by simp [hz]
  have HZ:=hid hz
  have HLD:Hid (∀ e w',mZ ps ms w e w'↔(aA w w'/\∃ v,e=.returned (.tuple #[v,.int .i64 0])/\cG (fun b=>w.heap.size<=b/\b<w'.heap.size) w' (cU ps ms) v)):=fun e w'=>by
   unfold mZ
   constructor
   ·rintro ⟨k,⟨h,-⟩ | ⟨-,h⟩⟩
    ·exact absurd hz h
    ·exact ⟨k,h⟩
   ·rintro ⟨k,h⟩;exact ⟨k,.inr ⟨hz,h⟩⟩
  obtain ⟨-,-,-,-,h8,hok⟩:=fG hz
  have HOK:=hid hok
  have HCT:=hid (yY hz)
  rw [hz]
  clear hz hc1 hok
  go_wp2_with (at_make;go_loud (refine wpList_make_full _ rfl _ _ 26 rfl W1.heap.size 37 i0 (.slice none 0 0) 1 Tryz.underlying26 hi hz0 hz1 .i64 .i64 (ms.length:Int) (ms.length:Int) ms.length rfl rfl rfl rfl (by rw [hz2];omega) (by unfold maxLen;omega) (Nat.le_refl _) ?_);intro w2 h1 h2;go_loud (have K2:=hid (show aA W1 w2 from Cn.iI h2));go_loud (have F2:=hid (show aW W1.heap.size 37 (List.replicate ms.length (.slice none 0 0)).toArray w2 from Cn.jT (v:= .slice none 0 0) rfl h1));clear h1 h2)
  have N2:=hid (show lW W1.heap.size ms.length 0 (fun k=>aL (dA ps ms k)) w2 from ⟨List.replicate ms.length (.slice none 0 0),F2.out,by simp,fun j hj=>by omega,fun j _ hj=>by simp [hj]⟩)
  have V2:=hid (V1.out.keep K2.out V1.out.facts.2.2)
  have KW2:=hid (K1.out.trans K2.out)
  have HGW:Hid (w.heap.size<=W1.heap.size/\ct<W1.heap.size):=⟨K1.out.size,V1.out.facts.2.2⟩
  clear F2 K2 V1
  generalize W1.heap.size=g at N2 HGW ⊢
  go_loopg [24] ms.length (fun gk iv wr=> ∃ k:Nat,k+gk=ms.length/\iv=.int .i64 k/\aA w wr/\aB ct 24 (.slice tp ps.length tc) wr/\lW g ms.length k (fun k=>aL (dA ps ms k)) wr)
  case atStart=>exact ⟨0,by omega,rfl,KW2.out,V2.out,N2.out⟩
  case round=>
   obtain ⟨k,hkg,rfl,hk,hv,hr⟩:=hrel
   have HK:=hid hk
   have HV:=hid hv
   have HR:=hid hr
   clear hk hv hr
   by_cases hlt:k<ms.length
   ·have hSr : ∀ b,S b->b<wr.heap.size:=fun b hb=>Nat.lt_of_lt_of_le (hS b hb) HK.out.size
    obtain ⟨mb,moff,mcap,hmv,hmS,-,hrow⟩:=(HMS.out.keep hS HK.out).get hlt
    cases hmv
    obtain ⟨op,oc,hc0,hc1,hol,hbl⟩:=hrow k _ (List.getElem?_eq_getElem hlt)
    obtain ⟨h0,h1,h2⟩:=HOK.out k _ (List.getElem?_eq_getElem hlt)
    have HBL:=hid hbl
    obtain ⟨q,hq⟩ : ∃ q:Nat,ms[k].pl=q:=⟨ms[k].pl.toNat,by omega⟩
    have hqp:q<ps.length:=by omega
    have hpk:bU ps ms[k]=ps[q]:=by unfold bU;rw [hq,Int.toNat_natCast,dZ ps q hqp]
    have hcp:=(jH HCT.out).2 ps[q] (List.getElem_mem hqp)
    have HFL:=hid (vH hcp)
    have HSZ:Hid (ps[q].nd.size<=1000):=by have:=(gU (cQ.1 (jG hcp).2.2.2.2).1).1;show _<=_;omega
    have HLB:Hid (∀ i,hQ ps ms k i=(mW ps[q] ms[k]).any fun a=>isB (bU ps (ms.getD i MB.zero)) (ms.getD i MB.zero) a):=fun i=>by unfold hQ;rw [dJ ms k hlt,hpk]
    rw [hpk] at h2
    have HON:=hid h2
    obtain ⟨tb,toff,tcap,htv,htb,-,htrow⟩:=(HP.out.keep hS HK.out).get hqp
    cases htv
    obtain ⟨cs,hcs,hpj⟩:=htrow q hqp
    generalize hmk:ms[k]=m at hc0 hc1 hol HBL h0 h1 HON HLB hq
    generalize ps[q]=p at hpj HON HFL HSZ HLB
    obtain ⟨kk,a,fl,nt,kids,kp,fp,kc,fc,hnd,hfl,rfl,-,-⟩:=hpj.spelt
    have HPJ:=hid hpj
    obtain ⟨c0,c1,c2,c3,c4,c5,c6,c7,c8,c9,c10,c11,c12,c13⟩:=dI hcs
    clear hcs hpj htrow hrow hnd hbl hmk h0 h1 h2 hpk hcp
    rcases p with ⟨n,v,sl,fs,nd⟩
    rcases m with ⟨pl,on⟩
    simp only at hq hc0 hc1 hol HBL HON HLB HFL HSZ c0 c1 c2 c3 hfl HPJ
    subst hq
    obtain ⟨g0,-,l0⟩:=HV.out.facts
    have hml:=hSr mb hmS
    have htl:=hSr tb htb
    have HS:=hid (show wr.cell? ⟨ct,0,none⟩=some (.slice (some ⟨tb,toff,none⟩) ps.length tc)/\wr.cell? ⟨mb,moff+k*2,none⟩=some (.int .i64 q)/\wr.cell? ⟨mb,moff+k*2+1,none⟩=some (.slice op on.length oc)/\wr.cell? ⟨tb,toff+q*14,none⟩=some (.string n)/\wr.cell? ⟨tb,toff+q*14+1,none⟩=some (.int .i64 v)/\wr.cell? ⟨tb,toff+q*14+2,none⟩=some (.int .i64 sl)/\wr.cell? ⟨tb,toff+q*14+3,none⟩=some (.slice fp fs.length fc)/\wr.cell? ⟨tb,toff+q*14+4,none⟩=some (.int .i64 kk)/\wr.cell? ⟨tb,toff+q*14+5,none⟩=some (.string a.n)/\wr.cell? ⟨tb,toff+q*14+6,none⟩=some (.int .i64 a.op)/\wr.cell? ⟨tb,toff+q*14+7,none⟩=some (.int .i64 a.v)/\wr.cell? ⟨tb,toff+q*14+8,none⟩=some (.int .i64 a.sl)/\wr.cell? ⟨tb,toff+q*14+9,none⟩=some (.string a.f)/\wr.cell? ⟨tb,toff+q*14+10,none⟩=some (.bool a.on)/\wr.cell? ⟨tb,toff+q*14+11,none⟩=some (.string fl)/\wr.cell? ⟨tb,toff+q*14+12,none⟩=some (.bool nt)/\wr.cell? ⟨tb,toff+q*14+13,none⟩=some (.slice kp kids.length kc) from ⟨g0,hc0,hc1,c0,c1,c2,c3,c4,c5,c6,c7,c8,c9,c10,c11,c12,c13⟩)
    have HSd:=hid (show wr.drew.cell? ⟨ct,0,none⟩=some (.slice (some ⟨tb,toff,none⟩) ps.length tc)/\wr.drew.cell? ⟨mb,moff+k*2,none⟩=some (.int .i64 q)/\wr.drew.cell? ⟨mb,moff+k*2+1,none⟩=some (.slice op on.length oc)/\wr.drew.cell? ⟨tb,toff+q*14,none⟩=some (.string n)/\wr.drew.cell? ⟨tb,toff+q*14+1,none⟩=some (.int .i64 v)/\wr.drew.cell? ⟨tb,toff+q*14+2,none⟩=some (.int .i64 sl)/\wr.drew.cell? ⟨tb,toff+q*14+3,none⟩=some (.slice fp fs.length fc)/\wr.drew.cell? ⟨tb,toff+q*14+4,none⟩=some (.int .i64 kk)/\wr.drew.cell? ⟨tb,toff+q*14+5,none⟩=some (.string a.n)/\wr.drew.cell? ⟨tb,toff+q*14+6,none⟩=some (.int .i64 a.op)/\wr.drew.cell? ⟨tb,toff+q*14+7,none⟩=some (.int .i64 a.v)/\wr.drew.cell? ⟨tb,toff+q*14+8,none⟩=some (.int .i64 a.sl)/\wr.drew.cell? ⟨tb,toff+q*14+9,none⟩=some (.string a.f)/\wr.drew.cell? ⟨tb,toff+q*14+10,none⟩=some (.bool a.on)/\wr.drew.cell? ⟨tb,toff+q*14+11,none⟩=some (.string fl)/\wr.drew.cell? ⟨tb,toff+q*14+12,none⟩=some (.bool nt)/\wr.drew.cell? ⟨tb,toff+q*14+13,none⟩=some (.slice kp kids.length kc) from ⟨g0,hc0,hc1,c0,c1,c2,c3,c4,c5,c6,c7,c8,c9,c10,c11,c12,c13⟩)
    have HCW:=hid (show ∀ W,aA wr W->Calls Tryz.prog 44 #[.agg #[.string n,.int .i64 v,.int .i64 sl,.slice fp fs.length fc,.int .i64 kk,.string a.n,.int .i64 a.op,.int .i64 a.v,.int .i64 a.sl,.string a.f,.bool a.on,.string fl,.bool nt,.slice kp kids.length kc],.agg #[.int .i64 q,.slice op on.length oc]] W fun e w'=> ∃ av,e=.returned av/\fV (fun b=>W.heap.size<=b/\b<w'.heap.size) w' (mW ⟨n,v,sl,fs,nd⟩ ⟨q,on⟩) av/\aA W w' from fun W kW=>aBl S ⟨n,v,sl,fs,nd⟩ _ ⟨q,on⟩ op oc W (fun b hb=>Nat.lt_of_lt_of_le (hSr b hb) kW.size) (HPJ.out.keep hSr kW) (HBL.out.keep hSr kW) HON.out hol HFL.out HSZ.out)
    clear c0 c1 c2 c3 c4 c5 c6 c7 c8 c9 c10 c11 c12 c13 g0 hc0 hc1
    go_upto_region 8 with fail
    go_region_held3 (fun W'=>W'.cell? ⟨ct,0,none⟩=some (.slice (some ⟨tb,toff,none⟩) ps.length tc)/\W'.cell? ⟨mb,moff+k*2,none⟩=some (.int .i64 q)/\W'.cell? ⟨mb,moff+k*2+1,none⟩=some (.slice op on.length oc)/\W'.cell? ⟨tb,toff+q*14,none⟩=some (.string n)/\W'.cell? ⟨tb,toff+q*14+1,none⟩=some (.int .i64 v)/\W'.cell? ⟨tb,toff+q*14+2,none⟩=some (.int .i64 sl)/\W'.cell? ⟨tb,toff+q*14+3,none⟩=some (.slice fp fs.length fc)/\W'.cell? ⟨tb,toff+q*14+4,none⟩=some (.int .i64 kk)/\W'.cell? ⟨tb,toff+q*14+5,none⟩=some (.string a.n)/\W'.cell? ⟨tb,toff+q*14+6,none⟩=some (.int .i64 a.op)/\W'.cell? ⟨tb,toff+q*14+7,none⟩=some (.int .i64 a.v)/\W'.cell? ⟨tb,toff+q*14+8,none⟩=some (.int .i64 a.sl)/\W'.cell? ⟨tb,toff+q*14+9,none⟩=some (.string a.f)/\W'.cell? ⟨tb,toff+q*14+10,none⟩=some (.bool a.on)/\W'.cell? ⟨tb,toff+q*14+11,none⟩=some (.string fl)/\W'.cell? ⟨tb,toff+q*14+12,none⟩=some (.bool nt)/\W'.cell? ⟨tb,toff+q*14+13,none⟩=some (.slice kp kids.length kc))
     (first | with_reducible exact HS.out | with_reducible exact HSd.out | with_reducible exact HS2.out | go_keep)
     (first | (go_at_call 44;refine (HCW.out _ (aA.drew (aA.refl _))).mono ?_;rintro e w7 ⟨zv,rfl,hzv,k7⟩;have K7:=hid (dW k7);have ZV:=hid hzv;have HS2:=hid (show w7.cell? ⟨ct,0,none⟩=some (.slice (some ⟨tb,toff,none⟩) ps.length tc)/\w7.cell? ⟨mb,moff+k*2,none⟩=some (.int .i64 q)/\w7.cell? ⟨mb,moff+k*2+1,none⟩=some (.slice op on.length oc)/\w7.cell? ⟨tb,toff+q*14,none⟩=some (.string n)/\w7.cell? ⟨tb,toff+q*14+1,none⟩=some (.int .i64 v)/\w7.cell? ⟨tb,toff+q*14+2,none⟩=some (.int .i64 sl)/\w7.cell? ⟨tb,toff+q*14+3,none⟩=some (.slice fp fs.length fc)/\w7.cell? ⟨tb,toff+q*14+4,none⟩=some (.int .i64 kk)/\w7.cell? ⟨tb,toff+q*14+5,none⟩=some (.string a.n)/\w7.cell? ⟨tb,toff+q*14+6,none⟩=some (.int .i64 a.op)/\w7.cell? ⟨tb,toff+q*14+7,none⟩=some (.int .i64 a.v)/\w7.cell? ⟨tb,toff+q*14+8,none⟩=some (.int .i64 a.sl)/\w7.cell? ⟨tb,toff+q*14+9,none⟩=some (.string a.f)/\w7.cell? ⟨tb,toff+q*14+10,none⟩=some (.bool a.on)/\w7.cell? ⟨tb,toff+q*14+11,none⟩=some (.string fl)/\w7.cell? ⟨tb,toff+q*14+12,none⟩=some (.bool nt)/\w7.cell? ⟨tb,toff+q*14+13,none⟩=some (.slice kp kids.length kc) from by (obtain ⟨x0,x1,x2,y0,y1,y2,y3,y4,y5,y6,y7,y8,y9,y10,y11,y12,y13⟩:=HS.out;have ct' : ∀ (o:Nat) (x:Value),wr.cell? ⟨tb,o,none⟩=some x->w7.cell? ⟨tb,o,none⟩=some x:=fun o x h=>(K7.out.cell (p:=⟨tb,o,none⟩) htl).trans h;have cm' : ∀ (o:Nat) (x:Value),wr.cell? ⟨mb,o,none⟩=some x->w7.cell? ⟨mb,o,none⟩=some x:=fun o x h=>(K7.out.cell (p:=⟨mb,o,none⟩) hml).trans h;exact ⟨(K7.out.cell (p:=⟨ct,0,none⟩) l0).trans x0,cm' _ _ x1,cm' _ _ x2,ct' _ _ y0,ct' _ _ y1,ct' _ _ y2,ct' _ _ y3,ct' _ _ y4,ct' _ _ y5,ct' _ _ y6,ct' _ _ y7,ct' _ _ y8,ct' _ _ y9,ct' _ _ y10,ct' _ _ y11,ct' _ _ y12,ct' _ _ y13⟩));clear k7 hzv))
    have I7:=hid ((HR.out.keep K7.out).into hlt)
    have KW7:=hid (HK.out.trans K7.out)
    have V7:=hid (HV.out.keep K7.out HV.out.facts.2.2)
    have HAT:=hid (show fV (fun b=>wr.heap.size<=b/\b<w7.heap.size) w7 (mW ⟨n,v,sl,fs,nd⟩ ⟨q,on⟩) zv from ZV.out)
    have HGR:Hid (g<wr.heap.size):=by obtain ⟨vs,h1,-⟩:=HR.out;exact h1.facts.2.2
    obtain ⟨zp,zc,hzs,hzl⟩:=HAT.out.len2
    subst hzs
    clear HS HSd HS2 HCW ZV htl hml l0
    generalize (mW ⟨n,v,sl,fs,nd⟩ ⟨q,on⟩)=ats at HAT HLB hzl ⊢
    obtain ⟨WK,rfl⟩ : ∃ WK:World,WK=wr:=⟨_,rfl⟩
    go_wp2_with fail
    go_loopg [43] ms.length (fun gk iv wi=> ∃ (i:Nat) (rv:Value),i+gk=ms.length/\iv=.int .i64 i/\jE g w7.heap.size ms.length k (fun k=>aL (dA ps ms k)) rv (eM ps ms k i) wi/\aA w wi/\∀ b,b<w7.heap.size->b≠g->wi.heap[b]? = w7.heap[b]?)
    case atStart=>exact ⟨0,_,by omega,rfl,I7.out,KW7.out,fun _ _ _=>rfl⟩
    case round=>
     obtain ⟨i,rv,hig,rfl,hin,hkI,hlow⟩:=hrel
     have HIN:=hid hin
     have HKI:=hid hkI
     have HLOW:=hid hlow
     clear hin hkI hlow
     have HKW:Hid (w7.heap.size<=wr.heap.size/\g<w7.heap.size):=⟨HIN.out.own.2.2,HIN.out.own.2.1⟩
     by_cases hli:i<ms.length
     ·have HVI:Hid (aB ct 24 (.slice (some ⟨tb,toff,none⟩) ps.length tc) wr):=by
       have h5:=V7.out
       have h6:=h5.facts.2.2
       unfold aB at *
       show _=_
       rw [HLOW.out ct h6 (by have:=HGW.out.2;omega)];exact h5
      obtain ⟨mb',moff',mcap',hmv',hmS',-,hrow'⟩:=(HMS.out.keep hS HKI.out).get hli
      cases hmv'
      obtain ⟨op',oc',hc0',hc1',hol',hbl'⟩:=hrow' i _ (List.getElem?_eq_getElem hli)
      obtain ⟨x0,x1,x2⟩:=HOK.out i _ (List.getElem?_eq_getElem hli)
      have HLI:=hid (HLB.out i)
      rw [dJ ms i hli] at HLI
      have HSU:=hid (pW ps ms k i)
      rw [HLI.out] at HSU
      have HUL:=hid (rW ps ms k i)
      have HBI:=hid hbl'
      generalize ms[i]=mi at hc0' hc1' hol' HBI x0 x1 x2 HSU
      have X2:=hid x2
      clear hbl' hrow' HLI x2
      go_upto_region 12 with fail
      refine aZ (fun W'=>aA wr W'/\aH wr.heap.size #[.int .i64 mi.pl,.slice op' mi.on.length oc'] W') ⟨aA.alloc _ _,aH.new _ _ _⟩ ?_
      rintro W8 ⟨k8,b8⟩
      have K8:=hid k8
      have B8:=hid b8
      have KW8:=hid (HKI.out.trans k8)
      have V8:=hid (HVI.out.keep k8 HVI.out.facts.2.2)
      have I8:=hid (HIN.out.keep k8)
      clear k8 b8 hc0' hc1'
      generalize wr.heap.size=cm at B8 ⊢
      have hSi : ∀ b,S b->b<wr.heap.size:=fun b hb=>Nat.lt_of_lt_of_le (hS b hb) HKI.out.size
      have hS8 : ∀ b,S b->b<W8.heap.size:=fun b hb=>Nat.lt_of_lt_of_le (hS b hb) KW8.out.size
      have HA8:=hid (show fV (fun b=>WK.heap.size<=b/\b<w7.heap.size) W8 ats (.slice zp ats.length zc) from HAT.out.mono (fun p hp=>((K8.out.cell (p:=p) (Nat.lt_of_lt_of_le hp.2 HKW.out.1)).trans (World.cell?_of_block (HLOW.out p.block hp.2 (by have h1:=hp.1;have:=HGR.out;omega))))) fun _ h=>h)
      have hcont:=mB (fun b=>WK.heap.size<=b/\b<w7.heap.size) ats (fun a=>isB (bU ps mi) mi a) _ W8 (fun b hb=>Nat.lt_of_lt_of_le hb.2 (Nat.le_trans HKW.out.1 K8.out.size)) sX HA8.out (cap:=#[.pointer (some ⟨ct,0,none⟩),.pointer (some ⟨cm,0,none⟩)]) (fun a W kW=>xK S ps mi a.n a.f a.op a.v a.sl a.on op' (some ⟨tb,toff,none⟩) oc' tc ct cm W (fun b hb=>Nat.lt_of_lt_of_le (hS8 b hb) kW.size) (HP.out.keep hS (KW8.out.trans kW)) (V8.out.keep kW V8.out.facts.2.2) (B8.out.keep kW B8.out.1) ((HBI.out.keep hSi K8.out).keep hS8 kW) x0 x1 X2.out hol')
      have HCO:=hid hcont
      clear hcont x0 x1
      generalize (ats.any fun a=>isB (bU ps mi) mi a)=β at HCO HSU
      go_wp2_with fail
      refine HCO.out.mono ?_
      rintro e W9 ⟨rfl,k9⟩
      have K9:=hid (K8.out.trans k9)
      have KW9:=hid (KW8.out.trans k9)
      have I9:=hid (I8.out.keep k9)
      clear k9 HCO
      cases β
      ·have HSU2:Hid (eM ps ms k (i+1)=eM ps ms k i):=HSU.out
       clear HSU
       go_wp2_with fail
       go_roundg (ms.length-(i+1))
       case rel=>exact ⟨i+1,rv,by omega,by go_num,by rw [HSU2.out];exact I9.out,KW9.out,fun b hb hn=>(K9.out.block b (Nat.lt_of_lt_of_le hb HKW.out.1)).trans (HLOW.out b hb hn)⟩
       case measure=>omega
      ·have HSU2:Hid (eM ps ms k (i+1)=eM ps ms k i ++ [(i:Int)]):=HSU.out
       clear HSU
       have hul:=HUL.out
       generalize eM ps ms k i=acc at I9 HSU2 hul HIN
       obtain ⟨hcr,hcf,hcl⟩:=I9.out.cell hlt
       have OW:=hid I9.out.own.1
       obtain ⟨xp,xc,hxv,-⟩:=cV OW.out
       subst hxv
       have hB9:w7.heap.size<=W9.heap.size:=I9.out.own.2.2
       go_upto_region 15 with (at_builtin;go_loud (refine wpList_append_own_at _ rfl _ _ 37 rfl w7.heap.size 3 j0 (.int .i64 0) 1 8 Tryz.underlying37 hj hy0 hy1 hy2 rfl (by decide) (.slice xp acc.length xc) acc.length (acc.map (Value.int .i64)) rfl (World.ownsRow.alloc OW.out _) ⟨W9.heap.size,0,none⟩ 1 1 [.int .i64 i] rfl rfl fO gF (by unfold maxLen;omega) (by omega) (by rw [aD];omega) ?_;intro v5 w5 h1 h2 _ h4;obtain ⟨g5,cap5,rfl⟩:=Cn.cN h1 (Nat.succ_pos _);have P5:=hid (jE.push I9.out hlt h1 h2);obtain ⟨hcr5,hcf5,hcl5⟩:=P5.out.2.2.2;clear h1 h2 h4))
       have HQ:=hid (show jE g w7.heap.size ms.length k (fun k=>aL (dA ps ms k)) (.slice (some ⟨g5,0,none⟩) (acc.length+1) cap5) (acc ++ [(i:Int)]) (w5.setCell ⟨g,k,none⟩ (.slice (some ⟨g5,0,none⟩) (acc.length+1) cap5))/\aA w (w5.setCell ⟨g,k,none⟩ (.slice (some ⟨g5,0,none⟩) (acc.length+1) cap5))/\∀ b,b<w7.heap.size->b≠g->(w5.setCell ⟨g,k,none⟩ (.slice (some ⟨g5,0,none⟩) (acc.length+1) cap5)).heap[b]? = w7.heap[b]? from ⟨P5.out.1,Below.trans KW9.out (P5.out.2.2.1.mono HGW.out.1),fun b hb hn=>(P5.out.2.1 b hb hn).trans ((K9.out.block b (Nat.lt_of_lt_of_le hb HKW.out.1)).trans (HLOW.out b hb hn))⟩)
       refine aZ (fun W'=>jE g w7.heap.size ms.length k (fun k=>aL (dA ps ms k)) (.slice (some ⟨g5,0,none⟩) (acc.length+1) cap5) (acc ++ [(i:Int)]) W'/\aA w W'/\∀ b,b<w7.heap.size->b≠g->W'.heap[b]? = w7.heap[b]?) ?_ ?_
       ·exact HQ.out
       rintro W10 ⟨i10,k10,l10⟩
       have I10:=hid i10
       have K10:=hid k10
       have L10:=hid l10
       clear i10 k10 l10 HQ P5 hcr5 hcf5 hcl5 hcr hcf hcl
       go_wp2_with fail
       go_roundg (ms.length-(i+1))
       case rel=>exact ⟨i+1,_,by omega,by go_num,by rw [HSU2.out];exact I10.out,K10.out,L10.out⟩
       case measure=>omega
     ·obtain rfl:i=ms.length:=by omega
      have R11:=hid (show lW g ms.length (k+1) (fun k=>aL (dA ps ms k)) wr from by
       have:=HIN.out
       rw [rV hlt] at this
       exact this.out hlt)
      have V11:=hid (show aB ct 24 (.slice (some ⟨tb,toff,none⟩) ps.length tc) wr from by
       have h5:=V7.out
       have h6:=h5.facts.2.2
       unfold aB at *
       rw [HLOW.out ct h6 (by have:=HGW.out.2;omega)];exact h5)
      go_wp2_with fail
      go_roundg (ms.length-(k+1))
      case rel=>exact ⟨k+1,by omega,by go_num,HKI.out,V11.out,R11.out⟩
      case measure=>omega
   ·obtain rfl:k=ms.length:=by omega
    have hrow:=HR.out
    clear HR
    go_wp2_with fail
    refine bodyPost_ret (v:= .tuple #[.slice (some ⟨g,0,none⟩) ms.length ms.length,.int .i64 0]) ?_ rfl ?_
    ·simp [results,Tryz.results10,go_sem]
    ·refine (HLD.out _ _).2 ⟨HK.out,_,rfl,?_⟩
     obtain ⟨vs,h1,h2,h3,-⟩:=hrow
     refine ⟨some ⟨g,0,none⟩,ms.length,by rw [cR],by rw [cR];omega,fun _=>⟨g,0,rfl,⟨HGW.out.1,h1.facts.2.2⟩,fun j zs hz=> ?_⟩⟩
     have hj:j<ms.length:=by have:=(List.getElem?_eq_some_iff.1 hz).1;rwa [cR] at this
     rw [gC hj] at hz
     obtain ⟨rv,e1,e2⟩:=h3 j hj
     cases hz
     refine ⟨rv,?_,e2.mono (fun _ _=>rfl) fun b hb=>⟨by have:=HGW.out.1;omega,hb.2⟩⟩
     rw [Nat.zero_add,h1.facts.1]
     simpa using e1
 ·have hc1:(bP ps ms != 0)=true:=by simp [hz]
  have HZ:=hid hz
  generalize hcz:bP ps ms=cz at hc1 ⊢
  have HCZ:=hid hcz
  clear hcz hz
  go_wp2_with fail
  refine bodyPost_ret (v:= .tuple #[.slice none 0 0,.int .i64 cz]) ?_ rfl ?_
  ·simp [results,Tryz.results10,go_sem]
  ·exact ⟨K1.out,.inl ⟨HZ.out,by rw [HCZ.out]⟩⟩
end Go.Proofs.YthaaaecmeafofaaGreatDoor
