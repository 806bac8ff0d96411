/- Steps of the proof: EncStepsWalk, AtomOpen, NeedOpen, TreeOpen, ValidOpen, EncOpen. -/
import Derived.Test.YthaaaecmeafofaaGreatDoorSt27
import Derived.Test.YthaaaecmeafofaaGreatDoorSt29
import Derived.Test.YthaaaecmeafofaaGreatDoorSt17
import Derived.Test.YthaaaecmeafofaaGreatDoorSt03
import Derived.Lib.LaidTab
import Derived.Stop.LaidErr
import Derived.OpenShut
import Derived.Lib.SmallJoins
import Derived.Deep.DeepWitnessRowRef
import Derived.LaidMore
import Derived.Stop.Joined
import Derived.ChangeOld
import Derived.Test.YthaaaecmeafofaaGreatDoorSt26
import Derived.Shelf.Vars
import Derived.HandedShaped
import Derived.Test.YthaaaecmeafofaaGreatDoorSt08
import Derived.Test.YthaaaecmeafofaaGreatDoorSt10
import Derived.Test.YthaaaecmeafofaaGreatDoorSt09
set_option maxHeartbeats 16000000
set_option maxRecDepth 100000
namespace Go.Proofs.YthaaaecmeafofaaGreatDoor
open Go.RowKit
theorem aGu {ps:List PK} {wi:WI} (h:cQ ps wi=0) (s:Int) (hs:s=2*2 ^ (aB ps wi).many) (h14:(aB ps wi).many<=14):(Cn.aIf ((cG ps wi).n:Nat) (cG ps wi).cl s).er=0:=by
 obtain ⟨-,h2,h3,h4,-⟩:=rN h
 have hf:Cn.iW ((cG ps wi).n:Nat) (cG ps wi).cl=0:=Cn.aCz h2 h3 fun c hc=>⟨(h4 c hc).2,(h4 c hc).1⟩
 have hp:(2 ^ (aB ps wi).many:Nat)<=2 ^ 14:=Nat.pow_le_pow_right (by omega) h14
 have hp0:0<(2 ^ (aB ps wi).many:Nat):=Nat.pow_pos (by omega)
 have hsn:s=((2 ^ ((aB ps wi).many+1):Nat):Int):=by rw [hs,Nat.pow_succ];push_cast;omega
 have hsb:(2 ^ ((aB ps wi).many+1):Nat)<=32768:=by rw [Nat.pow_succ];omega
 have hs1:1<=(2 ^ ((aB ps wi).many+1):Nat):=Nat.pow_pos (by omega)
 rw [Cn.aEb hf (by omega) (by omega),hsn,Int.toNat_natCast]
 have hne:=Cn.aLs (n:=(cG ps wi).n) (c:=(aB ps wi).many) (s:=2 ^ ((aB ps wi).many+1)) (aGq h).decides (by omega) (Nat.le_refl _)
 unfold Cn.gC
 generalize (Cn.lB (cG ps wi).n (cG ps wi).cl (2 ^ ((aB ps wi).many+1)))=r at hne ⊢
 cases hr:r.o with
 | out=>exact absurd hr hne
 | model m=>rfl
 | closed=>rfl
theorem uS (S:Nat->Prop) (ps:List PK) (wi:WI) (pv tsv inv mav onv:Value) (w:World) (hS : ∀ b,S b->b<w.heap.size) (hp:bD S w ps pv) (hw:fR S w wi tsv inv mav onv) (hcap:nB pv) (hE:Env w) (hM:jR w) :
  Calls Tryz.prog 9 #[.agg #[pv],.agg #[tsv,inv,mav,onv]] w fun e w'=>e=.returned (.bool true)/\aA w w':=by
 have HP:=hid hp
 have HW:=hid hw
 have HE:=hid hE
 have HM:=hid hM
 clear hp hw hE hM
 go_enter Tryz.func9,Tryz.ntmps9
 go_upto_region 1 with fail
 refine bJ (fun W'=>aA w W'/\aE w.heap.size 24 pv W'/\aD (w.heap.size+1) 46 #[tsv,inv,mav,onv] W') ⟨(aA.alloc _ _).alloc' _,(aE.new _ _ _).keep (aA.alloc _ _) (by simp),?_⟩ ?_
 ·have:=aD.new (w.alloc (.cells #[pv] 24)) 46 #[tsv,inv,mav,onv]
  rw [aC] at this;exact this
 rintro W1 ⟨k1,v1,b1⟩
 have K1:=hid k1
 have V1:=hid v1
 have B1:=hid b1
 generalize w.heap.size=b at V1 B1 ⊢
 clear k1 v1 b1
 have ht0:=V1.out.facts.1
 have htl:=V1.out.facts.2.2
 have hw0:W1.cell? ⟨b+1,0,none⟩=some tsv:=B1.out.facts.1 0
 have hw1:W1.cell? ⟨b+1,1,none⟩=some inv:=B1.out.facts.1 1
 have hw2:W1.cell? ⟨b+1,2,none⟩=some mav:=B1.out.facts.1 2
 have hw3:W1.cell? ⟨b+1,3,none⟩=some onv:=B1.out.facts.1 3
 have hwl:=B1.out.facts.2.2
 go_wp2_with fail
 refine (sH S ps wi _ _ _ _ _ W1 (fun c hc=>Nat.lt_of_lt_of_le (hS c hc) K1.out.size) (HP.out.keep hS K1.out) (HW.out.keep hS K1.out) hcap).mono ?_
 rintro e W2 ⟨k2,h2⟩
 have K2:=hid (K1.out.trans k2)
 have V2:=hid (V1.out.keep k2 V1.out.facts.2.2)
 have B2:=hid (B1.out.keep k2 B1.out.facts.2.2)
 clear ht0 htl hw0 hw1 hw2 hw3 hwl V1 B1 k2
 rcases h2 with ⟨hz,rfl⟩ | ⟨hz,cv,rfl,hcls⟩
 ·have hz1:(cQ ps wi==0)=false:=by simpa using hz
  have hz2:(cQ ps wi != 0)=true:=by simp [bne,hz1]
  generalize cQ ps wi=cw at hz1 hz2 ⊢
  clear hz
  go_wp2_with fail
  refine aV (fun W'=>aA w W') (K2.out.alloc' _) ?_
  intro W3 k3
  refine (lK W3 (HE.out.keep k3) (HM.out.keep k3)).mono ?_
  rintro e W4 ⟨rfl,k4⟩
  have K4:=hid (k3.trans k4)
  clear k3 k4
  go_wp2_with fail
  refine (lK W4 (HE.out.keep K4.out) (HM.out.keep K4.out)).mono ?_
  rintro e W5 ⟨rfl,k5⟩
  have K5:=hid (K4.out.trans k5)
  clear k5
  go_wp2_with fail
  go_ret
  exact ⟨rfl,K5.out⟩
 obtain ⟨hT,hTS,-,-,-,-,-,hone⟩:=fZ hz
 obtain ⟨h8,hf2,-,hin,hil,-⟩:=fX hTS
 have hok:=lJ hTS
 have h14:=(oY wi hT).1
 obtain ⟨cp,cc,rfl,hcl⟩:=hcls.len
 have HCLS:=hid hcls
 have HZ:=hid hz
 have HF:=hid (show ∀ c∈(cG ps wi).cl,∀ x∈c,Cn.InR x from fun c hc x hx=>by
  obtain ⟨-,g2,-,g4,-⟩:=rN hz
  have:=((g4 c hc).1 x hx).2
  unfold Cn.InR
  omega)
 clear hcls hz hone hT hTS
 go_wp2_with fail
 refine aV (fun W'=>aA W2 W'/\aD W2.heap.size 79 #[.int .i64 ((cG ps wi).n:Nat),.slice cp (cG ps wi).cl.length cc] W') ⟨aA.alloc _ _,aD.new _ _ _⟩ ?_
 rintro W3 ⟨k3,b3⟩
 refine (lK W3 (HE.out.keep (K2.out.trans k3)) (HM.out.keep (K2.out.trans k3))).mono ?_
 rintro e W4 ⟨rfl,k4⟩
 have K24:=hid (k3.trans k4)
 have K4:=hid (K2.out.trans (k3.trans k4))
 have F4:=hid (b3.keep k4 b3.facts.2.2)
 have V4:=hid (V2.out.keep K24.out V2.out.facts.2.2)
 have B4:=hid (B2.out.keep K24.out B2.out.facts.2.2)
 generalize W2.heap.size=fb at F4 ⊢
 clear k3 b3 k4 V2 B2
 have ht0:=V4.out.facts.1
 have htl:=V4.out.facts.2.2
 have hw0:W4.cell? ⟨b+1,0,none⟩=some tsv:=B4.out.facts.1 0
 have hw1:W4.cell? ⟨b+1,1,none⟩=some inv:=B4.out.facts.1 1
 have hw2:W4.cell? ⟨b+1,2,none⟩=some mav:=B4.out.facts.1 2
 have hw3:W4.cell? ⟨b+1,3,none⟩=some onv:=B4.out.facts.1 3
 have hwl:=B4.out.facts.2.2
 go_wp2_with fail
 refine (zI S ps wi _ _ _ _ _ W4 (fun c hc=>Nat.lt_of_lt_of_le (hS c hc) K4.out.size) (HP.out.keep hS K4.out) (HW.out.keep hS K4.out) h8 hf2 hil (fun x hx=>by have:=hin x hx;omega)).mono ?_
 rintro e W5 ⟨k5,n5,-,rfl⟩
 rw [show (((plI wi.ins++cZ (plI wi.ins) ps.length).length:Nat)+(cK ps ps.length:Nat):Int)=((aB ps wi).many:Nat) by rw [← aNl hok fun x hx=>(hin x hx).1];push_cast;rfl]
 have K5:=hid (K4.out.trans k5)
 have K25:=hid (K24.out.trans k5)
 have F5:=hid (F4.out.keep k5 F4.out.facts.2.2)
 have hf0:W5.cell? ⟨fb,0,none⟩=some (.int .i64 ((cG ps wi).n:Nat)):=F5.out.facts.1 0
 have hf1:W5.cell? ⟨fb,1,none⟩=some (.slice cp (cG ps wi).cl.length cc):=F5.out.facts.1 1
 have hfl:=F5.out.facts.2.2
 have hmI:((aB ps wi).many:Int)<=14:=by omega
 clear ht0 htl hw0 hw1 hw2 hw3 hwl V4 B4 F4 k5 K24
 obtain ⟨st,hst⟩ : ∃ st:Int,st=2*2 ^ (aB ps wi).many:=⟨_,rfl⟩
 have HER:=hid (aGu HZ.out st hst h14)
 have hwr:IntKind.i64.wrap (2*2 ^ (aB ps wi).many)=st:=by
  rw [hst]
  have hp:(2 ^ (aB ps wi).many:Nat)<=2 ^ 14:=Nat.pow_le_pow_right (by omega) h14
  have e:(2*2 ^ (aB ps wi).many:Int)=((2*2 ^ (aB ps wi).many:Nat):Int):=by push_cast;rfl
  rw [e]
  exact cA (by omega)
 have HSOL:=hid (show ∀ W,aA W5 W->Calls Tryz.prog 42 #[.agg #[.int .i64 ((cG ps wi).n:Nat),.slice cp (cG ps wi).cl.length cc],.int .i64 st] W fun e w'=>aA w w'/\∃ mv pv,e=.returned (.tuple #[.agg #[mv,pv],.int .i64 0])/\w'.cell? ⟨fb,0,none⟩=some (.int .i64 ((cG ps wi).n:Nat))/\w'.cell? ⟨fb,1,none⟩=some (.slice cp (cG ps wi).cl.length cc) from fun W kW=>by
  refine (Cn.aIg (fun b=>W1.heap.size<=b/\b<W2.heap.size) _ (cG ps wi).cl cp cc st W (fun c hc=>Nat.lt_of_lt_of_le hc.2 (K25.out.trans kW).size) ⟨HCLS.out.keep (B:=W2.heap.size) (fun c hc=>hc.2) (K25.out.trans kW),HF.out⟩).mono ?_
  rintro e w' ⟨k',mv,pv,rfl,-,-⟩
  rw [HER.out]
  have k'':aA W w':=k'
  exact ⟨(K5.out.trans kW).trans k'',mv,pv,rfl,((kW.trans k'').cell (p:=⟨fb,0,none⟩) hfl).trans hf0,((kW.trans k'').cell (p:=⟨fb,1,none⟩) hfl).trans hf1⟩)
 have HS:=hid (show W5.cell? ⟨fb,0,none⟩=some (.int .i64 ((cG ps wi).n:Nat))/\W5.cell? ⟨fb,1,none⟩=some (.slice cp (cG ps wi).cl.length cc) from ⟨hf0,hf1⟩)
 have HSd:=hid (show W5.drew.cell? ⟨fb,0,none⟩=some (.int .i64 ((cG ps wi).n:Nat))/\W5.drew.cell? ⟨fb,1,none⟩=some (.slice cp (cG ps wi).cl.length cc) from ⟨hf0,hf1⟩)
 clear hst HER HCLS HF
 go_upto_region 5 with fail
 go_region_held3 (fun W'=>W'.cell? ⟨fb,0,none⟩=some (.int .i64 ((cG ps wi).n:Nat))/\W'.cell? ⟨fb,1,none⟩=some (.slice cp (cG ps wi).cl.length cc))
  (first | with_reducible exact HS.out | with_reducible exact HSd.out | with_reducible exact HS8.out | go_keep)
  (first | (go_at_call 42;refine (HSOL.out _ (aA.drew (aA.refl _))).mono ?_;rintro e w8 ⟨k8,mv8,pv8,rfl,h80,h81⟩;have K8:=hid k8;have HS8:=hid (And.intro h80 h81);clear k8 h80 h81))
 go_wp2_with fail
 go_ret
 exact ⟨rfl,K8.out⟩
end Go.Proofs.YthaaaecmeafofaaGreatDoor
namespace Go.Proofs.YthaaaecmeafofaaGreatDoor
open Go.RowKit
theorem oC {P:Program} {w:World} : ∀ {l:List (String × DataW Unit)} {ps:List MemPlace} {x:String × DataW Unit},DataW.LaidVars P w l ps->x∈l->∃ qs,DataW.LaidVars P w [x] qs/\qs.Sublist ps
 | [],_,_,_,hx=>by cases hx
 | (n,d) :: r,ps,x,h,hx=>by
  obtain ⟨g,t,cs,fuel,p,q,h1,h2,h3,h4,h5,rfl⟩:=h
  rcases List.mem_cons.1 hx with rfl | hx
  ·exact ⟨MemPlace.row ⟨g,0,none⟩ cs.size++p ++ [],⟨g,t,cs,fuel,p,[],h1,h2,h3,h4,rfl,rfl⟩,by rw [List.append_nil];exact List.sublist_append_left _ _⟩
  ·obtain ⟨qs,h6,h7⟩:=oC h5 hx
   exact ⟨qs,h6,h7.trans (List.sublist_append_right _ _)⟩
theorem iY {P:Program} {w:World} {l:List (String × DataW Unit)} {x:String × DataW Unit} (h:laidMet P l w) (hx:x∈l):laidMet P [x] w:=by
 obtain ⟨ps,h1,h2,h3⟩:=h
 obtain ⟨qs,h4,h5⟩:=oC h1 hx
 exact ⟨qs,h4,h5.nodup h2,fun b off hb=>h3 b off (h5.subset hb)⟩
theorem oH {w:World} {b o:Nat} {v:Value} (h:w.cell? ⟨b,o,none⟩=some v):b<w.heap.size:=by
 rcases Nat.lt_or_ge b w.heap.size with h' | h'
 ·exact h'
 ·simp [World.cell?,Array.getElem?_eq_none h'] at h
theorem aKc : Tryz.prog.globalNamed "quartermaster/atom.signs" = some 8 := by kernel_rfl
theorem aPm:(Tryz.prog.globals[8]?).map (·.type)=some 324:=by kernel_rfl
theorem aQu:(Tryz.prog.globals[1]?).map (·.type)=some 270:=by kernel_rfl
theorem aQr:Tryz.prog.cellsOf 270=20:=by kernel_rfl
theorem aQs:Tryz.prog.cellsOf 237=1:=by kernel_rfl
theorem aCe:Tryz.prog.cellsOf 9=1:=by kernel_rfl
theorem aPr:Tryz.prog.cellsOf 319=1:=by kernel_rfl
theorem aQf : Tryz.prog.globalNamed "strconv.ErrSyntax" = some 6 := by kernel_rfl
theorem aQw:(Tryz.prog.globals[6]?).map (·.type)=some 260:=by kernel_rfl
theorem aQe : Tryz.prog.globalNamed "strconv.ErrRange" = some 7 := by kernel_rfl
theorem aQv:(Tryz.prog.globals[7]?).map (·.type)=some 260:=by kernel_rfl
theorem aQo : "*" ++ "errors.errorString" = "*errors.errorString" := by decide
theorem aLk (u : TypeId) (h : Tryz.prog.typeName? 3 u = some "*errors.errorString") : u = 317 :=
 typeName_ptr_named (nm := "errors.errorString") (by rw [aQo]; kernel_rfl) (by kernel_rfl) (by decide) u (by rw [aQo]; exact h)
theorem aLp {W : World} (h : laidMet Tryz.prog [("quartermaster/atom.signs", Rows.laid_quartermaster_atom_signs)] W) : yQ W := by
 obtain ⟨ps,⟨g,t,cs,fuel,p,q,hg,ht,hv,hd,_,_⟩,_⟩:=h
 obtain rfl:=Option.some.inj (aKc.symm.trans hg)
 obtain rfl:=Option.some.inj (aPm.symm.trans ht)
 obtain ⟨xs,m,rfl,hx,hlen,hn,hel⟩:=DataW.trod_array Tryz.underlying324 hd
 simp only [Rows.laid_quartermaster_atom_signs,Prod.mk.injEq,DataW.agg.injEq] at hx
 match xs,hn,hx,hel with
 | [x0,x1,x2,x3],_,hx,hel=>
  have cell : ∀ (k:Nat) (x:DataW Unit × List MemPlace) (l:List UInt8),k<4->[x0,x1,x2,x3][k]? = some x->x.1=.lit (.string l)->W.cell? ⟨8,k,none⟩=some (.string ⟨l.toArray⟩):=by
   intro k x l hk hxk hl
   have h1:=hel k hk
   rw [hxk] at h1
   obtain ⟨s,e1,e2,_⟩:=DataW.trod_string Tryz.underlying9 h1
   rw [e2] at hl
   have hs:s.data.toList=l:=by simpa using hl
   have hs':s=⟨l.toArray⟩:=by cases s;simp at hs;rw [← hs]
   have h2:=World.var?_cell aKc hv k
   rw [aCe,Nat.mul_one] at e1
   have h3:cs[k]? = some (.string s):=by
    have:=congrArg (·[0]?) e1
    simpa [List.getElem?_take,List.getElem?_drop] using this
   rw [h2,h3,hs']
  simp only [List.map_cons,List.map_nil,List.cons.injEq,and_true] at hx
  have c1:=cell 1 x1 [61] (by decide) rfl hx.1.2.1.symm
  refine ⟨oH c1,c1,cell 2 x2 [62,61] (by decide) rfl hx.1.2.2.1.symm,cell 3 x3 [60] (by decide) rfl hx.1.2.2.2.symm⟩
theorem aOr {W : World} {l : List (String × DataW Unit)} (h : laidMet Tryz.prog l W) (h1 : ("quartermaster/atom.signs", Rows.laid_quartermaster_atom_signs) ∈ l) (h2 : ("internal/strconv.uint64pow10", Rows.laid_internal_strconv_uint64pow10) ∈ l)
  (h3 : ("strconv.ErrSyntax", Rows.laid_strconv_ErrSyntax) ∈ l) (h4 : ("strconv.ErrRange", Rows.laid_strconv_ErrRange) ∈ l) : Env W := by
 have tab : Lib.TabIs Tryz.prog W "internal/strconv.uint64pow10" .u64 Lib.pow10Tab := Lib.tabIs_of_head (rest := []) iZ aQu Tryz.underlying270 Tryz.underlying237 aQs aQr (iY h h2)
 obtain ⟨a0,s0,hv0,-,-,-⟩:=laid_sentinel (iY h h3) aQf aQw Tryz.underlying260 aLk Tryz.underlying317 Tryz.underlying319 rfl rfl Tryz.underlying9 aPr aCe
 obtain ⟨a1,s1,hv1,-,-,-⟩:=laid_sentinel (iY h h4) aQe aQv Tryz.underlying260 aLk Tryz.underlying317 Tryz.underlying319 rfl rfl Tryz.underlying9 aPr aCe
 have c0:W.cell? ⟨6,0,none⟩=some (.iface 317 (.pointer (some a0))):=by simpa using World.var?_cell aQf hv0 0
 have c1:W.cell? ⟨7,0,none⟩=some (.iface 317 (.pointer (some a1))):=by simpa using World.var?_cell aQe hv1 0
 exact ⟨aLp (iY h h1),⟨oH (tab.cell iZ 0 (by decide)),tab⟩,⟨oH c0,_,_,c0⟩,⟨oH c1,_,_,c1⟩⟩
end Go.Proofs.YthaaaecmeafofaaGreatDoor
namespace Go.Proofs.YthaaaecmeafofaaGreatDoor
open Go.ChangeShapes Go.WideShapes Go.ChangeAt Go.RowKit Go.Joins
theorem nL:Tryz.prog.cellsOf 71=6:=by kernel_rfl
theorem gR:Tryz.prog.cellsOf 3=1:=by kernel_rfl
theorem nM:Tryz.prog.cellsOf 4=1:=by kernel_rfl
end Go.Proofs.YthaaaecmeafofaaGreatDoor
namespace Go.Proofs.YthaaaecmeafofaaGreatDoor
open Go.ChangeShapes Go.WideShapes Go.ChangeAt Go.RowKit Go.Joins
theorem nN:Tryz.prog.cellsOf 74=10:=by kernel_rfl
theorem sD:Tryz.prog.cellsOf 72=1:=by kernel_rfl
theorem aQj {α:Type} {cs:List α} (h:cs.length=6) : ∃ c0 c1 c2 c3 c4 c5,cs = [c0,c1,c2,c3,c4,c5]:=by
 match cs,h with
 | [c0,c1,c2,c3,c4,c5],_=>exact ⟨c0,c1,c2,c3,c4,c5,rfl⟩
theorem aOz {α:Type} {cs:List α} (h:cs.length=10) : ∃ c0 c1 c2 c3 c4 c5 c6 c7 c8 c9,cs = [c0,c1,c2,c3,c4,c5,c6,c7,c8,c9]:=by
 match cs,h with
 | [c0,c1,c2,c3,c4,c5,c6,c7,c8,c9],_=>exact ⟨c0,c1,c2,c3,c4,c5,c6,c7,c8,c9,rfl⟩
section
variable {H:Type} {enc:TypeId × Value->H} {w:World} {base:Nat} {sp:Nat->Bool} {held:Bool}
theorem wJ {fuel:Nat} {cs:List Value} {x:DataW H × List MemPlace} (h:DataW.trod enc Tryz.prog w base sp held fuel 71 cs=some x) : ∃ a:At,cs = [.string a.n,.int .i64 a.op,.int .i64 a.v,.int .i64 a.sl,.string a.f,.bool a.on]:=by
 obtain ⟨xs,m,_,hx,hl,hlen,hel⟩:=DataW.trod_struct Tryz.underlying71 h
 obtain ⟨c0,c1,c2,c3,c4,c5,rfl⟩:=aQj (hl.trans nL)
 match xs,hlen with
 | [y0,y1,y2,y3,y4,y5],_=>
  obtain ⟨n,e0,g0,_⟩:=DataW.trod_string Tryz.underlying9 (by simpa using hel 0 _ rfl)
  obtain ⟨op,e1,g1,_⟩:=DataW.trod_int Tryz.underlying3 (by simpa using hel 1 _ rfl)
  obtain ⟨v,e2,g2,_⟩:=DataW.trod_int Tryz.underlying3 (by simpa using hel 2 _ rfl)
  obtain ⟨sl,e3,g3,_⟩:=DataW.trod_int Tryz.underlying3 (by simpa using hel 3 _ rfl)
  obtain ⟨f,e4,g4,_⟩:=DataW.trod_string Tryz.underlying9 (by simpa using hel 4 _ rfl)
  obtain ⟨on,e5,g5⟩:=DataW.trod_bool Tryz.underlying4 (by simpa using hel 5 _ rfl)
  refine ⟨⟨n,op,v,sl,f,on⟩,?_⟩
  simp [gR,nM,aCe] at e0 e1 e2 e3 e4 e5
  rw [e0,e1,e2,e3,e4,e5]
theorem aIn : ∀ (fuel:Nat) (cs:List Value) (x:DataW H × List MemPlace),DataW.trod enc Tryz.prog w base sp held fuel 74 cs=some x->∃ t:NT,aH (fun b=>b<w.heap.size) w t cs:=by
 intro fuel
 induction fuel using Nat.strongRecOn with
 | ind fuel ih=>
 intro cs x h
 obtain ⟨xs,m,hm,hx,hl,hlen,hel⟩:=DataW.trod_struct Tryz.underlying74 h
 obtain ⟨c0,c1,c2,c3,c4,c5,c6,c7,c8,c9,rfl⟩:=aOz (hl.trans nN)
 match xs,hlen with
 | [y0,y1,y2,y3,y4],_=>
  obtain ⟨k,e0,-,-⟩:=DataW.trod_int Tryz.underlying3 (by simpa using hel 0 _ rfl)
  obtain ⟨a,e1⟩:=wJ (by simpa using hel 1 _ rfl)
  obtain ⟨fl,e2,-,-⟩:=DataW.trod_string Tryz.underlying9 (by simpa using hel 2 _ rfl)
  obtain ⟨nt,e3,-⟩:=DataW.trod_bool Tryz.underlying4 (by simpa using hel 3 _ rfl)
  have hs:=DataW.trod_slice Tryz.underlying72 (show DataW.trod enc Tryz.prog w base sp held m 72 _=some y4 by simpa using hel 4 _ rfl)
  simp [gR,nM,aCe,nL] at e0 e1 e2 e3
  obtain ⟨e10,e11,e12,e13,e14,e15⟩:=e1
  rcases hs with ⟨e4,-⟩ | ⟨ad,len,cap,elems,rest,mm,hmm,e4,-,-,hlc,hcm,hle,hcell,-,-⟩
  ·simp [sD] at e4
   refine ⟨.node k a fl nt [],?_⟩
   rw [aH]
   exact ⟨none,0,by rw [e0,e10,e11,e12,e13,e14,e15,e2,e3,e4];rfl,Nat.le_refl _,by simp,by rw [bA];trivial⟩
  ·simp [sD] at e4
   have key : ∀ (q i:Nat),i+q=len->∃ ts:List NT,ts.length=q/\bA (fun b=>b<w.heap.size) w ts (some ad) i:=by
    intro q
    induction q with
    | zero=>intro i _;exact ⟨[],rfl,by rw [bA];trivial⟩
    | succ q ihq=>
     intro i hi
     obtain ⟨ts,hts,hk⟩:=ihq (i+1) (by omega)
     have hci:=hcell i (by omega)
     rw [nN,List.getElem?_eq_getElem (by omega)] at hci
     obtain ⟨csi,hc1,hc2⟩:=Option.bind_eq_some_iff.1 hci
     obtain ⟨t,ht⟩:=ih mm (by omega) csi _ hc2
     obtain ⟨hb1,hb2,hb3⟩:=World.cells?_some hc1
     have hblk:=World.cells?_block hc1 (by decide)
     refine ⟨t :: ts,by simp [hts],?_⟩
     rw [bA]
     refine ⟨⟨ad,csi,rfl,by rw [mH] at hblk;exact hblk,fun j v hv=> ?_,ht⟩,hk⟩
     have hj:j<10:=by rw [← hb2];exact (List.getElem?_eq_some_iff.1 hv).1
     rw [hb3 j hj];exact hv
   obtain ⟨ts,hts,hk⟩:=key len 0 (by omega)
   refine ⟨.node k a fl nt ts,?_⟩
   rw [aH]
   exact ⟨some ad,cap,by rw [e0,e10,e11,e12,e13,e14,e15,e2,e3,e4,hts],by omega,by unfold maxLen at hcm;omega,hk⟩
end
theorem aKs {w:World} (h:w.ShapedOpen Tryz.prog):jR w:=by
 obtain ⟨m,hm⟩:=cell_of_shapedOpen_int (g:=0) (t:=3) (zero:=#[.int .i64 0]) (k:= .i64) h (of_decide_eq_true (by kernel_rfl)) (by kernel_rfl) rfl (by kernel_rfl) (by kernel_rfl) Tryz.underlying3
 exact ⟨oH hm,m,hm⟩
theorem uW {H:Type} {enc:TypeId × Value->H} {a:Assume} {C:Checked} {os:Os} {f:FuncId} {fn:Func} {s:ChangeSpec} {conds:List PathCond} {apart fresh handsOn again:Bool} {X:World->Array Value->Prop}
  (hX : ∀ (w w':World) (args:Array Value),w.heap=w'.heap->X w args->X w' args)
  (own:ownKnob C.prog.godebug=none) (started:os.Started) (noInit:C.prog.inits.idxOf? f=none) (hfn:C.prog.funcs[f]? = some fn)
  (witness : ∃ (w:World) (tape:Tape) (i:Input),w.os=os/\(w.forCall tape i).Shaped C.prog/\i.vars = []/\Input.okWide C.prog (w.forCall tape i) .any w.heap.size f i/\
   ((s.pre enc C.prog fn conds apart (w.forCall tape i).memory i.args/\X (w.forCall tape i).memory i.args)/\sizedMet enc C.prog fn (OpenSpec.ofChange s) apart (w.forCall tape i).memory i.args)/\a.holds C.prog (lone (Frame.enter C.prog f i.args .normal) [] (w.forCall tape i)))
  (sG : ∀ (W:World) (base:Nat) (args:Array Value) (ds gs:List (DataW H)) (before:List MemPlace),
   (∀ (j:Nat) t v,fn.params[j]? = some t->args[j]? = some v->Value.okWide C.prog W .any base t v)->
   DataW.Whole enc C.prog fn.params.toList s.vars apart W args.toList ds gs before->
   X W args->W.ShapedOpen C.prog->
   Calls C.prog f args W fun e W'=> ∃ v,e=.returned v/\s.post enc C.prog fn apart fresh handsOn again W args v W') :
  ReturnsInHanded a C os f .any (fun w args=>(s.pre enc C.prog fn conds apart w args/\X w args)/\sizedMet enc C.prog fn (OpenSpec.ofChange s) apart w args) (s.post enc C.prog fn apart fresh handsOn again):=by
 refine returnsInHanded_of_calls own started noInit witness ?_
 intro w tape i _ hsh _ hok hpre _
 obtain ⟨_,_,_,fn',hfn',_,_,_,_,hval⟩:=hok
 obtain rfl:fn'=fn:=Option.some.inj (hfn'.symm.trans hfn)
 obtain ⟨⟨⟨ds,gs,before,hw,_⟩,hx⟩,_⟩:=hpre
 have hw':=DataW.Whole.of_heap (w':=w.forCall tape i) (by rfl) hw
 refine (sG (w.forCall tape i) w.heap.size i.args ds gs before hval hw' (hX _ _ _ (by rfl) hx) hsh).mono fun e W' ⟨v,he,hp⟩=> ?_
 subst he
 exact ChangeSpec.post_blind hp
end Go.Proofs.YthaaaecmeafofaaGreatDoor
namespace Go.Proofs.YthaaaecmeafofaaGreatDoor
open Go.ChangeShapes Go.WideShapes Go.ChangeAt Go.RowKit Go.Joins
theorem vH:Tryz.prog.cellsOf 76=14:=by kernel_rfl
theorem aCg:Tryz.prog.cellsOf 69=1:=by kernel_rfl
theorem sE:Tryz.prog.cellsOf 22=1:=by kernel_rfl
theorem aCh:Tryz.prog.cellsOf 24=1:=by kernel_rfl
theorem pP {a:Addr} (h:a.spot=none):a=⟨a.block,a.off,none⟩:=by cases a;simp at h;subst h;rfl
theorem aPa {α:Type} {cs:List α} (h:cs.length=14) : ∃ c0 c1 c2 c3 c4 c5 c6 c7 c8 c9 c10 c11 c12 c13,cs = [c0,c1,c2,c3,c4,c5,c6,c7,c8,c9,c10,c11,c12,c13]:=by
 match cs,h with
 | [c0,c1,c2,c3,c4,c5,c6,c7,c8,c9,c10,c11,c12,c13],_=>exact ⟨c0,c1,c2,c3,c4,c5,c6,c7,c8,c9,c10,c11,c12,c13,rfl⟩
section
variable {H:Type} {enc:TypeId × Value->H} {w:World} {base:Nat} {sp:Nat->Bool} {held:Bool}
theorem rM {α:Type} {P:Nat->α->Prop} : ∀ (n:Nat),(∀ i,i<n->∃ x,P i x)->∃ l:List α,l.length=n/\∀ (i:Nat) (h:i<l.length),P i l[i]
 | 0,_=>⟨[],rfl,fun i h=>absurd h (Nat.not_lt_zero _)⟩
 | n+1,h=>by
  obtain ⟨l,hl,hp⟩:=rM n (fun i hi=>h i (by omega))
  obtain ⟨x,hx⟩:=h n (by omega)
  refine ⟨l ++ [x],by simp [hl],fun i hi=> ?_⟩
  by_cases hlt:i<l.length
  ·rw [List.getElem_append_left hlt];exact hp i hlt
  ·have:i=l.length:=by simp at hi;omega
   subst this
   rw [List.getElem_append_right (Nat.le_refl _)]
   simp only [Nat.sub_self,List.getElem_cons_zero]
   rw [hl];exact hx
theorem aIq {fuel:Nat} {cs:List Value} {x:DataW H × List MemPlace} (h:DataW.trod enc Tryz.prog w base sp held fuel 69 cs=some x) : ∃ (fs:List ByteArray) (v:Value),cs = [v]/\cB (fun b=>b<w.heap.size) w fs v:=by
 rcases DataW.trod_slice Tryz.underlying69 h with ⟨rfl,-⟩ | ⟨ad,len,cap,elems,rest,mm,hmm,rfl,-,-,hlc,hcm,hle,hcell,-,-⟩
 ·exact ⟨[],_,rfl,Or.inl ⟨rfl,none,0,rfl⟩⟩
 ·have one : ∀ i,i<len->∃ y:ByteArray,ad.block<w.heap.size/\w.cell? (ad.add i)=some (.string y):=by
   intro i hi
   have hci:=hcell i hi
   rw [aCe,Nat.mul_one,List.getElem?_eq_getElem (by omega)] at hci
   obtain ⟨csi,hc1,hc2⟩:=Option.bind_eq_some_iff.1 hci
   obtain ⟨y,e0,-,-⟩:=DataW.trod_string Tryz.underlying9 hc2
   obtain ⟨hb1,hb2,hb3⟩:=World.cells?_some hc1
   have hblk:=World.cells?_block hc1 (by decide)
   rw [mH] at hblk
   refine ⟨y,hblk,?_⟩
   have:=hb3 0 (by decide)
   rw [e0] at this
   simpa [Addr.add] using this
  by_cases h0:len=0
  ·subst h0
   exact ⟨[],_,rfl,Or.inl ⟨rfl,_,_,rfl⟩⟩
  ·obtain ⟨fs,hfl,hfs⟩:=rM len one
   have hz:=hfs 0 (by omega)
   have hsp:ad.spot=none:=by
    have:=World.cell?_spot hz.2
    simpa [Addr.add] using this
   have had:=pP hsp
   refine ⟨fs,_,rfl,Or.inr ⟨ad.block,ad.off,cap,by rw [hfl,← had],⟨hz.1,by omega⟩,by unfold maxLen at hcm;omega,fun j y hy=> ?_⟩⟩
   obtain ⟨hj,rfl⟩:=List.getElem?_eq_some_iff.1 hy
   have:=(hfs j hj).2
   rw [had] at this
   rwa [Addr.add_mid] at this
theorem aLy {fuel:Nat} {cs:List Value} {x:DataW H × List MemPlace} (h:DataW.trod enc Tryz.prog w base sp held fuel 76 cs=some x) : ∃ p:PK,dI (fun b=>b<w.heap.size) w p cs/\cs.length=14:=by
 obtain ⟨xs,m,hm,hx,hl,hlen,hel⟩:=DataW.trod_struct Tryz.underlying76 h
 have hl14:=hl.trans vH
 obtain ⟨c0,c1,c2,c3,c4,c5,c6,c7,c8,c9,c10,c11,c12,c13,rfl⟩:=aPa hl14
 match xs,hlen with
 | [y0,y1,y2,y3,y4],_=>
  obtain ⟨n,e0,-,-⟩:=DataW.trod_string Tryz.underlying9 (by simpa using hel 0 _ rfl)
  obtain ⟨v,e1,-,-⟩:=DataW.trod_int Tryz.underlying3 (by simpa using hel 1 _ rfl)
  obtain ⟨sl,e2,-,-⟩:=DataW.trod_int Tryz.underlying3 (by simpa using hel 2 _ rfl)
  obtain ⟨fs,fv,e3,hf⟩:=aIq (show DataW.trod enc Tryz.prog w base sp held m 69 _=some y3 by simpa using hel 3 _ rfl)
  obtain ⟨t,ht⟩:=aIn m _ _ (show DataW.trod enc Tryz.prog w base sp held m 74 _=some y4 by simpa using hel 4 _ rfl)
  simp [gR,aCe,aCg,nN] at e0 e1 e2 e3 ht
  refine ⟨⟨n,v,sl,fs,t⟩,⟨fv,[c4,c5,c6,c7,c8,c9,c10,c11,c12,c13],by rw [e0,e1,e2,e3],hf,ht⟩,rfl⟩
theorem aIp {fuel:Nat} {cs:List Value} {x:DataW H × List MemPlace} (h:DataW.trod enc Tryz.prog w base sp held fuel 22 cs=some x) : ∃ (ps:List PK) (v:Value),cs = [v]/\bD (fun b=>b<w.heap.size) w ps v:=by
 rcases DataW.trod_slice Tryz.underlying22 h with ⟨rfl,-⟩ | ⟨ad,len,cap,elems,rest,mm,hmm,rfl,-,-,hlc,hcm,hle,hcell,-,-⟩
 ·exact ⟨[],_,rfl,Or.inl ⟨rfl,none,0,rfl⟩⟩
 ·have one : ∀ i,i<len->∃ y:PK,ad.block<w.heap.size/\∃ cs:List Value,cs.length=14/\(∀ m,m<14->w.cell? ((ad.add (i*14)).add m)=cs[m]?)/\dI (fun b=>b<w.heap.size) w y cs:=by
   intro i hi
   have hci:=hcell i hi
   rw [vH,List.getElem?_eq_getElem (by omega)] at hci
   obtain ⟨csi,hc1,hc2⟩:=Option.bind_eq_some_iff.1 hci
   obtain ⟨p,hp,hl⟩:=aLy hc2
   obtain ⟨hb1,hb2,hb3⟩:=World.cells?_some hc1
   have hblk:=World.cells?_block hc1 (by decide)
   rw [mH] at hblk
   exact ⟨p,hblk,csi,hl,hb3,hp⟩
  by_cases h0:len=0
  ·subst h0
   exact ⟨[],_,rfl,Or.inl ⟨rfl,_,_,rfl⟩⟩
  ·obtain ⟨ps,hfl,hfs⟩:=rM len one
   obtain ⟨hz,cs0,hl0,hc0,-⟩:=hfs 0 (by omega)
   have hsp:ad.spot=none:=by
    have h1:=hc0 0 (by decide)
    rw [List.getElem?_eq_getElem (by omega)] at h1
    have:=World.cell?_spot h1
    simpa [Addr.add] using this
   have had:=pP hsp
   refine ⟨ps,_,rfl,Or.inr ⟨ad.block,ad.off,cap,by rw [hfl,← had],hz,by unfold maxLen at hcm;omega,fun j hj=> ?_⟩⟩
   obtain ⟨-,csj,hlj,hcj,hpj⟩:=hfs j hj
   refine ⟨csj,fun m y hy=> ?_,hpj⟩
   have hm:m<14:=by rw [← hlj];exact (List.getElem?_eq_some_iff.1 hy).1
   have:=hcj m hm
   rw [had,Addr.add_mid,Addr.add_mid,hy] at this
   exact this
end
theorem aHw {H:Type} {enc:TypeId × Value->H} {w:World} {base b0:Nat} {sp:Nat->Bool} {held:Bool} {x:Value} {d:DataW H} {p:List MemPlace} (hv:Value.okWide Tryz.prog w .any b0 24 x) (h:DataW.Trod enc Tryz.prog w base sp held 24 x d p) :
  ∃ (ps:List PK) (v:Value),x=.agg #[v]/\bD (fun b=>b<w.heap.size) w ps v:=by
 obtain ⟨cs,rfl,hsz⟩:=okWide_struct Tryz.underlying24 hv
 obtain ⟨fuel,hf⟩:=h
 obtain ⟨xs,m,hm,hx,hl,hlen,hel⟩:=DataW.trod_struct Tryz.underlying24 (show DataW.trod enc Tryz.prog w base sp held fuel 24 cs.toList=some (d,p) from hf)
 match xs,hlen with
 | [y0],_=>
  obtain ⟨ps,v,e,hp⟩:=aIp (show DataW.trod enc Tryz.prog w base sp held m 22 _=some y0 by simpa using hel 0 _ rfl)
  refine ⟨ps,v,?_,hp⟩
  have hl1:=hl.trans aCh
  simp [sE] at e
  obtain ⟨l⟩:=cs
  simp at hl1 e
  match l,hl1 with
  | [c],_=>simp at e;subst e;rfl
end Go.Proofs.YthaaaecmeafofaaGreatDoor
namespace Go.Proofs.YthaaaecmeafofaaGreatDoor
open Go.ChangeShapes Go.WideShapes Go.ChangeAt Go.RowKit Go.Joins
theorem zF:Tryz.prog.cellsOf 64=2:=by kernel_rfl
theorem zE:Tryz.prog.cellsOf 62=1:=by kernel_rfl
theorem vI:Tryz.prog.cellsOf 65=2:=by kernel_rfl
theorem aGm:Tryz.prog.cellsOf 25=1:=by kernel_rfl
theorem aGl:Tryz.prog.cellsOf 43=1:=by kernel_rfl
theorem aCf:Tryz.prog.cellsOf 37=1:=by kernel_rfl
theorem aGn:Tryz.prog.cellsOf 44=1:=by kernel_rfl
theorem aCi:Tryz.prog.cellsOf 46=4:=by kernel_rfl
section
variable {H:Type} {enc:TypeId × Value->H} {w:World} {base:Nat} {sp:Nat->Bool} {held:Bool}
theorem mD {T e:TypeId} {k:Nat} (hT:Tryz.prog.underlying T=some (.slice e)) (hk:Tryz.prog.cellsOf e=k) (hk0:0<k) {α:Type} (R:α->List Value->Prop)
  (hel : ∀ (m:Nat) (cs:List Value) (y:DataW H × List MemPlace),DataW.trod enc Tryz.prog w base sp held m e cs=some y->∃ a,R a cs/\cs.length=k)
  {fuel:Nat} {cs:List Value} {x:DataW H × List MemPlace} (h:DataW.trod enc Tryz.prog w base sp held fuel T cs=some x) :
  ∃ (xs:List α) (p:Option Addr) (cap:Nat),cs = [.slice p xs.length cap]/\(xs.length<=cap/\xs.length<=9223372036854775807)/\(0<xs.length->∃ b off,p=some ⟨b,off,none⟩/\b<w.heap.size/\∀ (j:Nat) (a:α),xs[j]? = some a->∃ cs:List Value,cs.length=k/\R a cs/\∀ (m:Nat) (v:Value),cs[m]? = some v->w.cell? ⟨b,off+j*k+m,none⟩=some v):=by
 rcases DataW.trod_slice hT h with ⟨rfl,-⟩ | ⟨ad,len,cap,elems,rest,mm,hmm,rfl,-,-,hlc,hcm,hle,hcell,-,-⟩
 ·exact ⟨[],none,0,rfl,⟨Nat.le_refl _,Nat.zero_le _⟩,fun h=>absurd h (Nat.lt_irrefl 0)⟩
 ·have one : ∀ i,i<len->∃ y:α,ad.block<w.heap.size/\∃ cs:List Value,cs.length=k/\(∀ m,m<k->w.cell? ((ad.add (i*k)).add m)=cs[m]?)/\R y cs:=by
   intro i hi
   have hci:=hcell i hi
   rw [hk,List.getElem?_eq_getElem (by omega)] at hci
   obtain ⟨csi,hc1,hc2⟩:=Option.bind_eq_some_iff.1 hci
   obtain ⟨p,hp,hl⟩:=hel _ _ _ hc2
   obtain ⟨hb1,hb2,hb3⟩:=World.cells?_some hc1
   have hblk:=World.cells?_block hc1 hk0
   rw [mH] at hblk
   exact ⟨p,hblk,csi,hl,hb3,hp⟩
  obtain ⟨ps,hfl,hfs⟩:=rM len one
  refine ⟨ps,some ad,cap,by rw [hfl],⟨by omega,by unfold maxLen at hcm;omega⟩,fun hpos=> ?_⟩
  obtain ⟨hz,cs0,hl0,hc0,-⟩:=hfs 0 hpos
  have hsp:ad.spot=none:=by
   have h1:=hc0 0 hk0
   rw [List.getElem?_eq_getElem (by omega)] at h1
   have:=World.cell?_spot h1
   simpa [Addr.add] using this
  have had:=pP hsp
  refine ⟨ad.block,ad.off,by rw [← had],hz,fun j a ha=> ?_⟩
  obtain ⟨hj,rfl⟩:=List.getElem?_eq_some_iff.1 ha
  obtain ⟨-,csj,hlj,hcj,hpj⟩:=hfs j hj
  refine ⟨csj,hlj,hpj,fun m y hy=> ?_⟩
  have hm:m<k:=by rw [← hlj];exact (List.getElem?_eq_some_iff.1 hy).1
  have:=hcj m hm
  rw [had,Addr.add_mid,Addr.add_mid,hy] at this
  exact this
theorem aEi {fuel:Nat} {cs:List Value} {x:DataW H × List MemPlace} (h:DataW.trod enc Tryz.prog w base sp held fuel 62 cs=some x) : ∃ (bs:List Bool) (v:Value),cs = [v]/\aZ (fun b=>b<w.heap.size) w bs v:=by
 obtain ⟨bs,p,cap,rfl,hl,hr⟩:=mD Tryz.underlying62 nM (by decide) (fun (b:Bool) cs=>cs = [.bool b]) (fun m cs y hy=>by obtain ⟨b,rfl,-⟩:=DataW.trod_bool Tryz.underlying4 hy;exact ⟨b,rfl,rfl⟩) h
 refine ⟨bs,_,rfl,p,cap,rfl,hl.2,fun h0=> ?_⟩
 obtain ⟨b,off,h1,h2,h3⟩:=hr h0
 refine ⟨b,off,h1,h2,fun j y hy=> ?_⟩
 obtain ⟨cs,-,rfl,h4⟩:=h3 j y hy
 have:=h4 0 _ rfl
 rwa [Nat.mul_one,Nat.add_zero] at this
theorem aIo {fuel:Nat} {cs:List Value} {x:DataW H × List MemPlace} (h:DataW.trod enc Tryz.prog w base sp held fuel 37 cs=some x) : ∃ (zs:List Int) (v:Value),cs = [v]/\aK (fun b=>b<w.heap.size) w zs v:=by
 obtain ⟨bs,p,cap,rfl,hl,hr⟩:=mD Tryz.underlying37 gR (by decide) (fun (z:Int) cs=>cs = [.int .i64 z]) (fun m cs y hy=>by obtain ⟨z,rfl,-,-⟩:=DataW.trod_int Tryz.underlying3 hy;exact ⟨z,rfl,rfl⟩) h
 refine ⟨bs,_,rfl,p,cap,rfl,hl.2,fun h0=> ?_⟩
 obtain ⟨b,off,h1,h2,h3⟩:=hr h0
 refine ⟨b,off,h1,h2,fun j y hy=> ?_⟩
 obtain ⟨cs,-,rfl,h4⟩:=h3 j y hy
 have:=h4 0 _ rfl
 rwa [Nat.mul_one,Nat.add_zero] at this
theorem aLz {fuel:Nat} {cs:List Value} {x:DataW H × List MemPlace} (h:DataW.trod enc Tryz.prog w base sp held fuel 44 cs=some x) : ∃ (zs:List (Int × Int)) (v:Value),cs = [v]/\jS (fun b=>b<w.heap.size) w zs v:=by
 obtain ⟨bs,p,cap,rfl,hl,hr⟩:=mD Tryz.underlying44 vI (by decide) (fun (z:Int × Int) cs=>cs = [.int .i64 z.1,.int .i64 z.2]) (fun m cs y hy=>by
  obtain ⟨xs,n,-,-,hl,hlen,hel⟩:=DataW.trod_array Tryz.underlying65 hy
  rw [vI] at hl
  match xs,hlen,cs,hl with
  | [y0,y1],_,[c0,c1],_=>
   obtain ⟨a,e0,-,-⟩:=DataW.trod_int Tryz.underlying3 (show DataW.trod enc Tryz.prog w base sp held n 3 _=some y0 by simpa using hel 0 (by decide))
   obtain ⟨b,e1,-,-⟩:=DataW.trod_int Tryz.underlying3 (show DataW.trod enc Tryz.prog w base sp held n 3 _=some y1 by simpa using hel 1 (by decide))
   simp [gR] at e0 e1
   exact ⟨(a,b),by rw [e0,e1],rfl⟩) h
 refine ⟨bs,_,rfl,p,cap,rfl,hl.2,fun h0=> ?_⟩
 obtain ⟨b,off,h1,h2,h3⟩:=hr h0
 refine ⟨b,off,h1,h2,fun j y hy=> ?_⟩
 obtain ⟨cs,-,rfl,h4⟩:=h3 j y hy
 exact ⟨by have:=h4 0 _ rfl;rwa [Nat.add_zero] at this,h4 1 _ rfl⟩
theorem aLx {fuel:Nat} {cs:List Value} {x:DataW H × List MemPlace} (h:DataW.trod enc Tryz.prog w base sp held fuel 25 cs=some x) : ∃ (ms:List MB) (v:Value),cs = [v]/\bX (fun b=>b<w.heap.size) w ms v:=by
 obtain ⟨ms,p,cap,rfl,hl,hr⟩:=mD Tryz.underlying25 zF (by decide) (fun (m:MB) cs=> ∃ ov,cs = [.int .i64 m.pl,ov]/\aZ (fun b=>b<w.heap.size) w m.on ov) (fun m cs y hy=>by
  obtain ⟨xs,n,-,-,hl,hlen,hel⟩:=DataW.trod_struct Tryz.underlying64 hy
  rw [zF] at hl
  match xs,hlen,cs,hl with
  | [y0,y1],_,[c0,c1],_=>
   obtain ⟨a,e0,-,-⟩:=DataW.trod_int Tryz.underlying3 (show DataW.trod enc Tryz.prog w base sp held n 3 _=some y0 by simpa using hel 0 _ rfl)
   obtain ⟨bs,v,e1,hb⟩:=aEi (show DataW.trod enc Tryz.prog w base sp held n 62 _=some y1 by simpa using hel 1 _ rfl)
   simp [gR,zE] at e0 e1
   exact ⟨⟨a,bs⟩,⟨v,by rw [e0,e1],hb⟩,rfl⟩) h
 refine ⟨ms,_,rfl,p,cap,rfl,hl,fun h0=> ?_⟩
 obtain ⟨b,off,h1,h2,h3⟩:=hr h0
 refine ⟨b,off,h1,h2,fun j y hy=> ?_⟩
 obtain ⟨cs,-,⟨ov,rfl,hb⟩,h4⟩:=h3 j y hy
 exact ⟨ov,by have:=h4 0 _ rfl;rwa [Nat.add_zero] at this,h4 1 _ rfl,hb⟩
theorem aLw {fuel:Nat} {cs:List Value} {x:DataW H × List MemPlace} (h:DataW.trod enc Tryz.prog w base sp held fuel 43 cs=some x) : ∃ (ts:List At) (v:Value),cs = [v]/\jQ (fun b=>b<w.heap.size) w ts v:=by
 obtain ⟨ts,p,cap,rfl,hl,hr⟩:=mD Tryz.underlying43 nL (by decide) (fun (a:At) cs=>cs = [.string a.n,.int .i64 a.op,.int .i64 a.v,.int .i64 a.sl,.string a.f,.bool a.on]) (fun m cs y hy=>by
  obtain ⟨a,e⟩:=wJ hy
  exact ⟨a,e,by rw [e];rfl⟩) h
 refine ⟨ts,_,rfl,p,cap,rfl,hl.2,fun h0=> ?_⟩
 obtain ⟨b,off,h1,h2,h3⟩:=hr h0
 refine ⟨b,off,h1,h2,fun j y hy=> ?_⟩
 obtain ⟨cs,-,rfl,h4⟩:=h3 j y hy
 exact ⟨by have:=h4 0 _ rfl;rwa [Nat.add_zero] at this,h4 1 _ rfl,h4 2 _ rfl,h4 3 _ rfl,h4 4 _ rfl,h4 5 _ rfl⟩
end
theorem aHx {H:Type} {enc:TypeId × Value->H} {w:World} {base b0:Nat} {sp:Nat->Bool} {held:Bool} {x:Value} {d:DataW H} {p:List MemPlace} (hv:Value.okWide Tryz.prog w .any b0 46 x) (h:DataW.Trod enc Tryz.prog w base sp held 46 x d p) :
  ∃ (wi:WI) (tsv inv mav onv:Value),x=.agg #[tsv,inv,mav,onv]/\fR (fun b=>b<w.heap.size) w wi tsv inv mav onv:=by
 obtain ⟨cs,rfl,hsz⟩:=okWide_struct Tryz.underlying46 hv
 obtain ⟨fuel,hf⟩:=h
 obtain ⟨xs,m,hm,hx,hl,hlen,hel⟩:=DataW.trod_struct Tryz.underlying46 (show DataW.trod enc Tryz.prog w base sp held fuel 46 cs.toList=some (d,p) from hf)
 have hl4:=hl.trans aCi
 obtain ⟨l⟩:=cs
 simp only at hl4 hel
 match xs,hlen,l,hl4 with
 | [y0,y1,y2,y3],_,[c0,c1,c2,c3],_=>
  obtain ⟨ts,v0,e0,h0⟩:=aLw (show DataW.trod enc Tryz.prog w base sp held m 43 _=some y0 by simpa using hel 0 _ rfl)
  obtain ⟨ins,v1,e1,h1⟩:=aLx (show DataW.trod enc Tryz.prog w base sp held m 25 _=some y1 by simpa using hel 1 _ rfl)
  obtain ⟨ma,v2,e2,h2⟩:=aIo (show DataW.trod enc Tryz.prog w base sp held m 37 _=some y2 by simpa using hel 2 _ rfl)
  obtain ⟨on,v3,e3,h3⟩:=aLz (show DataW.trod enc Tryz.prog w base sp held m 44 _=some y3 by simpa using hel 3 _ rfl)
  simp [aGl,aGm,aCf,aGn] at e0 e1 e2 e3
  exact ⟨⟨ts,ins,ma,on⟩,v0,v1,v2,v3,by rw [e0,e1,e2,e3],⟨h0,h1,h2,h3⟩⟩
end Go.Proofs.YthaaaecmeafofaaGreatDoor
namespace Go.Proofs.YthaaaecmeafofaaGreatDoor
open Go.RowKit
theorem aLf {H:Type} {enc:TypeId × Value->H} {w:World} {base:Nat} {sp:Nat->Bool} {held:Bool} {v:Value} {d:DataW H} {p:List MemPlace} (h:DataW.Trod enc Tryz.prog w base sp held 24 (.agg #[v]) d p):nB v:=by
 obtain ⟨fuel,hf⟩:=h
 obtain ⟨xs,m,hm,hx,hl,hlen,hel⟩:=DataW.trod_struct Tryz.underlying24 (show DataW.trod enc Tryz.prog w base sp held fuel 24 [v]=some (d,p) from hf)
 match xs,hlen with
 | [y0],_=>
  have h0:DataW.trod enc Tryz.prog w base sp held m 22 [v]=some y0:=by
   have:=hel 0 _ rfl
   simpa [sE] using this
  rcases DataW.trod_slice Tryz.underlying22 h0 with ⟨e,-⟩ | ⟨ad,len,cap,elems,rest,mm,hmm,e,-,-,hlc,-⟩
  ·cases e;exact gQ
  ·cases e
   intro p n c e
   cases e
   exact hlc
end Go.Proofs.YthaaaecmeafofaaGreatDoor
