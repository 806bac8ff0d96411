/- Steps of the proof: EncRefCh, EncMbRow, EncPair, EncRefSet, EncRefJoin, EncRefOk, ShelfC, ValidHolds. -/
import Derived.Test.YthaaaecmeafofaaGreatDoorSt10
import Derived.Test.YthaaaecmeafofaaGreatDoorSt11
import Derived.Test.YthaaaecmeafofaaGreatDoorSt13
import Derived.Laws.StructEq
import Derived.Shelf.LaysM
import Derived.Shelf.LaysC
import Derived.Shelf.SlicesE.DeleteFunc
import Derived.Test.YthaaaecmeafofaaGreatDoorProg
set_option maxHeartbeats 16000000
set_option maxRecDepth 100000
namespace Go.Proofs.YthaaaecmeafofaaGreatDoor
open Go.RowKit Go.Lib
def aB (ps:List PK) (wi:WI):Cn.CT:=⟨ps.map fun p=>p.fl.length,wi.ins.map fun m=>m.pl.toNat,fun i k=>wi.on.contains ((i:Int),(k:Int))⟩
def inI (zs:List Int) (x:Int):Bool:=zs.contains x
structure ChM (b:Nat) (pv tsv inv mav onv:Value) (zs:List Int) (n:Nat) (f:Int->Bool) (w:World):Prop where
 tr:aE b 24 pv w
 wi:aD (b+1) 46 #[tsv,inv,mav,onv] w
 od : ∃ ov,aE (b+3) 37 ov w/\aX (b+2) ov zs w/\∀ g,ov.ownBlock=some g->g=b+2∨b+6<=g
 mp:Cn.oB (b+4) n f w
 mv:aE (b+5) 151 (.map (some (b+4))) w
theorem ChM.keep {b:Nat} {pv tsv inv mav onv:Value} {zs:List Int} {n:Nat} {f:Int->Bool} {w w':World} (h:ChM b pv tsv inv mav onv zs n f w) (k:aA w w'):ChM b pv tsv inv mav onv zs n f w':=by
 obtain ⟨ov,h1,h2,h3⟩:=h.od
 exact ⟨h.tr.keep k h.tr.facts.2.2,h.wi.keep k h.wi.facts.2.2,⟨ov,h1.keep k h1.facts.2.2,bH h2 k,h3⟩,h.mp.keep k,h.mv.keep k h.mv.facts.2.2⟩
theorem ChM.push {b:Nat} {pv tsv inv mav onv ov v':Value} {zs:List Int} {x:Int} {n:Nat} {f:Int->Bool} {w w5:World} (h:ChM b pv tsv inv mav onv zs n f w) (h1:aE (b+3) 37 ov w) (h3 : ∀ g,ov.ownBlock=some g->g=b+2∨b+6<=g) (h5:w5.ownsRow (b+2) 3 1 v' (zs.length+1) (zs.map (Value.int .i64) ++ [.int .i64 x])) (hg:w.grownBy w5 ov.ownBlock) (ho:v'.ownBlock=ov.ownBlock∨∃ g,v'.ownBlock=some g/\w.heap.size<=g) :
  ChM b pv tsv inv mav onv (zs ++ [x]) n f (w5.setCell ⟨b+3,0,none⟩ v'):=by
 have l5:=h.mv.facts.2.2
 have hb : ∀ c,c<w.heap.size->c≠b+2->c<b+6->w5.heap[c]? = w.heap[c]? :=fun c hc hn hl=>hg.block c hc fun e=>by rcases h3 c e.symm with h | h<;>omega
 have hso : ∀ c,c≠b+3->(w5.setCell ⟨b+3,0,none⟩ v').heap[c]? = w5.heap[c]? :=fun c hc=>Below.heap_setCell _ _ _ _ (fun e=>hc e)
 have hsz:(w5.setCell ⟨b+3,0,none⟩ v').heap.size=w5.heap.size:=by simp
 have h3' : ∀ g,v'.ownBlock=some g->g=b+2∨b+6<=g:=fun g hgv=>by
  rcases ho with ho | ⟨g',ho,hge⟩
  ·exact h3 g (ho ▸ hgv)
  ·rw [ho] at hgv;have:=Option.some.inj hgv;right;omega
 refine ⟨?_,?_,⟨v',?_,?_,h3'⟩,?_,?_⟩
 ·have:=h.tr;unfold aE at *;rw [hso _ (by omega),hb _ (by omega) (by omega) (by omega)];exact this
 ·have:=h.wi;unfold aD at *;rw [hso _ (by omega),hb _ (by omega) (by omega) (by omega)];exact this
 ·have h6:aE (b+3) 37 ov w5:=by unfold aE at *;rw [hb _ (by omega) (by omega) (by omega)];exact h1
  exact h6.set v'
 ·unfold aX
  rw [List.length_append,List.map_append]
  exact Cn.bY h5 fun g hgv=>hso g (by rcases h3' g hgv with h | h<;>omega)
 ·obtain ⟨D,⟨es,clock,hm,hr⟩,h2⟩:=h.mp
  exact ⟨D,⟨es,clock,by rw [hso _ (by omega),hb _ (by omega) (by omega) (by omega)];exact hm,hr⟩,h2⟩
 ·have:=h.mv;unfold aE at *;rw [hso _ (by omega),hb _ (by omega) (by omega) (by omega)];exact this
theorem ChM.put {b:Nat} {pv tsv inv mav onv:Value} {zs:List Int} {n n':Nat} {f f':Int->Bool} {w w':World} (h:ChM b pv tsv inv mav onv zs n f w) (hm:Cn.oB (b+4) n' f' w') (hg:w.grownBy w' (some (b+4))):ChM b pv tsv inv mav onv zs n' f' w':=by
 have l5:=h.mv.facts.2.2
 have hb : ∀ c,c<w.heap.size->c≠b+4->w'.heap[c]? = w.heap[c]? :=fun c hc hn=>hg.block c hc fun e=>hn (Option.some.inj e)
 obtain ⟨ov,h1,h2,h3⟩:=h.od
 refine ⟨?_,?_,⟨ov,?_,Cn.bY h2 fun g hgv=>hb g (Cn.bI h2 hgv).2 (by rcases h3 g hgv with h | h<;>omega),h3⟩,hm,?_⟩
 ·have:=h.tr;unfold aE at *;rw [hb _ (by omega) (by omega)];exact this
 ·have:=h.wi;unfold aD at *;rw [hb _ (by omega) (by omega)];exact this
 ·unfold aE at *;rw [hb _ (by omega) (by omega)];exact h1
 ·have:=h.mv;unfold aE at *;rw [hb _ (by omega) (by omega)];exact this
theorem aGo (w:World) (pv tsv inv mav onv:Value):aA w ((((((w.alloc (.cells #[pv] 24)).alloc (.cells #[tsv,inv,mav,onv] 46)).alloc (.cells #[] 3)).alloc (.cells #[.slice (some ⟨w.heap.size+2,0,none⟩) 0 0] 37)).alloc (.map #[] 0)).alloc (.cells #[.map (some (w.heap.size+4))] 151))/\ChM w.heap.size pv tsv inv mav onv [] 0 (fun _=>false) ((((((w.alloc (.cells #[pv] 24)).alloc (.cells #[tsv,inv,mav,onv] 46)).alloc (.cells #[] 3)).alloc (.cells #[.slice (some ⟨w.heap.size+2,0,none⟩) 0 0] 37)).alloc (.map #[] 0)).alloc (.cells #[.map (some (w.heap.size+4))] 151)):=by
 have b0:=aE.new w 24 pv
 have z0:=aC w (.cells #[pv] 24)
 have k0:=aA.alloc w (.cells #[pv] 24)
 generalize w.alloc (.cells #[pv] 24)=a0 at b0 z0 k0 ⊢
 have b1:=aD.new a0 46 #[tsv,inv,mav,onv]
 have z1:=aC a0 (.cells #[tsv,inv,mav,onv] 46)
 have k1:=aA.alloc a0 (.cells #[tsv,inv,mav,onv] 46)
 generalize a0.alloc (.cells #[tsv,inv,mav,onv] 46)=a1 at b1 z1 k1 ⊢
 have b2:=World.ownsRow_made (base:=a1.heap.size) (e:=3) (size:=1) a1 #[] 0 (Nat.le_refl _) (Nat.zero_le _) rfl
 have z2:=aC a1 (.cells #[] 3)
 have k2:=aA.alloc a1 (.cells #[] 3)
 generalize a1.alloc (.cells #[] 3)=a2 at b2 z2 k2 ⊢
 have b3:=aE.new a2 37 (.slice (some ⟨w.heap.size+2,0,none⟩) 0 0)
 have z3:=aC a2 (.cells #[.slice (some ⟨w.heap.size+2,0,none⟩) 0 0] 37)
 have k3:=aA.alloc a2 (.cells #[.slice (some ⟨w.heap.size+2,0,none⟩) 0 0] 37)
 generalize a2.alloc (.cells #[.slice (some ⟨w.heap.size+2,0,none⟩) 0 0] 37)=a3 at b3 z3 k3 ⊢
 have b4:=Cn.aGj a3
 have z4:=aC a3 (.map #[] 0)
 have k4:=aA.alloc a3 (.map #[] 0)
 generalize a3.alloc (.map #[] 0)=a4 at b4 z4 k4 ⊢
 have b5:=aE.new a4 151 (.map (some (w.heap.size+4)))
 have k5:=aA.alloc a4 (.cells #[.map (some (w.heap.size+4))] 151)
 generalize a4.alloc (.cells #[.map (some (w.heap.size+4))] 151)=a5 at b5 k5 ⊢
 rw [z0] at b1
 rw [z1,z0] at b2
 rw [z2,z1,z0] at b3
 rw [z3,z2,z1,z0] at b4
 rw [z4,z3,z2,z1,z0] at b5
 refine ⟨k0.trans (k1.trans (k2.trans (k3.trans (k4.trans k5)))),⟨b0.keep (k1.trans (k2.trans (k3.trans (k4.trans k5)))) b0.facts.2.2,b1.keep (k2.trans (k3.trans (k4.trans k5))) b1.facts.2.2,⟨_,b3.keep (k4.trans k5) b3.facts.2.2,bH b2 (k3.trans (k4.trans k5)),fun g hg=> .inl (by cases hg;rfl)⟩,b4.keep k5,b5⟩⟩
def cZ (zs:List Int) (j:Nat):List Int:=((List.range j).filter fun (i:Nat)=> !zs.contains (i:Int)).map fun (i:Nat)=>(i:Int)
theorem aAw (zs:List Int) (j:Nat):cZ zs (j+1)=cZ zs j++(if zs.contains (j:Int) then [] else [(j:Int)]):=by
 unfold cZ
 rw [List.range_succ,List.filter_append,List.map_append]
 rw [List.filter_cons,List.filter_nil]
 generalize zs.contains (j:Int)=b
 cases b<;>rfl
theorem tM (zs:List Int) : ∀ j,(cZ zs j).length<=j:=fun j=>by
 unfold cZ
 rw [List.length_map]
 exact Nat.le_trans (List.length_filter_le ..) (by simp)
theorem yC {ps:List PK} (h : ∀ p∈ps,p.fl.length<=2) : ∀ j,cK ps j<=2*j
 | 0=>by simp [cK]
 | j+1=>by
  by_cases hj:j<ps.length
  ·rw [qE hj]
   have:=yC h j
   have:=h _ (List.getElem_mem hj)
   omega
  ·have e:cK ps (j+1)=cK ps j:=by unfold cK;rw [List.take_of_length_le (by omega),List.take_of_length_le (by omega)]
   have:=yC h j
   omega
def plI (ms:List MB):List Int:=ms.map fun m=>m.pl
theorem aKg {zs:List Int} {j:Nat} (h:j<zs.length):inI (zs.take (j+1))=fun y=>if y=zs[j] then true else inI (zs.take j) y:=by
 funext y
 unfold inI
 rw [List.take_succ_eq_append_getElem h]
 generalize zs.take j=a
 generalize zs[j]=z
 by_cases e:y=z
 ·simp [e]
 ·simp [e]
theorem zI (S:Nat->Prop) (ps:List PK) (wi:WI) (pv tsv inv mav onv:Value) (w:World) (hS : ∀ b,S b->b<w.heap.size) (hp:bD S w ps pv) (hw:fR S w wi tsv inv mav onv) (h8:ps.length<=8) (hf2 : ∀ p∈ps,p.fl.length<=2) (hi8:wi.ins.length<=8) (hip : ∀ x∈plI wi.ins,0<=x/\x<8) :
  Calls Tryz.prog 40 #[.agg #[pv],.agg #[tsv,inv,mav,onv]] w fun e w'=>aA w w'/\∃ n,ChM w.heap.size pv tsv inv mav onv (plI wi.ins++cZ (plI wi.ins) ps.length) n (inI (plI wi.ins)) w'/\
   e=.returned (.tuple #[.int .i64 (((plI wi.ins++cZ (plI wi.ins) ps.length).length:Nat)+(cK ps ps.length:Nat):Int),.func (.func 98) #[] #[.pointer (some ⟨w.heap.size+3,0,none⟩),.pointer (some ⟨w.heap.size+5,0,none⟩),.pointer (some ⟨w.heap.size,0,none⟩),.pointer (some ⟨w.heap.size+1,0,none⟩)]]):=by
 obtain ⟨i0,hi,hz0,hz1,hz2⟩:=info_parts cT
 have HP:=hid hp
 have HW:=hid hw
 have HF2:=hid hf2
 have HIP:=hid hip
 obtain ⟨pp,pc,rfl,hpl⟩:=hp.len
 obtain ⟨mp,mc,hmv,hml⟩:=hw.ins.len
 have HMV:=hid hmv
 clear hmv
 have hmm:= @run_makeMap Tryz.prog
 have hmf : ∀ (fn:Fn) (first cap:Array Value) (w:World),(Instr.makeFunc fn first cap).run Tryz.prog w=.ok (.func fn first cap) w:=fun _ _ _ _=>rfl
 have HST:=hid (aGo w (.slice pp ps.length pc) tsv inv mav onv)
 clear hp hw hf2 hip
 go_enter Tryz.func40,Tryz.ntmps40
 go_upto_region 3 with fail
 refine bJ (fun W'=>aA w W'/\ChM w.heap.size (.slice pp ps.length pc) tsv inv mav onv [] 0 (fun _=>false) W') ?_ ?_
 ·exact HST.out
 rintro W0 ⟨k0,c0⟩
 have K0:=hid k0
 have C0:=hid c0
 clear k0 c0 HST hmm
 simp only [Nat.add_assoc,Nat.reduceAdd]
 have hund:Tryz.prog.underlying 151=some (.map 3 4):=Tryz.underlying151
 have HUND:=hid hund
 clear hund
 obtain ⟨hcw,-,hlw⟩:=C0.out.wi.facts
 have hw1:W0.cell? ⟨w.heap.size+1,1,none⟩=some (.slice mp wi.ins.length mc):=(hcw 1).trans (congrArg some HMV.out)
 clear hcw
 go_wp2_with fail
 go_loopg [18] wi.ins.length (fun gk iv wq=> ∃ j:Nat,j+gk=wi.ins.length/\iv=.int .i64 j/\ChM w.heap.size (.slice pp ps.length pc) tsv inv mav onv ((plI wi.ins).take j) j (inI ((plI wi.ins).take j)) wq/\aA w wq)
 case atStart=>exact ⟨0,by omega,rfl,C0.out,K0.out⟩
 case round=>
  obtain ⟨j,hj,rfl,hc,hk⟩:=hrel
  have C1:=hid hc
  have K1:=hid hk
  clear hc hk
  by_cases hlt:j<wi.ins.length
  ·obtain ⟨mb,mo,mcap,hmv,hmb,-,hrow⟩:=(HW.out.ins.keep hS K1.out).get hlt
   have hmp:mp=some ⟨mb,mo,none⟩:=by
    rw [HMV.out] at hmv
    injection hmv
   subst hmp
   clear hmv
   obtain ⟨op,oc,hc0,hc1,hol,-⟩:=hrow j _ (List.getElem?_eq_getElem hlt)
   have hpx:=HIP.out wi.ins[j].pl (List.mem_map.2 ⟨_,List.getElem_mem hlt,rfl⟩)
   have hltP:j<(plI wi.ins).length:=by simp [plI];exact hlt
   have HTK:=hid (show (plI wi.ins).take (j+1)=(plI wi.ins).take j ++ [wi.ins[j].pl] by rw [List.take_succ_eq_append_getElem hltP];simp [plI])
   have HIN:=hid (show inI ((plI wi.ins).take (j+1))=fun y=>if y=wi.ins[j].pl then true else inI ((plI wi.ins).take j) y by rw [aKg hltP];simp [plI])
   have hmbl:mb<wr.heap.size:=Nat.lt_of_lt_of_le (hS mb hmb) K1.out.size
   have hjI:(j:Int)<(wi.ins.length:Int):=by omega
   have hal:((plI wi.ins).take j).length<=8:=by simp;omega
   generalize wi.ins[j]=mm at hc0 hc1 hol hpx HTK HIN
   generalize (plI wi.ins).take j=acc at C1 HTK HIN hal
   have hpx0:=hpx.1
   have hpx8:=hpx.2
   clear hrow hltP hpx
   obtain ⟨ov,ho1,ho2,ho3⟩:=C1.out.od
   obtain ⟨lp,lc,hov⟩:=ho2.ints.len
   subst hov
   have HOL:=hid (show ∀ g,(Value.slice lp acc.length lc).ownBlock=some g->g<wr.heap.size from fun g hg=>(Cn.bI ho2 hg).2)
   have HO3:=hid ho3
   have HO1:=hid ho1
   have HO2:=hid ho2
   clear ho1 ho2 ho3
   go_upto_region 6 with fail
   refine bJ (fun W'=>aA wr W'/\aD wr.heap.size 64 #[.int .i64 mm.pl,.slice op mm.on.length oc] W') ⟨aA.alloc _ _,aD.new _ _ _⟩ ?_
   rintro W2 ⟨k2,b2⟩
   have C2:=hid (C1.out.keep k2)
   have K2:=hid (K1.out.trans k2)
   have V1:=hid (HO1.out.keep k2 HO1.out.facts.2.2)
   have V2:=hid (bH HO2.out k2)
   have B2:=hid b2
   obtain ⟨hcm,-,hlm⟩:=b2.facts
   have hm0:W2.cell? ⟨wr.heap.size,0,none⟩=some (.int .i64 mm.pl):=hcm 0
   have HBM:=hid (show w.heap.size+6<=wr.heap.size from by have:=C1.out.mv.facts.2.2;omega)
   clear k2 b2 hc0 hc1 hmbl hcm
   generalize wr.heap.size=bm at B2 HBM HOL hm0 hlm ⊢
   obtain ⟨hbo,hbf,hbl⟩:=V1.out.facts
   have hsz2:=C2.out.mv.facts.2.2
   go_upto_region 7 with (at_builtin;go_loud (refine wpList_append_own_at _ rfl _ _ 37 rfl (w.heap.size+2) 3 i0 (.int .i64 0) 1 8 Tryz.underlying37 hi hz0 hz1 hz2 rfl (by decide) (.slice lp acc.length lc) acc.length (acc.map (Value.int .i64)) rfl (V2.out.alloc _) ⟨W2.heap.size,0,none⟩ 1 1 [.int .i64 (mm.pl)] rfl rfl pE cO (by unfold maxLen;omega) (by omega) (by rw [aC];omega) ?_;intro v5 w5 h1 h2 _ h4;obtain ⟨g5,cap5,rfl⟩:=Cn.aT h1 (Nat.succ_pos _);have P5:=hid (C2.out.push V1.out HO3.out h1 (Cn.bB h2) (Cn.jA h4));have G5:=hid (Cn.bB h2);have KK5:=hid (show aA w (w5.setCell ⟨w.heap.size+3,0,none⟩ (.slice (some ⟨g5,0,none⟩) (acc.length+1) cap5)) from Below.setCell (Below.grown K2.out (Cn.bB h2) K2.out.size (fun g hg=>by (rcases HO3.out g hg with h | h<;>omega))) (p:=⟨w.heap.size+3,0,none⟩) (by show w.heap.size<=w.heap.size+3;omega) _);have hB5:=(show aE (w.heap.size+3) 37 (.slice lp acc.length lc) w5 from by (have h5:=V1.out;have h6:=h5.facts.2.2;unfold aE at *;rw [(Cn.bB h2).block _ h6 (fun e=>by (rcases HO3.out _ e.symm with h | h<;>omega))];exact h5));obtain ⟨hbc5,hbf5,hbl5⟩:=hB5.facts;clear h1 h2 h4 hB5))
   have HQ:=hid (show ChM w.heap.size (.slice pp ps.length pc) tsv inv mav onv (acc ++ [mm.pl]) j (inI acc) (w5.setCell ⟨w.heap.size+3,0,none⟩ (.slice (some ⟨g5,0,none⟩) (acc.length+1) cap5))/\aA w (w5.setCell ⟨w.heap.size+3,0,none⟩ (.slice (some ⟨g5,0,none⟩) (acc.length+1) cap5))/\aD bm 64 #[.int .i64 mm.pl,.slice op mm.on.length oc] (w5.setCell ⟨w.heap.size+3,0,none⟩ (.slice (some ⟨g5,0,none⟩) (acc.length+1) cap5)) from ⟨P5.out,KK5.out,by
    have h5:=B2.out
    have h6:=h5.facts.2.2
    unfold aD at *
    rw [Below.heap_setCell _ _ _ _ (fun e=>by have e2:bm=w.heap.size+3:=e;have:=HBM.out;omega),G5.out.block _ h6 (fun e=>by have:=HOL.out bm e.symm;omega)];exact h5⟩)
   refine bJ (fun W'=>ChM w.heap.size (.slice pp ps.length pc) tsv inv mav onv (acc ++ [mm.pl]) j (inI acc) W'/\aA w W'/\aD bm 64 #[.int .i64 mm.pl,.slice op mm.on.length oc] W') ?_ ?_
   ·exact HQ.out
   rintro W6 ⟨c6,k6,b6⟩
   have C6:=hid c6
   have K6:=hid k6
   obtain ⟨hcm,-,hlm6⟩:=b6.facts
   have hm0:W6.cell? ⟨bm,0,none⟩=some (.int .i64 mm.pl):=hcm 0
   obtain ⟨hmv6,-,hmvl6⟩:=c6.mv.facts
   obtain ⟨w7,hrun,hbm7,hgr7⟩:=c6.mp.put HUND.out (x:=mm.pl) (by unfold Cn.SmI;omega) (by omega) true
   have C7:=hid (c6.put hbm7 hgr7)
   have K7:=hid (show aA w w7 from Below.grown k6 hgr7 k6.size (fun g hg=>by have:=Option.some.inj hg;omega))
   clear c6 k6 b6 hcm HQ P5 G5 KK5 hbc5 hbf5 hbl5 hbm7 hgr7 hbo hbf hbl
   go_wp2_with fail
   go_roundg (wi.ins.length-(j+1))
   case rel=>exact ⟨j+1,by omega,by go_num,by rw [HIN.out,HTK.out];exact C7.out,K7.out⟩
   case measure=>omega
  ·obtain rfl:j=wi.ins.length:=by omega
   have C2:=hid (show ChM w.heap.size (.slice pp ps.length pc) tsv inv mav onv (plI wi.ins) wi.ins.length (inI (plI wi.ins)) wr from by
    have h1:=C1.out
    rw [show (plI wi.ins).take wi.ins.length=plI wi.ins by rw [List.take_of_length_le (by simp [plI])]] at h1
    exact h1)
   have K2:=K1
   have hzl:(plI wi.ins).length<=8:=by simp [plI];omega
   clear C1 K1 hlt
   obtain ⟨wo,rfl⟩ : ∃ wo:World,wo=wr:=⟨_,rfl⟩
   have htr:wo.cell? ⟨w.heap.size,0,none⟩=some (.slice pp ps.length pc):=C2.out.tr.facts.1
   have htl:=C2.out.tr.facts.2.2
   generalize hzs:plI wi.ins=zs at C2 hzl HIP
   have HZS:=hid hzs
   clear hzs
   have C20:=hid (show ChM w.heap.size (.slice pp ps.length pc) tsv inv mav onv (zs++cZ zs 0) wi.ins.length (inI zs) wo from by
    have e:zs++cZ zs 0=zs:=by simp [cZ]
    rw [e];exact C2.out)
   go_wp2_with fail
   go_loopg [34] ps.length (fun gk iv wq=> ∃ j:Nat,j+gk=ps.length/\iv=.int .i64 j/\ChM w.heap.size (.slice pp ps.length pc) tsv inv mav onv (zs++cZ zs j) wi.ins.length (inI zs) wq/\aA w wq)
   case atStart=>exact ⟨0,by omega,rfl,C20.out,K2.out⟩
   case round=>
    obtain ⟨j,hj,rfl,hc,hk⟩:=hrel
    have C1:=hid hc
    have K1:=hid hk
    clear hc hk
    by_cases hlt:j<ps.length
    ·have hjI:(j:Int)<(ps.length:Int):=by omega
     have HNX:=hid (aAw zs j)
     have hol:=tM zs j
     have hal:(zs++cZ zs j).length<=16:=by simp;omega
     obtain ⟨hmv6,-,hmvl6⟩:=C1.out.mv.facts
     have hlk:=C1.out.mp.look HUND.out (x:=(j:Int)) (by unfold Cn.SmI;omega)
     generalize hace:zs++cZ zs j=acc at C1 hal
     have HACE:=hid hace
     clear hace hol
     cases hin:zs.contains (j:Int) with
     | true=>
      rw [show inI zs (j:Int)=true from hin] at hlk
      have HN2:=hid (show zs++cZ zs (j+1)=acc by rw [HNX.out,if_pos hin,← HACE.out,List.append_nil])
      clear hin
      go_wp2_with fail
      go_roundg (ps.length-(j+1))
      case rel=>exact ⟨j+1,by omega,by go_num,by rw [HN2.out];exact C1.out,K1.out⟩
      case measure=>omega
     | false=>
      rw [show inI zs (j:Int)=false from hin] at hlk
      have HN2:=hid (show zs++cZ zs (j+1)=acc ++ [(j:Int)] by rw [HNX.out,if_neg (by rw [hin];simp),← HACE.out,List.append_assoc])
      clear hin
      obtain ⟨ov,ho1,ho2,ho3⟩:=C1.out.od
      obtain ⟨lp,lc,hov⟩:=ho2.ints.len
      subst hov
      have HOL:=hid (show ∀ g,(Value.slice lp acc.length lc).ownBlock=some g->g<wr.heap.size from fun g hg=>(Cn.bI ho2 hg).2)
      have HO3:=hid ho3
      have HO1:=hid ho1
      have HO2:=hid ho2
      clear ho1 ho2 ho3
      have C2:=C1
      have K2:=K1
      have V1:=HO1
      have V2:=HO2
      obtain ⟨hbo,hbf,hbl⟩:=V1.out.facts
      have hsz2:=C2.out.mv.facts.2.2
      go_upto_region 14 with (at_builtin;go_loud (refine wpList_append_own_at _ rfl _ _ 37 rfl (w.heap.size+2) 3 i0 (.int .i64 0) 1 8 Tryz.underlying37 hi hz0 hz1 hz2 rfl (by decide) (.slice lp acc.length lc) acc.length (acc.map (Value.int .i64)) rfl (V2.out.alloc _) ⟨wr.heap.size,0,none⟩ 1 1 [.int .i64 ((j:Int))] rfl rfl pE cO (by unfold maxLen;omega) (by omega) (by rw [aC];omega) ?_;intro v5 w5 h1 h2 _ h4;obtain ⟨g5,cap5,rfl⟩:=Cn.aT h1 (Nat.succ_pos _);have P5:=hid (C2.out.push V1.out HO3.out h1 (Cn.bB h2) (Cn.jA h4));have G5:=hid (Cn.bB h2);have KK5:=hid (show aA w (w5.setCell ⟨w.heap.size+3,0,none⟩ (.slice (some ⟨g5,0,none⟩) (acc.length+1) cap5)) from Below.setCell (Below.grown K2.out (Cn.bB h2) K2.out.size (fun g hg=>by (rcases HO3.out g hg with h | h<;>omega))) (p:=⟨w.heap.size+3,0,none⟩) (by show w.heap.size<=w.heap.size+3;omega) _);have hB5:=(show aE (w.heap.size+3) 37 (.slice lp acc.length lc) w5 from by (have h5:=V1.out;have h6:=h5.facts.2.2;unfold aE at *;rw [(Cn.bB h2).block _ h6 (fun e=>by (rcases HO3.out _ e.symm with h | h<;>omega))];exact h5));obtain ⟨hbc5,hbf5,hbl5⟩:=hB5.facts;clear h1 h2 h4 hB5))
      refine bJ (fun W'=>ChM w.heap.size (.slice pp ps.length pc) tsv inv mav onv (acc ++ [(j:Int)]) wi.ins.length (inI zs) W'/\aA w W') ?_ ?_
      ·exact ⟨P5.out,KK5.out⟩
      rintro W6 ⟨c6,k6⟩
      have C6:=hid c6
      have K6:=hid k6
      clear c6 k6 P5 G5 KK5 hbc5 hbf5 hbl5 hbo hbf hbl hlk
      go_wp2_with fail
      go_roundg (ps.length-(j+1))
      case rel=>exact ⟨j+1,by omega,by go_num,by rw [HN2.out];exact C6.out,K6.out⟩
      case measure=>omega
    ·obtain rfl:j=ps.length:=by omega
     have hol:=tM zs ps.length
     have hal:(zs++cZ zs ps.length).length<=16:=by simp;omega
     generalize hacc:zs++cZ zs ps.length=acc at C1 hal
     have HACC:=hid (show plI wi.ins++cZ (plI wi.ins) ps.length=acc by rw [HZS.out];exact hacc)
     clear hacc
     obtain ⟨ov,ho1,ho2,-⟩:=C1.out.od
     obtain ⟨lp,lc,hov⟩:=ho2.ints.len
     subst hov
     obtain ⟨hbo,-,hbl⟩:=ho1.facts
     clear ho1 ho2
     have htr1:wr.cell? ⟨w.heap.size,0,none⟩=some (.slice pp ps.length pc):=C1.out.tr.facts.1
     have htl1:=C1.out.tr.facts.2.2
     clear htr htl hlt
     obtain ⟨wp,rfl⟩ : ∃ wp:World,wp=wr:=⟨_,rfl⟩
     go_wp2_with fail
     go_loopg [4,51] ps.length (fun gk mv iv wq=> ∃ j:Nat,j+gk=ps.length/\iv=.int .i64 j/\mv=.int .i64 ((acc.length:Nat)+(cK ps j:Nat):Int)/\aA wp wq)
     case atStart=>exact ⟨0,by omega,rfl,by simp [cK],aA.refl _⟩
     case round=>
      obtain ⟨j,hj,rfl,rfl,hk⟩:=hrel
      have KQ:=hid hk
      clear hk
      by_cases hlt:j<ps.length
      ·obtain ⟨qb,qo,qcap,hqv,hqb,-,hrow⟩:=(HP.out.keep hS (K1.out.trans KQ.out)).get hlt
       cases hqv
       obtain ⟨cs,hcs,hpj⟩:=hrow j hlt
       have HSF:=hid (qE hlt)
       have hfl2:=HF2.out _ (List.getElem_mem hlt)
       have hqbl:qb<wr.heap.size:=Nat.lt_of_lt_of_le (hS qb hqb) (K1.out.trans KQ.out).size
       have hjI:(j:Int)<(ps.length:Int):=by omega
       have hsf:cK ps j<=100:=by
        have:=yC HF2.out j
        omega
       generalize ps[j]=q at hpj HSF hfl2
       obtain ⟨k,a,fl,nt,kids,kp,fp,kc,fc,-,hfl,rfl,-,-⟩:=hpj.spelt
       obtain ⟨c0,c1,c2,c3,c4,c5,c6,c7,c8,c9,c10,c11,c12,c13⟩:=dQ hcs
       clear hrow hcs hpj
       generalize hsfe:cK ps j=sj at HSF hsf
       clear hsfe
       go_upto_region 19 with fail
       refine bJ (fun W'=>aA wr W'/\aD wr.heap.size 76 #[.string q.n,.int .i64 q.v,.int .i64 q.sl,.slice fp q.fl.length fc,.int .i64 k,.string a.n,.int .i64 a.op,.int .i64 a.v,.int .i64 a.sl,.string a.f,.bool a.on,.string fl,.bool nt,.slice kp kids.length kc] W') ⟨aA.alloc _ _,aD.new _ _ _⟩ ?_
       rintro W3 ⟨k3,b3⟩
       have KR:=hid (KQ.out.trans k3)
       obtain ⟨hc3,-,hl3⟩:=b3.facts
       have hf3:W3.cell? ⟨wr.heap.size,3,none⟩=some (.slice fp q.fl.length fc):=hc3 3
       clear k3 b3 hc3 c0 c1 c2 c3 c4 c5 c6 c7 c8 c9 c10 c11 c12 c13
       go_wp2_with fail
       go_roundg (ps.length-(j+1))
       case rel=>exact ⟨j+1,by omega,by go_num,by rw [HSF.out];go_num,KR.out⟩
       case measure=>omega
      ·obtain rfl:j=ps.length:=by omega
       have CF:=hid (C1.out.keep KQ.out)
       have KF:=hid (K1.out.trans KQ.out)
       generalize hsj:cK ps ps.length=sj
       have HSJ:=hid hsj
       clear hsj
       go_wp2_with fail
       refine bodyPost_ret (v:= .tuple #[.int .i64 ((acc.length:Nat)+(sj:Nat):Int),.func (.func 98) #[] #[.pointer (some ⟨w.heap.size+3,0,none⟩),.pointer (some ⟨w.heap.size+5,0,none⟩),.pointer (some ⟨w.heap.size,0,none⟩),.pointer (some ⟨w.heap.size+1,0,none⟩)]]) ?_ rfl ?_
       ·simp [results,Tryz.results40,go_sem]
       ·rw [HACC.out,HSJ.out,HZS.out];exact ⟨KF.out,_,CF.out,rfl⟩
end Go.Proofs.YthaaaecmeafofaaGreatDoor
namespace Go.Proofs.YthaaaecmeafofaaGreatDoor
open Go.RowKit
def uM (S:Nat->Prop) (w:World) (m:MB) (cs:List Value):Prop:= ∃ ov,cs = [.int .i64 m.pl,ov]/\aZ S w m.on ov
theorem uM.mono {S S':Nat->Prop} {w w':World} (hw : ∀ p:Addr,S p.block->w'.cell? p=w.cell? p) (hS : ∀ b,S b->S' b) {m:MB} {cs:List Value} (h:uM S w m cs):uM S' w' m cs:=by
 obtain ⟨ov,h1,h2⟩:=h
 exact ⟨ov,h1,h2.mono hw hS⟩
def fG (B:Nat) (v:Value) (acc:List MB) (w:World):Prop:=
 ∃ csl:List (List Value),csl.length=acc.length/\(∀ cs∈csl,cs.length=2)/\w.ownsRow B 64 2 v acc.length csl.flatten/\∀ (i:Nat) t cs,acc[i]? = some t->csl[i]? = some cs->uM (fun b=>B<=b/\b<w.heap.size/\v.ownBlock≠some b) w t cs
theorem fG.nil (B:Nat) (w:World):fG B (.slice none 0 0) [] w:=⟨[],rfl,by simp,World.ownsRow_nil _ _ _ _,by simp⟩
theorem fG.other {B:Nat} {v:Value} {acc:List MB} {w w':World} (h:fG B v acc w) (hs:w.heap.size<=w'.heap.size) (hb : ∀ b,B<=b->b<w.heap.size->w'.heap[b]? = w.heap[b]?):fG B v acc w':=by
 obtain ⟨csl,h1,h2,⟨h3,h3'⟩,h4⟩:=h
 refine ⟨csl,h1,h2,⟨h3,h3'.imp id ?_⟩,fun i t cs hi hc=>uM.mono (fun p hp=>World.cell?_of_block (w:=w) (hb _ hp.1 hp.2.1)) (fun b hb=>⟨hb.1,Nat.lt_of_lt_of_le hb.2.1 hs,hb.2.2⟩) (h4 i t cs hi hc)⟩
 rintro ⟨g,cap,cur,e1,e2,e3,e4⟩
 exact ⟨g,cap,cur,e1,e2,by rw [hb g e2 (Array.getElem?_eq_some_iff.1 e3).1];exact e3,e4⟩
theorem fG.keep {B:Nat} {v:Value} {acc:List MB} {w w':World} (h:fG B v acc w) (k:aA w w'):fG B v acc w':=h.other k.size fun b _ hb=>k.block b hb
theorem fG.push {B B':Nat} {v v':Value} {acc:List MB} {csl:List (List Value)} {t:MB} {cs:List Value} {w w':World} {o:Obj} (h1:csl.length=acc.length) (h2 : ∀ cs∈csl,cs.length=2)
  (h4 : ∀ (i:Nat) t cs,acc[i]? = some t->csl[i]? = some cs->uM (fun b=>B<=b/\b<w.heap.size/\v.ownBlock≠some b) w t cs)
  (hB:B<=B') (hv : ∀ g,v.ownBlock=some g->g<B') (hn:uM (fun b=>B'<=b/\b<w.heap.size) w t cs) (hc:cs.length=2)
  (h5:w'.ownsRow B 64 2 v' (acc.length+1) (csl.flatten++cs)) (h6:(w.alloc o).grownBy w' v.ownBlock) (h7:v'.ownBlock=v.ownBlock∨v'.ownBlock=some (w.alloc o).heap.size):fG B v' (acc ++ [t]) w':=by
 have e:=aC w o
 have hsz:w.heap.size<=w'.heap.size:=by have:=h6.size;omega
 have hcell : ∀ p:Addr,p.block<w.heap.size->v.ownBlock≠some p.block->w'.cell? p=w.cell? p:=fun p hp hne=>by
  rw [World.cell?_of_block (w:=w.alloc o) (a:=p) (h6.block p.block (by omega) (fun e=>hne e.symm))]
  exact (aA.alloc w o).cell hp
 have hne : ∀ b,b<w.heap.size->v.ownBlock≠some b->v'.ownBlock≠some b:=fun b hb hn=>by
  rcases h7 with h7 | h7
  ·rw [h7];exact hn
  ·rw [h7];intro e;have:=Option.some.inj e;omega
 refine ⟨csl ++ [cs],by simp [h1],fun x hx=> ?_,by simpa using h5,fun i u x hu hx=> ?_⟩
 ·rcases List.mem_append.1 hx with hx | hx
  ·exact h2 x hx
  ·rw [List.mem_singleton.1 hx];exact hc
 ·by_cases hi:i<acc.length
  ·rw [List.getElem?_append_left hi] at hu
   rw [List.getElem?_append_left (by omega)] at hx
   exact uM.mono (fun p hp=>hcell p hp.2.1 hp.2.2) (fun b hb=>⟨hb.1,by omega,hne b hb.2.1 hb.2.2⟩) (h4 i u x hu hx)
  ·have hi2:i=acc.length:=by
    have:=(List.getElem?_eq_some_iff.1 hu).1
    simp at this;omega
   subst hi2
   rw [List.getElem?_append_right (Nat.le_refl _),Nat.sub_self] at hu
   rw [← h1,List.getElem?_append_right (Nat.le_refl _),Nat.sub_self] at hx
   cases hu;cases hx
   have hvn : ∀ b,B'<=b->v.ownBlock≠some b:=fun b hb e=>by have:=hv b e;omega
   exact uM.mono (fun p hp=>hcell p hp.2 (hvn _ hp.1)) (fun b hb=>⟨by omega,by omega,hne b hb.2 (hvn b hb.1)⟩) hn
theorem xC {csl:List (List Value)} (h2 : ∀ cs∈csl,cs.length=2) : ∀ (i:Nat) (cs:List Value),csl[i]? = some cs->∀ (m:Nat) (v:Value),cs[m]? = some v->csl.flatten[i*2+m]? = some v:=by
 induction csl with
 | nil=>intro i cs h;simp at h
 | cons c r ih=>
  intro i cs h m v hv
  have hc:c.length=2:=h2 c (by simp)
  cases i with
  | zero=>
   simp at h;subst h
   have hm:m<c.length:=(List.getElem?_eq_some_iff.1 hv).1
   rw [List.flatten_cons,Nat.zero_mul,Nat.zero_add,List.getElem?_append_left hm];exact hv
  | succ i=>
   rw [List.flatten_cons,List.getElem?_append_right (by omega),show (i+1)*2+m-c.length=i*2+m by omega]
   exact ih (fun x hx=>h2 x (by simp [hx])) i cs (by simpa using h) m v hv
theorem fG.final {B:Nat} {v:Value} {acc:List MB} {w:World} (h:fG B v acc w):bX (fun b=>B<=b/\b<w.heap.size) w acc v:=by
 obtain ⟨csl,h1,h2,⟨h3,⟨rfl,h0⟩ | ⟨g,cap,cur,rfl,e2,e3,e4,e5,e6,e7⟩⟩,h4⟩:=h
 ·obtain rfl:=List.length_eq_zero_iff.1 h0
  exact ⟨_,_,rfl,by decide,fun h=>absurd h (by decide)⟩
 ·have hg:=(Array.getElem?_eq_some_iff.1 e3).1
  refine ⟨_,_,rfl,⟨by omega,by unfold maxLen at e5;omega⟩,fun _=>⟨g,0,rfl,⟨e2,hg⟩,fun i m hm=> ?_⟩⟩
  have hi:i<acc.length:=(List.getElem?_eq_some_iff.1 hm).1
  have hcs:csl[i]? = some csl[i]:=List.getElem?_eq_getElem (by omega)
  obtain ⟨ov,hc,hb⟩:=h4 i m _ hm hcs
  have hcell : ∀ (k:Nat) (u:Value),k<2->csl[i][k]? = some u->w.cell? ⟨g,i*2+k,none⟩=some u:=fun k u hk hu=>by
   have hf:=xC h2 i csl[i] hcs k u hu
   rw [← e7,List.getElem?_take,if_pos (by omega)] at hf
   simp only [World.cell?,e3]
   simpa using hf
  refine ⟨ov,?_,?_,hb.mono (fun _ _=>rfl) (fun b hb=>⟨hb.1,hb.2.1⟩)⟩
  ·have:=hcell 0 (.int .i64 m.pl) (by omega) (by rw [hc];rfl)
   simpa using this
  ·have:=hcell 1 ov (by omega) (by rw [hc];rfl)
   simpa using this
theorem fG.own {B:Nat} {v:Value} {acc:List MB} {w:World} (h:fG B v acc w) : ∀ g,v.ownBlock=some g->B<=g/\g<w.heap.size:=fun g hg=>by
 obtain ⟨csl,-,-,o1,-⟩:=h
 exact dK o1 hg
theorem fG.shape {B:Nat} {v:Value} {acc:List MB} {w:World} (h:fG B v acc w) : ∃ p cap,v=.slice p acc.length cap:=by
 obtain ⟨p,cap,h,-⟩:=h.final.len
 exact ⟨p,cap,h⟩
theorem aOx:(Tryz.prog.info? 64).map (fun i=>(i.zero,i.size,i.bytes))=some (some (.agg #[.int .i64 0,.slice none 0 0]),2,32):=by kernel_rfl
theorem aOw:(Tryz.prog.info? 4).map (fun i=>(i.zero,i.size,i.bytes))=some (some (.bool false),1,1):=by kernel_rfl
end Go.Proofs.YthaaaecmeafofaaGreatDoor
namespace Go.Proofs.YthaaaecmeafofaaGreatDoor
open Go.RowKit Go.Lib
theorem lW {B e n:Nat} {v:Value} {xs:List Value} {w:World} (h:w.ownsRow B e 1 v n xs) : ∃ p cap,v=.slice p n cap:=by
 obtain ⟨-,⟨rfl,h0⟩ | ⟨g,cap,cur,rfl,-⟩⟩:=h
 ·exact ⟨none,0,by rw [h0]⟩
 ·exact ⟨_,_,rfl⟩
theorem xP {g T:Nat} {x:Value} {w:World} (h:aE g T x w) (j:Nat) (u:Value) (hu : [x][j]? = some u):w.cell? ((⟨g,0,none⟩:Addr).add j)=some u:=by
 match j,hu with
 | 0,hu=>simp at hu;subst hu;exact h.facts.1
theorem lH {bm k:Nat} {T:TypeId} {p:Value} {mv v':Value} {xs ys:List Value} {W3 w w':World} (hbm:W3.heap.size=bm) (hb:aD bm T #[p,mv] w) (ho:w.ownsRow (bm+1) 4 1 mv k xs) (hg:w.grownBy w' mv.ownBlock) (h1:w'.ownsRow (bm+1) 4 1 v' (k+1) ys) (hk:aA W3 w) :
  aD bm T #[p,mv] w'/\aD bm T #[p,v'] (w'.setCell ⟨bm,1,none⟩ v')/\(w'.setCell ⟨bm,1,none⟩ v').ownsRow (bm+1) 4 1 v' (k+1) ys/\aA W3 (w'.setCell ⟨bm,1,none⟩ v'):=by
 have hb':aD bm T #[p,mv] w':=by
  have h5:=hb
  have h6:=hb.facts.2.2
  unfold aD at *
  rw [hg.block bm h6 fun e=>by have:=(dK ho e.symm).1;omega];exact h5
 refine ⟨hb',hb'.set 1 v',?_,?_⟩
 ·exact Cn.bY h1 fun g hg=>Below.heap_setCell _ _ _ _ (fun e=>by have e2:g=bm:=e;have:=(dK h1 hg).1;omega)
 ·exact Below.setCell (Below.grown hk hg hk.size (fun g hg=>by have:=(dK ho hg).1;omega)) (p:=⟨bm,1,none⟩) (by show W3.heap.size<=bm;omega) _
theorem aCd {B n:Nat} {v:Value} {bs:List Bool} {w:World} (h:w.ownsRow B 4 1 v n (bs.map Value.bool)) (hn:bs.length=n):aZ (fun c=>B<=c/\c<w.heap.size) w bs v:=by
 subst hn
 obtain ⟨h3,⟨rfl,h0⟩ | ⟨g,cap,cur,rfl,e2,e3,e4,e5,e6,e7⟩⟩:=h
 ·exact ⟨none,0,by rw [h0],by omega,fun h=>by omega⟩
 ·have hg:=(Array.getElem?_eq_some_iff.1 e3).1
  refine ⟨_,_,rfl,by unfold maxLen at e5;omega,fun _=>⟨g,0,rfl,⟨e2,hg⟩,fun j x hx=> ?_⟩⟩
  have hj:j<bs.length:=(List.getElem?_eq_some_iff.1 hx).1
  have hf:(bs.map Value.bool)[j]? = some (.bool x):=by rw [List.getElem?_map,hx];rfl
  rw [← e7,List.getElem?_take,if_pos (by omega)] at hf
  simp only [World.cell?,e3,Nat.zero_add]
  simpa using hf
theorem wV {P:Program} {md:Region.Mode} {ops:Array Oper} {Q:Exit->Act->World->Prop} {S:World->Prop} {fuel:Nat} {listed:Array Bool} {a:Act} {W:World} (R:World->Prop) (hR:R W) (h : ∀ W',R W'->wpAnyH P md ops Q S fuel listed a W'):wpAnyH P md ops Q S fuel listed a W:=h W hR
theorem nT {s:Bool} (u:Value) (h:u ∈ [Value.bool s]):u.oneCell'=true:=by rw [List.mem_singleton.1 h];rfl
end Go.Proofs.YthaaaecmeafofaaGreatDoor
namespace Go.Proofs.YthaaaecmeafofaaGreatDoor
def aKu (a:Nat × List Bool):MB:=⟨(a.1:Int),a.2⟩
theorem aKe (o:List Nat) (i:Nat):(o.map fun (i:Nat)=>(i:Int)).contains (i:Int)=o.contains i:=by
 induction o with
 | nil=>rfl
 | cons a o ih=>
  have e:((i:Int)==(a:Int))=(i==a):=by rw [Bool.eq_iff_iff,beq_iff_eq,beq_iff_eq];omega
  rw [List.map_cons,List.contains_cons,List.contains_cons,ih,e]
theorem aBb {ms:List MB} (h : ∀ x∈plI ms,0<=x):plI ms=(ms.map fun m=>m.pl.toNat).map fun (i:Nat)=>(i:Int):=by
 unfold plI at *
 rw [List.map_map]
 refine List.map_congr_left fun m hm=> ?_
 have:=h m.pl (List.mem_map.2 ⟨m,hm,rfl⟩)
 show m.pl=((m.pl.toNat:Nat):Int)
 omega
theorem aDo (ps:List PK) (wi:WI) (h : ∀ x∈plI wi.ins,0<=x):plI wi.ins++cZ (plI wi.ins) ps.length=(aB ps wi).order.map fun (i:Nat)=>(i:Int):=by
 unfold Cn.CT.order cZ
 rw [List.map_append]
 have e1:(aB ps wi).ins=wi.ins.map fun m=>m.pl.toNat:=rfl
 have e2:(aB ps wi).nf.length=ps.length:=by simp [aB]
 rw [e2,e1,← aBb h]
 congr 2
 refine List.filter_congr fun i _=> ?_
 rw [aBb h,aKe]
theorem aNy (ps:List PK) (wi:WI) (k:Nat):cK ps k=((aB ps wi).nf.take k).sum:=by
 unfold cK aB
 rw [← List.map_take]
theorem aJy {l:List Int} (h : ∀ k,0<k->k<l.length->l.getD (k-1) 0<l.getD k 0) (i:Nat) : ∀ d,i+d+1<l.length->l.getD i 0<l.getD (i+d+1) 0
 | 0,hl=>by have:=h (i+1) (by omega) hl;simpa using this
 | d+1,hl=>by
  have h1:=aJy h i d (by omega)
  have h2:=h (i+(d+1)+1) (by omega) hl
  rw [show i+(d+1)+1-1=i+d+1 by omega] at h2
  omega
theorem yJ {l:List Int} (h : ∀ k,0<k->k<l.length->l.getD (k-1) 0<l.getD k 0):l.Pairwise (· < ·):=by
 rw [List.pairwise_iff_getElem]
 intro i j hi hj hij
 have h1:=aJy h i (j-i-1) (by omega)
 rw [show i+(j-i-1)+1=j by omega] at h1
 rw [List.getD_eq_getElem?_getD,List.getD_eq_getElem?_getD,List.getElem?_eq_getElem hi,List.getElem?_eq_getElem hj] at h1
 exact h1
theorem aFy {l:List Int} (h : ∀ k,0<k->k<l.length->l.getD (k-1) 0<l.getD k 0) (h0 : ∀ x∈l,0<=x) : ∀ k,k<l.length->(k:Int)<=l.getD k 0
 | 0,hk=>by
  have:=h0 (l.getD 0 0) (by rw [List.getD_eq_getElem?_getD,List.getElem?_eq_getElem hk];exact List.getElem_mem hk)
  simpa using this
 | k+1,hk=>by
  have h1:=aFy h h0 k (by omega)
  have h2:=h (k+1) (by omega) hk
  rw [Nat.add_sub_cancel] at h2
  omega
theorem aFq (ms:List MB) (k:Nat):(plI ms).getD k 0=(ms.getD k MB.zero).pl:=by
 unfold plI
 rw [List.getD_eq_getElem?_getD,List.getD_eq_getElem?_getD,List.getElem?_map]
 cases ms[k]? <;> rfl
theorem fX {ps:List PK} {ms:List MB} (h:cM ps ms=0):ps.length<=8/\(∀ p∈ps,p.fl.length<=2)/\(plI ms).Pairwise (· < ·)/\(∀ x∈plI ms,0<=x/\x<ps.length)/\ms.length<=8/\vF ps ms:=by
 have hok:=aBj h
 have ht:cY ps=0:=by
  unfold cM at h
  by_cases e:cY ps=0
  ·exact e
  ·rw [if_pos e] at h;exact h
 have hs:aJt ps ms=0:=by unfold cM at h;rw [ht] at h;simpa using h
 have hz:=(dE ms.length 0).1 hs
 obtain ⟨h8,hp⟩:=dD ht
 have hup : ∀ k,0<k->k<(plI ms).length->(plI ms).getD (k-1) 0<(plI ms).getD k 0:=fun k h0 hk=>by
  have hk2:k<ms.length:=by simpa [plI] using hk
  have h1:=hz k hk2
  rw [Nat.zero_add] at h1
  rw [aFq,aFq]
  unfold mbE at h1
  by_cases e1:(ms.getD k MB.zero).pl<0∨(ps.length:Int)<=(ms.getD k MB.zero).pl
  ·rw [if_pos e1] at h1;omega
  ·rw [if_neg e1] at h1
   by_cases e2:0<k/\(ms.getD k MB.zero).pl<=(ms.getD (k-1) MB.zero).pl
   ·rw [if_pos e2] at h1;omega
   ·omega
 have hin : ∀ x∈plI ms,0<=x/\x<ps.length:=fun x hx=>by
  obtain ⟨m,hm,rfl⟩:=List.mem_map.1 hx
  obtain ⟨i,hi⟩:=List.mem_iff_getElem?.1 hm
  exact ⟨(hok i m hi).1,(hok i m hi).2.1⟩
 have hlen:ms.length<=8:=by
  by_cases h0:ms.length=0
  ·omega
  ·have hl:(plI ms).length=ms.length:=by simp [plI]
   have h1:=aFy hup (fun x hx=>(hin x hx).1) (ms.length-1) (by omega)
   have h2:=(hin ((plI ms).getD (ms.length-1) 0) (by rw [List.getD_eq_getElem?_getD,List.getElem?_eq_getElem (by omega)];exact List.getElem_mem _)).2
   omega
 refine ⟨h8,fun p hpm=> ?_,yJ hup,hin,hlen,hok⟩
 have h1:=hp p hpm
 by_cases h2:2<p.fl.length
 ·have h3:dV p.fl=2:=by unfold dV;rw [if_pos h2]
  unfold eE at h1
  rw [h3] at h1
  split at h1
  ·omega
  ·split at h1
   ·omega
   ·simp at h1
 ·omega
theorem aMe {ms:List MB} (h:(plI ms).Pairwise (· < ·)) (h0 : ∀ x∈plI ms,0<=x):(ms.map fun m=>m.pl.toNat).Pairwise (· < ·):=by
 unfold plI at h
 rw [List.pairwise_map] at h ⊢
 refine h.imp_of_mem fun ha hb hab=> ?_
 have h1:=h0 _ (List.mem_map.2 ⟨_,ha,rfl⟩)
 have h2:=h0 _ (List.mem_map.2 ⟨_,hb,rfl⟩)
 omega
theorem lJ {ps:List PK} {wi:WI} (h:cM ps wi.ins=0):(aB ps wi).Ok:=by
 obtain ⟨-,-,h1,h2,-,-⟩:=fX h
 refine ⟨aMe h1 fun x hx=>(h2 x hx).1,fun i hi=> ?_⟩
 obtain ⟨m,hm,rfl⟩:=List.mem_map.1 hi
 have:=h2 m.pl (List.mem_map.2 ⟨m,hm,rfl⟩)
 show m.pl.toNat<(ps.map fun p=>p.fl.length).length
 rw [List.length_map]
 omega
def kF (ms:List MB):List (Nat × List Bool):=ms.map fun m=>(m.pl.toNat,m.on)
theorem aLu {ps:List PK} {ms:List MB} (wi:WI) (h:cM ps ms=0):(aB ps wi).IsSet (kF ms):=by
 obtain ⟨-,-,h1,h2,-,h3⟩:=fX h
 have hu:=aMe h1 fun x hx=>(h2 x hx).1
 refine ⟨?_,fun a ha=> ?_,fun a ha=> ?_⟩
 ·unfold kF
  rw [List.pairwise_map] at hu ⊢
  exact hu
 ·obtain ⟨m,hm,rfl⟩:=List.mem_map.1 ha
  have:=h2 m.pl (List.mem_map.2 ⟨m,hm,rfl⟩)
  show m.pl.toNat<(ps.map fun p=>p.fl.length).length
  rw [List.length_map]
  omega
 ·obtain ⟨m,hm,rfl⟩:=List.mem_map.1 ha
  obtain ⟨i,hi⟩:=List.mem_iff_getElem?.1 hm
  have h4:=h3 i m hi
  have h5:m.pl.toNat<ps.length:=by omega
  show m.on.length=(ps.map fun p=>p.fl.length).getD m.pl.toNat 0
  rw [h4.2.2,dA,List.getD_eq_getElem?_getD,List.getD_eq_getElem?_getD,List.getElem?_map,List.getElem?_eq_getElem h5]
  rfl
end Go.Proofs.YthaaaecmeafofaaGreatDoor
namespace Go.Proofs
open Go.Shelf
def Tryz.laysSlH10_f176_ren:Go.Shelf.Ren:=⟨fun | 10=>176 | 6=>68 | n=>n,fun | 22=>37 | 23=>3 | 25=>124 | 3=>3 | 4=>4 | 0=>0 | n=>n,fun | n=>n⟩
theorem Tryz.laysSlH10_f176:Go.Proofs.SlLaysH.n10 Tryz.prog Tryz.laysSlH10_f176_ren:= {
 mixed:=by kernel_rfl
 f6:=⟨Tryz.f68.name,by decide,Tryz.func68.trans (congrArg some (by kernel_rfl))⟩
 f10:=⟨Tryz.f176.name,by decide,Tryz.func176.trans (congrArg some (by kernel_rfl))⟩
 t0:=Tryz.underlying0
 a0:=Tryz.isAgg0
 z0:=Tryz.sizeOf0
 v0:=Tryz.zeroValue0
 t3:=Tryz.underlying3
 a3:=Tryz.isAgg3
 z3:=Tryz.sizeOf3
 v3:=Tryz.zeroValue3
 t4:=Tryz.underlying4
 a4:=Tryz.isAgg4
 z4:=Tryz.sizeOf4
 v4:=Tryz.zeroValue4
 t22:=Tryz.underlying37
 a22:=Tryz.isAgg37
 z22:=Tryz.sizeOf37
 v22:=Tryz.zeroValue37
 a23:=Tryz.isAgg3
 z23:=Tryz.sizeOf3
 t25:=Tryz.underlying124
 a25:=Tryz.isAgg124
 z25:=Tryz.sizeOf124
 v25:=Tryz.zeroValue124 }
open Go.RowKit Go.Lib Go.Sort in
theorem Tryz.slices_DeleteFunc {α:Type} [Inhabited α] (enc:α->Value) (hO:OneCell enc) (p:α->Bool) (g:Nat) (lb:Array Value) (eg : ∀ args w,(callFunc g args).run Tryz.prog w=.ok (.enter g args) w) (zr:α) (v23 : ∀ w,(zeroValue 3).run Tryz.prog w=.ok (enc zr) w) (blk off cap:Nat) (d:Array α) (w:World) (hp:PredAt Tryz.prog g lb enc p w) (hpo:PredOver Tryz.prog g lb enc p blk off d.size w) (hH:Holds enc w blk off d) (hsz:d.size<=9223372036854775807) (hcap:d.size<=cap) :
  Calls Tryz.prog 176 #[.slice (some ⟨blk,off,none⟩) d.size cap,.func (.func g) #[] lb] w fun e w'=>e=.returned (.slice (some ⟨blk,off,none⟩) (d.toList.filter fun x=> !p x).length cap)/\∃ q,w'=putRow enc (Sort.ahead w q) blk off ((d.toList.filter fun x=> !p x)++List.replicate (d.size-(d.toList.filter fun x=> !p x).length) zr).toArray:=AnyE.slices_DeleteFunc Tryz.laysSlH10_f176 enc hO p g lb eg zr v23 blk off cap d w hp hpo hH hsz hcap
end Go.Proofs
namespace Go.Proofs.YthaaaecmeafofaaGreatDoor
open Go.RowKit Go.Sort
theorem sT {F:Nat} {cap:Array Value} (S:Nat->Prop) (kids:List NT) (g:NT->Bool) (kp:Option Addr) (kc:Nat) (w:World) (hS : ∀ b,S b->b<w.heap.size)
  (hF : ∀ args w,(callFunc F args).run Tryz.prog w=.ok (.enter F args) w) (hmax:kids.length<=9223372036854775807) (hk:bA S w kids kp 0)
  (hc : ∀ (j:Nat) (h:j<kids.length) (cs:List Value) (W:World),aA w W->aH S W kids[j] cs->Calls Tryz.prog F (#[.agg cs.toArray]++cap) W fun e w'=>e=.returned (.bool (g kids[j]))/\aA W w') :
  Calls Tryz.prog 125 #[.slice kp kids.length kc,.func (.func F) #[] cap] w fun e w'=> ∃ n:Int,e=.returned (.int .i64 n)/\decide (0<=n)=kids.any g/\aA w w':=by
 have HK:=hid hk
 have HC:=hid hc
 clear hk hc
 go_enter Tryz.func125,Tryz.ntmps125
 go_wp2_with fail
 go_loopg [8] kids.length (fun gk i wr=> ∃ j:Nat,j+gk=kids.length/\i=.int .i64 j/\(kids.take j).any g=false/\aA w wr)
 case atStart=>exact ⟨0,by simp,rfl,by simp,aA.refl _⟩
 case round=>
  obtain ⟨j,hj,rfl,hno,hkp⟩:=hrel
  have HNO:=hid hno
  have HKP:=hid hkp
  clear hno hkp
  by_cases hlt:j<kids.length
  ·obtain ⟨p,cs,hp,hSp,hcell,hneed⟩:=iE (bA.mono (bF hS HKP.out) (fun _ h=>h) kids kp 0 HK.out) j hlt
   have HCALL:=hid (HC.out j hlt cs wr HKP.out hneed)
   have HST:Hid ((kids.take (j+1)).any g=g kids[j]):=by
    show _=_
    rw [List.take_succ_eq_append_getElem hlt,List.any_append,HNO.out];simp
   have HUP:Hid (g kids[j]=true->kids.any g=true):=fun h=>List.any_eq_true.2 ⟨kids[j],List.getElem_mem hlt,h⟩
   subst hp
   rw [Nat.zero_add] at hcell
   generalize g kids[j]=β at HCALL HST HUP
   cases hkid:kids[j] with
   | node k' a' fl' nt' kids'=>
   rw [hkid,aH] at hneed
   obtain ⟨kp',kc',rfl,-,-,-⟩:=hneed
   obtain ⟨c0,c1,c2,c3,c4,c5,c6,c7,c8,c9⟩:=rK hcell
   clear hcell hkid HNO
   go_wp2_with fail
   refine HCALL.out.mono ?_
   rintro e w1 ⟨rfl,k1⟩
   have K1:=hid (HKP.out.trans k1)
   clear k1 c0 c1 c2 c3 c4 c5 c6 c7 c8 c9 HCALL
   cases β
   ·go_wp2_with fail
    go_roundg (kids.length-(j+1))
    case rel=>exact ⟨j+1,by omega,by go_num,HST.out,K1.out⟩
    case measure=>omega
   ·go_wp2_with fail
    go_ret
    exact ⟨(j:Int),rfl,by rw [show kids.any g=true from HUP.out trivial];exact decide_eq_true (by omega),K1.out⟩
  ·obtain rfl:j=kids.length:=by omega
   go_wp2_with fail
   go_ret
   refine ⟨-1,rfl,?_,HKP.out⟩
   have:=HNO.out
   rw [List.take_length] at this
   rw [this];rfl
theorem iT {F:Nat} {cap:Array Value} (S:Nat->Prop) (kids:List NT) (g:NT->Bool) (kp:Option Addr) (kc:Nat) (w:World) (hS : ∀ b,S b->b<w.heap.size)
  (hF : ∀ args w,(callFunc F args).run Tryz.prog w=.ok (.enter F args) w) (hmax:kids.length<=9223372036854775807) (hk:bA S w kids kp 0)
  (hc : ∀ (j:Nat) (h:j<kids.length) (cs:List Value) (W:World),aA w W->aH S W kids[j] cs->Calls Tryz.prog F (#[.agg cs.toArray]++cap) W fun e w'=>e=.returned (.bool (g kids[j]))/\aA W w') :
  Calls Tryz.prog 62 #[.slice kp kids.length kc,.func (.func F) #[] cap] w fun e w'=>e=.returned (.bool (kids.any g))/\aA w w':=by
 have HI:=hid (sT S kids g kp kc w hS hF hmax hk hc)
 clear hk hc
 go_enter Tryz.func62,Tryz.ntmps62
 go_wp2_with fail
 refine HI.out.mono ?_
 rintro e w1 ⟨n,rfl,hn,k1⟩
 have HN:=hid hn
 have K1:=hid k1
 clear hn k1 HI
 go_wp2_with fail
 go_ret
 exact ⟨aJ HN.out,K1.out⟩
theorem aHf (k:Int) (a:At) (fl:ByteArray) (nt:Bool) : ∀ (kids:List NT) (j:Nat) (h:j<kids.length) (f:ByteArray),f∈kids[j].flags->f∈(NT.node k a fl nt kids).flags:=by
 intro kids j h f hf
 rw [NT.flags]
 refine List.mem_append_right _ ?_
 induction kids generalizing j with
 | nil=>exact absurd h (Nat.not_lt_zero _)
 | cons t ts ih=>
  rw [cR]
  cases j with
  | zero=>exact List.mem_append_left _ hf
  | succ j=>exact List.mem_append_right _ (ih j (by simpa using h) hf)
theorem yW (ps:List PK) (ms:List MB) (k:Nat) : ∀ kids:List NT,yV ps ms k kids=kids.any (bQ ps ms k)
 | []=>by simp [yV]
 | t :: ts=>by rw [yV,yW ps ms k ts];simp
theorem rZ (ps:List PK) (ms:List MB) (k:Nat) : ∀ kids:List NT,yS ps ms k kids = !kids.any (fun t=> !bQ ps ms k t)
 | []=>by simp [yS]
 | t :: ts=>by rw [yS,rZ ps ms k ts];simp
structure kG (S:Nat->Prop) (ps:List PK) (ms:List MB) (k:Nat) (tp lp:Option Addr) (tc lc ct cl ck ch cp cf:Nat) (pcs:Array Value) (w:World):Prop where
 tree:aE ct 24 (.slice tp ps.length tc) w
 set:aE cl 25 (.slice lp ms.length lc) w
 num:aE ck 3 (.int .i64 k) w
 self:aE ch 111 (.func (.func 130) #[] #[.pointer (some ⟨ct,0,none⟩),.pointer (some ⟨cl,0,none⟩),.pointer (some ⟨ck,0,none⟩),.pointer (some ⟨ch,0,none⟩),.pointer (some ⟨cp,0,none⟩),.pointer (some ⟨cf,0,none⟩)]) w
 pack:aL cp pcs w
 fails:aE cf 111 (.func (.func 129) #[] #[.pointer (some ⟨ch,0,none⟩)]) w
 row:bD S w ps (.slice tp ps.length tc)
 mbs:bX S w ms (.slice lp ms.length lc)
 old : ∀ b,S b->b<w.heap.size
theorem kG.keep {S:Nat->Prop} {ps:List PK} {ms:List MB} {k:Nat} {tp lp:Option Addr} {tc lc ct cl ck ch cp cf:Nat} {pcs:Array Value} {w w':World} (h:kG S ps ms k tp lp tc lc ct cl ck ch cp cf pcs w) (k':aA w w'):kG S ps ms k tp lp tc lc ct cl ck ch cp cf pcs w':=
 ⟨h.tree.keep k' h.tree.facts.2.2,h.set.keep k' h.set.facts.2.2,h.num.keep k' h.num.facts.2.2,h.self.keep k' h.self.facts.2.2,h.pack.keep k' h.pack.1,h.fails.keep k' h.fails.facts.2.2,h.row.keep h.old k',h.mbs.keep h.old k',fun b hb=>Nat.lt_of_lt_of_le (h.old b hb) k'.size⟩
theorem qL (args:Array Value) (w:World):(callFunc 129 args).run Tryz.prog w=.ok (.enter 129 args) w:=enters_of Tryz.func129 (by kernel_rfl) rfl args w
theorem iU (args:Array Value) (w:World):(callFunc 130 args).run Tryz.prog w=.ok (.enter 130 args) w:=enters_of Tryz.func130 (by kernel_rfl) rfl args w
theorem aGs {S:Nat->Prop} {ps:List PK} {ms:List MB} {k:Nat} {tp lp:Option Addr} {tc lc ct cl ck ch cp cf:Nat} {pcs:Array Value} (t:NT) (cs:List Value) (w:World) (h:kG S ps ms k tp lp tc lc ct cl ck ch cp cf pcs w) (hn:aH S w t cs)
  (hc : ∀ W,aA w W->Calls Tryz.prog 130 #[.agg cs.toArray,.pointer (some ⟨ct,0,none⟩),.pointer (some ⟨cl,0,none⟩),.pointer (some ⟨ck,0,none⟩),.pointer (some ⟨ch,0,none⟩),.pointer (some ⟨cp,0,none⟩),.pointer (some ⟨cf,0,none⟩)] W fun e w'=>e=.returned (.bool (bQ ps ms k t))/\aA W w') :
  Calls Tryz.prog 129 #[.agg cs.toArray,.pointer (some ⟨ch,0,none⟩)] w fun e w'=>e=.returned (.bool (!bQ ps ms k t))/\aA w w':=by
 obtain ⟨hc0,-,hl0⟩:=h.self.facts
 have hent:=iU
 have HC:=hid hc
 rcases t with ⟨kd,a,fl,nt,kids⟩
 rw [aH] at hn
 obtain ⟨kp,kc,rfl,-,-,-⟩:=hn
 clear h hc
 generalize bQ ps ms k (.node kd a fl nt kids)=β at HC ⊢
 go_enter Tryz.func129,Tryz.ntmps129
 go_wp2_with fail
 refine aV (fun W'=>aA w W') (aA.alloc _ _) ?_
 intro W0 k0
 refine (HC.out W0 k0).mono ?_
 rintro e w1 ⟨rfl,k1⟩
 have K1:=hid (k0.trans k1)
 clear k0 k1 hc0
 go_wp2_with fail
 go_ret
 exact ⟨aJ (by simp),K1.out⟩
theorem aDb {S:Nat->Prop} {ps:List PK} {ms:List MB} {k:Nat} {tp lp:Option Addr} {tc lc ct cl ck ch cp cf:Nat} {pcs:Array Value} {fp:Option Addr} {fc:Nat} (hk:k<ms.length) (hok:vF ps ms)
  (hpc:pcs[3]? = some (.slice fp (dA ps ms[k]).fl.length fc)) : ∀ (m:Nat) (t:NT),t.size<=m->(∀ f∈t.flags,aM (dA ps ms[k]).fl f<(dA ps ms[k]).fl.length)->∀ (cs:List Value) (w:World),kG S ps ms k tp lp tc lc ct cl ck ch cp cf pcs w->cB S w (dA ps ms[k]).fl (.slice fp (dA ps ms[k]).fl.length fc)->aH S w t cs->
  Calls Tryz.prog 130 #[.agg cs.toArray,.pointer (some ⟨ct,0,none⟩),.pointer (some ⟨cl,0,none⟩),.pointer (some ⟨ck,0,none⟩),.pointer (some ⟨ch,0,none⟩),.pointer (some ⟨cp,0,none⟩),.pointer (some ⟨cf,0,none⟩)] w fun e w'=>e=.returned (.bool (bQ ps ms k t))/\aA w w':=by
 intro m
 induction m with
 | zero=>
  rintro ⟨kd,a,fl,nt,kids⟩ hm
  rw [NT.size] at hm;omega
 | succ m ih=>
  rintro ⟨kd,a,fl,nt,kids⟩ hm hfl cs w hw hst hn
  rw [NT.size] at hm
  have hn':=hn
  rw [aH] at hn
  obtain ⟨kp,kc,rfl,hcap,hmax,hkids⟩:=hn
  have HK:=hid hkids
  have HW:=hid hw
  have HST:=hid hst
  have HPC:=hid hpc
  have hold:=hw.old
  have HKEEP:Hid (∀ W,aA w W->bA S W kids kp 0):=fun W kw=>bA.mono (bF hold kw) (fun _ h=>h) kids kp 0 HK.out
  have HIH:Hid (∀ (j:Nat) (h:j<kids.length) (cs:List Value) (W:World),aA w W->aH S W kids[j] cs->Calls Tryz.prog 130 (#[.agg cs.toArray]++#[.pointer (some ⟨ct,0,none⟩),.pointer (some ⟨cl,0,none⟩),.pointer (some ⟨ck,0,none⟩),.pointer (some ⟨ch,0,none⟩),.pointer (some ⟨cp,0,none⟩),.pointer (some ⟨cf,0,none⟩)]) W fun e w'=>e=.returned (.bool (bQ ps ms k kids[j]))/\aA W w'):=fun j h cs W kw hnd=>
   ih kids[j] (by have:=mW kids j h;omega) (fun f hf=>hfl f (aHf kd a fl nt kids j h f hf)) cs W (hw.keep kw) (hst.keep hold kw) hnd
  have HFL:Hid (kd=5->aM (dA ps ms[k]).fl fl<(dA ps ms[k]).fl.length):=fun h5=>hfl fl (by rw [NT.flags,if_pos h5];simp)
  obtain ⟨hct,-,hlt⟩:=hw.tree.facts
  obtain ⟨hcl,-,hll⟩:=hw.set.facts
  obtain ⟨hck,-,hlk⟩:=hw.num.facts
  obtain ⟨hch,-,hlh⟩:=hw.self.facts
  obtain ⟨hcf,-,hlf⟩:=hw.fails.facts
  have hcp:=hw.pack.2
  have hlp:=hw.pack.1
  have e1:=qL
  have e2:=iU
  clear ih hkids hw hst hn' hfl hpc
  by_cases h1:kd=1
  ·subst h1
   have HX:Hid (bQ ps ms k (.node 1 a fl nt kids)=eH ps ms (-1) a):=by show _=_;rw [bQ,if_pos rfl]
   go_enter Tryz.func130,Tryz.ntmps130
   go_wp2_with fail
   refine aV (fun W'=>aA w W') (aA.alloc _ _) ?_
   intro W0 k0
   refine (jK S ps ms _ _ (-1) a.n a.f a.op a.v a.sl a.on W0 (HW.out.keep k0).old (HW.out.keep k0).row (HW.out.keep k0).mbs hok).mono ?_
   rintro e w1 ⟨rfl,k1⟩
   have K1:=hid (k0.trans k1)
   clear k0 k1
   go_wp2_with fail
   go_ret
   exact ⟨aJ HX.out.symm,K1.out⟩
  by_cases h2:kd=2
  ·subst h2
   have HX:Hid (bQ ps ms k (.node 2 a fl nt kids) = !eH ps ms k a):=by show _=_;rw [bQ,if_neg (by decide),if_pos rfl]
   clear h1
   go_enter Tryz.func130,Tryz.ntmps130
   go_wp2_with fail
   refine aV (fun W'=>aA w W') (aA.alloc _ _) ?_
   intro W0 k0
   refine (jK S ps ms _ _ k a.n a.f a.op a.v a.sl a.on W0 (HW.out.keep k0).old (HW.out.keep k0).row (HW.out.keep k0).mbs hok).mono ?_
   rintro e w1 ⟨rfl,k1⟩
   have K1:=hid (k0.trans k1)
   have HX2:Hid (bQ ps ms k (.node 2 a fl nt kids) = !eH ps ms k ⟨a.n,a.op,a.v,a.sl,a.f,a.on⟩):=HX.out
   generalize eH ps ms k ⟨a.n,a.op,a.v,a.sl,a.f,a.on⟩=β at HX2 ⊢
   clear k0 k1
   go_wp2_with fail
   go_ret
   exact ⟨aJ (by rw [HX2.out]),K1.out⟩
  by_cases h4:kd=4
  ·subst h4
   have HX:Hid (bQ ps ms k (.node 4 a fl nt kids)=kids.any (bQ ps ms k)):=by show _=_;rw [bQ,if_neg (by decide),if_neg (by decide),if_pos rfl,yW]
   clear h1 h2
   go_enter Tryz.func130,Tryz.ntmps130
   go_wp2_with fail
   refine aV (fun W'=>aA w W') (aA.alloc _ _) ?_
   intro W0 k0
   refine (iT S kids (bQ ps ms k) kp kc W0 (HW.out.keep k0).old iU hmax (HKEEP.out W0 k0) (fun j h cs W kW hnd=>HIH.out j h cs W (k0.trans kW) hnd)).mono ?_
   rintro e w1 ⟨rfl,k1⟩
   have K1:=hid (k0.trans k1)
   generalize kids.any (bQ ps ms k)=β at HX ⊢
   clear k0 k1
   go_wp2_with fail
   go_ret
   exact ⟨aJ (by rw [HX.out]),K1.out⟩
  have HALL:Hid (∀ W,aA w W->Calls Tryz.prog 62 #[.slice kp kids.length kc,.func (.func 129) #[] #[.pointer (some ⟨ch,0,none⟩)]] W fun e w'=>e=.returned (.bool (kids.any fun t=> !bQ ps ms k t))/\aA W w'):=fun W kW=>
   iT S kids (fun t=> !bQ ps ms k t) kp kc W (HW.out.keep kW).old qL hmax (HKEEP.out W kW) (fun j h cs W' kW' hnd=>aGs kids[j] cs W' (HW.out.keep (kW.trans kW')) hnd (fun W2 k2=>HIH.out j h cs W2 (kW.trans (kW'.trans k2)) (hnd.keep (HW.out.keep (kW.trans kW')).old k2)))
  clear HIH HKEEP HK
  have b1:(kd==1)=false:=by simp [h1]
  have b2:(kd==2)=false:=by simp [h2]
  have b4:(kd==4)=false:=by simp [h4]
  by_cases h5:kd=5
  ·have HFA:=hid (HFL.out h5)
   subst h5
   clear h1 h2 h4 b1 b2 b4 HFL
   have HX:Hid (bQ ps ms k (.node 5 a fl nt kids)=if ((ms.getD k MB.zero).on.getD (aM (dA ps (ms.getD k MB.zero)).fl fl) false==nt)=true then true else !kids.any (fun t=> !bQ ps ms k t)):=by
    show _=_
    rw [bQ,if_neg (by decide),if_neg (by decide),if_neg (by decide),rZ]
    simp only [true_and]
   rw [gO ms k hk] at HX
   obtain ⟨mb,moff,mcap,hmv,hmS,-,hrow⟩:=HW.out.mbs.get hk
   cases hmv
   obtain ⟨op,oc,hm0,hm1,hon,hbl⟩:=hrow k _ (List.getElem?_eq_getElem hk)
   obtain ⟨-,-,hol⟩:=hok k _ (List.getElem?_eq_getElem hk)
   have hqo:aM (dA ps ms[k]).fl fl<ms[k].on.length:=by rw [hol];exact HFA.out
   obtain ⟨ob,ooff,hop,hSo,hcell⟩:=hbl.cell hqo
   subst hop
   have hmlt:=hold mb hmS
   have holt:=hold ob hSo
   have hc3:w.cell? ⟨cp,3,none⟩=some (.slice fp (dA ps ms[k]).fl.length fc):=(hcp 3).trans HPC.out
   generalize hqe:aM (dA ps ms[k]).fl fl=q at hqo hcell HX HFA
   have HQE:=hid hqe
   generalize (dA ps ms[k]).fl=fs at HST HPC HFA HQE hc3
   generalize ms[k].on.getD q false=β at hcell HX
   generalize ms[k].on.length=ol at hm1 hon hqo
   clear hrow hbl hol hm0 hqe hcp
   go_enter Tryz.func130,Tryz.ntmps130
   go_upto_region 9 with fail
   refine bJ (fun W'=>aA w W'/\aL w.heap.size #[.int .i64 5,.string a.n,.int .i64 a.op,.int .i64 a.v,.int .i64 a.sl,.string a.f,.bool a.on,.string fl,.bool nt,.slice kp kids.length kc] W') ⟨aA.alloc _ _,aL.new _ _ _⟩ ?_
   rintro W2 ⟨k2,bx2⟩
   have K2:=hid k2
   have B2:=hid bx2
   have H2:=hid (HW.out.keep k2)
   have g1:=(k2.cell (p:=⟨cl,0,none⟩) hll).trans hcl
   have g2:=(k2.cell (p:=⟨ck,0,none⟩) hlk).trans hck
   have g3:=(k2.cell (p:=⟨mb,moff+k*2+1,none⟩) hmlt).trans hm1
   have g4:=(k2.cell (p:=⟨ob,ooff+q,none⟩) holt).trans hcell
   have g5:=(k2.cell (p:=⟨cp,3,none⟩) hlp).trans hc3
   have g6:=bx2.2
   have g7:=bx2.1
   have hq:=hid (show ∀ n,Calls Tryz.prog 61 #[.slice fp fs.length fc,.string fl] (W2.drewN n) fun e w''=>e=.returned (.int .i64 (q:Int))/\∃ n',w''=W2.drewN n' from fun n=>by
    refine (pU S fs _ fl (W2.drewN n) (HST.out.keep hold (k2.trans (aA.drewN (aA.refl _) _)))).mono ?_
    rintro e w' ⟨rfl,rfl⟩
    exact ⟨by rw [HQE.out,if_pos HFA.out],n,rfl⟩)
   clear hct hcl hck hch hcf hm1 hcell hc3 k2 bx2 HST HPC HQE
   go_quiet ((go_at_call 61;exact hq.out _))
   have k3:aA W2 (W2.drewN nq):=aA.drewN (aA.refl _) _
   generalize W2.drewN nq=W3 at k3
   have K3:=hid (K2.out.trans k3)
   have B3:=hid (B2.out.keep k3 B2.out.1)
   have H3:=hid (H2.out.keep k3)
   have hc3:=B3.out.2
   have hl3:=B3.out.1
   obtain ⟨hcf3,-,hlf3⟩:=H3.out.fails.facts
   clear k3 g1 g2 g3 g4 g5 g6 g7 hq
   cases hβ:(β==nt)
   ·rw [hβ] at HX
    go_wp2_with fail
    refine (HALL.out W3 K3.out).mono ?_
    rintro e w4 ⟨rfl,k4⟩
    have K4:=hid (K3.out.trans k4)
    have HX2:Hid (bQ ps ms k (.node 5 a fl nt kids) = !kids.any (fun t=> !bQ ps ms k t)):=HX.out
    generalize (kids.any fun t=> !bQ ps ms k t)=γ at HX2 ⊢
    clear k4 hc3 hcf3 HX
    go_wp2_with fail
    go_ret
    exact ⟨aJ (by rw [HX2.out]),K4.out⟩
   ·rw [hβ] at HX
    go_wp2_with fail
    go_ret
    exact ⟨aJ (by rw [HX.out];rfl),K3.out⟩
  ·have HX:Hid (bQ ps ms k (.node kd a fl nt kids) = !kids.any (fun t=> !bQ ps ms k t)):=by
    show _=_
    rw [bQ,if_neg h1,if_neg h2,if_neg h4,if_neg (fun h=>h5 h.1),rZ]
   have b5:(kd==5)=false:=by simp [h5]
   clear h1 h2 h4 h5 HFL
   go_enter Tryz.func130,Tryz.ntmps130
   go_wp2_with fail
   refine aV (fun W'=>aA w W') (aA.alloc _ _) ?_
   intro W0 k0
   refine (HALL.out W0 k0).mono ?_
   rintro e w1 ⟨rfl,k1⟩
   have K1:=hid (k0.trans k1)
   generalize (kids.any fun t=> !bQ ps ms k t)=γ at HX ⊢
   clear k0 k1
   go_wp2_with fail
   go_ret
   exact ⟨aJ (by rw [HX.out]),K1.out⟩
end Go.Proofs.YthaaaecmeafofaaGreatDoor
