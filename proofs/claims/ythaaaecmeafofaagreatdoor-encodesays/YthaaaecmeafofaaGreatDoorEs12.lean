/- Steps of the proof: EncRefCh, EncMbRow, EncPair. -/
import Derived.Test.YthaaaecmeafofaaGreatDoorEs10
import Derived.Test.YthaaaecmeafofaaGreatDoorEs11
import Derived.Laws.StructEq
set_option maxHeartbeats 16000000
set_option maxRecDepth 100000
namespace Go.Proofs.YthaaaecmeafofaaGreatDoor
open Go.RowKit Go.Lib
def aB (ps:List PK) (wi:WI):Cn.CT:=⟨ps.map fun p=>p.fl.length,wi.ins.map fun m=>m.pl.toNat,fun i k=>wi.on.contains ((i:Int),(k:Int))⟩
def inI (zs:List Int) (x:Int):Bool:=zs.contains x
structure ChM (b:Nat) (pv tsv inv mav onv:Value) (zs:List Int) (n:Nat) (f:Int->Bool) (w:World):Prop where
 tr:aE b 24 pv w
 wi:aG (b+1) 46 #[tsv,inv,mav,onv] w
 od : ∃ ov,aE (b+3) 37 ov w/\bG (b+2) ov zs w/\∀ g,ov.ownBlock=some g->g=b+2∨b+6<=g
 mp:Cn.kF (b+4) n f w
 mv:aE (b+5) 151 (.map (some (b+4))) w
theorem ChM.keep {b:Nat} {pv tsv inv mav onv:Value} {zs:List Int} {n:Nat} {f:Int->Bool} {w w':World} (h:ChM b pv tsv inv mav onv zs n f w) (k:aA w w'):ChM b pv tsv inv mav onv zs n f w':=by
 obtain ⟨ov,h1,h2,h3⟩:=h.od
 exact ⟨h.tr.keep k h.tr.facts.2.2,h.wi.keep k h.wi.facts.2.2,⟨ov,h1.keep k h1.facts.2.2,bC h2 k,h3⟩,h.mp.keep k,h.mv.keep k h.mv.facts.2.2⟩
theorem ChM.push {b:Nat} {pv tsv inv mav onv ov v':Value} {zs:List Int} {x:Int} {n:Nat} {f:Int->Bool} {w w5:World} (h:ChM b pv tsv inv mav onv zs n f w) (h1:aE (b+3) 37 ov w) (h3 : ∀ g,ov.ownBlock=some g->g=b+2∨b+6<=g) (h5:w5.ownsRow (b+2) 3 1 v' (zs.length+1) (zs.map (Value.int .i64) ++ [.int .i64 x])) (hg:w.grownBy w5 ov.ownBlock) (ho:v'.ownBlock=ov.ownBlock∨∃ g,v'.ownBlock=some g/\w.heap.size<=g) :
  ChM b pv tsv inv mav onv (zs ++ [x]) n f (w5.setCell ⟨b+3,0,none⟩ v'):=by
 have l5:=h.mv.facts.2.2
 have hb : ∀ c,c<w.heap.size->c≠b+2->c<b+6->w5.heap[c]? = w.heap[c]? :=fun c hc hn hl=>hg.block c hc fun e=>by rcases h3 c e.symm with h | h<;>omega
 have hso : ∀ c,c≠b+3->(w5.setCell ⟨b+3,0,none⟩ v').heap[c]? = w5.heap[c]? :=fun c hc=>Below.heap_setCell _ _ _ _ (fun e=>hc e)
 have hsz:(w5.setCell ⟨b+3,0,none⟩ v').heap.size=w5.heap.size:=by simp
 have h3' : ∀ g,v'.ownBlock=some g->g=b+2∨b+6<=g:=fun g hgv=>by
  rcases ho with ho | ⟨g',ho,hge⟩
  ·exact h3 g (ho ▸ hgv)
  ·rw [ho] at hgv;have:=Option.some.inj hgv;right;omega
 refine ⟨?_,?_,⟨v',?_,?_,h3'⟩,?_,?_⟩
 ·have:=h.tr;unfold aE at *;rw [hso _ (by omega),hb _ (by omega) (by omega) (by omega)];exact this
 ·have:=h.wi;unfold aG at *;rw [hso _ (by omega),hb _ (by omega) (by omega) (by omega)];exact this
 ·have h6:aE (b+3) 37 ov w5:=by unfold aE at *;rw [hb _ (by omega) (by omega) (by omega)];exact h1
  exact h6.set v'
 ·unfold bG
  rw [List.length_append,List.map_append]
  exact Cn.eQ h5 fun g hgv=>hso g (by rcases h3' g hgv with h | h<;>omega)
 ·obtain ⟨D,⟨es,clock,hm,hr⟩,h2⟩:=h.mp
  exact ⟨D,⟨es,clock,by rw [hso _ (by omega),hb _ (by omega) (by omega) (by omega)];exact hm,hr⟩,h2⟩
 ·have:=h.mv;unfold aE at *;rw [hso _ (by omega),hb _ (by omega) (by omega) (by omega)];exact this
theorem ChM.put {b:Nat} {pv tsv inv mav onv:Value} {zs:List Int} {n n':Nat} {f f':Int->Bool} {w w':World} (h:ChM b pv tsv inv mav onv zs n f w) (hm:Cn.kF (b+4) n' f' w') (hg:w.grownBy w' (some (b+4))):ChM b pv tsv inv mav onv zs n' f' w':=by
 have l5:=h.mv.facts.2.2
 have hb : ∀ c,c<w.heap.size->c≠b+4->w'.heap[c]? = w.heap[c]? :=fun c hc hn=>hg.block c hc fun e=>hn (Option.some.inj e)
 obtain ⟨ov,h1,h2,h3⟩:=h.od
 refine ⟨?_,?_,⟨ov,?_,Cn.eQ h2 fun g hgv=>hb g (Cn.fX h2 hgv).2 (by rcases h3 g hgv with h | h<;>omega),h3⟩,hm,?_⟩
 ·have:=h.tr;unfold aE at *;rw [hb _ (by omega) (by omega)];exact this
 ·have:=h.wi;unfold aG at *;rw [hb _ (by omega) (by omega)];exact this
 ·unfold aE at *;rw [hb _ (by omega) (by omega)];exact h1
 ·have:=h.mv;unfold aE at *;rw [hb _ (by omega) (by omega)];exact this
theorem aDn (w:World) (pv tsv inv mav onv:Value):aA w ((((((w.alloc (.cells #[pv] 24)).alloc (.cells #[tsv,inv,mav,onv] 46)).alloc (.cells #[] 3)).alloc (.cells #[.slice (some ⟨w.heap.size+2,0,none⟩) 0 0] 37)).alloc (.map #[] 0)).alloc (.cells #[.map (some (w.heap.size+4))] 151))/\ChM w.heap.size pv tsv inv mav onv [] 0 (fun _=>false) ((((((w.alloc (.cells #[pv] 24)).alloc (.cells #[tsv,inv,mav,onv] 46)).alloc (.cells #[] 3)).alloc (.cells #[.slice (some ⟨w.heap.size+2,0,none⟩) 0 0] 37)).alloc (.map #[] 0)).alloc (.cells #[.map (some (w.heap.size+4))] 151)):=by
 have b0:=aE.new w 24 pv
 have z0:=aC w (.cells #[pv] 24)
 have k0:=aA.alloc w (.cells #[pv] 24)
 generalize w.alloc (.cells #[pv] 24)=a0 at b0 z0 k0 ⊢
 have b1:=aG.new a0 46 #[tsv,inv,mav,onv]
 have z1:=aC a0 (.cells #[tsv,inv,mav,onv] 46)
 have k1:=aA.alloc a0 (.cells #[tsv,inv,mav,onv] 46)
 generalize a0.alloc (.cells #[tsv,inv,mav,onv] 46)=a1 at b1 z1 k1 ⊢
 have b2:=World.ownsRow_made (base:=a1.heap.size) (e:=3) (size:=1) a1 #[] 0 (Nat.le_refl _) (Nat.zero_le _) rfl
 have z2:=aC a1 (.cells #[] 3)
 have k2:=aA.alloc a1 (.cells #[] 3)
 generalize a1.alloc (.cells #[] 3)=a2 at b2 z2 k2 ⊢
 have b3:=aE.new a2 37 (.slice (some ⟨w.heap.size+2,0,none⟩) 0 0)
 have z3:=aC a2 (.cells #[.slice (some ⟨w.heap.size+2,0,none⟩) 0 0] 37)
 have k3:=aA.alloc a2 (.cells #[.slice (some ⟨w.heap.size+2,0,none⟩) 0 0] 37)
 generalize a2.alloc (.cells #[.slice (some ⟨w.heap.size+2,0,none⟩) 0 0] 37)=a3 at b3 z3 k3 ⊢
 have b4:=Cn.tM a3
 have z4:=aC a3 (.map #[] 0)
 have k4:=aA.alloc a3 (.map #[] 0)
 generalize a3.alloc (.map #[] 0)=a4 at b4 z4 k4 ⊢
 have b5:=aE.new a4 151 (.map (some (w.heap.size+4)))
 have k5:=aA.alloc a4 (.cells #[.map (some (w.heap.size+4))] 151)
 generalize a4.alloc (.cells #[.map (some (w.heap.size+4))] 151)=a5 at b5 k5 ⊢
 rw [z0] at b1
 rw [z1,z0] at b2
 rw [z2,z1,z0] at b3
 rw [z3,z2,z1,z0] at b4
 rw [z4,z3,z2,z1,z0] at b5
 refine ⟨k0.trans (k1.trans (k2.trans (k3.trans (k4.trans k5)))),⟨b0.keep (k1.trans (k2.trans (k3.trans (k4.trans k5)))) b0.facts.2.2,b1.keep (k2.trans (k3.trans (k4.trans k5))) b1.facts.2.2,⟨_,b3.keep (k4.trans k5) b3.facts.2.2,bC b2 (k3.trans (k4.trans k5)),fun g hg=> .inl (by cases hg;rfl)⟩,b4.keep k5,b5⟩⟩
def cJ (zs:List Int) (j:Nat):List Int:=((List.range j).filter fun (i:Nat)=> !zs.contains (i:Int)).map fun (i:Nat)=>(i:Int)
theorem yD (zs:List Int) (j:Nat):cJ zs (j+1)=cJ zs j++(if zs.contains (j:Int) then [] else [(j:Int)]):=by
 unfold cJ
 rw [List.range_succ,List.filter_append,List.map_append]
 rw [List.filter_cons,List.filter_nil]
 generalize zs.contains (j:Int)=b
 cases b<;>rfl
theorem rQ (zs:List Int) : ∀ j,(cJ zs j).length<=j:=fun j=>by
 unfold cJ
 rw [List.length_map]
 exact Nat.le_trans (List.length_filter_le ..) (by simp)
theorem nT {ps:List PK} (h : ∀ p∈ps,p.fl.length<=2) : ∀ j,bA ps j<=2*j
 | 0=>by simp [bA]
 | j+1=>by
  by_cases hj:j<ps.length
  ·rw [gW hj]
   have:=nT h j
   have:=h _ (List.getElem_mem hj)
   omega
  ·have e:bA ps (j+1)=bA ps j:=by unfold bA;rw [List.take_of_length_le (by omega),List.take_of_length_le (by omega)]
   have:=nT h j
   omega
def plI (ms:List MB):List Int:=ms.map fun m=>m.pl
theorem aGx {zs:List Int} {j:Nat} (h:j<zs.length):inI (zs.take (j+1))=fun y=>if y=zs[j] then true else inI (zs.take j) y:=by
 funext y
 unfold inI
 rw [List.take_succ_eq_append_getElem h]
 generalize zs.take j=a
 generalize zs[j]=z
 by_cases e:y=z
 ·simp [e]
 ·simp [e]
theorem wR (S:Nat->Prop) (ps:List PK) (wi:WI) (pv tsv inv mav onv:Value) (w:World) (hS : ∀ b,S b->b<w.heap.size) (hp:aU S w ps pv) (hw:dV S w wi tsv inv mav onv) (h8:ps.length<=8) (hf2 : ∀ p∈ps,p.fl.length<=2) (hi8:wi.ins.length<=8) (hip : ∀ x∈plI wi.ins,0<=x/\x<8) :
  Calls Tryz.prog 40 #[.agg #[pv],.agg #[tsv,inv,mav,onv]] w fun e w'=>aA w w'/\∃ n,ChM w.heap.size pv tsv inv mav onv (plI wi.ins++cJ (plI wi.ins) ps.length) n (inI (plI wi.ins)) w'/\
   e=.returned (.tuple #[.int .i64 (((plI wi.ins++cJ (plI wi.ins) ps.length).length:Nat)+(bA ps ps.length:Nat):Int),.func (.func 98) #[] #[.pointer (some ⟨w.heap.size+3,0,none⟩),.pointer (some ⟨w.heap.size+5,0,none⟩),.pointer (some ⟨w.heap.size,0,none⟩),.pointer (some ⟨w.heap.size+1,0,none⟩)]]):=by
 obtain ⟨i0,hi,hz0,hz1,hz2⟩:=info_parts fV
 have HP:=hid hp
 have HW:=hid hw
 have HF2:=hid hf2
 have HIP:=hid hip
 obtain ⟨pp,pc,rfl,hpl⟩:=hp.len
 obtain ⟨mp,mc,hmv,hml⟩:=hw.ins.len
 have HMV:=hid hmv
 clear hmv
 have hmm:= @run_makeMap Tryz.prog
 have hmf : ∀ (fn:Fn) (first cap:Array Value) (w:World),(Instr.makeFunc fn first cap).run Tryz.prog w=.ok (.func fn first cap) w:=fun _ _ _ _=>rfl
 have HST:=hid (aDn w (.slice pp ps.length pc) tsv inv mav onv)
 clear hp hw hf2 hip
 go_enter Tryz.func40,Tryz.ntmps40
 go_upto_region 3 with fail
 refine bH (fun W'=>aA w W'/\ChM w.heap.size (.slice pp ps.length pc) tsv inv mav onv [] 0 (fun _=>false) W') ?_ ?_
 ·exact HST.out
 rintro W0 ⟨k0,c0⟩
 have K0:=hid k0
 have C0:=hid c0
 clear k0 c0 HST hmm
 simp only [Nat.add_assoc,Nat.reduceAdd]
 have hund:Tryz.prog.underlying 151=some (.map 3 4):=Tryz.underlying151
 have HUND:=hid hund
 clear hund
 obtain ⟨hcw,-,hlw⟩:=C0.out.wi.facts
 have hw1:W0.cell? ⟨w.heap.size+1,1,none⟩=some (.slice mp wi.ins.length mc):=(hcw 1).trans (congrArg some HMV.out)
 clear hcw
 go_wp2_with fail
 go_loopg [18] wi.ins.length (fun gk iv wq=> ∃ j:Nat,j+gk=wi.ins.length/\iv=.int .i64 j/\ChM w.heap.size (.slice pp ps.length pc) tsv inv mav onv ((plI wi.ins).take j) j (inI ((plI wi.ins).take j)) wq/\aA w wq)
 case atStart=>exact ⟨0,by omega,rfl,C0.out,K0.out⟩
 case round=>
  obtain ⟨j,hj,rfl,hc,hk⟩:=hrel
  have C1:=hid hc
  have K1:=hid hk
  clear hc hk
  by_cases hlt:j<wi.ins.length
  ·obtain ⟨mb,mo,mcap,hmv,hmb,-,hrow⟩:=(HW.out.ins.keep hS K1.out).get hlt
   have hmp:mp=some ⟨mb,mo,none⟩:=by
    rw [HMV.out] at hmv
    injection hmv
   subst hmp
   clear hmv
   obtain ⟨op,oc,hc0,hc1,hol,-⟩:=hrow j _ (List.getElem?_eq_getElem hlt)
   have hpx:=HIP.out wi.ins[j].pl (List.mem_map.2 ⟨_,List.getElem_mem hlt,rfl⟩)
   have hltP:j<(plI wi.ins).length:=by simp [plI];exact hlt
   have HTK:=hid (show (plI wi.ins).take (j+1)=(plI wi.ins).take j ++ [wi.ins[j].pl] by rw [List.take_succ_eq_append_getElem hltP];simp [plI])
   have HIN:=hid (show inI ((plI wi.ins).take (j+1))=fun y=>if y=wi.ins[j].pl then true else inI ((plI wi.ins).take j) y by rw [aGx hltP];simp [plI])
   have hmbl:mb<wr.heap.size:=Nat.lt_of_lt_of_le (hS mb hmb) K1.out.size
   have hjI:(j:Int)<(wi.ins.length:Int):=by omega
   have hal:((plI wi.ins).take j).length<=8:=by simp;omega
   generalize wi.ins[j]=mm at hc0 hc1 hol hpx HTK HIN
   generalize (plI wi.ins).take j=acc at C1 HTK HIN hal
   have hpx0:=hpx.1
   have hpx8:=hpx.2
   clear hrow hltP hpx
   obtain ⟨ov,ho1,ho2,ho3⟩:=C1.out.od
   obtain ⟨lp,lc,hov⟩:=ho2.ints.len
   subst hov
   have HOL:=hid (show ∀ g,(Value.slice lp acc.length lc).ownBlock=some g->g<wr.heap.size from fun g hg=>(Cn.fX ho2 hg).2)
   have HO3:=hid ho3
   have HO1:=hid ho1
   have HO2:=hid ho2
   clear ho1 ho2 ho3
   go_upto_region 6 with fail
   refine bH (fun W'=>aA wr W'/\aG wr.heap.size 64 #[.int .i64 mm.pl,.slice op mm.on.length oc] W') ⟨aA.alloc _ _,aG.new _ _ _⟩ ?_
   rintro W2 ⟨k2,b2⟩
   have C2:=hid (C1.out.keep k2)
   have K2:=hid (K1.out.trans k2)
   have V1:=hid (HO1.out.keep k2 HO1.out.facts.2.2)
   have V2:=hid (bC HO2.out k2)
   have B2:=hid b2
   obtain ⟨hcm,-,hlm⟩:=b2.facts
   have hm0:W2.cell? ⟨wr.heap.size,0,none⟩=some (.int .i64 mm.pl):=hcm 0
   have HBM:=hid (show w.heap.size+6<=wr.heap.size from by have:=C1.out.mv.facts.2.2;omega)
   clear k2 b2 hc0 hc1 hmbl hcm
   generalize wr.heap.size=bm at B2 HBM HOL hm0 hlm ⊢
   obtain ⟨hbo,hbf,hbl⟩:=V1.out.facts
   have hsz2:=C2.out.mv.facts.2.2
   go_upto_region 7 with (at_builtin;go_loud (refine wpList_append_own_at _ rfl _ _ 37 rfl (w.heap.size+2) 3 i0 (.int .i64 0) 1 8 Tryz.underlying37 hi hz0 hz1 hz2 rfl (by decide) (.slice lp acc.length lc) acc.length (acc.map (Value.int .i64)) rfl (V2.out.alloc _) ⟨W2.heap.size,0,none⟩ 1 1 [.int .i64 (mm.pl)] rfl rfl nO gU (by unfold maxLen;omega) (by omega) (by rw [aC];omega) ?_;intro v5 w5 h1 h2 _ h4;obtain ⟨g5,cap5,rfl⟩:=Cn.bQ h1 (Nat.succ_pos _);have P5:=hid (C2.out.push V1.out HO3.out h1 (Cn.bY h2) (Cn.pW h4));have G5:=hid (Cn.bY h2);have KK5:=hid (show aA w (w5.setCell ⟨w.heap.size+3,0,none⟩ (.slice (some ⟨g5,0,none⟩) (acc.length+1) cap5)) from Below.setCell (Below.grown K2.out (Cn.bY h2) K2.out.size (fun g hg=>by (rcases HO3.out g hg with h | h<;>omega))) (p:=⟨w.heap.size+3,0,none⟩) (by show w.heap.size<=w.heap.size+3;omega) _);have hB5:=(show aE (w.heap.size+3) 37 (.slice lp acc.length lc) w5 from by (have h5:=V1.out;have h6:=h5.facts.2.2;unfold aE at *;rw [(Cn.bY h2).block _ h6 (fun e=>by (rcases HO3.out _ e.symm with h | h<;>omega))];exact h5));obtain ⟨hbc5,hbf5,hbl5⟩:=hB5.facts;clear h1 h2 h4 hB5))
   have HQ:=hid (show ChM w.heap.size (.slice pp ps.length pc) tsv inv mav onv (acc ++ [mm.pl]) j (inI acc) (w5.setCell ⟨w.heap.size+3,0,none⟩ (.slice (some ⟨g5,0,none⟩) (acc.length+1) cap5))/\aA w (w5.setCell ⟨w.heap.size+3,0,none⟩ (.slice (some ⟨g5,0,none⟩) (acc.length+1) cap5))/\aG bm 64 #[.int .i64 mm.pl,.slice op mm.on.length oc] (w5.setCell ⟨w.heap.size+3,0,none⟩ (.slice (some ⟨g5,0,none⟩) (acc.length+1) cap5)) from ⟨P5.out,KK5.out,by
    have h5:=B2.out
    have h6:=h5.facts.2.2
    unfold aG at *
    rw [Below.heap_setCell _ _ _ _ (fun e=>by have e2:bm=w.heap.size+3:=e;have:=HBM.out;omega),G5.out.block _ h6 (fun e=>by have:=HOL.out bm e.symm;omega)];exact h5⟩)
   refine bH (fun W'=>ChM w.heap.size (.slice pp ps.length pc) tsv inv mav onv (acc ++ [mm.pl]) j (inI acc) W'/\aA w W'/\aG bm 64 #[.int .i64 mm.pl,.slice op mm.on.length oc] W') ?_ ?_
   ·exact HQ.out
   rintro W6 ⟨c6,k6,b6⟩
   have C6:=hid c6
   have K6:=hid k6
   obtain ⟨hcm,-,hlm6⟩:=b6.facts
   have hm0:W6.cell? ⟨bm,0,none⟩=some (.int .i64 mm.pl):=hcm 0
   obtain ⟨hmv6,-,hmvl6⟩:=c6.mv.facts
   obtain ⟨w7,hrun,hbm7,hgr7⟩:=c6.mp.put HUND.out (x:=mm.pl) (by unfold Cn.SmI;omega) (by omega) true
   have C7:=hid (c6.put hbm7 hgr7)
   have K7:=hid (show aA w w7 from Below.grown k6 hgr7 k6.size (fun g hg=>by have:=Option.some.inj hg;omega))
   clear c6 k6 b6 hcm HQ P5 G5 KK5 hbc5 hbf5 hbl5 hbm7 hgr7 hbo hbf hbl
   go_wp2_with fail
   go_roundg (wi.ins.length-(j+1))
   case rel=>exact ⟨j+1,by omega,by go_num,by rw [HIN.out,HTK.out];exact C7.out,K7.out⟩
   case measure=>omega
  ·obtain rfl:j=wi.ins.length:=by omega
   have C2:=hid (show ChM w.heap.size (.slice pp ps.length pc) tsv inv mav onv (plI wi.ins) wi.ins.length (inI (plI wi.ins)) wr from by
    have h1:=C1.out
    rw [show (plI wi.ins).take wi.ins.length=plI wi.ins by rw [List.take_of_length_le (by simp [plI])]] at h1
    exact h1)
   have K2:=K1
   have hzl:(plI wi.ins).length<=8:=by simp [plI];omega
   clear C1 K1 hlt
   obtain ⟨wo,rfl⟩ : ∃ wo:World,wo=wr:=⟨_,rfl⟩
   have htr:wo.cell? ⟨w.heap.size,0,none⟩=some (.slice pp ps.length pc):=C2.out.tr.facts.1
   have htl:=C2.out.tr.facts.2.2
   generalize hzs:plI wi.ins=zs at C2 hzl HIP
   have HZS:=hid hzs
   clear hzs
   have C20:=hid (show ChM w.heap.size (.slice pp ps.length pc) tsv inv mav onv (zs++cJ zs 0) wi.ins.length (inI zs) wo from by
    have e:zs++cJ zs 0=zs:=by simp [cJ]
    rw [e];exact C2.out)
   go_wp2_with fail
   go_loopg [34] ps.length (fun gk iv wq=> ∃ j:Nat,j+gk=ps.length/\iv=.int .i64 j/\ChM w.heap.size (.slice pp ps.length pc) tsv inv mav onv (zs++cJ zs j) wi.ins.length (inI zs) wq/\aA w wq)
   case atStart=>exact ⟨0,by omega,rfl,C20.out,K2.out⟩
   case round=>
    obtain ⟨j,hj,rfl,hc,hk⟩:=hrel
    have C1:=hid hc
    have K1:=hid hk
    clear hc hk
    by_cases hlt:j<ps.length
    ·have hjI:(j:Int)<(ps.length:Int):=by omega
     have HNX:=hid (yD zs j)
     have hol:=rQ zs j
     have hal:(zs++cJ zs j).length<=16:=by simp;omega
     obtain ⟨hmv6,-,hmvl6⟩:=C1.out.mv.facts
     have hlk:=C1.out.mp.look HUND.out (x:=(j:Int)) (by unfold Cn.SmI;omega)
     generalize hace:zs++cJ zs j=acc at C1 hal
     have HACE:=hid hace
     clear hace hol
     cases hin:zs.contains (j:Int) with
     | true=>
      rw [show inI zs (j:Int)=true from hin] at hlk
      have HN2:=hid (show zs++cJ zs (j+1)=acc by rw [HNX.out,if_pos hin,← HACE.out,List.append_nil])
      clear hin
      go_wp2_with fail
      go_roundg (ps.length-(j+1))
      case rel=>exact ⟨j+1,by omega,by go_num,by rw [HN2.out];exact C1.out,K1.out⟩
      case measure=>omega
     | false=>
      rw [show inI zs (j:Int)=false from hin] at hlk
      have HN2:=hid (show zs++cJ zs (j+1)=acc ++ [(j:Int)] by rw [HNX.out,if_neg (by rw [hin];simp),← HACE.out,List.append_assoc])
      clear hin
      obtain ⟨ov,ho1,ho2,ho3⟩:=C1.out.od
      obtain ⟨lp,lc,hov⟩:=ho2.ints.len
      subst hov
      have HOL:=hid (show ∀ g,(Value.slice lp acc.length lc).ownBlock=some g->g<wr.heap.size from fun g hg=>(Cn.fX ho2 hg).2)
      have HO3:=hid ho3
      have HO1:=hid ho1
      have HO2:=hid ho2
      clear ho1 ho2 ho3
      have C2:=C1
      have K2:=K1
      have V1:=HO1
      have V2:=HO2
      obtain ⟨hbo,hbf,hbl⟩:=V1.out.facts
      have hsz2:=C2.out.mv.facts.2.2
      go_upto_region 14 with (at_builtin;go_loud (refine wpList_append_own_at _ rfl _ _ 37 rfl (w.heap.size+2) 3 i0 (.int .i64 0) 1 8 Tryz.underlying37 hi hz0 hz1 hz2 rfl (by decide) (.slice lp acc.length lc) acc.length (acc.map (Value.int .i64)) rfl (V2.out.alloc _) ⟨wr.heap.size,0,none⟩ 1 1 [.int .i64 ((j:Int))] rfl rfl nO gU (by unfold maxLen;omega) (by omega) (by rw [aC];omega) ?_;intro v5 w5 h1 h2 _ h4;obtain ⟨g5,cap5,rfl⟩:=Cn.bQ h1 (Nat.succ_pos _);have P5:=hid (C2.out.push V1.out HO3.out h1 (Cn.bY h2) (Cn.pW h4));have G5:=hid (Cn.bY h2);have KK5:=hid (show aA w (w5.setCell ⟨w.heap.size+3,0,none⟩ (.slice (some ⟨g5,0,none⟩) (acc.length+1) cap5)) from Below.setCell (Below.grown K2.out (Cn.bY h2) K2.out.size (fun g hg=>by (rcases HO3.out g hg with h | h<;>omega))) (p:=⟨w.heap.size+3,0,none⟩) (by show w.heap.size<=w.heap.size+3;omega) _);have hB5:=(show aE (w.heap.size+3) 37 (.slice lp acc.length lc) w5 from by (have h5:=V1.out;have h6:=h5.facts.2.2;unfold aE at *;rw [(Cn.bY h2).block _ h6 (fun e=>by (rcases HO3.out _ e.symm with h | h<;>omega))];exact h5));obtain ⟨hbc5,hbf5,hbl5⟩:=hB5.facts;clear h1 h2 h4 hB5))
      refine bH (fun W'=>ChM w.heap.size (.slice pp ps.length pc) tsv inv mav onv (acc ++ [(j:Int)]) wi.ins.length (inI zs) W'/\aA w W') ?_ ?_
      ·exact ⟨P5.out,KK5.out⟩
      rintro W6 ⟨c6,k6⟩
      have C6:=hid c6
      have K6:=hid k6
      clear c6 k6 P5 G5 KK5 hbc5 hbf5 hbl5 hbo hbf hbl hlk
      go_wp2_with fail
      go_roundg (ps.length-(j+1))
      case rel=>exact ⟨j+1,by omega,by go_num,by rw [HN2.out];exact C6.out,K6.out⟩
      case measure=>omega
    ·obtain rfl:j=ps.length:=by omega
     have hol:=rQ zs ps.length
     have hal:(zs++cJ zs ps.length).length<=16:=by simp;omega
     generalize hacc:zs++cJ zs ps.length=acc at C1 hal
     have HACC:=hid (show plI wi.ins++cJ (plI wi.ins) ps.length=acc by rw [HZS.out];exact hacc)
     clear hacc
     obtain ⟨ov,ho1,ho2,-⟩:=C1.out.od
     obtain ⟨lp,lc,hov⟩:=ho2.ints.len
     subst hov
     obtain ⟨hbo,-,hbl⟩:=ho1.facts
     clear ho1 ho2
     have htr1:wr.cell? ⟨w.heap.size,0,none⟩=some (.slice pp ps.length pc):=C1.out.tr.facts.1
     have htl1:=C1.out.tr.facts.2.2
     clear htr htl hlt
     obtain ⟨wp,rfl⟩ : ∃ wp:World,wp=wr:=⟨_,rfl⟩
     go_wp2_with fail
     go_loopg [4,51] ps.length (fun gk mv iv wq=> ∃ j:Nat,j+gk=ps.length/\iv=.int .i64 j/\mv=.int .i64 ((acc.length:Nat)+(bA ps j:Nat):Int)/\aA wp wq)
     case atStart=>exact ⟨0,by omega,rfl,by simp [bA],aA.refl _⟩
     case round=>
      obtain ⟨j,hj,rfl,rfl,hk⟩:=hrel
      have KQ:=hid hk
      clear hk
      by_cases hlt:j<ps.length
      ·obtain ⟨qb,qo,qcap,hqv,hqb,-,hrow⟩:=(HP.out.keep hS (K1.out.trans KQ.out)).get hlt
       cases hqv
       obtain ⟨cs,hcs,hpj⟩:=hrow j hlt
       have HSF:=hid (gW hlt)
       have hfl2:=HF2.out _ (List.getElem_mem hlt)
       have hqbl:qb<wr.heap.size:=Nat.lt_of_lt_of_le (hS qb hqb) (K1.out.trans KQ.out).size
       have hjI:(j:Int)<(ps.length:Int):=by omega
       have hsf:bA ps j<=100:=by
        have:=nT HF2.out j
        omega
       generalize ps[j]=q at hpj HSF hfl2
       obtain ⟨k,a,fl,nt,kids,kp,fp,kc,fc,-,hfl,rfl,-,-⟩:=hpj.spelt
       obtain ⟨c0,c1,c2,c3,c4,c5,c6,c7,c8,c9,c10,c11,c12,c13⟩:=cN hcs
       clear hrow hcs hpj
       generalize hsfe:bA ps j=sj at HSF hsf
       clear hsfe
       go_upto_region 19 with fail
       refine bH (fun W'=>aA wr W'/\aG wr.heap.size 76 #[.string q.n,.int .i64 q.v,.int .i64 q.sl,.slice fp q.fl.length fc,.int .i64 k,.string a.n,.int .i64 a.op,.int .i64 a.v,.int .i64 a.sl,.string a.f,.bool a.on,.string fl,.bool nt,.slice kp kids.length kc] W') ⟨aA.alloc _ _,aG.new _ _ _⟩ ?_
       rintro W3 ⟨k3,b3⟩
       have KR:=hid (KQ.out.trans k3)
       obtain ⟨hc3,-,hl3⟩:=b3.facts
       have hf3:W3.cell? ⟨wr.heap.size,3,none⟩=some (.slice fp q.fl.length fc):=hc3 3
       clear k3 b3 hc3 c0 c1 c2 c3 c4 c5 c6 c7 c8 c9 c10 c11 c12 c13
       go_wp2_with fail
       go_roundg (ps.length-(j+1))
       case rel=>exact ⟨j+1,by omega,by go_num,by rw [HSF.out];go_num,KR.out⟩
       case measure=>omega
      ·obtain rfl:j=ps.length:=by omega
       have CF:=hid (C1.out.keep KQ.out)
       have KF:=hid (K1.out.trans KQ.out)
       generalize hsj:bA ps ps.length=sj
       have HSJ:=hid hsj
       clear hsj
       go_wp2_with fail
       refine bodyPost_ret (v:= .tuple #[.int .i64 ((acc.length:Nat)+(sj:Nat):Int),.func (.func 98) #[] #[.pointer (some ⟨w.heap.size+3,0,none⟩),.pointer (some ⟨w.heap.size+5,0,none⟩),.pointer (some ⟨w.heap.size,0,none⟩),.pointer (some ⟨w.heap.size+1,0,none⟩)]]) ?_ rfl ?_
       ·simp [results,Tryz.results40,go_sem]
       ·rw [HACC.out,HSJ.out,HZS.out];exact ⟨KF.out,_,CF.out,rfl⟩
end Go.Proofs.YthaaaecmeafofaaGreatDoor
namespace Go.Proofs.YthaaaecmeafofaaGreatDoor
open Go.RowKit
def pZ (S:Nat->Prop) (w:World) (m:MB) (cs:List Value):Prop:= ∃ ov,cs = [.int .i64 m.pl,ov]/\bF S w m.on ov
theorem pZ.mono {S S':Nat->Prop} {w w':World} (hw : ∀ p:Addr,S p.block->w'.cell? p=w.cell? p) (hS : ∀ b,S b->S' b) {m:MB} {cs:List Value} (h:pZ S w m cs):pZ S' w' m cs:=by
 obtain ⟨ov,h1,h2⟩:=h
 exact ⟨ov,h1,h2.mono hw hS⟩
def eH (B:Nat) (v:Value) (acc:List MB) (w:World):Prop:=
 ∃ csl:List (List Value),csl.length=acc.length/\(∀ cs∈csl,cs.length=2)/\w.ownsRow B 64 2 v acc.length csl.flatten/\∀ (i:Nat) t cs,acc[i]? = some t->csl[i]? = some cs->pZ (fun b=>B<=b/\b<w.heap.size/\v.ownBlock≠some b) w t cs
theorem eH.nil (B:Nat) (w:World):eH B (.slice none 0 0) [] w:=⟨[],rfl,by simp,World.ownsRow_nil _ _ _ _,by simp⟩
theorem eH.other {B:Nat} {v:Value} {acc:List MB} {w w':World} (h:eH B v acc w) (hs:w.heap.size<=w'.heap.size) (hb : ∀ b,B<=b->b<w.heap.size->w'.heap[b]? = w.heap[b]?):eH B v acc w':=by
 obtain ⟨csl,h1,h2,⟨h3,h3'⟩,h4⟩:=h
 refine ⟨csl,h1,h2,⟨h3,h3'.imp id ?_⟩,fun i t cs hi hc=>pZ.mono (fun p hp=>World.cell?_of_block (w:=w) (hb _ hp.1 hp.2.1)) (fun b hb=>⟨hb.1,Nat.lt_of_lt_of_le hb.2.1 hs,hb.2.2⟩) (h4 i t cs hi hc)⟩
 rintro ⟨g,cap,cur,e1,e2,e3,e4⟩
 exact ⟨g,cap,cur,e1,e2,by rw [hb g e2 (Array.getElem?_eq_some_iff.1 e3).1];exact e3,e4⟩
theorem eH.keep {B:Nat} {v:Value} {acc:List MB} {w w':World} (h:eH B v acc w) (k:aA w w'):eH B v acc w':=h.other k.size fun b _ hb=>k.block b hb
theorem eH.push {B B':Nat} {v v':Value} {acc:List MB} {csl:List (List Value)} {t:MB} {cs:List Value} {w w':World} {o:Obj} (h1:csl.length=acc.length) (h2 : ∀ cs∈csl,cs.length=2)
  (h4 : ∀ (i:Nat) t cs,acc[i]? = some t->csl[i]? = some cs->pZ (fun b=>B<=b/\b<w.heap.size/\v.ownBlock≠some b) w t cs)
  (hB:B<=B') (hv : ∀ g,v.ownBlock=some g->g<B') (hn:pZ (fun b=>B'<=b/\b<w.heap.size) w t cs) (hc:cs.length=2)
  (h5:w'.ownsRow B 64 2 v' (acc.length+1) (csl.flatten++cs)) (h6:(w.alloc o).grownBy w' v.ownBlock) (h7:v'.ownBlock=v.ownBlock∨v'.ownBlock=some (w.alloc o).heap.size):eH B v' (acc ++ [t]) w':=by
 have e:=aC w o
 have hsz:w.heap.size<=w'.heap.size:=by have:=h6.size;omega
 have hcell : ∀ p:Addr,p.block<w.heap.size->v.ownBlock≠some p.block->w'.cell? p=w.cell? p:=fun p hp hne=>by
  rw [World.cell?_of_block (w:=w.alloc o) (a:=p) (h6.block p.block (by omega) (fun e=>hne e.symm))]
  exact (aA.alloc w o).cell hp
 have hne : ∀ b,b<w.heap.size->v.ownBlock≠some b->v'.ownBlock≠some b:=fun b hb hn=>by
  rcases h7 with h7 | h7
  ·rw [h7];exact hn
  ·rw [h7];intro e;have:=Option.some.inj e;omega
 refine ⟨csl ++ [cs],by simp [h1],fun x hx=> ?_,by simpa using h5,fun i u x hu hx=> ?_⟩
 ·rcases List.mem_append.1 hx with hx | hx
  ·exact h2 x hx
  ·rw [List.mem_singleton.1 hx];exact hc
 ·by_cases hi:i<acc.length
  ·rw [List.getElem?_append_left hi] at hu
   rw [List.getElem?_append_left (by omega)] at hx
   exact pZ.mono (fun p hp=>hcell p hp.2.1 hp.2.2) (fun b hb=>⟨hb.1,by omega,hne b hb.2.1 hb.2.2⟩) (h4 i u x hu hx)
  ·have hi2:i=acc.length:=by
    have:=(List.getElem?_eq_some_iff.1 hu).1
    simp at this;omega
   subst hi2
   rw [List.getElem?_append_right (Nat.le_refl _),Nat.sub_self] at hu
   rw [← h1,List.getElem?_append_right (Nat.le_refl _),Nat.sub_self] at hx
   cases hu;cases hx
   have hvn : ∀ b,B'<=b->v.ownBlock≠some b:=fun b hb e=>by have:=hv b e;omega
   exact pZ.mono (fun p hp=>hcell p hp.2 (hvn _ hp.1)) (fun b hb=>⟨by omega,by omega,hne b hb.2 (hvn b hb.1)⟩) hn
theorem vG {csl:List (List Value)} (h2 : ∀ cs∈csl,cs.length=2) : ∀ (i:Nat) (cs:List Value),csl[i]? = some cs->∀ (m:Nat) (v:Value),cs[m]? = some v->csl.flatten[i*2+m]? = some v:=by
 induction csl with
 | nil=>intro i cs h;simp at h
 | cons c r ih=>
  intro i cs h m v hv
  have hc:c.length=2:=h2 c (by simp)
  cases i with
  | zero=>
   simp at h;subst h
   have hm:m<c.length:=(List.getElem?_eq_some_iff.1 hv).1
   rw [List.flatten_cons,Nat.zero_mul,Nat.zero_add,List.getElem?_append_left hm];exact hv
  | succ i=>
   rw [List.flatten_cons,List.getElem?_append_right (by omega),show (i+1)*2+m-c.length=i*2+m by omega]
   exact ih (fun x hx=>h2 x (by simp [hx])) i cs (by simpa using h) m v hv
theorem eH.final {B:Nat} {v:Value} {acc:List MB} {w:World} (h:eH B v acc w):bS (fun b=>B<=b/\b<w.heap.size) w acc v:=by
 obtain ⟨csl,h1,h2,⟨h3,⟨rfl,h0⟩ | ⟨g,cap,cur,rfl,e2,e3,e4,e5,e6,e7⟩⟩,h4⟩:=h
 ·obtain rfl:=List.length_eq_zero_iff.1 h0
  exact ⟨_,_,rfl,by decide,fun h=>absurd h (by decide)⟩
 ·have hg:=(Array.getElem?_eq_some_iff.1 e3).1
  refine ⟨_,_,rfl,⟨by omega,by unfold maxLen at e5;omega⟩,fun _=>⟨g,0,rfl,⟨e2,hg⟩,fun i m hm=> ?_⟩⟩
  have hi:i<acc.length:=(List.getElem?_eq_some_iff.1 hm).1
  have hcs:csl[i]? = some csl[i]:=List.getElem?_eq_getElem (by omega)
  obtain ⟨ov,hc,hb⟩:=h4 i m _ hm hcs
  have hcell : ∀ (k:Nat) (u:Value),k<2->csl[i][k]? = some u->w.cell? ⟨g,i*2+k,none⟩=some u:=fun k u hk hu=>by
   have hf:=vG h2 i csl[i] hcs k u hu
   rw [← e7,List.getElem?_take,if_pos (by omega)] at hf
   simp only [World.cell?,e3]
   simpa using hf
  refine ⟨ov,?_,?_,hb.mono (fun _ _=>rfl) (fun b hb=>⟨hb.1,hb.2.1⟩)⟩
  ·have:=hcell 0 (.int .i64 m.pl) (by omega) (by rw [hc];rfl)
   simpa using this
  ·have:=hcell 1 ov (by omega) (by rw [hc];rfl)
   simpa using this
theorem eH.own {B:Nat} {v:Value} {acc:List MB} {w:World} (h:eH B v acc w) : ∀ g,v.ownBlock=some g->B<=g/\g<w.heap.size:=fun g hg=>by
 obtain ⟨csl,-,-,o1,-⟩:=h
 exact dO o1 hg
theorem eH.shape {B:Nat} {v:Value} {acc:List MB} {w:World} (h:eH B v acc w) : ∃ p cap,v=.slice p acc.length cap:=by
 obtain ⟨p,cap,h,-⟩:=h.final.len
 exact ⟨p,cap,h⟩
theorem aGy:(Tryz.prog.info? 64).map (fun i=>(i.zero,i.size,i.bytes))=some (some (.agg #[.int .i64 0,.slice none 0 0]),2,32):=by kernel_rfl
theorem aAn:(Tryz.prog.info? 4).map (fun i=>(i.zero,i.size,i.bytes))=some (some (.bool false),1,1):=by kernel_rfl
end Go.Proofs.YthaaaecmeafofaaGreatDoor
namespace Go.Proofs.YthaaaecmeafofaaGreatDoor
open Go.RowKit Go.Lib
theorem aJl (w:World) (a b c d:Int):(binOp .eql 65 (.agg #[.int .i64 a,.int .i64 b]) (.agg #[.int .i64 c,.int .i64 d])).run Tryz.prog w=.ok (.bool ((a==c)&&(b==d))) w:=by
 rw [run_eql_struct]
 have hag : ∀ w:World,(isAgg 3).run Tryz.prog w=.ok false w:=fun w=>by kernel_rfl
 have he : ∀ (w:World) (x y:Int),(Op.equalIn 9999 3 (.int .i64 x) (.int .i64 y)).run Tryz.prog w=.ok (x==y) w:=fun w x y=>run_equalIn_int w 9998 3 .i64 .i64 x y Tryz.underlying3
 have h1:(Op.equalIn 10000 65 (.agg #[.int .i64 a,.int .i64 b]) (.agg #[.int .i64 c,.int .i64 d])).run Tryz.prog w=.ok ((a==c)&&(b==d)) w:=by
  unfold Op.equalIn
  simp [go_sem]
  rw [show List.range' 0 2 = [0,1] from rfl]
  simp only [List.forIn_cons,List.forIn_nil]
  cases h1:a==c<;>cases h2:b==d<;>simp [go_sem,hag,he,h1,h2]
 rw [h1];rfl
theorem aAm (S:Nat->Prop) (zs:List (Int × Int)) (x y:Int) (zv:Value) (w:World) (hS : ∀ b,S b->b<w.heap.size) (hz:fY S w zs zv) :
  Calls Tryz.prog 142 #[zv,.agg #[.int .i64 x,.int .i64 y]] w fun e w'=> ∃ n:Int,e=.returned (.int .i64 n)/\(0<=n↔zs.contains (x,y)=true)/\aA w w':=by
 have HZ:=hid hz
 obtain ⟨zp,zc,rfl,hzl⟩:=hz.len
 have heq:=aJl
 clear hz
 go_enter Tryz.func142,Tryz.ntmps142
 go_upto_region 1 with fail
 refine bH (fun W'=>aA w W'/\aG w.heap.size 65 #[.int .i64 x,.int .i64 y] W') ⟨aA.alloc _ _,aG.new _ _ _⟩ ?_
 rintro W0 ⟨k0,b0⟩
 have K0:=hid k0
 have B0:=hid b0
 clear k0 b0
 go_wp2_with fail
 go_loopg [4,8] zs.length (fun gk rv iv wq=> ∃ j:Nat,j+gk=zs.length/\rv=.int .i64 0/\iv=.int .i64 j/\(zs.take j).contains (x,y)=false/\aA w wq/\aG w.heap.size 65 #[.int .i64 x,.int .i64 y] wq)
 case atStart=>exact ⟨0,by omega,rfl,rfl,rfl,K0.out,B0.out⟩
 case round=>
  obtain ⟨j,hj,rfl,rfl,hno,hk,hb⟩:=hrel
  have HNO:=hid hno
  have HK:=hid hk
  have HB:=hid hb
  clear hno hk hb
  by_cases hlt:j<zs.length
  ·obtain ⟨zb,zo,hzp,hzb,hzc⟩:=(HZ.out.keep hS HK.out).get (by omega)
   subst hzp
   obtain ⟨hc0,hc1⟩:=hzc j hlt
   have hzbl:=Nat.lt_of_lt_of_le (hS zb hzb) HK.out.size
   have hjI:(j:Int)<(zs.length:Int):=by omega
   obtain ⟨hbc,-,hbl⟩:=HB.out.facts
   have hb0:wr.cell? ⟨w.heap.size,0,none⟩=some (.int .i64 x):=hbc 0
   have hb1:wr.cell? ⟨w.heap.size,1,none⟩=some (.int .i64 y):=hbc 1
   have HTK:=hid (List.take_succ_eq_append_getElem hlt)
   have HMEM:=hid (List.getElem_mem hlt)
   have e1:zs.getD j (0,0)=zs[j]:=by simp [List.getD_eq_getElem?_getD,hlt]
   rw [e1] at hc0 hc1
   clear hzc hbc e1
   generalize zs[j]=q at hc0 hc1 HTK HMEM
   obtain ⟨u,v⟩:=q
   dsimp only at hc0 hc1
   by_cases he:x=u/\y=v
   ·obtain ⟨rfl,rfl⟩:=he
    have hq:((x==x)&&(y==y))=true:=by simp
    have HIN:=hid (show zs.contains (x,y)=true by simpa using HMEM.out)
    go_upto_region 4 with fail
    go_quiet (fail)
    have k1:=hid (show aA w (wr.drewN nq) from HK.out.trans (aA.drewN (aA.refl _) _))
    generalize wr.drewN nq=W1 at k1 ⊢
    clear hc0 hc1 hb0 hb1 hzbl hbl
    go_wp2_with fail
    go_ret
    exact ⟨_,rfl,⟨fun _=>HIN.out,fun _=>by omega⟩,k1.out⟩
   ·have hq:((x==u)&&(y==v))=false:=by
     cases h1:x==u<;>cases h2:y==v<;>simp_all
    have HN2:=hid (show (zs.take (j+1)).contains (x,y)=false by
     rw [HTK.out]
     have h3:=HNO.out
     generalize zs.take j=acc at h3
     simp only [List.contains_eq_mem,List.mem_append,List.mem_singleton,Prod.mk.injEq,decide_eq_false_iff_not] at h3 ⊢
     rintro (h4 | h4)
     ·exact h3 h4
     ·exact he h4)
    clear he
    go_upto_region 4 with fail
    go_quiet (fail)
    have k1:=hid (show aA w (wr.drewN nq) from HK.out.trans (aA.drewN (aA.refl _) _))
    have b1:=hid (HB.out.keep (aA.drewN (aA.refl wr) nq) HB.out.facts.2.2)
    generalize wr.drewN nq=W1 at k1 b1 ⊢
    clear hc0 hc1 hb0 hb1 hzbl hbl
    go_wp2_with fail
    go_roundg (zs.length-(j+1))
    case rel=>exact ⟨j+1,by omega,rfl,by go_num,HN2.out,k1.out,b1.out⟩
    case measure=>omega
  ·obtain rfl:j=zs.length:=by omega
   have HF:=hid (show zs.contains (x,y)=false by have:=HNO.out;rwa [List.take_length] at this)
   go_wp2_with fail
   go_ret
   exact ⟨_,rfl,⟨fun h=>by omega,fun h=>by rw [HF.out] at h;cases h⟩,HK.out⟩
theorem sX (S:Nat->Prop) (zs:List (Int × Int)) (x y:Int) (zv:Value) (w:World) (hS : ∀ b,S b->b<w.heap.size) (hz:fY S w zs zv) :
  Calls Tryz.prog 99 #[zv,.agg #[.int .i64 x,.int .i64 y]] w fun e w'=>e=.returned (.bool (zs.contains (x,y)))/\aA w w':=by
 have HZ:=hid hz
 obtain ⟨zp,zc,rfl,hzl⟩:=hz.len
 clear hz
 go_enter Tryz.func99,Tryz.ntmps99
 go_wp2_with fail
 refine aV (fun W'=>aA w W') (aA.alloc _ _) ?_
 intro W0 k0
 refine (aAm S zs x y (.slice zp zs.length zc) W0 (fun b hb=>Nat.lt_of_lt_of_le (hS b hb) k0.size) (HZ.out.keep hS k0)).mono ?_
 rintro e w1 ⟨n,rfl,hn,k1⟩
 have K1:=hid (k0.trans k1)
 have HN:=hid hn
 clear k0 k1 hn
 cases hb:zs.contains (x,y) with
 | true=>
  have h0:0<=n:=HN.out.2 hb
  have HBE:=hid hb
  clear hb
  go_wp2_with fail
  go_ret
  exact ⟨aI HBE.out.symm,K1.out⟩
 | false=>
  have h0 : ¬ 0<=n:=fun h=>by have:=HN.out.1 h;rw [hb] at this;cases this
  have HBE:=hid hb
  clear hb
  go_wp2_with fail
  go_ret
  exact ⟨aI (by rw [HBE.out];simp;omega),K1.out⟩
end Go.Proofs.YthaaaecmeafofaaGreatDoor
