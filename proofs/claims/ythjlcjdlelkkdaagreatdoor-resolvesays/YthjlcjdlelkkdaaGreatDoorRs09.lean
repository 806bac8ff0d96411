/- Steps of the proof. -/
import Derived.Test.YthjlcjdlelkkdaaGreatDoorRs06
import Derived.Test.YthjlcjdlelkkdaaGreatDoorRs08
import Derived.Shelf.SlicesE.DeleteFunc
set_option maxHeartbeats 16000000
set_option maxRecDepth 100000
namespace Go.Proofs.YthjlcjdlelkkdaaGreatDoor
open Go.RowKit Go.Lib
def aB(ps:List PK)(wi:WI):Cn.CT:=⟨ps.map fun p=>p.fl.length,wi.ins.map fun m=>m.pl.toNat,fun i k=>wi.on.contains ((i:Int),(k:Int))⟩
def inI(zs:List Int)(x:Int):Bool:=zs.contains x
structure ChM (b:Nat) (pv tsv inv mav onv:Value) (zs:List Int) (n:Nat) (f:Int->Bool) (w:World):Prop where
 tr:aE b 24 pv w
 wi:aF (b+1) 30 #[tsv,inv,mav,onv] w
 od:∃ov,aE (b+3) 27 ov w/\aT (b+2) ov zs w/\∀g,ov.ownBlock=some g->g=b+2\/b+6<=g
 mp:Cn.nF (b+4) n f w
 mv:aE (b+5) 111 (.map (some (b+4))) w
theorem ChM.keep{b:Nat}{pv tsv inv mav onv:Value}{zs:List Int}{n:Nat}{f:Int->Bool}{w w':World}(h:ChM b pv tsv inv mav onv zs n f w)(k:aA w w'):ChM b pv tsv inv mav onv zs n f w':=by
 obtain⟨ov,h1,h2,h3⟩:=h.od;exact⟨h.tr.keep k h.tr.facts.2.2,h.wi.keep k h.wi.facts.2.2,⟨ov,h1.keep k h1.facts.2.2,aX h2 k,h3⟩,h.mp.keep k,h.mv.keep k h.mv.facts.2.2⟩
theorem ChM.push{b:Nat}{pv tsv inv mav onv ov v':Value}{zs:List Int}{x:Int}{n:Nat}{f:Int->Bool}{w w5:World}(h:ChM b pv tsv inv mav onv zs n f w)(h1:aE (b+3) 27 ov w)(h3:∀g,ov.ownBlock=some g->g=b+2\/b+6<=g)(h5:w5.ownsRow (b+2) 3 1 v' (zs.length+1) (zs.map (Value.int .i64)++[.int .i64 x]))(hg:w.grownBy w5 ov.ownBlock)(ho:v'.ownBlock=ov.ownBlock\/∃g,v'.ownBlock=some g/\w.heap.size<=g):
  ChM b pv tsv inv mav onv (zs++[x]) n f (w5.setCell ⟨b+3,0,none⟩ v'):=by
 have l5:=h.mv.facts.2.2;have hb:∀c,c<w.heap.size->c≠b+2->c<b+6->w5.heap[c]? = w.heap[c]? :=fun c hc hn hl=>hg.block c hc fun e=>by rcases h3 c e.symm with h | h<;>omega
 have a1:∀c,c≠b+3->(w5.setCell ⟨b+3,0,none⟩ v').heap[c]? = w5.heap[c]? :=fun c hc=>Below.heap_setCell _ _ _ _ (fun e=>hc e);have a3:(w5.setCell ⟨b+3,0,none⟩ v').heap.size=w5.heap.size:=by simp
 have a2:∀g,v'.ownBlock=some g->g=b+2\/b+6<=g:=fun g hgv=>by
  rcases ho with ho | ⟨g',ho,hge⟩
  ·exact h3 g (ho ▸ hgv)
  ·rw[ho] at hgv;have:=U6 hgv;right;omega
 refine⟨?_,?_,⟨v',?_,?_,a2⟩,?_,?_⟩
 ·have:=h.tr;unfold aE at *;rw[a1 _ (by omega),hb _ (by omega) (by omega) (by omega)];exact this
 ·have:=h.wi;unfold aF at *;rw[a1 _ (by omega),hb _ (by omega) (by omega) (by omega)];exact this
 ·have h6:aE (b+3) 27 ov w5:=by unfold aE at *;rw[hb _ (by omega) (by omega) (by omega)];exact h1
  exact h6.set v'
 ·unfold aT;rw[X9,Z9];exact Cn.cM h5 fun g hgv=>a1 g (by rcases a2 g hgv with h | h<;>omega)
 ·obtain⟨D,⟨es,a0,hm,hr⟩,h2⟩:=h.mp;exact⟨D,⟨es,a0,by rw[a1 _ (by omega),hb _ (by omega) (by omega) (by omega)];exact hm,hr⟩,h2⟩
 ·have:=h.mv;unfold aE at *;rw[a1 _ (by omega),hb _ (by omega) (by omega) (by omega)];exact this
theorem ChM.put{b:Nat}{pv tsv inv mav onv:Value}{zs:List Int}{n n':Nat}{f f':Int->Bool}{w w':World}(h:ChM b pv tsv inv mav onv zs n f w)(hm:Cn.nF (b+4) n' f' w')(hg:w.grownBy w' (some (b+4))):ChM b pv tsv inv mav onv zs n' f' w':=by
 have l5:=h.mv.facts.2.2;have hb:∀c,c<w.heap.size->c≠b+4->w'.heap[c]? = w.heap[c]? :=fun c hc hn=>hg.block c hc fun e=>hn (U6 e);obtain⟨ov,h1,h2,h3⟩:=h.od;refine⟨?_,?_,⟨ov,?_,Cn.cM h2 fun g hgv=>hb g (Cn.bN h2 hgv).2 (by rcases h3 g hgv with h | h<;>omega),h3⟩,hm,?_⟩
 ·have:=h.tr;unfold aE at *;rw[hb _ (by omega) (by omega)];exact this
 ·have:=h.wi;unfold aF at *;rw[hb _ (by omega) (by omega)];exact this
 ·unfold aE at *;rw[hb _ (by omega) (by omega)];exact h1
 ·have:=h.mv;unfold aE at *;rw[hb _ (by omega) (by omega)];exact this
theorem aLs(w:World)(pv tsv inv mav onv:Value):aA w ((((((w.alloc (.cells #[pv] 24)).alloc (.cells #[tsv,inv,mav,onv] 30)).alloc (.cells #[] 3)).alloc (.cells #[.slice (some ⟨w.heap.size+2,0,none⟩) 0 0] 27)).alloc (.map #[] 0)).alloc (.cells #[.map (some (w.heap.size+4))] 111))/\ChM w.heap.size pv tsv inv mav onv [] 0 (fun _=>false) ((((((w.alloc (.cells #[pv] 24)).alloc (.cells #[tsv,inv,mav,onv] 30)).alloc (.cells #[] 3)).alloc (.cells #[.slice (some ⟨w.heap.size+2,0,none⟩) 0 0] 27)).alloc (.map #[] 0)).alloc (.cells #[.map (some (w.heap.size+4))] 111)):=by
 have b0:=aE.new w 24 pv;have z0:=aC w (.cells #[pv] 24);have k0:=aA.alloc w (.cells #[pv] 24);generalize w.alloc (.cells #[pv] 24)=a0 at b0 z0 k0 |-
 have b1:=aF.new a0 30 #[tsv,inv,mav,onv];have z1:=aC a0 (.cells #[tsv,inv,mav,onv] 30);have k1:=aA.alloc a0 (.cells #[tsv,inv,mav,onv] 30);generalize a0.alloc (.cells #[tsv,inv,mav,onv] 30)=a1 at b1 z1 k1 |-
 have b2:=World.ownsRow_made (base:=a1.heap.size) (e:=3) (size:=1) a1 #[] 0 (Y1 _) (Nat.zero_le _) rfl;have z2:=aC a1 (.cells #[] 3);have k2:=aA.alloc a1 (.cells #[] 3);generalize a1.alloc (.cells #[] 3)=a2 at b2 z2 k2 |-
 have b3:=aE.new a2 27 (.slice (some ⟨w.heap.size+2,0,none⟩) 0 0);have z3:=aC a2 (.cells #[.slice (some ⟨w.heap.size+2,0,none⟩) 0 0] 27);have k3:=aA.alloc a2 (.cells #[.slice (some ⟨w.heap.size+2,0,none⟩) 0 0] 27);generalize a2.alloc (.cells #[.slice (some ⟨w.heap.size+2,0,none⟩) 0 0] 27)=a3 at b3 z3 k3 |-
 have b4:=Cn.yL a3;have z4:=aC a3 (.map #[] 0);have k4:=aA.alloc a3 (.map #[] 0);generalize a3.alloc (.map #[] 0)=a4 at b4 z4 k4 |-
 have b5:=aE.new a4 111 (.map (some (w.heap.size+4)));have k5:=aA.alloc a4 (.cells #[.map (some (w.heap.size+4))] 111);generalize a4.alloc (.cells #[.map (some (w.heap.size+4))] 111)=a5 at b5 k5 |-
 rw[z0] at b1;rw[z1,z0] at b2;rw[z2,z1,z0] at b3;rw[z3,z2,z1,z0] at b4;rw[z4,z3,z2,z1,z0] at b5;refine⟨k0.trans (k1.trans (k2.trans (k3.trans (k4.trans k5)))),⟨b0.keep (k1.trans (k2.trans (k3.trans (k4.trans k5)))) b0.facts.2.2,b1.keep (k2.trans (k3.trans (k4.trans k5))) b1.facts.2.2,⟨_,b3.keep (k4.trans k5) b3.facts.2.2,aX b2 (k3.trans (k4.trans k5)),fun g hg=>.inl (by cases hg;rfl)⟩,b4.keep k5,b5⟩⟩
def cP(zs:List Int)(j:Nat):List Int:=((List.range j).filter fun (i:Nat)=> !zs.contains (i:Int)).map fun (i:Nat)=>(i:Int)
theorem aEv(zs:List Int)(j:Nat):cP zs (j+1)=cP zs j++(if zs.contains (j:Int) then [] else [(j:Int)]):=by
 unfold cP;rw[List.range_succ,List.filter_append,Z9];rw[List.filter_cons,List.filter_nil];generalize zs.contains (j:Int)=b;cases b<;>rfl
theorem wI(zs:List Int):∀j,(cP zs j).length<=j:=fun j=>by
 unfold cP;rw[A0];exact U2 (List.length_filter_le ..) (by simp)
theorem rP{ps:List PK}(h:∀p∈ps,p.fl.length<=2):∀j,bI ps j<=2*j
 | 0=>by simp[bI]
 | j+1=>by
  by_cases hj:j<ps.length
  ·rw[jM hj];have:=rP h j;have:=h _ (U5 hj);omega
  ·have e:bI ps (j+1)=bI ps j:=by unfold bI;rw[List.take_of_length_le (by omega),List.take_of_length_le (by omega)]
   have:=rP h j;omega
def plI(ms:List MB):List Int:=ms.map fun m=>m.pl
theorem aPw{zs:List Int}{j:Nat}(h:j<zs.length):inI (zs.take (j+1))=fun y=>if y=zs[j] then true else inI (zs.take j) y:=by
 funext y;unfold inI;rw[U4 h];generalize zs.take j=a;generalize zs[j]=z;by_cases e:y=z
 ·simp[e]
 ·simp[e]
theorem aDb(S:Nat->Prop)(ps:List PK)(wi:WI)(pv tsv inv mav onv:Value)(w:World)(hS:∀b,S b->b<w.heap.size)(hp:aZ S w ps pv)(hw:dA S w wi tsv inv mav onv)(h8:ps.length<=8)(hf2:∀p∈ps,p.fl.length<=2)(hi8:wi.ins.length<=8)(hip:∀x∈plI wi.ins,0<=x/\x<8):
  Calls Tryz.prog 21 #[.agg #[pv],.agg #[tsv,inv,mav,onv]] w fun e w'=>aA w w'/\∃n,ChM w.heap.size pv tsv inv mav onv (plI wi.ins++cP (plI wi.ins) ps.length) n (inI (plI wi.ins)) w'/\
   e=.returned (.tuple #[.int .i64 (((plI wi.ins++cP (plI wi.ins) ps.length).length:Nat)+(bI ps ps.length:Nat):Int),.func (.func 48) #[] #[.pointer (some ⟨w.heap.size+3,0,none⟩),.pointer (some ⟨w.heap.size+5,0,none⟩),.pointer (some ⟨w.heap.size,0,none⟩),.pointer (some ⟨w.heap.size+1,0,none⟩)]]):=by
 obtain⟨i0,hi,i1,h9,i2⟩:=info_parts dM;have HP:=hid hp;have HW:=hid hw;have g7:=hid hf2;have g6:=hid hip;obtain⟨pp,pc,rfl,l4⟩:=hp.len;obtain⟨mp,mc,b0,m0⟩:=hw.ins.len;have g9:=hid b0;clear b0;have j1:= @run_makeMap Tryz.prog;have l7:∀(fn:Fn) (first cap:Array Value) (w:World),(Instr.makeFunc fn first cap).run Tryz.prog w=.ok (.func fn first cap) w:=fun _ _ _ _=>rfl;have f9:=hid (aLs w (.slice pp ps.length pc) tsv inv mav onv);clear hp hw hf2 hip;go_enter Tryz.func21,Tryz.ntmps21;go_upto_region 3 with fail;refine bE (fun W'=>aA w W'/\ChM w.heap.size (.slice pp ps.length pc) tsv inv mav onv [] 0 (fun _=>false) W') ?_ ?_
 ·exact f9.out
 rintro W0 ⟨k0,c0⟩;have K0:=hid k0;have C0:=hid c0;clear k0 c0 f9 j1;simp only[Nat.add_assoc,Nat.reduceAdd];have d6:Tryz.prog.underlying 111=some (.map 3 4):=Tryz.underlying111;have d5:=hid d6;clear d6;obtain⟨i4,-,l6⟩:=C0.out.wi.facts;have l5:W0.cell? ⟨w.heap.size+1,1,none⟩=some (.slice mp wi.ins.length mc):=(i4 1).trans (Q0 some g9.out);clear i4;go_wp2_with fail;go_loopg [18] wi.ins.length (fun gk iv wq=> ∃j:Nat,j+gk=wi.ins.length/\iv=.int .i64 j/\ChM w.heap.size (.slice pp ps.length pc) tsv inv mav onv ((plI wi.ins).take j) j (inI ((plI wi.ins).take j)) wq/\aA w wq);case atStart=>exact⟨0,by omega,rfl,C0.out,K0.out⟩
 case round=>
  obtain⟨j,hj,rfl,hc,hk⟩:=hrel;have C1:=hid hc;have K1:=hid hk;clear hc hk;by_cases hlt:j<wi.ins.length
  ·obtain⟨mb,mo,k4,b0,i5,-,a2⟩:=(HW.out.ins.keep hS K1.out).get hlt;have l1:mp=some ⟨mb,mo,none⟩:=by
    rw[g9.out] at b0;injection b0
   subst l1;clear b0;obtain⟨op,oc,g4,g2,e1,-⟩:=a2 j _ (Q9 hlt);have d9:=g6.out wi.ins[j].pl (Q4.2 ⟨_,U5 hlt,rfl⟩);have a7:j<(plI wi.ins).length:=by simp[plI];exact hlt
   have f5:=hid (show (plI wi.ins).take (j+1)=(plI wi.ins).take j++[wi.ins[j].pl] by rw[U4 a7];simp[plI]);have e9:=hid (show inI ((plI wi.ins).take (j+1))=fun y=>if y=wi.ins[j].pl then true else inI ((plI wi.ins).take j) y by rw[aPw a7];simp[plI]);have e6:mb<wr.heap.size:=R8 (hS mb i5) K1.out.size;have g0:(j:Int)<(wi.ins.length:Int):=by omega
   have d2:((plI wi.ins).take j).length<=8:=by simp;omega
   generalize wi.ins[j]=mm at g4 g2 e1 d9 f5 e9;generalize (plI wi.ins).take j=acc at C1 f5 e9 d2;have k8:=d9.1;have j3:=d9.2;clear a2 a7 d9;obtain⟨ov,a3,a1,d0⟩:=C1.out.od;obtain⟨lp,lc,b1⟩:=a1.ints.len;subst b1;have f2:=hid (show ∀g,(Value.slice lp acc.length lc).ownBlock=some g->g<wr.heap.size from fun g hg=>(Cn.bN a1 hg).2);have a4:=hid d0;have d7:=hid a3;have f3:=hid a1;clear a3 a1 d0;go_upto_region 6 with fail;refine bE (fun W'=>aA wr W'/\aF wr.heap.size 65 #[.int .i64 mm.pl,.slice op mm.on.length oc] W') ⟨aA.alloc _ _,aF.new _ _ _⟩ ?_;rintro W2 ⟨k2,b2⟩;have C2:=hid (C1.out.keep k2);have K2:=hid (K1.out.trans k2);have V1:=hid (d7.out.keep k2 d7.out.facts.2.2);have V2:=hid (aX f3.out k2);have B2:=hid b2;obtain⟨b8,-,j4⟩:=b2.facts;have g1:W2.cell? ⟨wr.heap.size,0,none⟩=some (.int .i64 mm.pl):=b8 0;have h7:=hid (show w.heap.size+6<=wr.heap.size from by have:=C1.out.mv.facts.2.2;omega);clear k2 b2 g4 g2 e6 b8;generalize wr.heap.size=bm at B2 h7 f2 g1 j4 |-
   obtain⟨d8,f0,e0⟩:=V1.out.facts;have e8:=C2.out.mv.facts.2.2;go_upto_region 7 with (at_builtin;go_loud (refine wpList_append_own_at _ rfl _ _ 27 rfl (w.heap.size+2) 3 i0 (.int .i64 0) 1 8 Tryz.underlying27 hi i1 h9 i2 rfl (by decide) (.slice lp acc.length lc) acc.length (acc.map (Value.int .i64)) rfl (V2.out.alloc _) ⟨W2.heap.size,0,none⟩ 1 1 [.int .i64 (mm.pl)] rfl rfl iN cG (by unfold maxLen;omega) (by omega) (by rw[aC];omega) ?_;intro v5 w5 h1 h2 _ h4;obtain⟨g5,a0,rfl⟩:=Cn.aS h1 (Q2 _);have P5:=hid (C2.out.push V1.out a4.out h1 (Cn.bH h2) (Cn.kX h4));have G5:=hid (Cn.bH h2);have b4:=hid (show aA w (w5.setCell ⟨w.heap.size+3,0,none⟩ (.slice (some ⟨g5,0,none⟩) (acc.length+1) a0)) from Below.setCell (Below.grown K2.out (Cn.bH h2) K2.out.size (fun g hg=>by (rcases a4.out g hg with h | h<;>omega))) (p:=⟨w.heap.size+3,0,none⟩) (by show w.heap.size<=w.heap.size+3;omega) _);have d1:=(show aE (w.heap.size+3) 27 (.slice lp acc.length lc) w5 from by (have h5:=V1.out;have h6:=h5.facts.2.2;unfold aE at *;rw[(Cn.bH h2).block _ h6 (fun e=>by (rcases a4.out _ e.symm with h | h<;>omega))];exact h5));obtain⟨a9,a6,a8⟩:=d1.facts;clear h1 h2 h4 d1))
   have HQ:=hid (show ChM w.heap.size (.slice pp ps.length pc) tsv inv mav onv (acc++[mm.pl]) j (inI acc) (w5.setCell ⟨w.heap.size+3,0,none⟩ (.slice (some ⟨g5,0,none⟩) (acc.length+1) a0))/\aA w (w5.setCell ⟨w.heap.size+3,0,none⟩ (.slice (some ⟨g5,0,none⟩) (acc.length+1) a0))/\aF bm 65 #[.int .i64 mm.pl,.slice op mm.on.length oc] (w5.setCell ⟨w.heap.size+3,0,none⟩ (.slice (some ⟨g5,0,none⟩) (acc.length+1) a0)) from⟨P5.out,b4.out,by
    have h5:=B2.out;have h6:=h5.facts.2.2;unfold aF at *;rw[Below.heap_setCell _ _ _ _ (fun e=>by have e2:bm=w.heap.size+3:=e;have:=h7.out;omega),G5.out.block _ h6 (fun e=>by have:=f2.out bm e.symm;omega)];exact h5⟩)
   refine bE (fun W'=>ChM w.heap.size (.slice pp ps.length pc) tsv inv mav onv (acc++[mm.pl]) j (inI acc) W'/\aA w W'/\aF bm 65 #[.int .i64 mm.pl,.slice op mm.on.length oc] W') ?_ ?_
   ·exact HQ.out
   rintro W6 ⟨c6,k6,b6⟩;have C6:=hid c6;have K6:=hid k6;obtain⟨b8,-,i6⟩:=b6.facts;have g1:W6.cell? ⟨bm,0,none⟩=some (.int .i64 mm.pl):=b8 0;obtain⟨e3,-,d3⟩:=c6.mv.facts;obtain⟨w7,j2,d4,a5⟩:=c6.mp.put d5.out (x:=mm.pl) (by unfold Cn.SmI;omega) (by omega) true;have C7:=hid (c6.put d4 a5);have K7:=hid (show aA w w7 from Below.grown k6 a5 k6.size (fun g hg=>by have:=U6 hg;omega));clear c6 k6 b6 b8 HQ P5 G5 b4 a9 a6 a8 d4 a5 d8 f0 e0;go_wp2_with fail;go_roundg (wi.ins.length-(j+1));case rel=>exact⟨j+1,by omega,by go_num,by rw[e9.out,f5.out];exact C7.out,K7.out⟩
   case measure=>omega
  ·obtain rfl:j=wi.ins.length:=by omega
   have C2:=hid (show ChM w.heap.size (.slice pp ps.length pc) tsv inv mav onv (plI wi.ins) wi.ins.length (inI (plI wi.ins)) wr from by
    have h1:=C1.out;rw[show (plI wi.ins).take wi.ins.length=plI wi.ins by rw[List.take_of_length_le (by simp[plI])]] at h1;exact h1)
   have K2:=K1;have j5:(plI wi.ins).length<=8:=by simp[plI];omega
   clear C1 K1 hlt;obtain⟨wo,rfl⟩:∃wo:World,wo=wr:=⟨_,rfl⟩;have i9:wo.cell? ⟨w.heap.size,0,none⟩=some (.slice pp ps.length pc):=C2.out.tr.facts.1;have l2:=C2.out.tr.facts.2.2;generalize g3:plI wi.ins=zs at C2 j5 g6;have i3:=hid g3;clear g3;have j0:=hid (show ChM w.heap.size (.slice pp ps.length pc) tsv inv mav onv (zs++cP zs 0) wi.ins.length (inI zs) wo from by
    have e:zs++cP zs 0=zs:=by simp[cP]
    rw[e];exact C2.out)
   go_wp2_with fail;go_loopg [34] ps.length (fun gk iv wq=> ∃j:Nat,j+gk=ps.length/\iv=.int .i64 j/\ChM w.heap.size (.slice pp ps.length pc) tsv inv mav onv (zs++cP zs j) wi.ins.length (inI zs) wq/\aA w wq);case atStart=>exact⟨0,by omega,rfl,j0.out,K2.out⟩
   case round=>
    obtain⟨j,hj,rfl,hc,hk⟩:=hrel;have C1:=hid hc;have K1:=hid hk;clear hc hk;by_cases hlt:j<ps.length
    ·have g0:(j:Int)<(ps.length:Int):=by omega
     have f8:=hid (aEv zs j);have e1:=wI zs j;have d2:(zs++cP zs j).length<=16:=by simp;omega
     obtain⟨e3,-,d3⟩:=C1.out.mv.facts;have f6:=C1.out.mp.look d5.out (x:=(j:Int)) (by unfold Cn.SmI;omega);generalize b5:zs++cP zs j=acc at C1 d2;have b7:=hid b5;clear b5 e1;cases hin:zs.contains (j:Int) with
     | true=>
      rw[show inI zs (j:Int)=true from hin] at f6;have e7:=hid (show zs++cP zs (j+1)=acc by rw[f8.out,if_pos hin,<-b7.out,List.append_nil]);clear hin;go_wp2_with fail;go_roundg (ps.length-(j+1));case rel=>exact⟨j+1,by omega,by go_num,by rw[e7.out];exact C1.out,K1.out⟩
      case measure=>omega
     | false=>
      rw[show inI zs (j:Int)=false from hin] at f6;have e7:=hid (show zs++cP zs (j+1)=acc++[(j:Int)] by rw[f8.out,if_neg (by rw[hin];simp),<-b7.out,List.append_assoc]);clear hin;obtain⟨ov,a3,a1,d0⟩:=C1.out.od;obtain⟨lp,lc,b1⟩:=a1.ints.len;subst b1;have f2:=hid (show ∀g,(Value.slice lp acc.length lc).ownBlock=some g->g<wr.heap.size from fun g hg=>(Cn.bN a1 hg).2);have a4:=hid d0;have d7:=hid a3;have f3:=hid a1;clear a3 a1 d0;have C2:=C1;have K2:=K1;have V1:=d7;have V2:=f3;obtain⟨d8,f0,e0⟩:=V1.out.facts;have e8:=C2.out.mv.facts.2.2;go_upto_region 14 with (at_builtin;go_loud (refine wpList_append_own_at _ rfl _ _ 27 rfl (w.heap.size+2) 3 i0 (.int .i64 0) 1 8 Tryz.underlying27 hi i1 h9 i2 rfl (by decide) (.slice lp acc.length lc) acc.length (acc.map (Value.int .i64)) rfl (V2.out.alloc _) ⟨wr.heap.size,0,none⟩ 1 1 [.int .i64 ((j:Int))] rfl rfl iN cG (by unfold maxLen;omega) (by omega) (by rw[aC];omega) ?_;intro v5 w5 h1 h2 _ h4;obtain⟨g5,a0,rfl⟩:=Cn.aS h1 (Q2 _);have P5:=hid (C2.out.push V1.out a4.out h1 (Cn.bH h2) (Cn.kX h4));have G5:=hid (Cn.bH h2);have b4:=hid (show aA w (w5.setCell ⟨w.heap.size+3,0,none⟩ (.slice (some ⟨g5,0,none⟩) (acc.length+1) a0)) from Below.setCell (Below.grown K2.out (Cn.bH h2) K2.out.size (fun g hg=>by (rcases a4.out g hg with h | h<;>omega))) (p:=⟨w.heap.size+3,0,none⟩) (by show w.heap.size<=w.heap.size+3;omega) _);have d1:=(show aE (w.heap.size+3) 27 (.slice lp acc.length lc) w5 from by (have h5:=V1.out;have h6:=h5.facts.2.2;unfold aE at *;rw[(Cn.bH h2).block _ h6 (fun e=>by (rcases a4.out _ e.symm with h | h<;>omega))];exact h5));obtain⟨a9,a6,a8⟩:=d1.facts;clear h1 h2 h4 d1))
      refine bE (fun W'=>ChM w.heap.size (.slice pp ps.length pc) tsv inv mav onv (acc++[(j:Int)]) wi.ins.length (inI zs) W'/\aA w W') ?_ ?_
      ·exact⟨P5.out,b4.out⟩
      rintro W6 ⟨c6,k6⟩;have C6:=hid c6;have K6:=hid k6;clear c6 k6 P5 G5 b4 a9 a6 a8 d8 f0 e0 f6;go_wp2_with fail;go_roundg (ps.length-(j+1));case rel=>exact⟨j+1,by omega,by go_num,by rw[e7.out];exact C6.out,K6.out⟩
      case measure=>omega
    ·obtain rfl:j=ps.length:=by omega
     have e1:=wI zs ps.length;have d2:(zs++cP zs ps.length).length<=16:=by simp;omega
     generalize b9:zs++cP zs ps.length=acc at C1 d2;have f1:=hid (show plI wi.ins++cP (plI wi.ins) ps.length=acc by rw[i3.out];exact b9);clear b9;obtain⟨ov,a3,a1,-⟩:=C1.out.od;obtain⟨lp,lc,b1⟩:=a1.ints.len;subst b1;obtain⟨d8,-,e0⟩:=a3.facts;clear a3 a1;have j9:wr.cell? ⟨w.heap.size,0,none⟩=some (.slice pp ps.length pc):=C1.out.tr.facts.1;have l3:=C1.out.tr.facts.2.2;clear i9 l2 hlt;obtain⟨wp,rfl⟩:∃wp:World,wp=wr:=⟨_,rfl⟩;go_wp2_with fail;go_loopg [4,51] ps.length (fun gk mv iv wq=> ∃j:Nat,j+gk=ps.length/\iv=.int .i64 j/\mv=.int .i64 ((acc.length:Nat)+(bI ps j:Nat):Int)/\aA wp wq);case atStart=>exact⟨0,by omega,rfl,by simp[bI],aA.refl _⟩
     case round=>
      obtain⟨j,hj,rfl,rfl,hk⟩:=hrel;have KQ:=hid hk;clear hk;by_cases hlt:j<ps.length
      ·obtain⟨qb,qo,j8,k5,i8,-,a2⟩:=(HP.out.keep hS (K1.out.trans KQ.out)).get hlt;cases k5;obtain⟨cs,h3,e5⟩:=a2 j hlt;have e4:=hid (jM hlt);have f7:=g7.out _ (U5 hlt);have j6:qb<wr.heap.size:=R8 (hS qb i8) (K1.out.trans KQ.out).size;have g0:(j:Int)<(ps.length:Int):=by omega
       have k1:bI ps j<=100:=by
        have:=rP g7.out j;omega
       generalize ps[j]=q at e5 e4 f7;obtain⟨k,a,fl,nt,kids,kp,fp,kc,fc,-,l8,rfl,-,-⟩:=e5.spelt;obtain⟨c0,c1,c2,c3,c4,c5,c6,c7,c8,c9,i7,j7,k7,l0⟩:=dK h3;clear a2 h3 e5;generalize f4:bI ps j=sj at e4 k1;clear f4;go_upto_region 19 with fail;refine bE (fun W'=>aA wr W'/\aF wr.heap.size 98 #[.string q.n,.int .i64 q.v,.int .i64 q.sl,.slice fp q.fl.length fc,.int .i64 k,.string a.n,.int .i64 a.op,.int .i64 a.v,.int .i64 a.sl,.string a.f,.bool a.on,.string fl,.bool nt,.slice kp kids.length kc] W') ⟨aA.alloc _ _,aF.new _ _ _⟩ ?_;rintro W3 ⟨k3,b3⟩;have KR:=hid (KQ.out.trans k3);obtain⟨h0,-,m1⟩:=b3.facts;have l9:W3.cell? ⟨wr.heap.size,3,none⟩=some (.slice fp q.fl.length fc):=h0 3;clear k3 b3 h0 c0 c1 c2 c3 c4 c5 c6 c7 c8 c9 i7 j7 k7 l0;go_wp2_with fail;go_roundg (ps.length-(j+1));case rel=>exact⟨j+1,by omega,by go_num,by rw[e4.out];go_num,KR.out⟩
       case measure=>omega
      ·obtain rfl:j=ps.length:=by omega
       have CF:=hid (C1.out.keep KQ.out);have KF:=hid (K1.out.trans KQ.out);generalize g8:bI ps ps.length=sj;have k9:=hid g8;clear g8;go_wp2_with fail;refine bodyPost_ret (v:= .tuple #[.int .i64 ((acc.length:Nat)+(sj:Nat):Int),.func (.func 48) #[] #[.pointer (some ⟨w.heap.size+3,0,none⟩),.pointer (some ⟨w.heap.size+5,0,none⟩),.pointer (some ⟨w.heap.size,0,none⟩),.pointer (some ⟨w.heap.size+1,0,none⟩)]]) ?_ rfl ?_
       ·simp[results,Tryz.results21,go_sem]
       ·rw[f1.out,k9.out,i3.out];exact⟨KF.out,_,CF.out,rfl⟩
end Go.Proofs.YthjlcjdlelkkdaaGreatDoor
namespace Go.Proofs.YthjlcjdlelkkdaaGreatDoor
open Go.RowKit
def uG(S:Nat->Prop)(w:World)(m:MB)(cs:List Value):Prop:=∃ov,cs = [.int .i64 m.pl,ov]/\bC S w m.on ov
theorem uG.mono{S S':Nat->Prop}{w w':World}(hw:∀p:Addr,S p.block->w'.cell? p=w.cell? p)(hS:∀b,S b->S' b){m:MB}{cs:List Value}(h:uG S w m cs):uG S' w' m cs:=by
 obtain⟨ov,h1,h2⟩:=h;exact⟨ov,h1,h2.mono hw hS⟩
def fM(B:Nat)(v:Value)(acc:List MB)(w:World):Prop:=
 ∃csl:List (List Value),csl.length=acc.length/\(∀cs∈csl,cs.length=2)/\w.ownsRow B 65 2 v acc.length csl.flatten/\∀(i:Nat) t cs,acc[i]? = some t->csl[i]? = some cs->uG (fun b=>B<=b/\b<w.heap.size/\v.ownBlock≠some b) w t cs
theorem fM.nil(B:Nat)(w:World):fM B (.slice none 0 0) [] w:=⟨[],rfl,by simp,Q1 _ _ _ _,by simp⟩
theorem fM.other{B:Nat}{v:Value}{acc:List MB}{w w':World}(h:fM B v acc w)(hs:w.heap.size<=w'.heap.size)(hb:∀b,B<=b->b<w.heap.size->w'.heap[b]? = w.heap[b]?):fM B v acc w':=by
 obtain⟨csl,h1,h2,⟨h3,a1⟩,h4⟩:=h;refine⟨csl,h1,h2,⟨h3,a1.imp id ?_⟩,fun i t cs hi hc=>uG.mono (fun p hp=>X0 (w:=w) (hb _ hp.1 hp.2.1)) (fun b hb=>⟨hb.1,R8 hb.2.1 hs,hb.2.2⟩) (h4 i t cs hi hc)⟩;rintro⟨g,cap,a0,e1,e2,e3,e4⟩;exact⟨g,cap,a0,e1,e2,by rw[hb g e2 (U9.1 e3).1];exact e3,e4⟩
theorem fM.keep{B:Nat}{v:Value}{acc:List MB}{w w':World}(h:fM B v acc w)(k:aA w w'):fM B v acc w':=h.other k.size fun b _ hb=>k.block b hb
theorem fM.push{B B':Nat}{v v':Value}{acc:List MB}{csl:List (List Value)}{t:MB}{cs:List Value}{w w':World}{o:Obj}(h1:csl.length=acc.length)(h2:∀cs∈csl,cs.length=2)
  (h4:∀(i:Nat) t cs,acc[i]? = some t->csl[i]? = some cs->uG (fun b=>B<=b/\b<w.heap.size/\v.ownBlock≠some b) w t cs)
  (hB:B<=B') (hv:∀g,v.ownBlock=some g->g<B') (hn:uG (fun b=>B'<=b/\b<w.heap.size) w t cs) (hc:cs.length=2)
  (h5:w'.ownsRow B 65 2 v' (acc.length+1) (csl.flatten++cs)) (h6:(w.alloc o).grownBy w' v.ownBlock) (h7:v'.ownBlock=v.ownBlock\/v'.ownBlock=some (w.alloc o).heap.size):fM B v' (acc++[t]) w':=by
 have e:=aC w o;have a4:w.heap.size<=w'.heap.size:=by have:=h6.size;omega
 have a0:∀p:Addr,p.block<w.heap.size->v.ownBlock≠some p.block->w'.cell? p=w.cell? p:=fun p hp a1=>by
  rw[X0 (w:=w.alloc o) (a:=p) (h6.block p.block (by omega) (fun e=>a1 e.symm))];exact (aA.alloc w o).cell hp
 have a1:∀b,b<w.heap.size->v.ownBlock≠some b->v'.ownBlock≠some b:=fun b hb hn=>by
  rcases h7 with h7 | h7
  ·rw[h7];exact hn
  ·rw[h7];intro e;have:=U6 e;omega
 refine⟨csl++[cs],by simp[h1],fun x hx=>?_,by simpa using h5,fun i u x hu hx=>?_⟩
 ·rcases U0.1 hx with hx | hx
  ·exact h2 x hx
  ·rw[T0.1 hx];exact hc
 ·by_cases hi:i<acc.length
  ·rw[Y0 hi] at hu;rw[Y0 (by omega)] at hx;exact uG.mono (fun p hp=>a0 p hp.2.1 hp.2.2) (fun b hb=>⟨hb.1,by omega,a1 b hb.2.1 hb.2.2⟩) (h4 i u x hu hx)
  ·have a3:i=acc.length:=by
    have:=(R9.1 hu).1;simp at this;omega
   subst a3;rw[Y2 (Y1 _),Nat.sub_self] at hu;rw[<-h1,Y2 (Y1 _),Nat.sub_self] at hx;cases hu;cases hx
   have a2:∀b,B'<=b->v.ownBlock≠some b:=fun b hb e=>by have:=hv b e;omega
   exact uG.mono (fun p hp=>a0 p hp.2 (a2 _ hp.1)) (fun b hb=>⟨by omega,by omega,a1 b hb.2 (a2 b hb.1)⟩) hn
theorem aAr{csl:List (List Value)}(h2:∀cs∈csl,cs.length=2):∀(i:Nat) (cs:List Value),csl[i]? = some cs->∀(m:Nat) (v:Value),cs[m]? = some v->csl.flatten[i*2+m]? = some v:=by
 induction csl with
 | nil=>intro i cs h;simp at h
 | cons c r ih=>
  intro i cs h m v hv;have hc:c.length=2:=h2 c (by simp);cases i with
  | zero=>
   simp at h;subst h;have hm:m<c.length:=(R9.1 hv).1;rw[List.flatten_cons,Nat.zero_mul,Z6,Y0 hm];exact hv
  | succ i=>
   rw[List.flatten_cons,Y2 (by omega),show (i+1)*2+m-c.length=i*2+m by omega];exact ih (fun x hx=>h2 x (by simp[hx])) i cs (by simpa using h) m v hv
theorem fM.final{B:Nat}{v:Value}{acc:List MB}{w:World}(h:fM B v acc w):cD (fun b=>B<=b/\b<w.heap.size) w acc v:=by
 obtain⟨csl,h1,h2,⟨h3,⟨rfl,h0⟩ | ⟨g,cap,a2,rfl,e2,e3,e4,e5,e6,e7⟩⟩,h4⟩:=h
 ·obtain rfl:=Y4.1 h0;exact⟨_,_,rfl,by decide,fun h=>absurd h (by decide)⟩
 ·have hg:=(U9.1 e3).1;refine⟨_,_,rfl,⟨by omega,by unfold maxLen at e5;omega⟩,fun _=>⟨g,0,rfl,⟨e2,hg⟩,fun i m hm=>?_⟩⟩;have hi:i<acc.length:=(R9.1 hm).1;have a1:csl[i]? = some csl[i]:=Q9 (by omega);obtain⟨ov,hc,hb⟩:=h4 i m _ hm a1;have a0:∀(k:Nat) (u:Value),k<2->csl[i][k]? = some u->w.cell? ⟨g,i*2+k,none⟩=some u:=fun k u hk hu=>by
   have hf:=aAr h2 i csl[i] a1 k u hu;rw[<-e7,List.getElem?_take,if_pos (by omega)] at hf;simp only[World.cell?,e3];simpa using hf
  refine⟨ov,?_,?_,hb.mono (fun _ _=>rfl) (fun b hb=>⟨hb.1,hb.2.1⟩)⟩
  ·have:=a0 0 (.int .i64 m.pl) (by omega) (by rw[hc];rfl);simpa using this
  ·have:=a0 1 ov (by omega) (by rw[hc];rfl);simpa using this
theorem fM.own{B:Nat}{v:Value}{acc:List MB}{w:World}(h:fM B v acc w):∀g,v.ownBlock=some g->B<=g/\g<w.heap.size:=fun g hg=>by
 obtain⟨csl,-,-,o1,-⟩:=h;exact dN o1 hg
theorem fM.shape{B:Nat}{v:Value}{acc:List MB}{w:World}(h:fM B v acc w):∃p cap,v=.slice p acc.length cap:=by
 obtain⟨p,cap,h,-⟩:=h.final.len;exact⟨p,cap,h⟩
theorem aPy:(Tryz.prog.info? 65).map (fun i=>(i.zero,i.size,i.bytes))=some (some (.agg #[.int .i64 0,.slice none 0 0]),2,32):=by kernel_rfl
theorem aHm:(Tryz.prog.info? 4).map (fun i=>(i.zero,i.size,i.bytes))=some (some (.bool false),1,1):=by kernel_rfl
end Go.Proofs.YthjlcjdlelkkdaaGreatDoor
namespace Go.Proofs.YthjlcjdlelkkdaaGreatDoor
open Go.RowKit Go.Lib
theorem aTf(w:World)(a b c d:Int):(binOp .eql 99 (.agg #[.int .i64 a,.int .i64 b]) (.agg #[.int .i64 c,.int .i64 d])).run Tryz.prog w=.ok (.bool ((a==c)&&(b==d))) w:=by
 rw[run_eql_struct];have a0:∀w:World,(isAgg 3).run Tryz.prog w=.ok false w:=fun w=>by kernel_rfl
 have he:∀(w:World) (x y:Int),(Op.equalIn 9999 3 (.int .i64 x) (.int .i64 y)).run Tryz.prog w=.ok (x==y) w:=fun w x y=>run_equalIn_int w 9998 3 .i64 .i64 x y Tryz.underlying3;have h1:(Op.equalIn 10000 99 (.agg #[.int .i64 a,.int .i64 b]) (.agg #[.int .i64 c,.int .i64 d])).run Tryz.prog w=.ok ((a==c)&&(b==d)) w:=by
  unfold Op.equalIn;simp[go_sem];rw[show List.range' 0 2 = [0,1] from rfl];simp only[List.forIn_cons,List.forIn_nil];cases h1:a==c<;>cases h2:b==d<;>simp[go_sem,a0,he,h1,h2]
 rw[h1];rfl
theorem aHl(S:Nat->Prop)(zs:List (Int × Int))(x y:Int)(zv:Value)(w:World)(hS:∀b,S b->b<w.heap.size)(hz:gT S w zs zv):
  Calls Tryz.prog 88 #[zv,.agg #[.int .i64 x,.int .i64 y]] w fun e w'=> ∃n:Int,e=.returned (.int .i64 n)/\(0<=n↔zs.contains (x,y)=true)/\aA w w':=by
 have HZ:=hid hz;obtain⟨zp,zc,rfl,b9⟩:=hz.len;have b8:=aTf;clear hz;go_enter Tryz.func88,Tryz.ntmps88;go_upto_region 1 with fail;refine bE (fun W'=>aA w W'/\aF w.heap.size 99 #[.int .i64 x,.int .i64 y] W') ⟨aA.alloc _ _,aF.new _ _ _⟩ ?_;rintro W0 ⟨k0,b0⟩;have K0:=hid k0;have B0:=hid b0;clear k0 b0;go_wp2_with fail;go_loopg [4,8] zs.length (fun gk rv iv wq=> ∃j:Nat,j+gk=zs.length/\rv=.int .i64 0/\iv=.int .i64 j/\(zs.take j).contains (x,y)=false/\aA w wq/\aF w.heap.size 99 #[.int .i64 x,.int .i64 y] wq);case atStart=>exact⟨0,by omega,rfl,rfl,rfl,K0.out,B0.out⟩
 case round=>
  obtain⟨j,hj,rfl,rfl,b3,hk,hb⟩:=hrel;have b2:=hid b3;have HK:=hid hk;have HB:=hid hb;clear b3 hk hb;by_cases hlt:j<zs.length
  ·obtain⟨zb,zo,b7,b6,a7⟩:=(HZ.out.keep hS HK.out).get (by omega);subst b7;obtain⟨a0,a3⟩:=a7 j hlt;have a2:=R8 (hS zb b6) HK.out.size;have c0:(j:Int)<(zs.length:Int):=by omega
   obtain⟨a4,-,a9⟩:=HB.out.facts;have a8:wr.cell? ⟨w.heap.size,0,none⟩=some (.int .i64 x):=a4 0;have a5:wr.cell? ⟨w.heap.size,1,none⟩=some (.int .i64 y):=a4 1;have a6:=hid (U4 hlt);have a1:=hid (U5 hlt);have e1:zs.getD j (0,0)=zs[j]:=by simp[List.getD_eq_getElem?_getD,hlt]
   rw[e1] at a0 a3;clear a7 a4 e1;generalize zs[j]=q at a0 a3 a6 a1;obtain⟨u,v⟩:=q;dsimp only at a0 a3;by_cases he:x=u/\y=v
   ·obtain⟨rfl,rfl⟩:=he;have hq:((x==x)&&(y==y))=true:=by simp
    have b5:=hid (show zs.contains (x,y)=true by simpa using a1.out);go_upto_region 4 with fail;go_quiet (fail)
    have k1:=hid (show aA w (wr.drewN nq) from HK.out.trans (aA.drewN (aA.refl _) _));generalize wr.drewN nq=W1 at k1 |-
    clear a0 a3 a8 a5 a2 a9;go_wp2_with fail;go_ret;exact⟨_,rfl,⟨fun _=>b5.out,fun _=>by omega⟩,k1.out⟩
   ·have hq:((x==u)&&(y==v))=false:=by
     cases h1:x==u<;>cases h2:y==v<;>simp_all
    have b4:=hid (show (zs.take (j+1)).contains (x,y)=false by
     rw[a6.out];have h3:=b2.out;generalize zs.take j=acc at h3;simp only[List.contains_eq_mem,List.mem_append,List.mem_singleton,Prod.mk.injEq,decide_eq_false_iff_not] at h3 |-
     rintro (h4 | h4)
     ·exact h3 h4
     ·exact he h4)
    clear he;go_upto_region 4 with fail;go_quiet (fail)
    have k1:=hid (show aA w (wr.drewN nq) from HK.out.trans (aA.drewN (aA.refl _) _));have b1:=hid (HB.out.keep (aA.drewN (aA.refl wr) nq) HB.out.facts.2.2);generalize wr.drewN nq=W1 at k1 b1 |-
    clear a0 a3 a8 a5 a2 a9;go_wp2_with fail;go_roundg (zs.length-(j+1));case rel=>exact⟨j+1,by omega,rfl,by go_num,b4.out,k1.out,b1.out⟩
    case measure=>omega
  ·obtain rfl:j=zs.length:=by omega
   have HF:=hid (show zs.contains (x,y)=false by have:=b2.out;rwa [Z7] at this);go_wp2_with fail;go_ret;exact⟨_,rfl,⟨fun h=>by omega,fun h=>by rw[HF.out] at h;cases h⟩,HK.out⟩
theorem xT(S:Nat->Prop)(zs:List (Int × Int))(x y:Int)(zv:Value)(w:World)(hS:∀b,S b->b<w.heap.size)(hz:gT S w zs zv):
  Calls Tryz.prog 49 #[zv,.agg #[.int .i64 x,.int .i64 y]] w fun e w'=>e=.returned (.bool (zs.contains (x,y)))/\aA w w':=by
 have HZ:=hid hz;obtain⟨zp,zc,rfl,a1⟩:=hz.len;clear hz;go_enter Tryz.func49,Tryz.ntmps49;go_wp2_with fail;refine bK (fun W'=>aA w W') (aA.alloc _ _) ?_;intro W0 k0;refine (aHl S zs x y (.slice zp zs.length zc) W0 (fun b hb=>R8 (hS b hb) k0.size) (HZ.out.keep hS k0)).mono ?_;rintro e w1 ⟨n,rfl,hn,k1⟩;have K1:=hid (k0.trans k1);have HN:=hid hn;clear k0 k1 hn;cases hb:zs.contains (x,y) with
 | true=>
  have h0:0<=n:=HN.out.2 hb;have a0:=hid hb;clear hb;go_wp2_with fail;go_ret;exact⟨aK a0.out.symm,K1.out⟩
 | false=>
  have h0:¬0<=n:=fun h=>by have:=HN.out.1 h;rw[hb] at this;cases this
  have a0:=hid hb;clear hb;go_wp2_with fail;go_ret;exact⟨aK (by rw[a0.out];simp;omega),K1.out⟩
def aBt(md:List Bool)(f:Int->Bool)(zs:List Int):Nat->Int->Bool
 | 0=>fun _=>false
 | j+1=>fun y=>if y=zs.getD j 0 then (md.getD j false != f y) else aBt md f zs j y
theorem aNy(md:List Bool)(f:Int->Bool)(zs:List Int)(j:Nat):aBt md f zs (j+1)=fun y=>if y=zs.getD j 0 then (md.getD j false != f (zs.getD j 0)) else aBt md f zs j y:=by
 funext y;show (if y=zs.getD j 0 then (md.getD j false != f y) else aBt md f zs j y)=_;generalize zs.getD j 0=z;by_cases e:y=z
 ·rw[if_pos e,if_pos e,e]
 ·rw[if_neg e,if_neg e]
def flR(md:List Bool)(on:List (Int × Int))(v i n:Nat):List Bool:=(List.range n).map fun k=>md.getD (v+k) false != on.contains ((i:Int),(k:Int))
def setR(ps:List PK)(md:List Bool)(on:List (Int × Int))(tk:Int->Bool)(z:Nat):Nat->List MB
 | 0=> []
 | j+1=>setR ps md on tk z j++(if tk (j:Int) then [⟨(j:Int),flR md on (z+bI ps j) j (ps.getD j PK.zero).fl.length⟩] else [])
theorem aPq(md:List Bool)(on:List (Int × Int))(v i n:Nat):flR md on v i (n+1)=flR md on v i n++[md.getD (v+n) false != on.contains ((i:Int),(n:Int))]:=by
 unfold flR;rw[List.range_succ,Z9];rfl
theorem aJs(md:List Bool)(on:List (Int × Int))(v i n:Nat):(flR md on v i n).length=n:=by simp[flR]
theorem aFl(ps:List PK)(md:List Bool)(on:List (Int × Int))(tk:Int->Bool)(z:Nat):∀j,(setR ps md on tk z j).length<=j
 | 0=>by simp[setR]
 | j+1=>by
  have:=aFl ps md on tk z j;unfold setR;rw[X9];split<;>simp<;>omega
theorem aNw(ps:List PK){i j:Nat}(h:i<=j):bI ps i<=bI ps j:=by
 induction h with
 | refl=>exact Y1 _
 | step h ih=>
  rename_i m;refine U2 ih ?_;by_cases hm:m<ps.length
  ·rw[jM hm];omega
  ·unfold bI;rw[List.take_of_length_le (by omega),List.take_of_length_le (by omega)];exact Y1 _
theorem gM{B e n:Nat}{v:Value}{xs:List Value}{w:World}(h:w.ownsRow B e 1 v n xs):∃p cap,v=.slice p n cap:=by
 obtain⟨-,⟨rfl,h0⟩ | ⟨g,cap,a0,rfl,-⟩⟩:=h
 ·exact⟨none,0,by rw[h0]⟩
 ·exact⟨_,_,rfl⟩
theorem pA{g T:Nat}{x:Value}{w:World}(h:aE g T x w)(j:Nat)(u:Value)(hu : [x][j]? = some u):w.cell? ((⟨g,0,none⟩:Addr).add j)=some u:=by
 match j,hu with
 | 0,hu=>simp at hu;subst hu;exact h.facts.1
theorem fZ{bm k:Nat}{T:TypeId}{p:Value}{mv v':Value}{xs ys:List Value}{W3 w w':World}(hbm:W3.heap.size=bm)(hb:aF bm T #[p,mv] w)(ho:w.ownsRow (bm+1) 4 1 mv k xs)(hg:w.grownBy w' mv.ownBlock)(h1:w'.ownsRow (bm+1) 4 1 v' (k+1) ys)(hk:aA W3 w):
  aF bm T #[p,mv] w'/\aF bm T #[p,v'] (w'.setCell ⟨bm,1,none⟩ v')/\(w'.setCell ⟨bm,1,none⟩ v').ownsRow (bm+1) 4 1 v' (k+1) ys/\aA W3 (w'.setCell ⟨bm,1,none⟩ v'):=by
 have a0:aF bm T #[p,mv] w':=by
  have h5:=hb;have h6:=hb.facts.2.2;unfold aF at *;rw[hg.block bm h6 fun e=>by have:=(dN ho e.symm).1;omega];exact h5
 refine⟨a0,a0.set 1 v',?_,?_⟩
 ·exact Cn.cM h1 fun g hg=>Below.heap_setCell _ _ _ _ (fun e=>by have e2:g=bm:=e;have:=(dN h1 hg).1;omega)
 ·exact Below.setCell (Below.grown hk hg hk.size (fun g hg=>by have:=(dN ho hg).1;omega)) (p:=⟨bm,1,none⟩) (by show W3.heap.size<=bm;omega) _
theorem nK{bm mb x c k:Nat}{mv u1 u2:Value}{xs:List Value}{w w':World}(ho:w.ownsRow (bm+1) 4 1 mv k xs)(hg:w.grownBy w' mv.ownBlock)(hbw:bm<w.heap.size)(h1:w.cell? ⟨mb,x,none⟩=some u1)(h2:w.cell? ⟨c,3,none⟩=some u2)(hm:mb<bm)(hc:c<bm):w'.cell? ⟨mb,x,none⟩=some u1/\w'.cell? ⟨c,3,none⟩=some u2:=by
 have hb:∀g,g<bm->w'.heap[g]? = w.heap[g]? :=fun g hgb=>hg.block g (by omega) fun e=>by have:=(dN ho e.symm).1;omega
 exact⟨(X0 (a:=⟨mb,x,none⟩) (hb mb hm)).trans h1,(X0 (a:=⟨c,3,none⟩) (hb c hc)).trans h2⟩
theorem sE{bm mb x c:Nat}{v u1 u2:Value}{w:World}(h:w.cell? ⟨mb,x,none⟩=some u1/\w.cell? ⟨c,3,none⟩=some u2)(hm:mb<bm)(hc:c<bm):(w.setCell ⟨bm,1,none⟩ v).cell? ⟨mb,x,none⟩=some u1/\(w.setCell ⟨bm,1,none⟩ v).cell? ⟨c,3,none⟩=some u2:=by
 have hb:∀g,g<bm->(w.setCell ⟨bm,1,none⟩ v).heap[g]? = w.heap[g]? :=fun g hgb=>Below.heap_setCell _ _ _ _ (fun e=>by have e2:g=bm:=e;omega);exact⟨(X0 (a:=⟨mb,x,none⟩) (hb mb hm)).trans h.1,(X0 (a:=⟨c,3,none⟩) (hb c hc)).trans h.2⟩
theorem uL{B n:Nat}{v:Value}{bs:List Bool}{w:World}(h:w.ownsRow B 4 1 v n (bs.map Value.bool))(hn:bs.length=n):bC (fun c=>B<=c/\c<w.heap.size) w bs v:=by
 subst hn;obtain⟨h3,⟨rfl,h0⟩ | ⟨g,cap,a0,rfl,e2,e3,e4,e5,e6,e7⟩⟩:=h
 ·exact⟨none,0,by rw[h0],by omega,fun h=>by omega⟩
 ·have hg:=(U9.1 e3).1;refine⟨_,_,rfl,by unfold maxLen at e5;omega,fun _=>⟨g,0,rfl,⟨e2,hg⟩,fun j x hx=>?_⟩⟩;have hj:j<bs.length:=(R9.1 hx).1;have hf:(bs.map Value.bool)[j]? = some (.bool x):=by rw[Z2,hx];rfl
  rw[<-e7,List.getElem?_take,if_pos (by omega)] at hf;simp only[World.cell?,e3,Nat.zero_add];simpa using hf
theorem oO{P:Program}{md:Region.Mode}{ops:Array Oper}{Q:Exit->Act->World->Prop}{S:World->Prop}{fuel:Nat}{listed:Array Bool}{a:Act}{W:World}(R:World->Prop)(hR:R W)(h:∀W',R W'->wpAnyH P md ops Q S fuel listed a W'):wpAnyH P md ops Q S fuel listed a W:=h W hR
theorem iD{s:Bool}(u:Value)(h:u ∈ [Value.bool s]):u.oneCell'=true:=by rw[T0.1 h];rfl
theorem aDx{v:Value}{zs:List Int}{w:World}(h:fD v zs w)(hn:0<zs.length):∃g cap,v=.slice (some ⟨g,0,none⟩) zs.length cap/\g<w.heap.size/\(∀j,j<zs.length->w.cell? ⟨g,0+j,none⟩=some (.int .i64 (zs.getD j 0))):=by
 rcases h with ⟨rfl,_⟩ | ⟨g,cap,h1,h2,h3⟩
 ·simp at hn
 ·refine⟨g,cap,h1,h2,fun j hj=>?_⟩;rw[Z6,R0,Q9 hj,Q7];exact h3 j _ (Q9 hj)
theorem aRm(S:Nat->Prop)(ps:List PK)(on:List (Int × Int))(pv tsv inv mav onv:Value)(zs:List Int)(n0 b:Nat)(f:Int->Bool)(md:List Bool)(mdv:Value)(w:World)(hS:∀b,S b->b<w.heap.size)(hp:aZ S w ps pv)(hon:gT S w on onv)(hmd:bC S w md mdv)(hc:ChM b pv tsv inv mav onv zs n0 f w)(h8:ps.length<=8)(hf2:∀p∈ps,p.fl.length<=2)(hz16:zs.length<=16)(hz8:∀x∈zs,0<=x/\x<8)(hml:zs.length+bI ps ps.length<=md.length):
  Calls Tryz.prog 48 #[mdv,.pointer (some ⟨b+3,0,none⟩),.pointer (some ⟨b+5,0,none⟩),.pointer (some ⟨b,0,none⟩),.pointer (some ⟨b+1,0,none⟩)] w fun e w'=>aA w w'/\∃v,e=.returned v/\cD (fun c=>w.heap.size<=c/\c<w'.heap.size) w' (setR ps md on (aBt md f zs zs.length) zs.length ps.length) v:=by
 have HP:=hid hp;have l2:=hid hon;have j8:=hid hmd;have HC:=hid hc;have h6:=hid hf2;have o0:=hid hz8;have j0:=hid hml;obtain⟨pp,pc,rfl,p2⟩:=hp.len;obtain⟨mp,mc,rfl,o9,-⟩:=hmd;have m7:= @run_makeMap Tryz.prog;have f0:Tryz.prog.underlying 111=some (.map 3 4):=Tryz.underlying111;have b8:=hid f0;obtain⟨ov,l0,f8,n6⟩:=hc.od;obtain⟨lp,lc,f1⟩:=f8.ints.len;subst f1;have n4:=hid f8.ints;have j5:=hid (show aA w (w.alloc (.map #[] 0))/\Cn.nF w.heap.size 0 (fun _=>false) (w.alloc (.map #[] 0)) from⟨aA.alloc _ _,Cn.yL w⟩);have k9:=hid l0;have o8:=hc.mv.facts.2.2;obtain⟨i0,hi,i4,i3,i8⟩:=info_parts aHm;obtain⟨im,n5,h0,h7,g1⟩:=info_parts aPy;clear hp hon hc hf2 hz8 hml f0 l0 f8 n6;go_enter Tryz.func48,Tryz.ntmps48;go_upto_region 2 with fail;refine bE (fun W'=>aA w W'/\Cn.nF w.heap.size 0 (fun _=>false) W') ?_ ?_
 ·exact j5.out
 rintro W0 ⟨k0,m0⟩;have K0:=hid k0;have M0:=hid m0;clear j5 m7 m0;obtain⟨j7,-,j3⟩:=(k9.out.keep k0 (by omega)).facts;clear k0;go_wp2_with fail;go_loopg [19] zs.length (fun gk iv wq=> ∃j:Nat,j+gk=zs.length/\iv=.int .i64 j/\Cn.nF w.heap.size j (aBt md f zs j) wq/\aA w wq);case atStart=>exact⟨0,by omega,rfl,M0.out,K0.out⟩
 case round=>
  obtain⟨j,hj,rfl,hm,hk⟩:=hrel;have M1:=hid hm;have K1:=hid hk;clear hm hk;by_cases hlt:j<zs.length
  ·have C1:=hid (HC.out.keep K1.out);obtain⟨g,m3,n1,q1,b9⟩:=aDx (n4.out.keep K1.out) (by omega);cases n1;have i7:=b9 j hlt;rw[Z6] at i7;clear b9;obtain⟨mb,mo,rfl,f2,a7⟩:=(j8.out.keep hS K1.out).cell (q:=j) (by have:=j0.out;omega);have a1:mb<wr.heap.size:=R8 (hS mb f2) K1.out.size;have f4:=o0.out (zs.getD j 0) (by rw[R0,Q9 hlt];exact U5 hlt);have f5:=hid (aNy md f zs j);generalize zs.getD j 0=x at i7 f4 f5;generalize md.getD j false=mj at a7 f5;have p7:=f4.1;have p4:=f4.2;clear f4;obtain⟨g2,-,e5⟩:=C1.out.mv.facts;have d7:=C1.out.mp.look b8.out (x:=x) (by unfold Cn.SmI;omega);have e2:=(C1.out.keep (aA.drew (aA.refl wr))).mp.look b8.out (x:=x) (by unfold Cn.SmI;omega);generalize f x=fx at d7 e2 f5;obtain⟨w7,g9,e7,d8⟩:=(M1.out.keep (aA.drew (aA.refl wr))).put b8.out (x:=x) (by unfold Cn.SmI;omega) (by omega) (!(mj==fx));have l6:(j:Int)<(zs.length:Int):=by omega
   have p6:(j:Int)<(md.length:Int):=by have:=j0.out;omega
   go_upto_region 5 with fail;have K7:=hid (show aA w w7 from Below.grown (K1.out.trans (aA.drew (aA.refl wr))) d8 (K1.out.trans (aA.drew (aA.refl wr))).size (fun g hg=>by have:=U6 hg;omega));have M7:=hid e7;clear e7 d8;go_region
   clear g9 d7 e2 i7 a7 g2 e5;go_wp2_with fail;go_roundg (zs.length-(j+1));case rel=>exact⟨j+1,by omega,by go_num,by rw[f5.out];exact M7.out,K7.out⟩
   case measure=>omega
  ·obtain rfl:j=zs.length:=by omega
   have M2:=M1;have K2:=K1;have C2:=hid (HC.out.keep K1.out);generalize k8:aBt md f zs zs.length=tk at M2;have o2:=hid k8;clear M1 K1 hlt k8 j7 j3;obtain⟨wo,rfl⟩:∃wo:World,wo=wr:=⟨_,rfl⟩;obtain⟨j7,-,j3⟩:=(k9.out.keep K2.out (by omega)).facts;obtain⟨p3,-,q2⟩:=C2.out.tr.facts;have m9:bI ps ps.length<=100:=by
    have:=rP h6.out ps.length;omega
   go_wp2_with fail;go_loopg [10,11,40] ps.length (fun gk lv vv iv wq=> ∃j vj:Nat,j+gk=ps.length/\vj=zs.length+bI ps j/\iv=.int .i64 j/\vv=.int .i64 vj/\fM wo.heap.size lv (setR ps md on tk zs.length j) wq/\aA wo wq);case atStart=>exact⟨0,zs.length,by omega,by simp[bI],rfl,rfl,fM.nil _ _,aA.refl _⟩
   case round=>
    obtain⟨j,vj,hj,k6,rfl,rfl,b5,hk⟩:=hrel;have R1:=hid b5;have K1:=hid hk;clear b5 hk;by_cases hlt:j<ps.length
    ·obtain⟨qb,qo,n8,o4,m1,-,b5⟩:=(HP.out.keep hS (K2.out.trans K1.out)).get hlt;cases o4;obtain⟨cs,l1,g5⟩:=b5 j hlt;have f3:=hid (jM hlt);have j1:=h6.out _ (U5 hlt);have n3:qb<wr.heap.size:=R8 (hS qb m1) (K2.out.trans K1.out).size;have l6:(j:Int)<(ps.length:Int):=by omega
     have o1:bI ps j<=100:=by
      have:=rP h6.out j;omega
     have k1:bI ps (j+1)<=bI ps ps.length:=aNw ps (by omega);have d1:=hid (show setR ps md on tk zs.length (j+1)=setR ps md on tk zs.length j++(if tk (j:Int) then [⟨(j:Int),flR md on (zs.length+bI ps j) j ps[j].fl.length⟩] else []) by
      rw[setR,R0,Q9 hlt,Q7])
     generalize ps[j]=q at g5 f3 j1 d1;rw[f3.out] at k1;obtain⟨k,a,fl,nt,kids,kp,fp,kc,fc,-,q0,rfl,-,-⟩:=g5.spelt;obtain⟨c0,c1,c2,c3,c4,c5,c6,c7,c8,c9,l9,n7,o6,p0⟩:=dK l1;clear b5 l1 g5;have n9:=aFl ps md on tk zs.length j;have g7:=hid k6;have m5:vj<=116:=by omega
     have n2:vj+q.fl.length<=md.length:=by have:=j0.out;omega
     rw[<-g7.out] at d1;clear k6;generalize i6:bI ps j=sj at f3 o1 k1 g7;generalize g4:setR ps md on tk zs.length j=acc at d1 n9 R1;obtain⟨xp,xc,m4⟩:=R1.out.shape;subst m4;clear i6 g4;go_upto_region 12 with fail;refine bE (fun W'=>aA wr W'/\aF wr.heap.size 98 #[.string q.n,.int .i64 q.v,.int .i64 q.sl,.slice fp q.fl.length fc,.int .i64 k,.string a.n,.int .i64 a.op,.int .i64 a.v,.int .i64 a.sl,.string a.f,.bool a.on,.string fl,.bool nt,.slice kp kids.length kc] W') ⟨aA.alloc _ _,aF.new _ _ _⟩ ?_;rintro W3 ⟨k3,b3⟩;have KR:=hid (K1.out.trans k3);have R3:=hid (R1.out.keep k3);have B3:=hid b3;have j6:=hid b3.facts.2.2;clear k3 b3 c0 c1 c2 c3 c4 c5 c6 c7 c8 c9 l9 n7 o6 p0 R1;go_upto_region 13 with fail;refine bE (fun W'=>aA W3 W'/\aF W3.heap.size 65 #[.int .i64 j,.slice none 0 0] W') ⟨aA.alloc _ _,aF.new _ _ _⟩ ?_;rintro W4 ⟨k4,b4⟩;have K4:=hid k4;have B4:=hid b4;obtain⟨k5,-,p1⟩:=(B3.out.keep k4 j6.out).facts;have o3:W4.cell? ⟨wr.heap.size,3,none⟩=some (.slice fp q.fl.length fc):=k5 3;clear k4 b4 k5;generalize l4:W3.heap.size=bm at B4;have d4:=hid l4;clear l4;generalize wr.heap.size=bp at o3 p1 B3 j6 |-
     obtain⟨wi,rfl⟩:∃wi:World,wi=wr:=⟨_,rfl⟩;go_wp2_with fail;go_loopg [11,50] q.fl.length (fun gk vv kv wq=> ∃(k vk:Nat) (mv:Value),k+gk=q.fl.length/\vk=vj+k/\kv=.int .i64 k/\vv=.int .i64 vk/\aF bm 65 #[.int .i64 j,mv] wq/\wq.ownsRow (bm+1) 4 1 mv k ((flR md on vj j k).map Value.bool)/\aA W3 wq);case atStart=>exact⟨0,vj,_,by omega,by omega,rfl,rfl,B4.out,Q1 _ _ _ _,K4.out⟩
     case round=>
      obtain⟨k,vk,mv,hk,f9,rfl,rfl,hb,ho,j4⟩:=hrel;have B5:=hid hb;have O5:=hid ho;have K5:=hid j4;clear hb ho j4 B4 K4;obtain⟨e6,i1,b6⟩:=B5.out.facts;by_cases hlt:k<q.fl.length
      ·obtain⟨mq,a0,i9⟩:∃mq a0,mv=.slice mq k a0:=gM O5.out;subst i9;have f7:vk<md.length:=by omega
       have d3:=hid f9;have i5:vk<=118:=by omega
       clear f9;have d5:wr.cell? ⟨bm,1,none⟩=some (.slice mq k a0):=e6 1;have m8:wr.drew.cell? ⟨bm,1,none⟩=some (.slice mq k a0):=d5;have p8:=i1 1;clear e6 i1;have KW:=hid (K2.out.trans (KR.out.trans K5.out));obtain⟨mb,mo,rfl,f2,a7⟩:=(j8.out.keep hS KW.out).cell (q:=vk) f7;have a1:mb<wr.heap.size:=R8 (hS mb f2) KW.out.size;have l5:mb<bm:=by
        have h1:=hS mb f2;have h2:=(K2.out.trans KR.out).size;have h3:=d4.out;omega
       have m6:b+1<bm:=by
        have h2:=(K2.out.trans KR.out).size;have h3:=d4.out;omega
       have d9:wr.drew.cell? ⟨mb,mo+vk,none⟩=some (.bool (md.getD vk false)):=a7;obtain⟨j9,-,d0⟩:=(HC.out.keep KW.out).wi.facts;obtain⟨op,oc,f1,j3⟩:=l2.out.len;have b7:wr.cell? ⟨b+1,3,none⟩=some (.slice op on.length oc):=(j9 3).trans (Q0 some f1);have g3:wr.drew.cell? ⟨b+1,3,none⟩=some (.slice op on.length oc):=b7;clear j9;have i2:=hid (show ∀W',aA wr W'->Calls Tryz.prog 49 #[.slice op on.length oc,.agg #[.int .i64 j,.int .i64 k]] W' fun e w'=>e=.returned (.bool (on.contains ((j:Int),(k:Int))))/\aA W' w' from fun W' kw=>xT S on j k (.slice op on.length oc) W' (fun c hc=>R8 (hS c hc) (U2 KW.out.size kw.size)) (f1 ▸ l2.out.keep hS (KW.out.trans kw)));have d6:=hid (show flR md on vj j (k+1)=flR md on vj j k++[md.getD vk false != on.contains ((j:Int),(k:Int))] by rw[d3.out];exact aPq md on vj j k);have h5:=aJs md on vj j k;generalize md.getD vk false=mk at a7 d9 d6;generalize on.contains ((j:Int),(k:Int))=ck at i2 d6;generalize flR md on vj j k=fls at O5 d6 h5;have p9:(k:Int)<(q.fl.length:Int):=by omega
       have p5:(vk:Int)<(md.length:Int):=by omega
       go_upto_region 16 with fail;have e0:wr.drew.cell? ⟨mb,mo+vk,none⟩=some (.bool mk)/\wr.drew.cell? ⟨b+1,3,none⟩=some (.slice op on.length oc):=⟨d9,g3⟩;refine wp_region_held_drew (S:=fun w=>w.cell? ⟨mb,mo+vk,none⟩=some (.bool mk)/\w.cell? ⟨b+1,3,none⟩=some (.slice op on.length oc)) (by kernel_rfl) e0 (fun hHeld=>?_);refine Cn.tkN 0 (v:= ?_) ?_ ?_;rotate_left
       ·rintro w ⟨a5,a6⟩;go_simp
        try with_reducible rfl
       try simp only[Cn.acP]
       refine Cn.tkN 2 (v:= ?_) ?_ ?_;rotate_left
       ·rintro w ⟨a5,a6⟩;go_simp
        try with_reducible rfl
       try simp only[Cn.acP]
       refine Cn.tkN 3 (v:= ?_) ?_ ?_;rotate_left
       ·rintro w ⟨a5,a6⟩;go_simp
        try with_reducible rfl
       try simp only[Cn.acP]
       refine Cn.tkN 4 (v:= ?_) ?_ ?_;rotate_left
       ·rintro w ⟨a5,a6⟩;go_simp
        try with_reducible rfl
       try simp only[Cn.acP]
       refine Cn.tkN 5 (v:= ?_) ?_ ?_;rotate_left
       ·rintro w ⟨a5,a6⟩;go_simp
        try with_reducible rfl
       try simp only[Cn.acP]
       refine Cn.tkN 6 (v:= ?_) ?_ ?_;rotate_left
       ·rintro w ⟨a5,a6⟩;go_simp
        try with_reducible rfl
       try simp only[Cn.acP]
       refine Cn.tkN 7 (v:= ?_) ?_ ?_;rotate_left
       ·rintro w ⟨a5,a6⟩;go_simp
        try with_reducible rfl
       try simp only[Cn.acP]
       refine Cn.tkN 8 (v:= ?_) ?_ ?_;rotate_left
       ·rintro w ⟨a5,a6⟩;go_simp
        try with_reducible rfl
       try simp only[Cn.acP]
       refine Cn.tkN 9 (v:= ?_) ?_ ?_;rotate_left
       ·rintro w ⟨a5,a6⟩;go_simp
        try with_reducible rfl
       try simp only[Cn.acP]
       refine Cn.tkN 10 (v:= ?_) ?_ ?_;rotate_left
       ·rintro w ⟨a5,a6⟩;go_simp
        try with_reducible rfl
       try simp only[Cn.acP]
       refine wpAnyH_ready (rs:= [1,11]) (by kernel_rfl) (by simp) ?_;refine AllReadyH.cons rfl (fun KK hK=>?_) (AllReadyH.cons rfl (fun KK hK=>?_) AllReadyH.nil)
       ·skip;go_simp;refine hK.out _ _ e0 (fun hH1=>?_);clear hK KK
        try simp only[Cn.acP]
        refine wpAnyH_ready (rs:= [11]) (by kernel_rfl) (by simp) ?_;refine AllReadyH.cons rfl (fun KK hK=>?_) AllReadyH.nil;go_simp
        with_reducible refine (i2.out _ (aA.drew (aA.refl _))).mono ?_
        rintro e W6 ⟨rfl,e8⟩;have K6:=hid ((aA.drew (aA.refl wr)).trans e8);clear e8;refine hK.out _ _ ⟨(K6.out.cell (p:=⟨mb,mo+vk,none⟩) a1).trans a7,(K6.out.cell (p:=⟨b+1,3,none⟩) d0).trans b7⟩ (fun hH6=>?_);clear hK KK;have g0:W6.cell? ⟨bm,1,none⟩=some (.slice mq k a0):=(K6.out.cell (p:=⟨bm,1,none⟩) b6).trans d5;have j2:bm<W6.heap.size:=R8 b6 K6.out.size
        try simp only[Cn.acP]
        refine Cn.tkN 12 (v:= ?_) ?_ ?_;rotate_left
        ·rintro w ⟨a5,a6⟩;go_simp
         try with_reducible rfl
        try simp only[Cn.acP]
        refine wpAnyH_ready (rs:= [13]) (by kernel_rfl) (by simp) ?_;refine AllReadyH.cons rfl (fun KK hK=>?_) AllReadyH.nil;go_simp;have k7:=aA.alloc W6 (.cells #[.bool (!(mk==ck))] 4);refine hK.out _ _ ⟨((K6.out.trans k7).cell (p:=⟨mb,mo+vk,none⟩) a1).trans a7,((K6.out.trans k7).cell (p:=⟨b+1,3,none⟩) d0).trans b7⟩ (fun a4=>?_);clear hK KK;refine oO (fun W'=>aA W6 W'/\aE W6.heap.size 4 (.bool (!(mk==ck))) W') ⟨k7,aE.new _ _ _⟩ ?_;clear k7 a4;rintro W7 ⟨kk,vn⟩;have K7:=hid (K6.out.trans kk);have V7:=hid vn;have a4:W7.cell? ⟨mb,mo+vk,none⟩=some (.bool mk)/\W7.cell? ⟨b+1,3,none⟩=some (.slice op on.length oc):=⟨(K7.out.cell (p:=⟨mb,mo+vk,none⟩) a1).trans a7,(K7.out.cell (p:=⟨b+1,3,none⟩) d0).trans b7⟩;have e3:W7.cell? ⟨bm,1,none⟩=some (.slice mq k a0):=(K7.out.cell (p:=⟨bm,1,none⟩) b6).trans d5;have e4:bm<W7.heap.size:=R8 b6 K7.out.size;clear kk vn;refine wpAnyH_ready (rs:= [14]) (by kernel_rfl) (by simp) ?_;refine AllReadyH.cons rfl (fun KK hK=>?_) AllReadyH.nil;refine Cn.aW rfl _ _ 50 rfl (bm+1) 4 i0 (.bool false) 1 1 Tryz.underlying50 hi i4 i3 i8 rfl (by decide) (.slice mq k a0) k (fls.map Value.bool) rfl (aX O5.out K7.out) ⟨W6.heap.size,0,none⟩ 1 1 [.bool (!(mk==ck))] rfl rfl (pA V7.out) iD (by unfold maxLen;omega) (by omega) (by omega) ?_;intro v8 W8 h1 h2 h4;obtain⟨g8,a8,rfl⟩:=Cn.aS h1 (Q2 _);have P8:=hid (fZ d4.out (B5.out.keep K7.out B5.out.facts.2.2) (aX O5.out K7.out) h2 h1 (K5.out.trans K7.out));have b0:=nK (aX O5.out K7.out) h2 (by omega) a4.1 a4.2 (by omega) (by omega);obtain⟨a2,a3,a9⟩:=P8.out.1.facts;have b2:W8.cell? ⟨bm,1,none⟩=some (.slice mq k a0):=a2 1;have b1:=a3 1;refine hK.out _ _ b0 (fun hH9=>?_);clear hK KK h1 h2 h4 a2 a3
        try simp only[Cn.acP]
        refine Cn.tkN 15 (v:= ?_) ?_ ?_;rotate_left
        ·rintro w ⟨a5,a6⟩;go_simp
         try with_reducible rfl
        try simp only[Cn.acP]
        refine wpAnyH_ready (rs:= [16]) (by kernel_rfl) (by simp) ?_;refine AllReadyH.cons rfl (fun KK hK=>?_) AllReadyH.nil;go_simp;refine hK.out _ _ (sE b0 (by omega) (by omega)) (fun hH16=>?_);clear hK KK;refine wpAnyH_done (by kernel_rfl) ?_ _;have HQ:=hid P8.out.2;generalize W8.setCell ⟨bm,1,none⟩ (.slice (some ⟨g8,0,none⟩) (k+1) a8)=W9 at HQ |-
        clear b2 b1 a9 b0 hH9 hH16 P8;go_wp2_with fail;go_roundg (q.fl.length-(k+1));case rel=>exact⟨k+1,vk+1,_,by omega,by have:=d3.out;omega,by go_num,by go_num,HQ.out.1,by rw[d6.out,Z9];exact HQ.out.2.1,HQ.out.2.2⟩
        case measure=>omega
       ·skip;go_simp
        with_reducible refine (i2.out _ (aA.drew (aA.refl _))).mono ?_
        rintro e W6 ⟨rfl,e8⟩;have K6:=hid ((aA.drew (aA.refl wr)).trans e8);clear e8;refine hK.out _ _ ⟨(K6.out.cell (p:=⟨mb,mo+vk,none⟩) a1).trans a7,(K6.out.cell (p:=⟨b+1,3,none⟩) d0).trans b7⟩ (fun hH6=>?_);clear hK KK;have g0:W6.cell? ⟨bm,1,none⟩=some (.slice mq k a0):=(K6.out.cell (p:=⟨bm,1,none⟩) b6).trans d5;have j2:bm<W6.heap.size:=R8 b6 K6.out.size
        try simp only[Cn.acP]
        refine Cn.tkN 12 (v:= ?_) ?_ ?_;rotate_left
        ·rintro w ⟨a5,a6⟩;go_simp
         try with_reducible rfl
        try simp only[Cn.acP]
        refine wpAnyH_ready (rs:= [1,13]) (by kernel_rfl) (by simp) ?_;refine AllReadyH.cons rfl (fun KK hK=>?_) (AllReadyH.cons rfl (fun KK hK=>?_) AllReadyH.nil)
        ·skip;go_simp;refine hK.out _ _ hH6 (fun hH1=>?_);clear hK KK
         try simp only[Cn.acP]
         refine wpAnyH_ready (rs:= [13]) (by kernel_rfl) (by simp) ?_;refine AllReadyH.cons rfl (fun KK hK=>?_) AllReadyH.nil;go_simp;have k7:=aA.alloc W6 (.cells #[.bool (!(mk==ck))] 4);refine hK.out _ _ ⟨((K6.out.trans k7).cell (p:=⟨mb,mo+vk,none⟩) a1).trans a7,((K6.out.trans k7).cell (p:=⟨b+1,3,none⟩) d0).trans b7⟩ (fun a4=>?_);clear hK KK;refine oO (fun W'=>aA W6 W'/\aE W6.heap.size 4 (.bool (!(mk==ck))) W') ⟨k7,aE.new _ _ _⟩ ?_;clear k7 a4;rintro W7 ⟨kk,vn⟩;have K7:=hid (K6.out.trans kk);have V7:=hid vn;have a4:W7.cell? ⟨mb,mo+vk,none⟩=some (.bool mk)/\W7.cell? ⟨b+1,3,none⟩=some (.slice op on.length oc):=⟨(K7.out.cell (p:=⟨mb,mo+vk,none⟩) a1).trans a7,(K7.out.cell (p:=⟨b+1,3,none⟩) d0).trans b7⟩;have e3:W7.cell? ⟨bm,1,none⟩=some (.slice mq k a0):=(K7.out.cell (p:=⟨bm,1,none⟩) b6).trans d5;have e4:bm<W7.heap.size:=R8 b6 K7.out.size;clear kk vn;refine wpAnyH_ready (rs:= [14]) (by kernel_rfl) (by simp) ?_;refine AllReadyH.cons rfl (fun KK hK=>?_) AllReadyH.nil;refine Cn.aW rfl _ _ 50 rfl (bm+1) 4 i0 (.bool false) 1 1 Tryz.underlying50 hi i4 i3 i8 rfl (by decide) (.slice mq k a0) k (fls.map Value.bool) rfl (aX O5.out K7.out) ⟨W6.heap.size,0,none⟩ 1 1 [.bool (!(mk==ck))] rfl rfl (pA V7.out) iD (by unfold maxLen;omega) (by omega) (by omega) ?_;intro v8 W8 h1 h2 h4;obtain⟨g8,a8,rfl⟩:=Cn.aS h1 (Q2 _);have P8:=hid (fZ d4.out (B5.out.keep K7.out B5.out.facts.2.2) (aX O5.out K7.out) h2 h1 (K5.out.trans K7.out));have b0:=nK (aX O5.out K7.out) h2 (by omega) a4.1 a4.2 (by omega) (by omega);obtain⟨a2,a3,a9⟩:=P8.out.1.facts;have b2:W8.cell? ⟨bm,1,none⟩=some (.slice mq k a0):=a2 1;have b1:=a3 1;refine hK.out _ _ b0 (fun hH9=>?_);clear hK KK h1 h2 h4 a2 a3
         try simp only[Cn.acP]
         refine Cn.tkN 15 (v:= ?_) ?_ ?_;rotate_left
         ·rintro w ⟨a5,a6⟩;go_simp
          try with_reducible rfl
         try simp only[Cn.acP]
         refine wpAnyH_ready (rs:= [16]) (by kernel_rfl) (by simp) ?_;refine AllReadyH.cons rfl (fun KK hK=>?_) AllReadyH.nil;go_simp;refine hK.out _ _ (sE b0 (by omega) (by omega)) (fun hH16=>?_);clear hK KK;refine wpAnyH_done (by kernel_rfl) ?_ _;have HQ:=hid P8.out.2;generalize W8.setCell ⟨bm,1,none⟩ (.slice (some ⟨g8,0,none⟩) (k+1) a8)=W9 at HQ |-
         clear b2 b1 a9 b0 hH9 hH16 P8;go_wp2_with fail;go_roundg (q.fl.length-(k+1));case rel=>exact⟨k+1,vk+1,_,by omega,by have:=d3.out;omega,by go_num,by go_num,HQ.out.1,by rw[d6.out,Z9];exact HQ.out.2.1,HQ.out.2.2⟩
         case measure=>omega
        ·skip;go_simp;have k7:=aA.alloc W6 (.cells #[.bool (!(mk==ck))] 4);refine hK.out _ _ ⟨((K6.out.trans k7).cell (p:=⟨mb,mo+vk,none⟩) a1).trans a7,((K6.out.trans k7).cell (p:=⟨b+1,3,none⟩) d0).trans b7⟩ (fun a4=>?_);clear hK KK;refine oO (fun W'=>aA W6 W'/\aE W6.heap.size 4 (.bool (!(mk==ck))) W') ⟨k7,aE.new _ _ _⟩ ?_;clear k7 a4;rintro W7 ⟨kk,vn⟩;have K7:=hid (K6.out.trans kk);have V7:=hid vn;have a4:W7.cell? ⟨mb,mo+vk,none⟩=some (.bool mk)/\W7.cell? ⟨b+1,3,none⟩=some (.slice op on.length oc):=⟨(K7.out.cell (p:=⟨mb,mo+vk,none⟩) a1).trans a7,(K7.out.cell (p:=⟨b+1,3,none⟩) d0).trans b7⟩;have e3:W7.cell? ⟨bm,1,none⟩=some (.slice mq k a0):=(K7.out.cell (p:=⟨bm,1,none⟩) b6).trans d5;have e4:bm<W7.heap.size:=R8 b6 K7.out.size;clear kk vn;refine wpAnyH_ready (rs:= [1]) (by kernel_rfl) (by simp) ?_;refine AllReadyH.cons rfl (fun KK hK=>?_) AllReadyH.nil;go_simp;refine hK.out _ _ a4 (fun hH1=>?_);clear hK KK
         try simp only[Cn.acP]
         refine wpAnyH_ready (rs:= [14]) (by kernel_rfl) (by simp) ?_;refine AllReadyH.cons rfl (fun KK hK=>?_) AllReadyH.nil;refine Cn.aW rfl _ _ 50 rfl (bm+1) 4 i0 (.bool false) 1 1 Tryz.underlying50 hi i4 i3 i8 rfl (by decide) (.slice mq k a0) k (fls.map Value.bool) rfl (aX O5.out K7.out) ⟨W6.heap.size,0,none⟩ 1 1 [.bool (!(mk==ck))] rfl rfl (pA V7.out) iD (by unfold maxLen;omega) (by omega) (by omega) ?_;intro v8 W8 h1 h2 h4;obtain⟨g8,a8,rfl⟩:=Cn.aS h1 (Q2 _);have P8:=hid (fZ d4.out (B5.out.keep K7.out B5.out.facts.2.2) (aX O5.out K7.out) h2 h1 (K5.out.trans K7.out));have b0:=nK (aX O5.out K7.out) h2 (by omega) a4.1 a4.2 (by omega) (by omega);obtain⟨a2,a3,a9⟩:=P8.out.1.facts;have b2:W8.cell? ⟨bm,1,none⟩=some (.slice mq k a0):=a2 1;have b1:=a3 1;refine hK.out _ _ b0 (fun hH9=>?_);clear hK KK h1 h2 h4 a2 a3
         try simp only[Cn.acP]
         refine Cn.tkN 15 (v:= ?_) ?_ ?_;rotate_left
         ·rintro w ⟨a5,a6⟩;go_simp
          try with_reducible rfl
         try simp only[Cn.acP]
         refine wpAnyH_ready (rs:= [16]) (by kernel_rfl) (by simp) ?_;refine AllReadyH.cons rfl (fun KK hK=>?_) AllReadyH.nil;go_simp;refine hK.out _ _ (sE b0 (by omega) (by omega)) (fun hH16=>?_);clear hK KK;refine wpAnyH_done (by kernel_rfl) ?_ _;have HQ:=hid P8.out.2;generalize W8.setCell ⟨bm,1,none⟩ (.slice (some ⟨g8,0,none⟩) (k+1) a8)=W9 at HQ |-
         clear b2 b1 a9 b0 hH9 hH16 P8;go_wp2_with fail;go_roundg (q.fl.length-(k+1));case rel=>exact⟨k+1,vk+1,_,by omega,by have:=d3.out;omega,by go_num,by go_num,HQ.out.1,by rw[d6.out,Z9];exact HQ.out.2.1,HQ.out.2.2⟩
         case measure=>omega
      ·obtain rfl:k=q.fl.length:=by omega
       obtain⟨mq,a0,i9⟩:∃mq a0,mv=.slice mq q.fl.length a0:=gM O5.out;subst i9;have m2:wr.cell? ⟨bm,0,none⟩=some (.int .i64 j):=e6 0;have l8:wr.cell? ⟨bm,1,none⟩=some (.slice mq q.fl.length a0):=e6 1;have KO:=hid (KR.out.trans K5.out);have f6:=KO.out.size;have d7:=(M2.out.keep KO.out).look b8.out (x:=(j:Int)) (by unfold Cn.SmI;omega);have R5:=hid (R3.out.keep K5.out);have o5:=hid (show uG (fun c=>bm+1<=c/\c<wr.heap.size) wr ⟨(j:Int),flR md on vj j q.fl.length⟩ [.int .i64 j,.slice mq q.fl.length a0] from⟨_,rfl,uL O5.out (aJs ..)⟩);have e1:=hid (show ∀g,(Value.slice xp acc.length xc).ownBlock=some g->wo.heap.size<=g/\g<bm from fun g hg=>d4.out ▸ R3.out.own g hg);have o7:=hid (show wo.heap.size<=bm from d4.out ▸ KR.out.size);have e9:vk=zs.length+bI ps (j+1):=by have:=g7.out;have:=f3.out;omega
       have d3:=hid e9;clear e6 i1 e9 f9 hlt;cases htj:tk (j:Int) with
       | true=>
        rw[htj] at d7;have d2:=hid (d1.out.trans (by rw[if_pos htj]));clear htj d1;obtain⟨csl,c1,c2,c3,c4⟩:=R5.out;have l3:=hid c3;have k2:=hid c4;clear c3 c4;go_wp2_with (at_builtin;refine wpList_append_own_at _ rfl _ _ 26 rfl wo.heap.size 65 im (.agg #[.int .i64 0,.slice none 0 0]) 2 32 Tryz.underlying26 n5 h0 h7 g1 rfl (by decide) (.slice xp acc.length xc) acc.length csl.flatten rfl (l3.out.alloc _) ⟨wr.heap.size,0,none⟩ 1 1 [.int .i64 j,.slice mq q.fl.length a0] rfl rfl jI (by intro u hu;simp at hu;rcases hu with rfl | rfl<;>rfl) (by unfold maxLen;omega) (by omega) (by rw[aC];omega) ?_)
        intro v6 w6 h1 h2 _ h4;obtain⟨g6,l7,rfl⟩:=Cn.aS h1 (Q2 _);have h9:=hid (fM.push (B':=bm+1) c1 c2 k2.out (by have:=o7.out;omega) (fun g' hg'=>by have:=(e1.out g' hg').2;omega) o5.out rfl (by simpa using h1) h2 (by rw[aC];exact h4));have L6:Below wo.heap.size wr w6:=((Below.refl _ wr).alloc f6 _).grown h2 (by rw[aC];omega) (fun g' hg'=>(e1.out g' hg').1);have K6:=hid (show aA wo w6 from Below.trans KO.out L6);clear h1 h2 h4 L6 d7 m2 l8 l3 k2;go_wp2_with fail;go_roundg (ps.length-(j+1));case rel=>exact⟨j+1,vk,by omega,d3.out,by go_num,rfl,by rw[d2.out];exact h9.out,K6.out⟩
        case measure=>omega
       | false=>
        rw[htj] at d7;have d2:=hid (d1.out.trans (by rw[if_neg (by rw[htj];simp),List.append_nil]));clear htj d1;go_wp2_with fail;go_roundg (ps.length-(j+1));case rel=>exact⟨j+1,vk,by omega,d3.out,by go_num,rfl,by rw[d2.out];exact R5.out,KO.out⟩
        case measure=>omega
    ·obtain rfl:j=ps.length:=by omega
     have HF:=hid (R1.out.final.mono (S':=fun c=>w.heap.size<=c/\c<wr.heap.size) (fun _ _=>rfl) (fun c hc=>⟨U2 K2.out.size hc.1,hc.2⟩));have KF:=hid (K2.out.trans K1.out);go_wp2_with fail;go_ret;exact⟨KF.out,_,rfl,by rw[o2.out];exact HF.out⟩
end Go.Proofs.YthjlcjdlelkkdaaGreatDoor
namespace Go.Proofs.YthjlcjdlelkkdaaGreatDoor
def aEj(a:Nat × List Bool):MB:=⟨(a.1:Int),a.2⟩
theorem aDt(o:List Nat)(i:Nat):(o.map fun (i:Nat)=>(i:Int)).contains (i:Int)=o.contains i:=by
 induction o with
 | nil=>rfl
 | cons a o ih=>
  have e:((i:Int)==(a:Int))=(i==a):=by rw[Bool.eq_iff_iff,beq_iff_eq,beq_iff_eq];omega
  rw[List.map_cons,List.contains_cons,List.contains_cons,ih,e]
theorem wK{ms:List MB}(h:∀x∈plI ms,0<=x):plI ms=(ms.map fun m=>m.pl.toNat).map fun (i:Nat)=>(i:Int):=by
 unfold plI at *;rw[List.map_map];refine List.map_congr_left fun m hm=>?_;have:=h m.pl (Q4.2 ⟨m,hm,rfl⟩);show m.pl=((m.pl.toNat:Nat):Int);omega
theorem mQ(ps:List PK)(wi:WI)(h:∀x∈plI wi.ins,0<=x):plI wi.ins++cP (plI wi.ins) ps.length=(aB ps wi).order.map fun (i:Nat)=>(i:Int):=by
 unfold Cn.CT.order cP;rw[Z9];have e1:(aB ps wi).ins=wi.ins.map fun m=>m.pl.toNat:=rfl;have e2:(aB ps wi).nf.length=ps.length:=by simp[aB]
 rw[e2,e1,<-wK h];congr 2;refine List.filter_congr fun i _=>?_;rw[wK h,aDt]
theorem aKz(md:List Bool)(f:Int->Bool)(o:List Nat)(hn:o.Nodup)(i:Nat):∀j,j<=o.length->i∈o.take j->aBt md f (o.map fun (i:Nat)=>(i:Int)) j (i:Int)=(md.getD (o.idxOf i) false != f (i:Int))
 | 0,_,h=>by simp at h
 | j+1,hj,h=>by
  have a0:o[j]? = some o[j]:=Q9 (by omega);have hz:(o.map fun (i:Nat)=>(i:Int)).getD j 0=(o[j]:Int):=by rw[R0,Z2,a0];rfl
  show (if (i:Int)=(o.map fun (i:Nat)=>(i:Int)).getD j 0 then _ else _)=_;rw[hz];by_cases e:i=o[j]
  ·rw[if_pos (by omega)];rw[Cn.sF hn (v:=j) (i:=i) (by rw[a0,<-e])]
  ·rw[if_neg (by omega)];refine aKz md f o hn i j (by omega) ?_;rw[U4 (by omega),U0,T0] at h;exact h.resolve_right e
theorem aKx(ps:List PK)(wi:WI)(k:Nat):bI ps k=((aB ps wi).nf.take k).sum:=by
 unfold bI aB;rw[<-List.map_take]
theorem aKw(ps:List PK)(wi:WI)(md:List Bool)(tk:Int->Bool)(hz:∀i,i<ps.length->tk (i:Int)=(aB ps wi).takes md i):∀j,j<=ps.length->setR ps md wi.on tk ps.length j=((List.range j).filterMap fun i=>if (aB ps wi).takes md i then some (i,(aB ps wi).flags md i) else none).map aEj
 | 0,_=>rfl
 | j+1,hj=>by
  rw[setR,aKw ps wi md tk hz j (by omega),List.range_succ,List.filterMap_append,Z9];congr 1;have e2:(aB ps wi).nf.length=ps.length:=by simp[aB]
  have ef:flR md wi.on (ps.length+bI ps j) j (ps.getD j PK.zero).fl.length=(aB ps wi).flags md j:=by
   unfold flR Cn.CT.flags Cn.CT.base;rw[e2,<-aKx];have e3:(aB ps wi).nf.getD j 0=(ps.getD j PK.zero).fl.length:=by
    simp[aB,List.getD_eq_getElem?_getD,List.getElem?_eq_getElem (show j<ps.length by omega)]
   rw[e3];rfl
  rw[hz j (by omega),ef];by_cases ht:(aB ps wi).takes md j=true
  ·simp[ht,aEj]
  ·simp[ht]
theorem aRn(ps:List PK)(wi:WI)(md:List Bool)(hok:(aB ps wi).Ok)(h0:∀x∈plI wi.ins,0<=x):
  setR ps md wi.on (aBt md (inI (plI wi.ins)) (plI wi.ins++cP (plI wi.ins) ps.length) (plI wi.ins++cP (plI wi.ins) ps.length).length) (plI wi.ins++cP (plI wi.ins) ps.length).length ps.length=((aB ps wi).set md).map aEj:=by
 have e2:(aB ps wi).nf.length=ps.length:=by simp[aB]
 have a0:(plI wi.ins++cP (plI wi.ins) ps.length).length=ps.length:=by rw[mQ ps wi h0,A0,Cn.CT.order_len hok,e2]
 rw[a0];unfold Cn.CT.set;rw[e2];refine aKw ps wi md _ (fun i hi=>?_) ps.length (Y1 _);rw[mQ ps wi h0];rw[aKz md _ _ (Cn.CT.order_nodup hok) i ps.length (by rw[Cn.CT.order_len hok,e2];exact Y1 _) (by
  rw[List.take_of_length_le (by rw[Cn.CT.order_len hok,e2];exact Y1 _),Cn.CT.order_mem hok,e2];exact hi)]
 unfold Cn.CT.takes inI;rw[wK h0,aDt];rfl
theorem aPn{l:List Int}(h:∀k,0<k->k<l.length->l.getD (k-1) 0<l.getD k 0)(i:Nat):∀d,i+d+1<l.length->l.getD i 0<l.getD (i+d+1) 0
 | 0,hl=>by have:=h (i+1) (by omega) hl;simpa using this
 | d+1,hl=>by
  have h1:=aPn h i d (by omega);have h2:=h (i+(d+1)+1) (by omega) hl;rw[show i+(d+1)+1-1=i+d+1 by omega] at h2;omega
theorem aCa{l:List Int}(h:∀k,0<k->k<l.length->l.getD (k-1) 0<l.getD k 0):l.Pairwise (· < ·):=by
 rw[List.pairwise_iff_getElem];intro i j hi hj a0;have h1:=aPn h i (j-i-1) (by omega);rw[show i+(j-i-1)+1=j by omega] at h1;rw[R0,R0,Q9 hi,Q9 hj] at h1;exact h1
theorem aLb{l:List Int}(h:∀k,0<k->k<l.length->l.getD (k-1) 0<l.getD k 0)(h0:∀x∈l,0<=x):∀k,k<l.length->(k:Int)<=l.getD k 0
 | 0,hk=>by
  have:=h0 (l.getD 0 0) (by rw[R0,Q9 hk];exact U5 hk);simpa using this
 | k+1,hk=>by
  have h1:=aLb h h0 k (by omega);have h2:=h (k+1) (by omega) hk;rw[Nat.add_sub_cancel] at h2;omega
theorem aKp(ms:List MB)(k:Nat):(plI ms).getD k 0=(ms.getD k MB.zero).pl:=by
 unfold plI;rw[R0,R0,Z2];cases ms[k]? <;> rfl
theorem jL{ps:List PK}{ms:List MB}(h:dZ ps ms=0):ps.length<=8/\(∀p∈ps,p.fl.length<=2)/\(plI ms).Pairwise (· < ·)/\(∀x∈plI ms,0<=x/\x<ps.length)/\ms.length<=8/\yI ps ms:=by
 have a0:=aRl h;have ht:cA ps=0:=by
  unfold dZ at h;by_cases e:cA ps=0
  ·exact e
  ·rw[if_pos e] at h;exact h
 have hs:tM ps ms=0:=by unfold dZ at h;rw[ht] at h;simpa using h
 have hz:=(cW ms.length 0).1 hs;obtain⟨h8,hp⟩:=cL ht;have a3:∀k,0<k->k<(plI ms).length->(plI ms).getD (k-1) 0<(plI ms).getD k 0:=fun k h0 hk=>by
  have a4:k<ms.length:=by simpa[plI] using hk
  have h1:=hz k a4;rw[Z6] at h1;rw[aKp,aKp];unfold mbE at h1;by_cases e1:(ms.getD k MB.zero).pl<0\/(ps.length:Int)<=(ms.getD k MB.zero).pl
  ·rw[if_pos e1] at h1;omega
  ·rw[if_neg e1] at h1;by_cases e2:0<k/\(ms.getD k MB.zero).pl<=(ms.getD (k-1) MB.zero).pl
   ·rw[if_pos e2] at h1;omega
   ·omega
 have a1:∀x∈plI ms,0<=x/\x<ps.length:=fun x hx=>by
  obtain⟨m,hm,rfl⟩:=Q4.1 hx;obtain⟨i,hi⟩:=List.mem_iff_getElem?.1 hm;exact⟨(a0 i m hi).1,(a0 i m hi).2.1⟩
 have a2:ms.length<=8:=by
  by_cases h0:ms.length=0
  ·omega
  ·have hl:(plI ms).length=ms.length:=by simp[plI]
   have h1:=aLb a3 (fun x hx=>(a1 x hx).1) (ms.length-1) (by omega);have h2:=(a1 ((plI ms).getD (ms.length-1) 0) (by rw[R0,Q9 (by omega)];exact U5 _)).2;omega
 refine⟨h8,fun p hpm=>?_,aCa a3,a1,a2,a0⟩;have h1:=hp p hpm;by_cases h2:2<p.fl.length
 ·have h3:cJ p.fl=2:=by unfold cJ;rw[if_pos h2]
  unfold dV at h1;rw[h3] at h1;split at h1
  ·omega
  ·split at h1
   ·omega
   ·simp at h1
 ·omega
theorem aWg{ms:List MB}(h:(plI ms).Pairwise (· < ·))(h0:∀x∈plI ms,0<=x):(ms.map fun m=>m.pl.toNat).Pairwise (· < ·):=by
 unfold plI at h;rw[List.pairwise_map] at h |-
 refine h.imp_of_mem fun ha hb hab=>?_;have h1:=h0 _ (Q4.2 ⟨_,ha,rfl⟩);have h2:=h0 _ (Q4.2 ⟨_,hb,rfl⟩);omega
theorem jQ{ps:List PK}{wi:WI}(h:dZ ps wi.ins=0):(aB ps wi).Ok:=by
 obtain⟨-,-,h1,h2,-,-⟩:=jL h;refine⟨aWg h1 fun x hx=>(h2 x hx).1,fun i hi=>?_⟩;obtain⟨m,hm,rfl⟩:=Q4.1 hi;have:=h2 m.pl (Q4.2 ⟨m,hm,rfl⟩);show m.pl.toNat<(ps.map fun p=>p.fl.length).length;rw[A0];omega
end Go.Proofs.YthjlcjdlelkkdaaGreatDoor
namespace Go.Proofs
open Go.Shelf
def Tryz.laysSlH10_f101_ren : Go.Shelf.Ren:=⟨fun | 10 => 101 | 6 => 128 | n => n,fun | 22 => 27 | 23 => 3 | 25 => 92 | 3 => 3 | 4 => 4 | 0 => 0 | n => n,fun | n => n⟩
theorem Tryz.laysSlH10_f101 : Go.Proofs.SlLaysH.n10 Tryz.prog Tryz.laysSlH10_f101_ren:={
 mixed:=by kernel_rfl
 f6:=⟨Tryz.f128.name,by decide,Tryz.func128.trans (congrArg some (by kernel_rfl))⟩
 f10:=⟨Tryz.f101.name,by decide,Tryz.func101.trans (congrArg some (by kernel_rfl))⟩
 t0:=Tryz.underlying0
 a0:=Tryz.isAgg0
 z0:=Tryz.sizeOf0
 v0:=Tryz.zeroValue0
 t3:=Tryz.underlying3
 a3:=Tryz.isAgg3
 z3:=Tryz.sizeOf3
 v3:=Tryz.zeroValue3
 t4:=Tryz.underlying4
 a4:=Tryz.isAgg4
 z4:=Tryz.sizeOf4
 v4:=Tryz.zeroValue4
 t22:=Tryz.underlying27
 a22:=Tryz.isAgg27
 z22:=Tryz.sizeOf27
 v22:=Tryz.zeroValue27
 a23:=Tryz.isAgg3
 z23:=Tryz.sizeOf3
 t25:=Tryz.underlying92
 a25:=Tryz.isAgg92
 z25:=Tryz.sizeOf92
 v25:=Tryz.zeroValue92 }
open Go.RowKit Go.Lib Go.Sort in
theorem Tryz.slices_DeleteFunc{α:Type}[Inhabited α](enc:α->Value)(hO:OneCell enc)(p:α->Bool)(g:Nat)(lb:Array Value)(eg:∀args w,(callFunc g args).run Tryz.prog w=.ok (.enter g args) w)(zr:α)(v23:∀w,(zeroValue 3).run Tryz.prog w=.ok (enc zr) w)(blk off cap:Nat)(d:Array α)(w:World)(hp:PredAt Tryz.prog g lb enc p w)(hpo:PredOver Tryz.prog g lb enc p blk off d.size w)(hH:Holds enc w blk off d)(hsz:d.size<=9223372036854775807)(hcap:d.size<=cap):
  Calls Tryz.prog 101 #[.slice (some ⟨blk,off,none⟩) d.size cap,.func (.func g) #[] lb] w fun e w'=>e=.returned (.slice (some ⟨blk,off,none⟩) (d.toList.filter fun x=> !p x).length cap)/\∃q,w'=putRow enc (Sort.ahead w q) blk off ((d.toList.filter fun x=> !p x)++List.replicate (d.size-(d.toList.filter fun x=> !p x).length) zr).toArray:=AnyE.slices_DeleteFunc Tryz.laysSlH10_f101 enc hO p g lb eg zr v23 blk off cap d w hp hpo hH hsz hcap
end Go.Proofs
namespace Go.Proofs.YthjlcjdlelkkdaaGreatDoor
open Go.RowKit Go.Sort
theorem aMl(k:Int)(a:At)(fl:ByteArray)(nt:Bool):∀(kids:List NT) (j:Nat) (h:j<kids.length) (f:ByteArray),f∈kids[j].flags->f∈(NT.node k a fl nt kids).flags:=by
 intro kids j h f hf;rw[NT.flags];refine Y5 _ ?_
 induction kids generalizing j with
 | nil=>exact absurd h (Q5 _)
 | cons t ts ih=>
  rw[bR];cases j with
  | zero=>exact Y6 _ hf
  | succ j=>exact Y5 _ (ih j (by simpa using h) hf)
theorem aCo(ps:List PK)(ms:List MB)(k:Nat):∀kids:List NT,aCn ps ms k kids=kids.any (bU ps ms k)
 | []=>by simp[aCn]
 | t :: ts=>by rw[aCn,aCo ps ms k ts];simp
theorem uJ(ps:List PK)(ms:List MB)(k:Nat):∀kids:List NT,aCl ps ms k kids = !kids.any (fun t=> !bU ps ms k t)
 | []=>by simp[aCl]
 | t :: ts=>by rw[aCl,uJ ps ms k ts];simp
theorem aEe(w:World):aA w w.drew:=⟨rfl,rfl,rfl,Y1 _,fun _ _=>rfl⟩
theorem sH{α:Type}[Inhabited α][DecidableEq α](d:Array α):∀(m:Nat) (j:Nat),j<m->d[j]! ∈ Lib.compactUpTo d m
 | 0,j,h=>absurd h (Q5 _)
 | m+1,j,h=>by
  rw[Lib.compactUpTo_succ,U0];by_cases hjm:j<m
  ·exact Or.inl (sH d m j hjm)
  ·obtain rfl:j=m:=by omega
   by_cases h0:j=0
   ·subst h0;rw[if_pos (Lib.keeps_lt_one d 0 (by omega))];exact Or.inr (T0.2 rfl)
   ·by_cases hk:d[j]! = d[j-1]!
    ·rw[hk];exact Or.inl (sH d j (j-1) (by omega))
    ·rw[if_pos (Lib.keeps_pos hk)];exact Or.inr (T0.2 rfl)
theorem aEl{t:NT}{f:ByteArray}(h:f∈t.flags):f.data.toList∈t.sorted:=by
 unfold NT.sorted Lib.compact;have h1:f.data.toList∈(t.flags.map (·.data.toList)).mergeSort fun x y=>decide (x<=y):=(List.mergeSort_perm _ _).mem_iff.2 (Q4.2 ⟨f,h,rfl⟩);generalize (t.flags.map (·.data.toList)).mergeSort (fun x y=>decide (x<=y))=M at h1 |-
 obtain⟨j,hj,e⟩:=List.mem_iff_getElem.1 h1;have:=sH M.toArray M.toArray.size j (by simpa using hj);rw[<-e];simpa[hj] using this
theorem oC{p:PK}(h:dV p=0):∀f∈p.nd.flags,aN p.fl f<p.fl.length:=by
 intro f hf;have hn:eH p.nd p.fl=0:=by
  unfold dV at h;split at h
  ·cases h
  ·split at h
   ·cases h
   ·split at h
    ·rename_i hne;exact absurd h hne
    ·exact h
 unfold eH at hn;split at hn
 ·cases hn
 ·split at hn
  ·rename_i hne;exact absurd hn hne
  ·split at hn
   ·rename_i hall;have:=List.all_eq_true.1 hall _ (aEl hf);unfold fB at this;rw[dB,Lib.containsS_iff] at this;unfold aN;exact List.findIdx_lt_length_of_exists ⟨f,this,by simp⟩
   ·cases hn
end Go.Proofs.YthjlcjdlelkkdaaGreatDoor
