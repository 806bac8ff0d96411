/- Steps of the proof. -/
import Derived.Test.YthjlcjdlelkkdaaGreatDoorRs14
import Derived.Test.YthjlcjdlelkkdaaGreatDoorRs15
import Derived.Shelf.Spec.SlicesGrow
import Derived.Sort.OwnSortedInts
import Derived.Shelf.Strings.Trim
import Derived.Shelf.Strings.Search2
import Derived.Shelf.Strings.Search3
import Derived.Shelf.Slices.In.SortNone2
import Derived.StringKeys
import Derived.Sort.KeysCollected
import Derived.Maps.RangeWalk
set_option maxHeartbeats 16000000
set_option maxRecDepth 100000
namespace Go.Proofs.YthjlcjdlelkkdaaGreatDoor
open Go.RowKit
def iZ(ps:List PK)(wi:WI)(s:Int)(w:World)(e:Ending)(w':World):Prop:=
 aA w w'/\((bB ps wi≠0/\e=.returned (.tuple #[.slice none 0 0,.slice none 0 0,.int .i64 (bB ps wi)]))
  \/(bB ps wi=0/\(dD ps wi s).er≠0/\e=.returned (.tuple #[.slice none 0 0,.slice none 0 0,.int .i64 (dD ps wi s).er]))
  \/(bB ps wi=0/\(dD ps wi s).er=0/\(dD ps wi s).P ≠ []/\∃pv,e=.returned (.tuple #[.slice none 0 0,pv,.int .i64 7])/\Cn.eU (fun b=>w.heap.size<=b/\b<w'.heap.size) w' (dD ps wi s).P pv)
  \/(bB ps wi=0/\(dD ps wi s).er=0/\(dD ps wi s).P = []/\∃v,e=.returned (.tuple #[v,.slice none 0 0,.int .i64 0])/\cD (fun b=>w.heap.size<=b/\b<w'.heap.size) w' (bP ps wi (dD ps wi s).m) v))
theorem iO(S:Nat->Prop)(ps:List PK)(wi:WI)(s:Int)(pv tsv inv mav onv:Value)(w:World)(hS:∀b,S b->b<w.heap.size)(hp:aZ S w ps pv)(hw:dA S w wi tsv inv mav onv)(hcap:lM pv):
  Calls Tryz.prog 4 #[.agg #[pv],.agg #[tsv,inv,mav,onv],.int .i64 s] w fun e w'=>iZ ps wi s w e w':=by
 have HP:=hid hp;have HW:=hid hw;clear hp hw;go_enter Tryz.func4,Tryz.ntmps4;go_upto_region 1 with fail;refine bE (fun W'=>aA w W'/\aE w.heap.size 24 pv W'/\aF (w.heap.size+1) 30 #[tsv,inv,mav,onv] W') ⟨(aA.alloc _ _).alloc' _,(aE.new _ _ _).keep (aA.alloc _ _) (by simp),?_⟩ ?_
 ·have:=aF.new (w.alloc (.cells #[pv] 24)) 30 #[tsv,inv,mav,onv];rw[aC] at this;exact this
 rintro W1 ⟨k1,v1,b1⟩;have K1:=hid k1;have V1:=hid v1;have B1:=hid b1;generalize w.heap.size=b at V1 B1 |-
 clear k1 v1 b1;have b4:=V1.out.facts.1;have c6:=V1.out.facts.2.2;have c0:W1.cell? ⟨b+1,0,none⟩=some tsv:=B1.out.facts.1 0;have b9:W1.cell? ⟨b+1,1,none⟩=some inv:=B1.out.facts.1 1;have c3:W1.cell? ⟨b+1,2,none⟩=some mav:=B1.out.facts.1 2;have b6:W1.cell? ⟨b+1,3,none⟩=some onv:=B1.out.facts.1 3;have c1:=B1.out.facts.2.2;go_wp2_with fail;refine (aGx S ps wi _ _ _ _ _ W1 (fun c hc=>R8 (hS c hc) K1.out.size) (HP.out.keep hS K1.out) (HW.out.keep hS K1.out) hcap).mono ?_;rintro e W2 ⟨k2,h2⟩;have K2:=hid (K1.out.trans k2);have V2:=hid (V1.out.keep k2 V1.out.facts.2.2);have B2:=hid (B1.out.keep k2 B1.out.facts.2.2);clear b4 c6 c0 b9 c3 b6 c1 V1 B1 k2;rcases h2 with ⟨hz,rfl⟩ | ⟨hz,cv,rfl,hcls⟩
 ·have a5:(bB ps wi==0)=false:=by simpa using hz
  have b7:(bB ps wi != 0)=true:=by simp[bne,a5]
  have HZ:=hid hz;obtain⟨cw,b0⟩:∃cw,cw=bB ps wi:=⟨_,rfl⟩;have c8:=hid b0;rw[<-b0] at a5 b7 |-
  clear hz b0;go_wp2_with fail;refine cV (v:= .tuple #[.slice none 0 0,.slice none 0 0,.int .i64 cw]) (fun W'=>aA w W') (K2.out.alloc' _) rfl ?_;intro W a0;exact⟨by simp[results,Tryz.results4,go_sem],a0,.inl ⟨HZ.out,by rw[c8.out]⟩⟩
 obtain⟨cp,cc,rfl,d6⟩:=hcls.len;have a3:=hid hcls;have HZ:=hid hz;have HF:=hid (show ∀c∈(dX ps wi).cl,∀x∈c,Cn.InR x from fun c hc x hx=>by
  obtain⟨-,g2,-,g4,-⟩:=tV hz;have:=((g4 c hc).1 x hx).2;unfold Cn.InR;omega)
 clear hcls hz;go_wp2_with fail;refine bK (fun W'=>aA W2 W') (aA.alloc _ _) ?_;intro W3 k3;refine (Cn.aNr (fun b=>W1.heap.size<=b/\b<W2.heap.size) _ (dX ps wi).cl cp cc s W3 (fun c hc=>R8 hc.2 k3.size) ⟨a3.out.keep (B:=W2.heap.size) (fun c hc=>hc.2) k3,HF.out⟩).mono ?_;rintro e W4 ⟨k4,mv,d5,rfl,a2,a1⟩;have k4:aA W3 W4:=k4;have a1:Cn.eU (fun c=>W3.heap.size<=c/\c<W4.heap.size) W4 (dD ps wi s).P d5:=a1;have a2:Cn.bC (fun c=>W3.heap.size<=c/\c<W4.heap.size) W4 (dD ps wi s).m mv:=a2;have KS:=hid (K2.out.trans k3).size;rw[show Cn.pL ((dX ps wi).n:Nat) (dX ps wi).cl s=dD ps wi s from rfl];have K4:=hid ((K2.out.trans k3).trans k4);have V4:=hid (V2.out.keep (k3.trans k4) V2.out.facts.2.2);have B4:=hid (B2.out.keep (k3.trans k4) B2.out.facts.2.2);obtain⟨b2,a8,rfl,c9⟩:=a1.len;obtain⟨c4,b3,rfl,d7,-⟩:=id a2;have d0:=hid a2;have c5:=hid a1;clear V2 B2 a3 HF a2 a1 k3 k4;obtain⟨er,a9⟩:∃er,er=(dD ps wi s).er:=⟨_,rfl⟩;have a4:=hid a9;rw[<-a9];clear a9;by_cases he:er=0
 ·subst he;obtain⟨pl,a7⟩:∃pl:Nat,pl=(dD ps wi s).P.length:=⟨_,rfl⟩;have c7:=hid a7;rw[<-a7] at c5 c9 |-
  clear a7;go_upto_region 7 with fail;refine bE (fun W'=>aA W4 W'/\aF W4.heap.size 52 #[.slice c4 (dD ps wi s).m.length b3,.slice b2 pl a8] W') ⟨aA.alloc _ _,aF.new _ _ _⟩ ?_;rintro W5 ⟨k5,b5⟩;have K5:=hid (K4.out.trans k5);have a6:=hid k5;have V5:=hid (V4.out.keep k5 V4.out.facts.2.2);have B5:=hid (B4.out.keep k5 B4.out.facts.2.2);have X5:=hid b5;have d3:w.heap.size<=W4.heap.size:=K4.out.size;generalize W4.heap.size=ab at X5 d3 |-
  clear V4 B4 k5 b5;have d9:W5.cell? ⟨ab,0,none⟩=some (.slice c4 (dD ps wi s).m.length b3):=X5.out.facts.1 0;have d8:W5.cell? ⟨ab,1,none⟩=some (.slice b2 pl a8):=X5.out.facts.1 1;have e0:=X5.out.facts.2.2;by_cases hp0:0<pl
  ·have d1:(0:Int)<(pl:Int):=by omega
   go_upto_region 8 with fail;go_quiet (fail)
   go_wp2_with fail;refine cV (v:= .tuple #[.slice none 0 0,.slice b2 pl a8,.int .i64 7]) (fun W'=>aA W5 W') ((aA.refl _).drewN _) rfl ?_;intro W a0;refine⟨by simp[results,Tryz.results4,go_sem],K5.out.trans a0,.inr (.inr (.inl ⟨HZ.out,a4.out.symm,fun e=>?_,_,rfl,?_⟩))⟩
   ·have:=c7.out;rw[e] at this;simp at this;omega
   ·exact c5.out.mono (fun p hp=>(a6.out.trans a0).cell (p:=p) hp.2) fun c hc=>⟨U2 KS.out hc.1,R8 hc.2 (a6.out.trans a0).size⟩
  have d1:¬(0:Int)<(pl:Int):=by omega
  have b4:=V5.out.facts.1;have c6:=V5.out.facts.2.2;have c0:W5.cell? ⟨b+1,0,none⟩=some tsv:=B5.out.facts.1 0;have b9:W5.cell? ⟨b+1,1,none⟩=some inv:=B5.out.facts.1 1;have c3:W5.cell? ⟨b+1,2,none⟩=some mav:=B5.out.facts.1 2;have b6:W5.cell? ⟨b+1,3,none⟩=some onv:=B5.out.facts.1 3;have c1:=B5.out.facts.2.2;have b8:(dD ps wi s).P = []:=by
   have:=c7.out;exact Y4.1 (by omega)
  have c2:=hid b8;clear b8;go_wp2_with fail;refine (aUh (fun c=>c<W5.heap.size) ps wi (dD ps wi s).m _ _ _ _ _ _ W5 (fun _ h=>h) ((HP.out.keep hS K5.out).mono (fun _ _=>rfl) fun c hc=>R8 (hS c hc) K5.out.size) ((HW.out.keep hS K5.out).mono fun c hc=>R8 (hS c hc) K5.out.size) (bC.mono (S:=fun c=>W3.heap.size<=c/\c<W4.heap.size) (fun p hp=>a6.out.cell (p:=p) hp.2) (fun c hc=>R8 hc.2 a6.out.size) d0.out)).mono ?_;have d2:=hid ((wN HZ.out a4.out.symm).resolve_right fun h=>h.1 c2.out);rintro e W6 ⟨k6,⟨h0,-⟩ | ⟨-,h0,-⟩ | ⟨-,-,-,v6,rfl,hm6⟩⟩
  ·exact absurd HZ.out h0
  ·have:=d2.out;omega
  have K6:=hid (K5.out.trans k6);have d4:=hid hm6;clear hm6 k6;go_wp2_with fail;refine cV (v:= .tuple #[v6,.slice none 0 0,.int .i64 0]) (fun W'=>W'=W6) rfl rfl ?_;rintro W rfl;exact⟨by simp[results,Tryz.results4,go_sem],K6.out,.inr (.inr (.inr ⟨HZ.out,a4.out.symm,c2.out,_,rfl,d4.out.mono (fun _ _=>rfl) fun c hc=>⟨U2 K5.out.size hc.1,hc.2⟩⟩))⟩
 ·have a5:(er==0)=false:=by simpa using he
  have b7:(er != 0)=true:=by simp[bne,a5]
  have HE:=hid he;clear he;go_wp2_with fail;refine cV (v:= .tuple #[.slice none 0 0,.slice none 0 0,.int .i64 er]) (fun W'=>aA w W') (K4.out.alloc' _) rfl ?_;intro W a0;exact⟨by simp[results,Tryz.results4,go_sem],a0,.inr (.inl ⟨HZ.out,by rw[<-a4.out];exact HE.out,by rw[a4.out]⟩)⟩
def mkW(wi:WI)(l:List Int):WI:= { wi with ma:=l }
noncomputable def dE(ps:List PK)(wi:WI)(s:Int):Int:=
 if bB ps wi≠0 then bB ps wi else if (dD ps wi s).er≠0 then (dD ps wi s).er else if (dD ps wi s).P = [] then 0 else 7
theorem pE{ps:List PK}{wi:WI}{c:List Bool}(h:bB ps wi=0)(hb:nG ps wi c):dE ps wi 40000=0:=by
 have he:=mU h;unfold dE;rw[if_neg (by simp[h]),if_neg (by simp[he]),if_pos (aFg h he hb).1]
theorem sR{ps:List PK}{wi:WI}(h:bB ps wi=0)(hn:fO ps wi):dE ps wi 40000=7:=by
 have he:=mU h;unfold dE;rw[if_neg (by simp[h]),if_neg (by simp[he]),if_neg (aFh h he hn)]
theorem iZ.err{ps:List PK}{wi:WI}{s:Int}{w w':World}{e:Ending}(h:iZ ps wi s w e w'):aA w w'/\∃v pv,e=.returned (.tuple #[v,pv,.int .i64 (dE ps wi s)]):=by
 obtain⟨k,h⟩:=h;refine⟨k,?_⟩;unfold dE;rcases h with ⟨h1,rfl⟩ | ⟨h1,h2,rfl⟩ | ⟨h1,h2,h3,pv,rfl,-⟩ | ⟨h1,h2,h3,v,rfl,-⟩
 ·rw[if_pos h1];exact⟨_,_,rfl⟩
 ·rw[if_neg (by simp[h1]),if_pos h2];exact⟨_,_,rfl⟩
 ·rw[if_neg (by simp[h1]),if_neg (by simp[h2]),if_neg h3];exact⟨_,_,rfl⟩
 ·rw[if_neg (by simp[h1]),if_neg (by simp[h2]),if_pos h3];exact⟨_,_,rfl⟩
theorem pN(S:Nat->Prop)(ps:List PK)(wi:WI)(l:List Int)(s:Int)(pv tsv inv mav onv mv:Value)(w:World)(hS:∀b,S b->b<w.heap.size)(hp:aZ S w ps pv)(hw:dA S w wi tsv inv mav onv)(hm:aI S w l mv)(hcap:lM pv):
  Calls Tryz.prog 16 #[.agg #[pv],.agg #[tsv,inv,mav,onv],mv,.int .i64 s] w fun e w'=>e=.returned (.int .i64 (dE ps (mkW wi l) s))/\aA w w':=by
 have HP:=hid hp;obtain⟨mp,mc,rfl,-⟩:=hm.len;have HW:=hid (show dA S w (mkW wi l) tsv inv (.slice mp l.length mc) onv from⟨hw.ts,hw.ins,hm,hw.on⟩);clear hp hw hm;go_enter Tryz.func16,Tryz.ntmps16;go_upto_region 1 with fail;obtain⟨b,hb⟩:∃b,b=w.heap.size:=⟨_,rfl⟩;have a5:w.heap.size<=b:=by omega
 refine bE (fun W'=>aA w W'/\aE w.heap.size 24 pv W'/\aF (w.heap.size+1) 30 #[tsv,inv,mav,onv] W') ⟨(aA.alloc _ _).alloc' _,(aE.new _ _ _).keep (aA.alloc _ _) (by simp),?_⟩ ?_
 ·have:=aF.new (w.alloc (.cells #[pv] 24)) 30 #[tsv,inv,mav,onv];rw[aC] at this;exact this
 rintro W1 ⟨k1,v1,b1⟩;have K1:=hid k1;have V1:=hid v1;have B1:=hid b1;rw[<-hb] at V1 B1 |-
 clear k1 v1 b1 hb;have a0:W1.cell? ⟨b+1,2,none⟩=some mav:=B1.out.facts.1 2;have a2:=B1.out.facts.2.1 2;have a1:=B1.out.facts.2.2;go_upto_region 2 with fail;refine bE (fun W'=>aA w W'/\aE b 24 pv W'/\aF (b+1) 30 #[tsv,inv,.slice mp l.length mc,onv] W') ⟨Below.trans K1.out ((aQ W1 (b+1) 2 (.slice mp l.length mc)).mono (by omega)),V1.out.keep (aQ W1 (b+1) 2 (.slice mp l.length mc)) (by omega),B1.out.set 2 (.slice mp l.length mc)⟩ ?_;rintro W2 ⟨k2,v2,b2⟩;have K2:=hid k2;clear K1 V1 B1 a0 a2 a1 k2;have a6:=v2.facts.1;have a7:=v2.facts.2.2;have a8:W2.cell? ⟨b+1,0,none⟩=some tsv:=b2.facts.1 0;have a3:W2.cell? ⟨b+1,1,none⟩=some inv:=b2.facts.1 1;have a0:W2.cell? ⟨b+1,2,none⟩=some (.slice mp l.length mc):=b2.facts.1 2;have a4:W2.cell? ⟨b+1,3,none⟩=some onv:=b2.facts.1 3;have a1:=b2.facts.2.2;clear v2 b2;go_wp2_with fail;refine (iO S ps (mkW wi l) s _ _ _ _ _ W2 (fun c hc=>R8 (hS c hc) K2.out.size) (HP.out.keep hS K2.out) (HW.out.keep hS K2.out) hcap).mono ?_;rintro e W3 h3;obtain⟨k3,v3,p3,rfl⟩:=h3.err;have K3:=hid (K2.out.trans k3);clear h3 k3;go_wp2_with fail;go_ret;exact⟨rfl,K3.out⟩
noncomputable def cK(ps:List PK)(wi:WI)(s:Int):Nat->List Int × List Int
 | 0=>([],[])
 | j+1=>if dE ps (mkW wi ((cK ps wi s j).1++[wi.ma.getD j 0])) s=0 then ((cK ps wi s j).1++[wi.ma.getD j 0],(cK ps wi s j).2) else ((cK ps wi s j).1,(cK ps wi s j).2++[wi.ma.getD j 0])
noncomputable def lW(ps:List PK)(wi:WI)(s:Int)(j:Nat):Int:=dE ps (mkW wi ((cK ps wi s j).1++[wi.ma.getD j 0])) s
theorem rT(ps:List PK)(wi:WI)(s:Int):∀j,(cK ps wi s j).1.length<=j/\(cK ps wi s j).2.length<=j
 | 0=>by simp[cK]
 | j+1=>by
  have:=rT ps wi s j;rw[cK];split<;>simp<;>omega
theorem rU{ps:List PK}{wi:WI}{s:Int}{j:Nat}(h:lW ps wi s j=0):cK ps wi s (j+1)=((cK ps wi s j).1++[wi.ma.getD j 0],(cK ps wi s j).2):=by
 unfold lW at h;rw[cK,if_pos h]
theorem uD{ps:List PK}{wi:WI}{s:Int}{j:Nat}(h:lW ps wi s j≠0):cK ps wi s (j+1)=((cK ps wi s j).1,(cK ps wi s j).2++[wi.ma.getD j 0]):=by
 unfold lW at h;rw[cK,if_neg h]
def aJb(ps:List PK)(wi:WI)(s:Int)(w:World)(e:Ending)(w':World):Prop:=
 aA w w'/\((bB ps wi≠0/\e=.returned (.tuple #[.slice none 0 0,.int .i64 (bB ps wi)]))
  \/(bB ps wi=0/\dE ps (mkW wi []) s≠0/\e=.returned (.tuple #[.slice none 0 0,.int .i64 (dE ps (mkW wi []) s)]))
  \/(bB ps wi=0/\dE ps (mkW wi []) s=0/\∃j,j<wi.ma.length/\lW ps wi s j≠0/\lW ps wi s j≠7/\e=.returned (.tuple #[.slice none 0 0,.int .i64 (lW ps wi s j)]))
  \/(bB ps wi=0/\dE ps (mkW wi []) s=0/\(∀j,j<wi.ma.length->lW ps wi s j=0\/lW ps wi s j=7)/\∃v,e=.returned (.tuple #[v,.int .i64 0])/\fD v (cK ps wi s wi.ma.length).2 w'/\aI (fun c=>w.heap.size<=c/\c<w'.heap.size) w' (cK ps wi s wi.ma.length).2 v))
theorem fH(S:Nat->Prop)(w:World):aI S w [] (.slice none 0 0):=⟨_,_,rfl,by simp,fun h=>absurd h (by simp)⟩
theorem wG{S:Nat->Prop}{zs:List Int}{v x:Value}{w w':World}{o:Obj}(h:aI S w zs v)(hS:∀b,S b->b<w.heap.size/\x.ownBlock≠some b)(hg:(w.alloc o).grownBy w' x.ownBlock):aI S w' zs v:=
 h.mono (fun p hp=>by
  have h1:=hS _ hp;exact (X0 (w:=w.alloc o) (hg.block p.block (by rw[aC];omega) (fun e=>h1.2 e.symm))).trans ((aA.alloc w o).cell (p:=p) h1.1)) fun _ h=>h
theorem xF(S:Nat->Prop)(ps:List PK)(wi:WI)(s:Int)(pv tsv inv mav onv:Value)(w:World)(hS:∀b,S b->b<w.heap.size)(hp:aZ S w ps pv)(hw:dA S w wi tsv inv mav onv)(hcap:lM pv):
  Calls Tryz.prog 5 #[.agg #[pv],.agg #[tsv,inv,mav,onv],.int .i64 s] w fun e w'=>aJb ps wi s w e w':=by
 obtain⟨i0,hi,d6,a6,b8⟩:=info_parts dM;have HP:=hid hp;have HW:=hid hw;clear hp hw;go_enter Tryz.func5,Tryz.ntmps5;go_upto_region 1 with fail;obtain⟨b,hb⟩:∃b,b=w.heap.size:=⟨_,rfl⟩;have f6:w.heap.size<=b:=by omega
 refine bE (fun W'=>aA w W'/\aE w.heap.size 24 pv W'/\aF (w.heap.size+1) 30 #[tsv,inv,mav,onv] W') ⟨(aA.alloc _ _).alloc' _,(aE.new _ _ _).keep (aA.alloc _ _) (by simp),?_⟩ ?_
 ·have:=aF.new (w.alloc (.cells #[pv] 24)) 30 #[tsv,inv,mav,onv];rw[aC] at this;exact this
 rintro W1 ⟨k1,v1,b1⟩;have K1:=hid k1;have V1:=hid v1;have B1:=hid b1;rw[<-hb] at V1 B1 |-
 clear k1 v1 b1 hb;have a9:=V1.out.facts.1;have b7:=V1.out.facts.2.2;have b6:W1.cell? ⟨b+1,0,none⟩=some tsv:=B1.out.facts.1 0;have b4:W1.cell? ⟨b+1,1,none⟩=some inv:=B1.out.facts.1 1;have a4:W1.cell? ⟨b+1,2,none⟩=some mav:=B1.out.facts.1 2;have b3:W1.cell? ⟨b+1,3,none⟩=some onv:=B1.out.facts.1 3;have a3:=B1.out.facts.2.2;go_wp2_with fail;refine (lB S ps wi _ _ _ _ _ W1 (fun c hc=>R8 (hS c hc) K1.out.size) (HP.out.keep hS K1.out) (HW.out.keep hS K1.out)).mono ?_;rintro e W2 ⟨rfl,k2⟩;have K2:=hid (K1.out.trans k2);have V2:=hid (V1.out.keep k2 V1.out.facts.2.2);have B2:=hid (B1.out.keep k2 B1.out.facts.2.2);clear a9 b7 b6 b4 a4 b3 a3 V1 B1 k2;obtain⟨cw,d1⟩:∃cw,cw=bB ps wi:=⟨_,rfl⟩;have a7:=hid d1;rw[<-d1];clear d1;by_cases hz:cw=0
 ·subst hz;have a9:=V2.out.facts.1;have b7:=V2.out.facts.2.2;have b6:W2.cell? ⟨b+1,0,none⟩=some tsv:=B2.out.facts.1 0;have b4:W2.cell? ⟨b+1,1,none⟩=some inv:=B2.out.facts.1 1;have a4:W2.cell? ⟨b+1,2,none⟩=some mav:=B2.out.facts.1 2;have b3:W2.cell? ⟨b+1,3,none⟩=some onv:=B2.out.facts.1 3;have a3:=B2.out.facts.2.2;go_wp2_with fail;refine (pN S ps wi [] s _ _ _ _ _ _ W2 (fun c hc=>R8 (hS c hc) K2.out.size) (HP.out.keep hS K2.out) (HW.out.keep hS K2.out) (fH _ _) hcap).mono ?_;rintro e W3 ⟨rfl,k3⟩;have K3:=hid (K2.out.trans k3);have V3:=hid (V2.out.keep k3 V2.out.facts.2.2);have B3:=hid (B2.out.keep k3 B2.out.facts.2.2);clear a9 b7 b6 b4 a4 b3 a3 V2 B2 k3;obtain⟨er,a2⟩:∃er,er=dE ps (mkW wi []) s:=⟨_,rfl⟩;have c9:=hid a2;have b0:=hid a2;rw[<-a2];clear a2;by_cases he:er=0
  ·subst he;obtain⟨mp,mc,rfl,f5⟩:=HW.out.ma.len;have a4:W3.cell? ⟨b+1,2,none⟩=some (.slice mp wi.ma.length mc):=B3.out.facts.1 2;have a3:=B3.out.facts.2.2;go_wp2_with fail;go_loopg [10,11,32] wi.ma.length (fun gk ag iw i wr=> ∃j:Nat,j+gk=wi.ma.length/\i=.int .i64 j/\(∀t,t<j->lW ps wi s t=0\/lW ps wi s t=7)/\aT (b+2) iw (cK ps wi s j).2 wr/\aI (fun c=>w.heap.size<=c/\c<wr.heap.size/\iw.ownBlock≠some c) wr (cK ps wi s j).1 ag/\aE b 24 pv wr/\aF (b+1) 30 #[tsv,inv,.slice mp wi.ma.length mc,onv] wr/\aA w wr);case atStart=>exact⟨0,by omega,rfl,fun t ht=>by omega,Q1 _ _ _ _,fH _ _,V3.out,B3.out,K3.out⟩
   case round=>
   obtain⟨j,hj,rfl,b2,d7,d4,hv,c8,hk⟩:=hrel;have a5:=hid b2;have a8:=hid d7;have HK:=hid hk;have HV:=hid hv;have d0:=hid c8;have e6:=(cT a7.out.symm).2.2.2.2.2.1;have g3:=rT ps wi s j;obtain⟨e2,ac,rfl,g2⟩:=d4.len;have d3:=hid d4;have f9:b+2<=wr.heap.size:=c8.facts.2.2;clear b2 d7 hk hv c8 d4 a4 a3;by_cases hlt:j<wi.ma.length
   ·have f7:(j:Int)<(wi.ma.length:Int):=by omega
    obtain⟨mb,mo,f1,d9,d8⟩:=HW.out.ma.get (by omega);subst f1;have e1:=(HK.out.cell (p:=⟨mb,mo+j,none⟩) (hS mb d9)).trans (d8 j hlt);have c6:mb<wr.heap.size:=R8 (hS mb d9) HK.out.size;obtain⟨k,c3⟩:∃k,k=wi.ma.getD j 0:=⟨_,rfl⟩;have c2:=hid c3;rw[<-c3] at e1;clear d8 c3;go_wp2_with fail;refine (Cn.mD _ (cK ps wi s j).1 e2 ac wr (fun c hc=>hc.2.1) d3.out (by omega)).mono ?_;rintro e W4 ⟨v4,rfl,a0,k4⟩;have k4:aA wr W4:=k4;have a0:aT wr.heap.size v4 (cK ps wi s j).1 W4:=a0;have d5:=hid k4;have d2:=hid a0;have e3:=k4.size;clear k4 a0 e1 c6;go_wp2_with (at_builtin;refine wpList_append_own_at _ rfl _ _ 27 rfl wr.heap.size 3 i0 (.int .i64 0) 1 8 Tryz.underlying27 hi d6 a6 b8 rfl (by decide) v4 (cK ps wi s j).1.length ((cK ps wi s j).1.map (Value.int .i64)) rfl (World.ownsRow.alloc d2.out _) ⟨W4.heap.size,0,none⟩ 1 1 [.int .i64 k] rfl rfl iN cG (by unfold maxLen;omega) (by omega) (by have:=aC W4 (.cells #[.int .i64 k] 3);omega) ?_)
    intro v5 w5 h5 h6 _ _;obtain⟨h7,h8⟩:=fJ e3 d2.out h5 h6;have k5:aA wr w5:=Below.trans d5.out h8;have b9:=Cn.aT.nums (B:=wr.heap.size) h7 (by simp;omega);have c4:=hid (show aI (fun c=>wr.heap.size<=c/\c<w5.heap.size) w5 ((cK ps wi s j).1++[k]) v5 from b9);have K5:=hid (HK.out.trans k5);have c0:=hid k5;have V5:=hid (HV.out.keep k5 HV.out.facts.2.2);have B5:=hid (d0.out.keep k5 d0.out.facts.2.2);clear h5 h6 h7 h8 k5 b9 HV d0 d2 d5;have a9:=V5.out.facts.1;have b7:=V5.out.facts.2.2;have b6:w5.cell? ⟨b+1,0,none⟩=some tsv:=B5.out.facts.1 0;have b4:w5.cell? ⟨b+1,1,none⟩=some inv:=B5.out.facts.1 1;have a4:w5.cell? ⟨b+1,2,none⟩=some (.slice (some ⟨mb,mo,none⟩) wi.ma.length mc):=B5.out.facts.1 2;have b3:w5.cell? ⟨b+1,3,none⟩=some onv:=B5.out.facts.1 3;have a3:=B5.out.facts.2.2;go_wp2_with fail;refine (pN (fun c=>c<w5.heap.size) ps wi ((cK ps wi s j).1++[k]) s _ _ _ _ _ _ w5 (fun _ h=>h) ((HP.out.keep hS K5.out).mono (fun _ _=>rfl) fun c hc=>R8 (hS c hc) K5.out.size) ((HW.out.keep hS K5.out).mono fun c hc=>R8 (hS c hc) K5.out.size) (c4.out.mono (fun _ _=>rfl) fun c hc=>hc.2) hcap).mono ?_;rintro e w6 ⟨rfl,k6⟩;have a1:=hid (show lW ps wi s j=dE ps (mkW wi ((cK ps wi s j).1++[k])) s by rw[c2.out];rfl);have K6:=hid (K5.out.trans k6);have V6:=hid (V5.out.keep k6 V5.out.facts.2.2);have B6:=hid (B5.out.keep k6 B5.out.facts.2.2);have c1:=hid (show aT (b+2) u11 (cK ps wi s j).2 w6 from aX a8.out (c0.out.trans k6));have f2:=hid (show aI (fun c=>w.heap.size<=c/\c<wr.heap.size/\u11.ownBlock≠some c) w6 (cK ps wi s j).1 (.slice e2 (cK ps wi s j).1.length ac) from d3.out.mono (fun p hp=>(c0.out.trans k6).cell (p:=p) hp.2.1) fun _ h=>h);have e9:=hid (c4.out.mono (S':=fun c=>wr.heap.size<=c/\c<w6.heap.size) (fun p hp=>k6.cell (p:=p) hp.2) fun c hc=>⟨hc.1,R8 hc.2 k6.size⟩);have f8:wr.heap.size<=w6.heap.size:=(c0.out.trans k6).size;have c7:=hid (show ∀g,u11.ownBlock=some g->g<wr.heap.size from fun g hg=>(dN a8.out hg).2);clear a9 b7 b6 b4 a4 b3 a3 V5 B5 k6 c4 a8 d3;obtain⟨er,a2⟩:∃er,er=dE ps (mkW wi ((cK ps wi s j).1++[k])) s:=⟨_,rfl⟩;have c9:=hid a2;rw[<-a2] at a1 |-
    clear a2;by_cases h0:er=0
    ·subst h0;have b5:=hid (rU a1.out);go_wp2_with fail;go_roundg (wi.ma.length-(j+1));case rel=>exact⟨j+1,by omega,by go_num,fun t ht=>by by_cases e:t=j;(subst e;exact .inl a1.out);exact a5.out t (by omega),by rw[b5.out];exact c1.out,by rw[b5.out,<-c2.out];exact e9.out.mono (fun _ _=>rfl) fun c hc=>⟨U2 HK.out.size hc.1,hc.2,fun e=>by have:=c7.out c e;omega⟩,V6.out,B6.out,K6.out⟩
     case measure=>omega
    ·have e8:(er==0)=false:=by simpa using h0
     have g1:(er != 0)=true:=by simp[bne,e8]
     have b5:=hid (uD (by rw[a1.out];exact h0));have H0:=hid h0;clear h0;by_cases h7:er=7
     ·subst h7;go_wp2_with (at_builtin;refine wpList_append_own_at _ rfl _ _ 27 rfl (b+2) 3 i0 (.int .i64 0) 1 8 Tryz.underlying27 hi d6 a6 b8 rfl (by decide) u11 (cK ps wi s j).2.length ((cK ps wi s j).2.map (Value.int .i64)) rfl (World.ownsRow.alloc c1.out _) ⟨w6.heap.size,0,none⟩ 1 1 [.int .i64 k] rfl rfl iN cG (by unfold maxLen;omega) (by omega) (by have:=aC w6 (.cells #[.int .i64 k] 3);omega) ?_)
      intro v7 w7 h5 h6 _ h9;obtain⟨h7,h8⟩:=fJ (by omega) c1.out h5 h6;have e7:=hid (wG f2.out (fun c hc=>⟨by omega,hc.2.2⟩) h6);have H7:=hid h7;have K7:=hid (show aA w w7 from Below.trans K6.out (h8.mono (by omega)));have V7:=hid (V6.out.keep h8 (by omega));have B7:=hid (B6.out.keep h8 (by omega));have e4:=hid (show ∀c,c<wr.heap.size->u11.ownBlock≠some c->v7.ownBlock≠some c from fun c h1 h2 h3=>by
       rcases h9 with h9 | h9
       ·exact h2 (h9 ▸ h3)
       ·rw[h9] at h3;have:=U6 h3;(try rw[aC] at this)
        omega)
      have f4:=h8.size;clear h5 h6 h7 h8;go_wp2_with fail;go_roundg (wi.ma.length-(j+1));case rel=>exact⟨j+1,by omega,by go_num,fun t ht=>by by_cases e:t=j;(subst e;exact .inr a1.out);exact a5.out t (by omega),by rw[b5.out,<-c2.out];exact H7.out,by rw[b5.out];exact e7.out.mono (fun _ _=>rfl) fun c hc=>⟨hc.1,by have:=K7.out.size;omega,e4.out c hc.2.1 hc.2.2⟩,V7.out,B7.out,K7.out⟩
      case measure=>omega
     ·have e5:(er==7)=false:=by simpa using h7
      have g4:(er != 7)=true:=by simp[bne,e5]
      have H7:=hid h7;clear h7;go_wp2_with fail;refine cV (v:= .tuple #[.slice none 0 0,.int .i64 er]) (fun W'=>W'=w6) rfl rfl ?_;rintro W rfl;exact⟨by simp[results,Tryz.results5,go_sem],K6.out,.inr (.inr (.inl ⟨a7.out.symm,b0.out.symm,j,hlt,by rw[a1.out];exact H0.out,by rw[a1.out];exact H7.out,by rw[a1.out]⟩))⟩
   have e0:j=wi.ma.length:=by omega
   have g0:¬((j:Int)<(wi.ma.length:Int)):=by omega
   have c5:=hid e0;have f0:(cK ps wi s j).2.length<=8:=by omega
   clear e0 hlt hj;go_wp2_with fail;obtain⟨xp,xc,f3⟩:=(aT.ints a8.out).len;refine cV (v:= .tuple #[u11,.int .i64 0]) (fun W'=>W'=wr) rfl rfl ?_;rintro W rfl;have b9:=Cn.aT.nums (B:=b+2) a8.out (by omega);exact⟨by simp[results,Tryz.results5,go_sem],HK.out,.inr (.inr (.inr ⟨a7.out.symm,b0.out.symm,by rw[<-c5.out];exact a5.out,_,rfl,by rw[<-c5.out];exact aT.ints a8.out,by rw[<-c5.out];exact aI.mono (S:=fun c=>b+2<=c/\c<_) (fun _ _=>rfl) (fun c hc=>⟨by omega,hc.2⟩) b9⟩))⟩
  ·have a6:(er==0)=false:=by simpa using he
   have b8:(er != 0)=true:=by simp[bne,a6]
   have HE:=hid he;clear he;go_wp2_with fail;refine cV (v:= .tuple #[.slice none 0 0,.int .i64 er]) (fun W'=>W'=W3) rfl rfl ?_;rintro W rfl;exact⟨by simp[results,Tryz.results5,go_sem],K3.out,.inr (.inl ⟨a7.out.symm,by rw[<-c9.out];exact HE.out,by rw[c9.out]⟩)⟩
 ·have a6:(cw==0)=false:=by simpa using hz
  have b8:(cw != 0)=true:=by simp[bne,a6]
  have HZ:=hid hz;clear hz;go_wp2_with fail;refine cV (v:= .tuple #[.slice none 0 0,.int .i64 cw]) (fun W'=>W'=W2) rfl rfl ?_;rintro W rfl;exact⟨by simp[results,Tryz.results5,go_sem],K2.out,.inl ⟨by rw[<-a7.out];exact HZ.out,by rw[a7.out]⟩⟩
end Go.Proofs.YthjlcjdlelkkdaaGreatDoor
namespace Go.Proofs.YthjlcjdlelkkdaaGreatDoor
def jB:Nat->Nat->List Bool
 | 0,_=> []
 | n+1,c=>decide (c / 2 ^ n % 2=1) :: jB n c
def mO:List Bool->Nat
 | []=>0
 | b :: m=>(if b=true then 2 ^ m.length else 0)+mO m
theorem fR:∀n c,(jB n c).length=n
 | 0,_=>rfl
 | n+1,c=>by rw[jB,Z0,fR n c]
theorem aDe:∀(n c i:Nat),i<n->(jB n c)[i]? = some (decide (c / 2 ^ (n-1-i) % 2=1))
 | n+1,c,0,_=>by rw[jB];rfl
 | n+1,c,i+1,h=>by
  rw[jB,List.getElem?_cons_succ,aDe n c i (by omega),show n+1-1-(i+1)=n-1-i by omega]
theorem rG:∀m:List Bool,mO m<2 ^ m.length
 | []=>by decide
 | b :: m=>by
  have:=rG m;rw[mO,Z0,Nat.pow_succ];split<;>omega
theorem wF:∀n c,mO (jB n c)=c % 2 ^ n
 | 0,c=>by rw[jB,mO,Nat.pow_zero,Nat.mod_one]
 | n+1,c=>by
  rw[jB,mO,fR,wF n c,Nat.mod_pow_succ];by_cases h:c / 2 ^ n % 2=1
  ·rw[if_pos (by simp[h]),h];omega
  ·rw[if_neg (by simp[h]),show c / 2 ^ n % 2=0 by omega];omega
theorem uB:∀ {m o:List Bool},m.length=o.length->mO m<=mO o->Cn.nI m o
 | [],[],_,_=>.inl rfl
 | a :: m,b :: o,hl,h=>by
  have a0:m.length=o.length:=by simpa using hl
  have h1:=rG m;have h2:=rG o;rw[mO,mO,a0] at h;rw[a0] at h1;have a1:(a=b/\mO m<=mO o)\/(a=false/\b=true):=by
   cases a<;>cases b<;>simp at h |- <;> omega
  rcases a1 with ⟨rfl,h3⟩ | ⟨rfl,rfl⟩
  ·rcases uB a0 h3 with rfl | ⟨j,hj,g1,g2,g3⟩
   ·exact .inl rfl
   ·refine .inr ⟨j+1,by simpa using hj,fun i hi=>?_,by simpa using g2,by simpa using g3⟩;cases i with
    | zero=>rfl
    | succ i=>simpa using g1 i (by omega)
  ·exact .inr ⟨0,by simp,fun i hi=>by omega,rfl,rfl⟩
theorem aJp{d:List Bool}{n:Nat}(h:d.length=n):jB n (mO d)=d:=by
 have h1:mO (jB n (mO d))=mO d:=by rw[wF,<-h];exact Nat.mod_eq_of_lt (rG d)
 have hl:(jB n (mO d)).length=d.length:=by rw[fR,h]
 exact (uB hl (by omega)).anti (uB hl.symm (by omega))
def okC(ps:List PK)(wi:WI)(c:Nat):Bool:=dR ps wi (bP ps wi (jB (aB ps wi).many c))
theorem aPd{ps:List PK}{wi:WI}{c:Nat}(hc:c<2 ^ (aB ps wi).many)(h:okC ps wi c=true)(hf:∀i,i<c->okC ps wi i=false):nG ps wi (jB (aB ps wi).many c):=by
 refine⟨fR _ _,h,fun d hd hv=>uB (by rw[fR,hd]) ?_⟩;rw[wF,Nat.mod_eq_of_lt hc];rcases Nat.lt_or_ge (mO d) c with hlt | hge
 ·have:=hf _ hlt;unfold okC at this;rw[aJp hd,hv] at this;cases this
 ·exact hge
theorem aVu{ps:List PK}{wi:WI}(hf:∀i,i<2 ^ (aB ps wi).many->okC ps wi i=false):fO ps wi:=fun d hd=>by
 have:=hf (mO d) (by rw[<-hd];exact rG d);unfold okC at this;rw[aJp hd] at this;exact this
end Go.Proofs.YthjlcjdlelkkdaaGreatDoor
namespace Go.Proofs.YthjlcjdlelkkdaaGreatDoor
open Go.RowKit
def aAw(c:UInt8):NT:= .node 1 ⟨⟨#[c]⟩,0,0,0,⟨#[]⟩,false⟩ ⟨#[]⟩ false []
end Go.Proofs.YthjlcjdlelkkdaaGreatDoor
namespace Go.Proofs.YthjlcjdlelkkdaaGreatDoor
def nIf:NT:= .node 5 At.zero ⟨#[120]⟩ false [aAw 98]
def wA:NT:= .node 3 At.zero ⟨#[]⟩ false [nIf]
def nZ:NT:= .node 3 At.zero ⟨#[]⟩ false []
def F1:List UInt8:= [97,32,49,32,49,32,120,44,121,32,120,63,32,40,32,98,32,41,10]
def F2:List UInt8:= [97,32,49,32,49,32,120,44,121,32,40,32,120,63,32,40,32,98,32,41,32,41,10,98,32,50,32,49,32,32,40,32,41,10]
theorem aKf{c:UInt8}(h:aP [c]=true):(aAw c).ok:=by
 unfold aAw;rw[NT.ok];exact⟨mM 1 _ (Or.inl rfl) (by show chk [c] 0 0 0 [] false=0;unfold chk;rw[if_neg (by simp[h]),if_neg (by decide),if_neg (by decide)]),trivial⟩
theorem aVq:nIf.ok:=by
 unfold nIf;rw[NT.ok,okL,okL];exact⟨aEq _ _ _ (by decide),aKf (by decide),trivial⟩
theorem aTt:wA.ok:=by
 unfold wA;rw[NT.ok,okL,okL];exact⟨gB 3 _ (Or.inl rfl),aVq,trivial⟩
theorem aQr:nZ.ok:=by
 unfold nZ;rw[NT.ok,okL];exact⟨gB 3 _ (Or.inl rfl),trivial⟩
theorem tE:dY nIf=false/\dY wA=false/\dY nZ=false:=by
 have i1:aR 1=2:=iL (by decide) (by decide);have i2:aR 2=3:=iL (by decide) (by decide);refine⟨?_,?_,?_⟩<;>simp[dY,nIf,wA,nZ,aAw,bZ,bL,fN,i1,i2]
theorem aQq:dG wA=0:=cZ.2 ⟨tE.2.1,aTt⟩
theorem aMt:dG nZ=0:=cZ.2 ⟨tE.2.2,aQr⟩
theorem aXc:Lib.itoa 1 = [49]:=aEa (k:=1) (by decide)
theorem aXd:Lib.itoa 2 = [50]:=aEa (k:=2) (by decide)
theorem aFq:wA.sorted = [[120]]:=by
 have:wA.flags = [⟨#[120]⟩]:=by simp[wA,nIf,aAw,NT.flags,bR]
 unfold NT.sorted;rw[this,List.map_cons,List.map_nil,List.mergeSort_singleton];rfl
theorem aBp:nZ.sorted = []:=by
 have:nZ.flags = []:=by simp[nZ,NT.flags,bR]
 unfold NT.sorted;rw[this,List.map_nil,List.mergeSort_nil];exact kQ
theorem aBa:aP [97]=true:=by decide
theorem aVr:aP [98]=true:=by decide
end Go.Proofs.YthjlcjdlelkkdaaGreatDoor
namespace Go.Proofs.YthjlcjdlelkkdaaGreatDoor
open Go.RowKit
end Go.Proofs.YthjlcjdlelkkdaaGreatDoor
namespace Go.Proofs.YthjlcjdlelkkdaaGreatDoor
def nB1:NT:= .node 3 At.zero ⟨#[]⟩ false [aAw 98]
def aMk:NT:= .node 2 ⟨⟨#[99]⟩,0,0,0,⟨#[]⟩,false⟩ ⟨#[]⟩ false []
def wB:NT:= .node 3 At.zero ⟨#[]⟩ false [aMk]
def q0:PK:=⟨⟨#[97]⟩,1,1,[],nB1⟩
def q1:PK:=⟨⟨#[97]⟩,2,1,[⟨#[120]⟩],wA⟩
def q2:PK:=⟨⟨#[98]⟩,1,1,[],wB⟩
def q3:PK:=⟨⟨#[99]⟩,1,1,[],nZ⟩
def bG:List PK:= [q0,q1,q2,q3]
def F3:List UInt8:= [97,32,49,32,49,32,32,40,32,98,32,41,10,97,32,50,32,49,32,120,32,40,32,120,63,32,40,32,98,32,41,32,41,10,98,32,49,32,49,32,32,40,32,33,99,32,41,10,99,32,49,32,49,32,32,40,32,41,10]
theorem aTm:aMk.ok:=by
 unfold aMk;rw[NT.ok];have h:aP [99]=true:=by decide
 exact⟨mM 2 _ (Or.inr rfl) (by show chk [99] 0 0 0 [] false=0;unfold chk;rw[if_neg (by simp[h]),if_neg (by decide),if_neg (by decide)]),trivial⟩
theorem aVp:nB1.ok:=by
 unfold nB1;rw[NT.ok,okL,okL];exact⟨gB 3 _ (Or.inl rfl),aKf (by decide),trivial⟩
theorem aTv:wB.ok:=by
 unfold wB;rw[NT.ok,okL,okL];exact⟨gB 3 _ (Or.inl rfl),aTm,trivial⟩
theorem rO:dY nB1=false/\dY wB=false:=by
 have i1:aR 1=2:=iL (by decide) (by decide);refine⟨?_,?_⟩<;>simp[dY,nB1,wB,aMk,aAw,bZ,bL,fN,i1]
theorem aTu:dG nB1=0:=cZ.2 ⟨rO.1,aVp⟩
theorem aQs:dG wB=0:=cZ.2 ⟨rO.2,aTv⟩
theorem aIz:pP bG=F3:=by
 simp[pP,nV,bG,q0,q1,q2,q3,nB1,wB,aMk,wA,nIf,nZ,NT.text,aAw,NT.words,bV,fS,cI,aXc,aXd,F3,Lib.join]
theorem aIn:nB1.sorted = []:=by
 have:nB1.flags = []:=by simp[nB1,aAw,NT.flags,bR]
 unfold NT.sorted;rw[this,List.map_nil,List.mergeSort_nil];exact kQ
theorem aFr:wB.sorted = []:=by
 have:wB.flags = []:=by simp[wB,aMk,NT.flags,bR]
 unfold NT.sorted;rw[this,List.map_nil,List.mergeSort_nil];exact kQ
theorem aPr:cJ [(⟨#[120]⟩:ByteArray)]=0:=by
 have n1:aP [120]=true:=by decide
 simp[cJ,aM,flE,n1]
theorem aVl:fB [(⟨#[120]⟩:ByteArray)] [120]=true:=by unfold fB;rw[Lib.containsS_iff];simp
theorem aVs:aP [99]=true:=by decide
theorem aVe:dV q0=0:=by
 have hk:nB1.kind=3:=rfl;simp[dV,q0,aBa,cJ,aM,eH,hk,aTu,aIn]
theorem aVf:dV q1=0:=by
 have hk:wA.kind=3:=rfl;simp[dV,q1,aBa,aPr,eH,hk,aQq,aFq,aVl]
theorem aVg:dV q2=0:=by
 have hk:wB.kind=3:=rfl;simp[dV,q2,aVr,cJ,aM,eH,hk,aQs,aFr]
theorem aVh:dV q3=0:=by
 have hk:nZ.kind=3:=rfl;simp[dV,q3,aVs,cJ,aM,eH,hk,aMt,aBp]
theorem aLk:dJ q1 q0=true:=by simp[dJ,q0,q1]
theorem aLl:dJ q2 q1=true:=by
 have h1:leS ⟨#[98]⟩ ⟨#[97]⟩=false:=by unfold leS;rw[Lib.toList_data,Lib.toList_data];decide
 simp[dJ,q1,q2,h1]
theorem aLm:dJ q3 q2=true:=by
 have h1:leS ⟨#[99]⟩ ⟨#[98]⟩=false:=by unfold leS;rw[Lib.toList_data,Lib.toList_data];decide
 simp[dJ,q3,q2,h1]
theorem uP:cA bG=0:=by
 have s1:bI bG 1=0:=rfl;have s2:bI bG 2=1:=rfl;have s3:bI bG 3=1:=rfl;have s4:bI bG 4=1:=rfl;have h8:¬8<bG.length:=by decide
 have hl:bG.length=4:=rfl;unfold cA;rw[if_neg h8];have e0:pkE bG 0=0:=by unfold pkE;rw[show bG.getD 0 PK.zero=q0 from rfl,aVe];simp[s1,hl]
 have e1:pkE bG 1=0:=by unfold pkE;rw[show bG.getD 1 PK.zero=q1 from rfl,show bG.getD (1-1) PK.zero=q0 from rfl,aVf,aLk];simp[s2,hl]
 have e2:pkE bG 2=0:=by unfold pkE;rw[show bG.getD 2 PK.zero=q2 from rfl,show bG.getD (2-1) PK.zero=q1 from rfl,aVg,aLl];simp[s3,hl]
 have e3:pkE bG 3=0:=by unfold pkE;rw[show bG.getD 3 PK.zero=q3 from rfl,show bG.getD (3-1) PK.zero=q2 from rfl,aVh,aLm];simp[s4,hl]
 rw[hl];simp[aM,e0,e1,e2,e3]
theorem aSr:rdT F3=(0,0,bG):=by
 rw[<-aIz];exact aRd uP (by rw[aIz];decide)
def atA:At:=⟨⟨#[97]⟩,0,0,0,⟨#[]⟩,false⟩
end Go.Proofs.YthjlcjdlelkkdaaGreatDoor
namespace Go.Proofs.YthjlcjdlelkkdaaGreatDoor
open Go.RowKit Go.Sort
theorem aIj(w:World)(hE:Env w)(hM:lN w):
  Calls Tryz.prog 20 #[] w fun e w'=> ∃v,e=.returned (.tuple #[.agg #[v],.bool true])/\aZ (fun b=>w.heap.size<=b/\b<w'.heap.size) w' bG v/\aA w w'/\lM v:=by
 have HE:=hid hE;have HM:=hid hM;clear hE hM;go_enter Tryz.func20,Tryz.ntmps20;go_wp2_with fail;refine bK (fun W'=>aA w W'/\aE w.heap.size 24 (.slice none 0 0) W') ⟨aA.alloc _ _,aE.new _ _ _⟩ ?_;rintro W0 ⟨k0,v0⟩;refine (xC _ W0 (HE.out.keep k0) (HM.out.keep k0)).mono ?_;rintro e w1 ⟨v1,rfl,-,a1,k1,a0⟩;have a5:rdT (ByteArray.mk #[97,32,49,32,49,32,32,40,32,98,32,41,10,97,32,50,32,49,32,120,32,40,32,120,63,32,40,32,98,32,41,32,41,10,98,32,49,32,49,32,32,40,32,33,99,32,41,10,99,32,49,32,49,32,32,40,32,41,10]).data.toList=(0,0,bG):=aSr;rw[a5] at a1 |-
 simp only at a1 |-
 obtain⟨p1,c1,rfl,-⟩:=a1.len;have a2:bG.length=4:=rfl;rw[a2] at a1 a0 |-
 have a4:=hid a0;clear a0;have b1:=k0.size;have a7:w.heap.size+1<=W0.heap.size:=v0.facts.2.2;have a9:Hid (aZ (fun b=>w.heap.size+1<=b/\b<w1.heap.size) w1 bG (.slice p1 4 c1)):=aZ.mono (fun _ _=>rfl) (fun b hb=>⟨U2 a7 hb.1,hb.2⟩) a1;have K1:=hid (k0.trans k1);have V1:=hid (v0.keep k1 v0.facts.2.2);have a8:w.heap.size+1<=w1.heap.size:=by have:=V1.out.facts.2.2;omega
 clear k0 v0 a1 k1 a5 a2;go_upto_region 2 with fail;refine bE (fun W'=>aA w W'/\aA w1 W'/\aE w.heap.size 24 (.slice none 0 0) W'/\aE w1.heap.size 24 (.slice p1 4 c1) W') ⟨K1.out.alloc' _,aA.alloc _ _,V1.out.keep (aA.alloc _ _) V1.out.facts.2.2,aE.new _ _ _⟩ ?_;rintro W2 ⟨k2,a6,v2,t2⟩;have K2:=hid k2;have a3:=hid a6;have V2:=hid v2;obtain⟨g1,z1,l1⟩:=v2.facts;obtain⟨g2,z2,l2⟩:=t2.facts;clear k2 a6 v2 t2;go_region
 have v3:=V2.out.set (.slice p1 4 c1);have HQ:Hid (aE w.heap.size 24 (.slice p1 4 c1) (W2.setCell ⟨w.heap.size,0,none⟩ (.slice p1 4 c1)).drew/\aA w (W2.setCell ⟨w.heap.size,0,none⟩ (.slice p1 4 c1)).drew/\aZ (fun b=>w.heap.size<=b/\b<(W2.setCell ⟨w.heap.size,0,none⟩ (.slice p1 4 c1)).drew.heap.size) (W2.setCell ⟨w.heap.size,0,none⟩ (.slice p1 4 c1)).drew bG (.slice p1 4 c1)):=by
  have ap:=kV w.heap.size W2 (.slice p1 4 c1);have hz:W2.heap.size<=(W2.setCell ⟨w.heap.size,0,none⟩ (.slice p1 4 c1)).heap.size:=ap.size;refine⟨v3.keep (aEe _) v3.facts.2.2,aA.trans (show aA w (W2.setCell ⟨w.heap.size,0,none⟩ (.slice p1 4 c1)) from Below.trans K2.out (ap.below K2.out.size fun b hb e=>by have:b=w.heap.size:=e;omega)) (aEe _),?_⟩;refine aZ.mono (fun p hp=>?_) (fun b hb=>⟨by omega,R8 hb.2 (U2 a3.out.size hz)⟩) a9.out;exact (ap.cell p (R8 hp.2 a3.out.size) (fun e=>by have e':p.block=w.heap.size:=e;have:=hp.1;omega)).trans (a3.out.cell (p:=p) hp.2)
 clear v3 g1 z1 g2 z2;go_wp2_with fail;refine cV (v:= .tuple #[.agg #[.slice p1 4 c1],.bool true]) (fun W'=>aE w.heap.size 24 (.slice p1 4 c1) W'/\aA w W'/\aZ (fun b=>w.heap.size<=b/\b<W'.heap.size) W' bG (.slice p1 4 c1)) ?_ rfl ?_
 ·exact HQ.out
 rintro W ⟨hb,hk,hp⟩;obtain⟨b0,-,-⟩:=hb.facts;exact⟨by simp[results,Tryz.results20,go_sem,b0],_,rfl,hp,hk,a4.out⟩
theorem lP{W:World}{n:Nat}(h:W.heap.size=n)(cs:Array Value)(T:TypeId):aL n cs (W.alloc (.cells cs T)):=h ▸ aL.new W cs T
def inW(W:World)(b:Nat):Prop:=b<W.heap.size
end Go.Proofs.YthjlcjdlelkkdaaGreatDoor
namespace Go.Proofs.YthjlcjdlelkkdaaGreatDoor
open Go.RowKit
mutual
def szN:NT->Nat->Int × Int
 | .node _ _ _ _ kids,g=>match g with
  | 0=>(0,99)
  | g+1=>szK kids g 1 0
def szK:List NT->Nat->Int->Int->Int × Int
 | [],_,n,d=>(n,d+1)
 | t :: ts,g,n,d=>if n+(szN t g).1 > 100\/(szN t g).2 > 50 then (101,99) else szK ts g (n+(szN t g).1) (max d (szN t g).2)
end
mutual
theorem qE:∀(t:NT) (g:Nat),0<=(szN t g).1/\(szN t g).1<=101/\0<=(szN t g).2/\(szN t g).2<=99
 | .node k a fl nt kids,0=>by rw[szN];decide
 | .node k a fl nt kids,g+1=>by rw[szN];exact xA kids g 1 0 (by decide) (by decide) (by decide) (by decide)
theorem xA:∀(ts:List NT) (g:Nat) (n d:Int),0<=n->n<=100->0<=d->d<=50->0<=(szK ts g n d).1/\(szK ts g n d).1<=101/\0<=(szK ts g n d).2/\(szK ts g n d).2<=99
 | [],g,n,d,h1,h2,h3,h4=>by rw[szK];simp only;omega
 | t :: ts,g,n,d,h1,h2,h3,h4=>by
  have hb:=qE t g;rw[szK];split
  ·simp only;omega
  ·exact xA ts g _ _ (by omega) (by omega) (by omega) (by omega)
end
mutual
theorem aFw:∀(t:NT) (g:Nat),g<=50->(t.ht<=g/\t.size<=100->szN t g=((t.size:Int),(t.ht:Int)))/\(¬(t.ht<=g/\t.size<=100)->(szN t g).2=99)
 | .node k a fl nt kids,0,_=>by
  rw[szN,NT.ht];exact⟨fun h=>absurd h.1 (by omega),fun _=>rfl⟩
 | .node k a fl nt kids,g+1,hg=>by
  rw[szN,NT.ht,NT.size];obtain⟨h1,h2⟩:=aFv kids g 1 0 (by omega) (by omega) (by omega) (by omega) (by omega);refine⟨fun h=>?_,fun h=>h2 (by omega)⟩;rw[h1 (by omega)];refine Prod.ext ?_ ?_
  ·simp
  ·simp;omega
theorem aFv:∀(ts:List NT) (g:Nat) (n d:Int),g<=50->0<=d->d<=50->0<=n->n<=100->(htL ts<=g/\n+bA ts<=100->szK ts g n d=(n+bA ts,max d (htL ts)+1))/\(¬(htL ts<=g/\n+bA ts<=100)->(szK ts g n d).2=99)
 | [],g,n,d,hg,hd,hd2,hn0,hn=>by
  rw[szK,htL,bA];refine⟨fun _=>Prod.ext ?_ ?_,fun h=>?_⟩
  ·simp
  ·simp;omega
  ·exact absurd ⟨Nat.zero_le _,by simp;omega⟩ h
 | t :: ts,g,n,d,hg,hd,hd2,hn0,hn=>by
  rw[szK,htL,bA];obtain⟨h1,h2⟩:=aFw t g hg;by_cases hok:t.ht<=g/\t.size<=100
  ·have e:=h1 hok;rw[e];simp only;by_cases hbig:n+(t.size:Int) > 100\/(t.ht:Int) > 50
   ·rw[if_pos hbig];exact⟨fun h=>by omega,fun _=>rfl⟩
   ·rw[if_neg hbig];obtain⟨h3,h4⟩:=aFv ts g (n+t.size) (max d t.ht) hg (by omega) (by omega) (by omega) (by omega);refine⟨fun h=>?_,fun h=>h4 (by omega)⟩;rw[h3 (by omega)];refine Prod.ext ?_ ?_
    ·simp;omega
    ·simp;omega
  ·have e:=h2 hok;rw[if_pos (Or.inr (by rw[e];decide))];exact⟨fun h=>absurd ⟨by omega,by omega⟩ hok,fun _=>rfl⟩
end
mutual
theorem xK:∀(t:NT) (s d:Int),1<=d->0<=s->s+t.size<=20->d+t.ht<=5->bZ aR fN s t d=(s+t.size,true)
 | .node k a fl nt kids,s,d,hd,hs,h1,h2=>by
  rw[NT.size] at h1 |-
  rw[NT.ht] at h2;have e:(fN s (.node k a fl nt kids) d).2=true:=by simp[fN];omega
  rw[bZ,if_pos e,iL (by omega) (by omega)];show bL aR fN (s+1) kids (d+1)=_;rw[vO kids (s+1) (d+1) (by omega) (by omega) (by omega) (by omega)];refine Prod.ext ?_ rfl;show s+1+(bA kids:Int)=s+((1+bA kids:Nat):Int);omega
theorem vO:∀(ts:List NT) (s d:Int),1<=d->0<=s->s+bA ts<=20->d+htL ts<=5->bL aR fN s ts d=(s+bA ts,true)
 | [],s,d,_,_,_,_=>by rw[bL,bA];simp
 | t :: ts,s,d,hd,hs,h1,h2=>by
  rw[bA] at h1 |-
  rw[htL] at h2;rw[bL,xK t s d hd hs (by omega) (by omega),if_pos rfl,vO ts _ d hd (by simp only;omega) (by simp only;omega) (by omega)];refine Prod.ext ?_ rfl;show s+(t.size:Int)+(bA ts:Int)=s+((t.size+bA ts:Nat):Int);omega
end
theorem aFn(t:NT):((szN t 4).1 > 20\/(szN t 4).2 > 4)↔dY t=true:=by
 obtain⟨h1,h2⟩:=aFw t 4 (by omega);by_cases hs:t.size<=20/\t.ht<=4
 ·rw[h1 (by omega)];have:dY t=false:=by
   unfold dY;rw[xK t 0 1 (by omega) (by omega) (by omega) (by omega)];rfl
  rw[this];simp only[Bool.false_eq_true,iff_false];omega
 ·have:dY t=true:=by
   cases h:dY t
   ·exact absurd (gQ h) hs
   ·rfl
  rw[this];simp only[iff_true];by_cases hok:t.ht<=4/\t.size<=100
  ·rw[h1 hok];simp only;omega
  ·right;rw[h2 hok];decide
theorem aRv{g:Nat}{n d:Int}{ts:List NT}{i:Nat}(h:i<ts.length):szK (ts.drop i) g n d=if n+(szN ts[i] g).1 > 100\/(szN ts[i] g).2 > 50 then (101,99) else szK (ts.drop (i+1)) g (n+(szN ts[i] g).1) (max d (szN ts[i] g).2):=by
 rw[Z5 h,szK]
theorem aNq(S:Nat->Prop):∀(m:Nat) (t:NT),t.size<=m->∀(g:Nat) (cs:List Value) (w:World),g<=4->(∀b,S b->b<w.heap.size)->aH S w t cs->
  Calls Tryz.prog 81 #[.agg cs.toArray,.int .i64 g] w fun e w'=>e=.returned (.tuple #[.int .i64 (szN t g).1,.int .i64 (szN t g).2])/\aA w w':=by
 intro m
 induction m with
 | zero=>
  rintro⟨k,a,fl,nt,kids⟩ hm;rw[NT.size] at hm;omega
 | succ m ih=>
  rintro⟨k,a,fl,nt,kids⟩ hm g cs w hg hS hn;rw[NT.size] at hm;rw[aH] at hn;obtain⟨kp,kc,rfl,b9,d1,a3⟩:=hn;have K0:=hid (aA.alloc w (.cells #[.int .i64 k,.string a.n,.int .i64 a.op,.int .i64 a.v,.int .i64 a.sl,.string a.f,.bool a.on,.string fl,.bool nt,.slice kp kids.length kc] 96));have b0:Hid (aL w.heap.size #[.int .i64 k,.string a.n,.int .i64 a.op,.int .i64 a.v,.int .i64 a.sl,.string a.f,.bool a.on,.string fl,.bool nt,.slice kp kids.length kc] (w.alloc (.cells #[.int .i64 k,.string a.n,.int .i64 a.op,.int .i64 a.v,.int .i64 a.sl,.string a.f,.bool a.on,.string fl,.bool nt,.slice kp kids.length kc] 96))):=aL.new w #[.int .i64 k,.string a.n,.int .i64 a.op,.int .i64 a.v,.int .i64 a.sl,.string a.f,.bool a.on,.string fl,.bool nt,.slice kp kids.length kc] 96;have HK:=hid a3;have d3:=hid ih;clear ih a3;cases g with
  | zero=>
   go_enter Tryz.func81,Tryz.ntmps81;go_wp2_with fail;go_ret2
   exact⟨rfl,K0.out⟩
  | succ g=>
   have HR:Hid (szN (.node k a fl nt kids) (g+1)=szK kids g 1 0):=by show _=_;rw[szN]
   go_enter Tryz.func81,Tryz.ntmps81;go_upto_region 4 with fail;generalize w.alloc (.cells #[.int .i64 k,.string a.n,.int .i64 a.op,.int .i64 a.v,.int .i64 a.sl,.string a.f,.bool a.on,.string fl,.bool nt,.slice kp kids.length kc] 96)=W0 at K0 b0 |-
   have b8:=b0.out.2;have d6:=b0.out.1;go_wp2_with fail;clear b8;go_loopg [4,5,15] kids.length (fun gk vn vd i wr=> ∃j:Nat,j+gk=kids.length/\i=.int .i64 j/\∃n d:Int,vn=.int .i64 n/\vd=.int .i64 d/\0<=n/\n<=100/\0<=d/\d<=50/\szK kids g 1 0=szK (kids.drop j) g n d/\aA w wr);case atStart=>exact⟨0,by simp,rfl,1,0,rfl,rfl,by decide,by decide,by decide,by decide,by simp,K0.out⟩
   case round=>
    obtain⟨j,hj,rfl,n,d,rfl,rfl,d7,d4,d8,d5,b4,b5⟩:=hrel;have b7:=hid b4;have a5:=hid b5;clear b4 b5;by_cases hlt:j<kids.length
    ·obtain⟨p,cs,hp,d2,a2,a4⟩:=dQ HK.out j hlt;have a9:∀q:Addr,S q.block->wr.cell? q=w.cell? q:=fun q hq=>a5.out.cell (hS _ hq);have a0:aH S wr kids[j] cs:=aH.mono a9 (fun _ h=>h) _ _ a4;have HN:=hid a0;have a1:∀m v,cs[m]? = some v->wr.cell? ((p.add (j*10)).add m)=some v:=fun m v hv=>by
      rw[a9 _ (by rw[bW,bW];exact d2)];have:=a2 m v hv;rwa [Z6] at this
     have b2:∀b,S b->b<wr.heap.size:=fun b hb=>R8 (hS b hb) a5.out.size;have hb:=qE kids[j] g;have b3:=aRv (g:=g) (n:=n) (d:=d) hlt;have a6:=hid (b7.out.trans b3);have b6:=d3.out kids[j] (by have:=fA kids j hlt;omega) g;clear a2 a4 a9 b3;subst hp;cases hkid:kids[j] with
     | node k' a' fl' nt' kids'=>
     rw[hkid,aH] at a0;obtain⟨a8,a7,rfl,-,-,-⟩:=a0;obtain⟨c0,c1,c2,c3,c4,c5,c6,c7,c8,c9⟩:=iF a1;clear a1 hkid;have K2:=hid (aA.alloc wr (.cells #[.int .i64 k',.string a'.n,.int .i64 a'.op,.int .i64 a'.v,.int .i64 a'.sl,.string a'.f,.bool a'.on,.string fl',.bool nt',.slice a8 kids'.length a7] 96));have d0:Hid (aH S (wr.alloc (.cells #[.int .i64 k',.string a'.n,.int .i64 a'.op,.int .i64 a'.v,.int .i64 a'.sl,.string a'.f,.bool a'.on,.string fl',.bool nt',.slice a8 kids'.length a7] 96)) kids[j] [.int .i64 k',.string a'.n,.int .i64 a'.op,.int .i64 a'.v,.int .i64 a'.sl,.string a'.f,.bool a'.on,.string fl',.bool nt',.slice a8 kids'.length a7]):=HN.out.keep b2 K2.out;have b1:=hid (b6 [.int .i64 k',.string a'.n,.int .i64 a'.op,.int .i64 a'.v,.int .i64 a'.sl,.string a'.f,.bool a'.on,.string fl',.bool nt',.slice a8 kids'.length a7] _ (by omega) (fun b hb=>R8 (b2 b hb) K2.out.size) d0.out);clear b6;generalize szN kids[j] g=r at hb a6 b1;obtain⟨r1,r2⟩:=r;simp only at hb;go_wp2_with fail;clear c0 c1 c2 c3 c4 c5 c6 c7 c8 c9;refine b1.out.mono ?_;rintro e w3 ⟨rfl,k3⟩;have K3:=hid (a5.out.trans (K2.out.trans k3));clear k3;by_cases hbig:n+r1 > 100
     ·have HX:Hid (szK kids g 1 0=(101,99)):=by show _=_;rw[a6.out,if_pos (Or.inl hbig)]
      go_wp2_with fail;go_ret2
      exact⟨by rw[HR.out,HX.out];rfl,K3.out⟩
     ·by_cases hdeep:r2 > 50
      ·have HX:Hid (szK kids g 1 0=(101,99)):=by show _=_;rw[a6.out,if_pos (Or.inr hdeep)]
       go_wp2_with fail;go_ret2
       exact⟨by rw[HR.out,HX.out];rfl,K3.out⟩
      ·have HX:Hid (szK kids g 1 0=szK (kids.drop (j+1)) g (n+r1) (max d r2)):=by show _=_;rw[a6.out,if_neg (by omega)]
       go_wp2_with fail;go_roundg (kids.length-(j+1));case rel=>exact⟨j+1,by omega,by go_num,n+r1,max d r2,rfl,rfl,by omega,by omega,by omega,by omega,HX.out,K3.out⟩
       case measure=>omega
    ·have HX:Hid (szK kids g 1 0=(n,d+1)):=by show _=_;rw[b7.out,List.drop_eq_nil_of_le (by omega),szK]
     go_wp2_with fail;go_ret2
     exact⟨by rw[HR.out,HX.out];rfl,a5.out⟩
end Go.Proofs.YthjlcjdlelkkdaaGreatDoor
namespace Go.Proofs.YthjlcjdlelkkdaaGreatDoor
open Go.RowKit
end Go.Proofs.YthjlcjdlelkkdaaGreatDoor
namespace Go.Proofs.YthjlcjdlelkkdaaGreatDoor
open Go.RowKit
theorem uX{α:Type}{xs ys:List α}(hl:xs.length=ys.length)(h:∀i,i<xs.length->xs[i]? = ys[i]?):xs=ys:=by
 refine List.ext_getElem? fun i=>?_;by_cases hi:i<xs.length
 ·exact h i hi
 ·rw[A9 (by omega),A9 (by omega)]
theorem aTe(S:Nat->Prop)(xs ys:List Bool)(v1 v2:Value)(w:World)(hS:∀b,S b->b<w.heap.size)(h1:bC S w xs v1)(h2:bC S w ys v2):
  Calls Tryz.prog 56 #[v1,v2] w fun e w'=> ∃ β:Bool,e=.returned (.bool β)/\(β=true↔xs=ys)/\aA w w':=by
 have H1:=hid h1;have H2:=hid h2;obtain⟨p1,c1,rfl,b7,-⟩:=h1;obtain⟨p2,c2,rfl,b9,-⟩:=h2;by_cases hl:xs.length=ys.length
 ·have HL:=hid hl;have HW:Hid (aA w w):=aA.refl _;rw[<-hl];clear hl;go_enter Tryz.func56,Tryz.ntmps56;go_wp2_with fail;go_loopg [13] xs.length (fun gk i wr=> ∃j:Nat,j+gk=xs.length/\i=.int .i64 j/\(∀i,i<j->xs[i]? = ys[i]?)/\aA w wr);case atStart=>exact⟨0,by simp,rfl,fun i hi=>absurd hi (Q5 _),HW.out⟩
  case round=>
   obtain⟨j,hj,rfl,a9,a4⟩:=hrel;have a0:=hid a4;have a6:=hid a9;clear a4 a9;by_cases hlt:j<xs.length
   ·obtain⟨q1,d1,b4,-,a5⟩:=H1.out.keep hS a0.out;obtain⟨q2,d2,a7,-,a1⟩:=H2.out.keep hS a0.out;rw[<-HL.out] at a7 a1;cases b4;cases a7;obtain⟨b1,o1,rfl,b5,a8⟩:=a5 (by omega);obtain⟨b2,o2,rfl,c0,a3⟩:=a1 (by omega);have a2:j<ys.length:=by rw[<-HL.out];exact hlt
    have e1:xs[j]? = some xs[j]:=Q9 hlt;have e2:ys[j]? = some ys[j]:=Q9 a2;have g1:=a8 j _ e1;have g2:=a3 j _ e2;have E1:=hid e1;have E2:=hid e2;clear a8 a3 a5 a1 e1 e2;generalize xs[j]=x at g1 E1;generalize ys[j]=y at g2 E2;by_cases hxy:x=y
    ·subst hxy;have HN:Hid (∀i,i<j+1->xs[i]? = ys[i]?):=fun i hi=>by
      by_cases e:i=j
      ·subst e;rw[E1.out,E2.out]
      ·exact a6.out i (by omega)
     go_wp2_with fail;go_quiet (fail)
     go_wp2_with fail;go_roundg (xs.length-(j+1));case rel=>exact⟨j+1,by omega,by go_num,HN.out,aA.drewN a0.out _⟩
     case measure=>omega
    ·have b3:(x==y)=false:=by simp[hxy]
     have b0:(x != y)=true:=by simp[hxy]
     have HF:Hid (¬xs=ys):=fun e=>hxy (by have h1:=E1.out;rw[e,E2.out] at h1;exact (U6 h1).symm);clear hxy;go_wp2_with fail;go_quiet (fail)
     go_wp2_with fail;go_ret;exact⟨false,rfl,⟨fun h=>Bool.noConfusion h,fun h=>absurd h HF.out⟩,aA.drewN a0.out _⟩
   ·have HF:Hid (xs=ys):=uX HL.out fun i hi=>a6.out i (by omega);go_wp2_with fail;go_ret;exact⟨true,rfl,⟨fun _=>HF.out,fun _=>rfl⟩,a0.out⟩
 ·have b6:((xs.length:Int)==(ys.length:Int))=false:=Q6.2 fun e=>hl (by omega);have b8:((xs.length:Int) != (ys.length:Int))=true:=bne_iff_ne.2 fun e=>hl (by omega);have HF:Hid (¬xs=ys):=fun e=>hl (by rw[e]);clear hl;go_enter Tryz.func56,Tryz.ntmps56;go_wp2_with fail;go_ret;exact⟨false,rfl,⟨fun h=>Bool.noConfusion h,fun h=>absurd h HF.out⟩,aA.refl _⟩
theorem aGz(args:Array Value)(w:World):(callFunc 24 args).run Tryz.prog w=.ok (.enter 24 args) w:=enters_of Tryz.func24 (by kernel_rfl) rfl args w
theorem aIg(S:Nat->Prop)(x y:MB)(v1 v2:Value)(w:World)(hS:∀b,S b->b<w.heap.size)(h1:bC S w x.on v1)(h2:bC S w y.on v2):
  Calls Tryz.prog 24 #[.agg #[.int .i64 x.pl,v1],.agg #[.int .i64 y.pl,v2]] w fun e w'=> ∃ β:Bool,e=.returned (.bool β)/\(β=true↔x=y)/\aA w w':=by
 have H1:=hid h1;have H2:=hid h2;obtain⟨p1,c1,rfl,-,-⟩:=h1;obtain⟨p2,c2,rfl,-,-⟩:=h2;rcases x with ⟨xp,xs⟩;rcases y with ⟨yp,ys⟩;simp only at H1 H2 |-
 by_cases hp:xp=yp
 ·subst hp;go_enter Tryz.func24,Tryz.ntmps24;go_wp2_with fail;refine bK (fun W'=>aA w W') ((aA.alloc _ _).alloc' _) ?_;intro W2 k2;refine (aTe S xs ys _ _ W2 (fun b hb=>R8 (hS b hb) k2.size) (H1.out.keep hS k2) (H2.out.keep hS k2)).mono ?_;rintro e w3 ⟨β,rfl,hβ,k3⟩;have K3:=hid (k2.trans k3);have HB:=hid hβ;clear k2 k3 hβ;go_wp2_with fail;go_ret;exact⟨β,rfl,⟨fun h=>by rw[HB.out.1 h],fun h=>HB.out.2 (by cases h;rfl)⟩,K3.out⟩
 ·have a0:(xp==yp)=false:=by simp[hp]
  have HF:Hid (¬(⟨xp,xs⟩:MB)=⟨yp,ys⟩):=fun e=>hp (by cases e;rfl);have HW:Hid (aA w ((w.alloc (.cells #[.int .i64 xp,.slice p1 xs.length c1] 65)).alloc (.cells #[.int .i64 yp,.slice p2 ys.length c2] 65))):=(aA.alloc _ _).alloc' _;clear hp;go_enter Tryz.func24,Tryz.ntmps24;go_wp2_with fail;go_ret;exact⟨false,rfl,⟨fun h=>Bool.noConfusion h,fun h=>absurd h HF.out⟩,HW.out⟩
theorem aDl(S:Nat->Prop)(xs ys:List MB)(v1 v2:Value)(w:World)(hS:∀b,S b->b<w.heap.size)(h1:cD S w xs v1)(h2:cD S w ys v2):
  Calls Tryz.prog 23 #[v1,v2,.func (.func 24) #[] #[]] w fun e w'=> ∃ β:Bool,e=.returned (.bool β)/\(β=true↔xs=ys)/\aA w w':=by
 have H1:=hid h1;have H2:=hid h2;obtain⟨p1,c1,rfl,⟨-,c8⟩,-⟩:=h1;obtain⟨p2,c2,rfl,⟨-,d0⟩,-⟩:=h2;have b8:=aGz;by_cases hl:xs.length=ys.length
 ·have HL:=hid hl;have HW:Hid (aA w w):=aA.refl _;rw[<-hl];clear hl;go_enter Tryz.func23,Tryz.ntmps23;go_wp2_with fail;go_loopg [17] xs.length (fun gk i wr=> ∃j:Nat,j+gk=xs.length/\i=.int .i64 j/\(∀i,i<j->xs[i]? = ys[i]?)/\aA w wr);case atStart=>exact⟨0,by simp,rfl,fun i hi=>absurd hi (Q5 _),HW.out⟩
  case round=>
   obtain⟨j,hj,rfl,b4,a7⟩:=hrel;have a1:=hid a7;have a9:=hid b4;clear a7 b4;by_cases hlt:j<xs.length
   ·obtain⟨q1,d1,c0,-,a8⟩:=H1.out.keep hS a1.out;obtain⟨q2,d2,b0,-,a4⟩:=H2.out.keep hS a1.out;rw[<-HL.out] at b0 a4;cases c0;cases b0;obtain⟨b1,o1,rfl,b5,b3⟩:=a8 (by omega);obtain⟨b2,o2,rfl,b9,a6⟩:=a4 (by omega);have a5:j<ys.length:=by rw[<-HL.out];exact hlt
    have e1:xs[j]? = some xs[j]:=Q9 hlt;have e2:ys[j]? = some ys[j]:=Q9 a5;obtain⟨d4,g1,b6,a2⟩:=b3 j _ e1;obtain⟨d3,g2,c5,a0⟩:=a6 j _ e2;have E1:=hid e1;have E2:=hid e2;have c4:b1<wr.heap.size:=R8 (hS _ b5) a1.out.size;have c3:b2<wr.heap.size:=R8 (hS _ b9) a1.out.size;generalize xs[j]=x at g1 E1 a2;generalize ys[j]=y at g2 E2 a0;have c6:=hid a2;have b7:=hid a0;obtain⟨r1,s1,rfl,-,-⟩:=a2;obtain⟨r2,s2,rfl,-,-⟩:=a0;clear b3 a6 a8 a4 e1 e2;go_wp2_with fail;refine bK (fun W'=>aA wr W') ((aA.alloc _ _).alloc' _) ?_;intro W2 k2;have a3:∀b,S b->b<wr.heap.size:=fun b hb=>R8 (hS b hb) a1.out.size;refine (aIg S x y _ _ W2 (fun b hb=>R8 (a3 b hb) k2.size) (c6.out.keep a3 k2) (b7.out.keep a3 k2)).mono ?_;rintro e w3 ⟨β,rfl,hβ,k3⟩;have K3:=hid (a1.out.trans (k2.trans k3));clear k2 k3 a3 g1 b6 g2 c5;cases β
    ·have HF:Hid (¬xs=ys):=fun e=>Bool.noConfusion (hβ.2 (by have h1:=E1.out;rw[e,E2.out] at h1;exact (U6 h1).symm));clear hβ;go_wp2_with fail;go_ret;exact⟨false,rfl,⟨fun h=>Bool.noConfusion h,fun h=>absurd h HF.out⟩,K3.out⟩
    ·have HN:Hid (∀i,i<j+1->xs[i]? = ys[i]?):=fun i hi=>by
      by_cases e:i=j
      ·subst e;rw[E1.out,E2.out,hβ.1 rfl]
      ·exact a9.out i (by omega)
     clear hβ;go_wp2_with fail;go_roundg (xs.length-(j+1));case rel=>exact⟨j+1,by omega,by go_num,HN.out,K3.out⟩
     case measure=>omega
   ·have HF:Hid (xs=ys):=uX HL.out fun i hi=>a9.out i (by omega);go_wp2_with fail;go_ret;exact⟨true,rfl,⟨fun _=>HF.out,fun _=>rfl⟩,a1.out⟩
 ·have c7:((xs.length:Int)==(ys.length:Int))=false:=Q6.2 fun e=>hl (by omega);have c9:((xs.length:Int) != (ys.length:Int))=true:=bne_iff_ne.2 fun e=>hl (by omega);have HF:Hid (¬xs=ys):=fun e=>hl (by rw[e]);clear hl;go_enter Tryz.func23,Tryz.ntmps23;go_wp2_with fail;go_ret;exact⟨false,rfl,⟨fun h=>Bool.noConfusion h,fun h=>absurd h HF.out⟩,aA.refl _⟩
theorem mV(S:Nat->Prop)(xs ys:List MB)(v1 v2:Value)(w:World)(hS:∀b,S b->b<w.heap.size)(h1:cD S w xs v1)(h2:cD S w ys v2):
  Calls Tryz.prog 9 #[v1,v2] w fun e w'=> ∃ β:Bool,e=.returned (.bool β)/\(β=true↔xs=ys)/\aA w w':=by
 have H1:=hid h1;have H2:=hid h2;clear h1 h2;go_enter Tryz.func9,Tryz.ntmps9;go_wp2_with fail;refine (aDl S xs ys _ _ w hS H1.out H2.out).mono ?_;rintro e w3 ⟨β,rfl,hβ,k3⟩;have K3:=hid k3;have HB:=hid hβ;clear k3 hβ;go_wp2_with fail;go_ret;exact⟨β,rfl,HB.out,K3.out⟩
end Go.Proofs.YthjlcjdlelkkdaaGreatDoor
namespace Go.Proofs.YthjlcjdlelkkdaaGreatDoor
open Go.RowKit Go.Lib
theorem fD.get0{v:Value}{zs:List Int}{w:World}(h:fD v zs w)(hn:0<zs.length):∃g cap,v=.slice (some ⟨g,0,none⟩) zs.length cap/\g<w.heap.size/\(∀j,j<zs.length->w.cell? ⟨g,0+j,none⟩=some (.int .i64 (zs.getD j 0))):=by
 rcases h with ⟨rfl,-⟩ | ⟨g,cap,h1,h2,h3⟩
 ·exact absurd hn (Q5 _)
 ·refine⟨g,cap,h1,h2,fun j hj=>?_⟩;rw[Z6,R0,Q9 hj,Q7];exact h3 j _ (Q9 hj)
theorem xV(v u:Value)(xs ys:List Int)(w:World)(h:fD v xs w)(h':fD u ys w)(hl:xs.length<=2000)(hl':ys.length<=2000):
  Calls Tryz.prog 11 #[v,u] w fun e w'=>e=.returned (.bool (xs==ys))/\∃q,w'=w.drewN q:=by
 obtain⟨q,d,rfl⟩:=h'.len;obtain⟨p,c,rfl⟩:=h.len;by_cases hne:xs.length=ys.length
 ·by_cases h0:xs = []
  ·subst h0;have hy:ys = []:=Y4.1 hne.symm;subst hy;refine (Tryz.slices_Equal_int_empty p q c 0 d w (by omega)).mono ?_;rintro e w' ⟨rfl,rfl⟩;exact⟨rfl,0,rfl⟩
  ·have hp:=List.length_pos_iff.2 h0;obtain⟨g,cap,e1,-,hc⟩:=h.get0 hp;obtain⟨g',a0,e2,-,a1⟩:=h'.get0 (by omega);cases e1;cases e2;refine (Tryz.slices_Equal_int g 0 xs.length c g' 0 ys.length d xs ys w (Y1 _) (Y1 _) (by omega) (by omega) hc a1).mono ?_;rintro e w' ⟨rfl,q,rfl⟩;exact⟨aK (by rw[Z7,Z7]),q,rfl⟩
 ·refine (Tryz.slices_Equal_int_lens p q xs.length c ys.length d w hne).mono ?_;rintro e w' ⟨rfl,rfl⟩;refine⟨aK ?_,0,rfl⟩;symm;exact Q6.2 fun e=>hne (by rw[e])
end Go.Proofs.YthjlcjdlelkkdaaGreatDoor
namespace Go.Proofs.YthjlcjdlelkkdaaGreatDoor
open Go.RowKit
theorem aKj{ps:List PK}{wi:WI}(hok:(aB ps wi).Ok)(h0:∀x∈plI wi.ins,0<=x):(plI wi.ins++cP (plI wi.ins) ps.length).length+bI ps ps.length=(aB ps wi).many:=by
 rw[mQ ps wi h0,A0,Cn.CT.order_len hok,aKx ps wi,List.take_of_length_le (by rw[dC];exact Y1 _)];rfl
end Go.Proofs.YthjlcjdlelkkdaaGreatDoor
namespace Go.Proofs
open Go.Shelf
def Tryz.lays160_ren:Go.Shelf.Ren:=⟨fun | 160=>80 | 232=>110 | 231=>109 | 227=>111 | 234=>113 | 233=>112 | 236=>115 | 235=>114 | 228=>134 | 271=>137 | 151=>136 | 197=>135 | 120=>159 | 152=>158 | 260=>157 | 137=>192 | 119=>193 | 224=>155 | 225=>154 | 217=>153 | 266=>190 | n=>n,fun | 9=>9 | 4=>4 | 3=>3 | 5=>5 | 117=>175 | 116=>174 | 0=>0 | 124=>178 | 21=>21 | 105=>194 | 46=>199 | 119=>248 | 139=>251 | 138=>250 | n=>n,fun | 3=>2 | 4=>3 | n=>n⟩
theorem Tryz.lays160:Go.Proofs.Lays.n160 Tryz.prog Tryz.lays160_ren:= {
 mixed:=by kernel_rfl
 f119:=Tryz.func193.trans (Q0 some (by kernel_rfl))
 f120:=Tryz.func159.trans (Q0 some (by kernel_rfl))
 f137:=Tryz.func192.trans (Q0 some (by kernel_rfl))
 f151:=Tryz.func136.trans (Q0 some (by kernel_rfl))
 f152:=Tryz.func158.trans (Q0 some (by kernel_rfl))
 f160:=Tryz.func80.trans (Q0 some (by kernel_rfl))
 f197:=Tryz.func135.trans (Q0 some (by kernel_rfl))
 f217:=Tryz.func153.trans (Q0 some (by kernel_rfl))
 f224:=Tryz.func155.trans (Q0 some (by kernel_rfl))
 f225:=Tryz.func154.trans (Q0 some (by kernel_rfl))
 f227:=Tryz.func111.trans (Q0 some (by kernel_rfl))
 f228:=Tryz.func134.trans (Q0 some (by kernel_rfl))
 f231:=Tryz.func109.trans (Q0 some (by kernel_rfl))
 f232:=Tryz.func110.trans (Q0 some (by kernel_rfl))
 f233:=Tryz.func112.trans (Q0 some (by kernel_rfl))
 f234:=Tryz.func113.trans (Q0 some (by kernel_rfl))
 f235:=Tryz.func114.trans (Q0 some (by kernel_rfl))
 f236:=Tryz.func115.trans (Q0 some (by kernel_rfl))
 f260:=Tryz.func157.trans (Q0 some (by kernel_rfl))
 f266:=Tryz.func190.trans (Q0 some (by kernel_rfl))
 f271:=Tryz.func137.trans (Q0 some (by kernel_rfl))
 t0:=Tryz.underlying0
 a0:=Tryz.isAgg0
 z0:=Tryz.sizeOf0
 v0:=Tryz.zeroValue0
 t3:=Tryz.underlying3
 a3:=Tryz.isAgg3
 z3:=Tryz.sizeOf3
 v3:=Tryz.zeroValue3
 t4:=Tryz.underlying4
 a4:=Tryz.isAgg4
 z4:=Tryz.sizeOf4
 v4:=Tryz.zeroValue4
 t5:=Tryz.underlying5
 a5:=Tryz.isAgg5
 z5:=Tryz.sizeOf5
 v5:=Tryz.zeroValue5
 t9:=Tryz.underlying9
 a9:=Tryz.isAgg9
 z9:=Tryz.sizeOf9
 v9:=Tryz.zeroValue9
 t21:=Tryz.underlying21
 a21:=Tryz.isAgg21
 z21:=Tryz.sizeOf21
 v21:=Tryz.zeroValue21
 t46:=Tryz.underlying199
 a46:=Tryz.isAgg199
 z46:=Tryz.sizeOf199
 v46:=Tryz.zeroValue199
 t105:=Tryz.underlying194
 a105:=Tryz.isAgg194
 z105:=Tryz.sizeOf194
 v105:=Tryz.zeroValue194
 t116:=Tryz.underlying174
 a116:=Tryz.isAgg174
 z116:=Tryz.sizeOf174
 t117:=Tryz.underlying175
 a117:=Tryz.isAgg175
 z117:=Tryz.sizeOf175
 v117:=Tryz.zeroValue175
 t119:=Tryz.underlying248
 a119:=Tryz.isAgg248
 z119:=Tryz.sizeOf248
 t124:=Tryz.underlying178
 a124:=Tryz.isAgg178
 z124:=Tryz.sizeOf178
 v124:=Tryz.zeroValue178
 t138:=Tryz.underlying250
 a138:=Tryz.isAgg250
 z138:=Tryz.sizeOf250
 v138:=Tryz.zeroValue250
 t139:=Tryz.underlying251
 a139:=Tryz.isAgg251
 z139:=Tryz.sizeOf251
 v139:=Tryz.zeroValue251
 g3:=by kernel_rfl
 g4:=by kernel_rfl }
def Tryz.lays219_ren:Go.Shelf.Ren:=⟨fun | 219=>133 | 217=>153 | 225=>154 | 224=>155 | 267=>156 | 266=>190 | 314=>191 | n=>n,fun | 9=>9 | 3=>3 | 4=>4 | 5=>5 | 46=>199 | 146=>246 | 51=>230 | n=>n,fun | 1=>0 | n=>n⟩
def Tryz.lays144_ren:Go.Shelf.Ren:=⟨fun | 144=>79 | 143=>108 | 219=>133 | 217=>153 | 225=>154 | 224=>155 | 267=>156 | 266=>190 | 314=>191 | n=>n,fun | 9=>9 | 4=>4 | 3=>3 | 5=>5 | 46=>199 | 146=>246 | 51=>230 | n=>n,fun | 1=>0 | n=>n⟩
theorem Tryz.lays144:Go.Proofs.Lays.n144 Tryz.prog Tryz.lays144_ren:= {
 mixed:=by kernel_rfl
 f143:=Tryz.func108.trans (Q0 some (by kernel_rfl))
 f144:=Tryz.func79.trans (Q0 some (by kernel_rfl))
 f217:=Tryz.func153.trans (Q0 some (by kernel_rfl))
 f219:=Tryz.func133.trans (Q0 some (by kernel_rfl))
 f224:=Tryz.func155.trans (Q0 some (by kernel_rfl))
 f225:=Tryz.func154.trans (Q0 some (by kernel_rfl))
 f266:=Tryz.func190.trans (Q0 some (by kernel_rfl))
 f267:=Tryz.func156.trans (Q0 some (by kernel_rfl))
 f314:=Tryz.func191.trans (Q0 some (by kernel_rfl))
 t3:=Tryz.underlying3
 a3:=Tryz.isAgg3
 z3:=Tryz.sizeOf3
 v3:=Tryz.zeroValue3
 t4:=Tryz.underlying4
 a4:=Tryz.isAgg4
 z4:=Tryz.sizeOf4
 v4:=Tryz.zeroValue4
 t5:=Tryz.underlying5
 a5:=Tryz.isAgg5
 z5:=Tryz.sizeOf5
 v5:=Tryz.zeroValue5
 t9:=Tryz.underlying9
 a9:=Tryz.isAgg9
 z9:=Tryz.sizeOf9
 v9:=Tryz.zeroValue9
 t46:=Tryz.underlying199
 a46:=Tryz.isAgg199
 z46:=Tryz.sizeOf199
 v46:=Tryz.zeroValue199
 t51:=Tryz.underlying230
 a51:=Tryz.isAgg230
 z51:=Tryz.sizeOf230
 v51:=Tryz.zeroValue230
 t146:=Tryz.underlying246
 a146:=Tryz.isAgg246
 z146:=Tryz.sizeOf246
 v146:=Tryz.zeroValue246
 g1:=by kernel_rfl }
open Go.RowKit Go.Lib in
theorem Tryz.strings_Contains_one(s:ByteArray)(c:UInt8)(w:World):
  Calls Tryz.prog 79 #[.string s,.string ⟨#[c]⟩] w fun e w'=>e=.returned (.bool (decide (0<=Lib.indexByte s.data.toList c)))/\w'=w:=Any.strings_Contains_one Tryz.lays144 s c w
def Tryz.lays192_ren:Go.Shelf.Ren:=⟨fun | 192=>84 | 190=>116 | 125=>139 | 258=>138 | 128=>169 | 129=>170 | 302=>160 | 303=>161 | 304=>162 | 305=>163 | 306=>164 | 307=>165 | 308=>166 | 309=>167 | 310=>168 | 333=>194 | 329=>195 | 330=>196 | 334=>197 | 335=>198 | 336=>199 | 344=>215 | n=>n,fun | 31=>93 | 0=>0 | 9=>9 | 3=>3 | 46=>199 | 51=>230 | 53=>212 | 4=>4 | 183=>224 | 182=>223 | 131=>180 | 5=>5 | 218=>253 | 222=>257 | 228=>268 | 229=>148 | n=>n,fun | n=>n⟩
theorem Tryz.lays192:Go.Proofs.Lays.n192 Tryz.prog Tryz.lays192_ren:= {
 mixed:=by kernel_rfl
 f125:=Tryz.func139.trans (Q0 some (by kernel_rfl))
 f128:=Tryz.func169.trans (Q0 some (by kernel_rfl))
 f129:=Tryz.func170.trans (Q0 some (by kernel_rfl))
 f190:=Tryz.func116.trans (Q0 some (by kernel_rfl))
 f192:=Tryz.func84.trans (Q0 some (by kernel_rfl))
 f258:=Tryz.func138.trans (Q0 some (by kernel_rfl))
 f302:=Tryz.func160.trans (Q0 some (by kernel_rfl))
 f303:=Tryz.func161.trans (Q0 some (by kernel_rfl))
 f304:=Tryz.func162.trans (Q0 some (by kernel_rfl))
 f305:=Tryz.func163.trans (Q0 some (by kernel_rfl))
 f306:=Tryz.func164.trans (Q0 some (by kernel_rfl))
 f307:=Tryz.func165.trans (Q0 some (by kernel_rfl))
 f308:=Tryz.func166.trans (Q0 some (by kernel_rfl))
 f309:=Tryz.func167.trans (Q0 some (by kernel_rfl))
 f310:=Tryz.func168.trans (Q0 some (by kernel_rfl))
 f329:=Tryz.func195.trans (Q0 some (by kernel_rfl))
 f330:=Tryz.func196.trans (Q0 some (by kernel_rfl))
 f333:=Tryz.func194.trans (Q0 some (by kernel_rfl))
 f334:=Tryz.func197.trans (Q0 some (by kernel_rfl))
 f335:=Tryz.func198.trans (Q0 some (by kernel_rfl))
 f336:=Tryz.func199.trans (Q0 some (by kernel_rfl))
 f344:=Tryz.func215.trans (Q0 some (by kernel_rfl))
 t0:=Tryz.underlying0
 a0:=Tryz.isAgg0
 z0:=Tryz.sizeOf0
 v0:=Tryz.zeroValue0
 t3:=Tryz.underlying3
 a3:=Tryz.isAgg3
 z3:=Tryz.sizeOf3
 v3:=Tryz.zeroValue3
 t4:=Tryz.underlying4
 a4:=Tryz.isAgg4
 z4:=Tryz.sizeOf4
 v4:=Tryz.zeroValue4
 t5:=Tryz.underlying5
 a5:=Tryz.isAgg5
 z5:=Tryz.sizeOf5
 v5:=Tryz.zeroValue5
 t9:=Tryz.underlying9
 a9:=Tryz.isAgg9
 z9:=Tryz.sizeOf9
 v9:=Tryz.zeroValue9
 t31:=Tryz.underlying93
 a31:=Tryz.isAgg93
 z31:=Tryz.sizeOf93
 v31:=Tryz.zeroValue93
 t46:=Tryz.underlying199
 a46:=Tryz.isAgg199
 z46:=Tryz.sizeOf199
 v46:=Tryz.zeroValue199
 t51:=Tryz.underlying230
 a51:=Tryz.isAgg230
 z51:=Tryz.sizeOf230
 v51:=Tryz.zeroValue230
 t53:=Tryz.underlying212
 a53:=Tryz.isAgg212
 z53:=Tryz.sizeOf212
 v53:=Tryz.zeroValue212
 t131:=Tryz.underlying180
 a131:=Tryz.isAgg180
 z131:=Tryz.sizeOf180
 v131:=Tryz.zeroValue180
 t182:=Tryz.underlying223
 a182:=Tryz.isAgg223
 z182:=Tryz.sizeOf223
 v182:=Tryz.zeroValue223
 t183:=Tryz.underlying224
 a183:=Tryz.isAgg224
 z183:=Tryz.sizeOf224
 v183:=Tryz.zeroValue224
 t218:=Tryz.underlying253
 a218:=Tryz.isAgg253
 z218:=Tryz.sizeOf253
 v218:=Tryz.zeroValue253
 t222:=Tryz.underlying257
 a222:=Tryz.isAgg257
 z222:=Tryz.sizeOf257
 v222:=Tryz.zeroValue257
 t228:=Tryz.underlying268
 a228:=Tryz.isAgg268
 z228:=Tryz.sizeOf268
 v228:=Tryz.zeroValue268
 t229:=Tryz.underlying148
 a229:=Tryz.isAgg148
 z229:=Tryz.sizeOf148
 v229:=Tryz.zeroValue148 }
open Go.Sort Go.RowKit in
theorem Tryz.sort_Strings(blk off cap:Nat)(ss:List (List UInt8))(w:World)(hH:Holds encStr w blk off ss.toArray)(hblk:blk<w.heap.size)(hsz:ss.length<4611686018427387904):
  Calls Tryz.prog 84 #[.slice (some ⟨blk,off,none⟩) ss.length cap] w fun e w'=>
   e=.returned (.tuple #[])/\∃n os,w'=grow (putRow encStr (Sort.ahead w n) blk off (ss.mergeSort fun x y=>decide (x<=y)).toArray) os:=Any.sort_Strings Tryz.lays192 blk off cap ss w hH hblk hsz
open Go.RowKit Go.Sort in
theorem Tryz.sort_Strings_none(p:Option Addr)(cap:Nat)(w:World):
  Calls Tryz.prog 84 #[.slice p 0 cap] w fun e w'=>e=.returned (.tuple #[])/\w'=w:=Any.sort_Strings_none Tryz.lays192 p cap w
end Go.Proofs
namespace Go.Proofs.YthjlcjdlelkkdaaGreatDoor
open Go.RowKit
def cS{H:Type}(D:DataW H)(fs:List ByteArray):DataW H:=fs.foldl (fun D f=>D.put (.string f.data.toList) (.lit (.bool true))) D
theorem lG{H:Type}(D:DataW H)(a b:List ByteArray):cS D (a++b)=cS (cS D a) b:=List.foldl_append ..
theorem qY:Maps.Keyed Tryz.prog 9:=Maps.string_keyed Tryz.underlying9
def aUv(b c:Nat)(w:World):Prop:=aE c 150 (.func (.func 83) #[] #[.pointer (some ⟨b,0,none⟩),.pointer (some ⟨c,0,none⟩)]) w
theorem yS(args:Array Value)(w:World):(callFunc 83 args).run Tryz.prog w=.ok (.enter 83 args) w:=enters_of Tryz.func83 (by kernel_rfl) rfl args w
structure qG {H:Type} (b g c n:Nat) (D:DataW H) (w:World):Prop where
 var:aE b 116 (.map (some g)) w
 self:aUv b c w
 own:w.ownsMap Tryz.prog 9 (plainElem Tryz.prog 4) g n D
theorem qG.keep{H:Type}{b g c n:Nat}{D:DataW H}{w w':World}(h:qG b g c n D w)(k:aA w w'):qG b g c n D w':=
 ⟨h.var.keep k h.var.facts.2.2,aE.keep h.self k (aE.facts h.self).2.2,by
  obtain⟨es,a0,hb,F,hn,hD⟩:=h.own;exact⟨es,a0,(k.block g h.own.lt).trans hb,F,hn,hD⟩⟩
theorem yW(k:Int)(a:At)(fl:ByteArray)(nt:Bool):∀(kids:List NT) (j:Nat) (h:j<kids.length) (f:ByteArray),f∈kids[j].flags->f∈(NT.node k a fl nt kids).flags:=by
 intro kids j h f hf;rw[NT.flags];refine Y5 _ ?_
 induction kids generalizing j with
 | nil=>exact absurd h (Q5 _)
 | cons t ts ih=>
  rw[bR];cases j with
  | zero=>exact Y6 _ hf
  | succ j=>exact Y5 _ (ih j (by simpa using h) hf)
theorem aE.grew{c g:Nat}{T:TypeId}{v:Value}{w w':World}(h:aE c T v w)(hg:w.grownBy w' (some g))(hne:c≠g):aE c T v w':=by
 have hl:=h.facts.2.2;unfold aE at *;rw[hg.block c hl (fun e=>hne (U6 e))];exact h
theorem aQz{g:Nat}{w w':World}(hg:w.grownBy w' (some g)):bD (One g) w w':=
 ⟨hg.os,hg.tape,hg.output,hg.size,fun b hb ho=>hg.block b hb (fun e=>ho (U6 e)),fun _ _ h=>h⟩
theorem aCt{b g:Nat}{cs:Array Value}{w w':World}(h:aL b cs w)(hg:w.grownBy w' (some g))(hne:b≠g):aL b cs w':=
 ⟨R8 h.1 hg.size,fun o=>(X0 (w:=w) (hg.block b h.1 (fun e=>hne (U6 e)))).trans (h.2 o)⟩
theorem aHe{H:Type}(b g c:Nat)(S:Nat->Prop)(hgb:b≠g)(hgc:c≠g)(hSg:¬S g):∀(m:Nat) (t:NT),t.size<=m->∀(cs:List Value) (n:Nat) (D:DataW H) (w:World),(∀b,S b->b<w.heap.size)->qG b g c n D w->n+t.size<=maxLen->(∀f∈t.flags,f.size<=maxLen)->aH S w t cs->
  Calls Tryz.prog 83 #[.agg cs.toArray,.pointer (some ⟨b,0,none⟩),.pointer (some ⟨c,0,none⟩)] w fun e w'=>e=.returned (.tuple #[])/\qG b g c (n+t.size) (cS D t.flags) w'/\bD (One g) w w':=by
 intro m
 induction m with
 | zero=>
  rintro⟨k,a,fl,nt,kids⟩ hm;rw[NT.size] at hm;omega
 | succ m ih=>
  rintro⟨k,a,fl,nt,kids⟩ hm cs n D w hS e7 d8 e9 hn;rw[NT.size] at hm d8;rw[aH] at hn;obtain⟨kp,kc,rfl,f4,f6,a7⟩:=hn;have f8:=yS;have HK:=hid a7;have f2:=hid ih;have e8:=hid e7;have e0:=hid e9;have d6:=hid (aA.alloc w (.cells #[.int .i64 k,.string a.n,.int .i64 a.op,.int .i64 a.v,.int .i64 a.sl,.string a.f,.bool a.on,.string fl,.bool nt,.slice kp kids.length kc] 96));have d7:Hid (aL w.heap.size #[.int .i64 k,.string a.n,.int .i64 a.op,.int .i64 a.v,.int .i64 a.sl,.string a.f,.bool a.on,.string fl,.bool nt,.slice kp kids.length kc] (w.alloc (.cells #[.int .i64 k,.string a.n,.int .i64 a.op,.int .i64 a.v,.int .i64 a.sl,.string a.f,.bool a.on,.string fl,.bool nt,.slice kp kids.length kc] 96))):=aL.new w #[.int .i64 k,.string a.n,.int .i64 a.op,.int .i64 a.v,.int .i64 a.sl,.string a.f,.bool a.on,.string fl,.bool nt,.slice kp kids.length kc] 96;clear ih a7 e7 e9;go_enter Tryz.func83,Tryz.ntmps83;go_upto_region 1 with fail;generalize w.alloc (.cells #[.int .i64 k,.string a.n,.int .i64 a.op,.int .i64 a.v,.int .i64 a.sl,.string a.f,.bool a.on,.string fl,.bool nt,.slice kp kids.length kc] 96)=W0 at d6 d7 |-
  have e5:=d7.out.2;have g2:=d7.out.1;have b5:=hid (e8.out.keep d6.out);have f1:Hid (n+(1+bA kids)<=maxLen):=d8;by_cases hk5:k=5
  ·subst hk5;have d5:Hid ((NT.node 5 a fl nt kids).flags=fl :: bR kids):=by show _=_;rw[NT.flags,if_pos rfl];rfl
   obtain⟨d2,f7,e6⟩:=b5.out.var.facts;have b8:fl.size<=maxLen:=e0.out fl (by rw[d5.out];exact Y9);obtain⟨W1,e2,a5,a3⟩:=b5.out.own.update qY Tryz.underlying116 (by omega) (WideMaps.keyOf_string_mk Tryz.underlying9 b8) (plainElem_bool Tryz.underlying4 true);have g4:=hid a5;have g3:=hid a3;have f9:Hid (qG b g c (n+1) (D.put (.string fl.data.toList) (.lit (.bool true))) W1):=⟨b5.out.var.grew a3 hgb,aE.grew b5.out.self a3 hgc,a5⟩;have f5:Hid (bD (One g) w W1):=(cO d6.out).trans (aQz a3);have f3:w.heap.size≠g:=by have:=e8.out.own.lt;omega
   have f0:=hid (aCt d7.out a3 f3);have g0:=f0.out.2;have g1:=f0.out.1;clear a5 a3 b8 d8;go_wp2_with fail;clear e2 e5 g0 d2 f7;go_loopg [15] kids.length (fun gk i wr=> ∃(j n':Nat) (D':DataW H),j+gk=kids.length/\i=.int .i64 j/\qG b g c n' D' wr/\n'+bA (kids.drop j)<=n+(1+bA kids)/\cS D' (bR (kids.drop j))=cS D (NT.node 5 a fl nt kids).flags/\bD (One g) w wr);case atStart=>exact⟨0,n+1,_,by simp,rfl,f9.out,by simp<;>omega,by rw[d5.out];rfl,f5.out⟩
   case round=>
    obtain⟨j,n',D',hj,rfl,a4,d3,a6,d4⟩:=hrel;have HM:=hid a4;have HP:=hid a6;have HA:=hid d4;have a9:=hid d3;clear a4 a6 d4 d3;by_cases hlt:j<kids.length
    ·obtain⟨p,cs,hp,b9,a0,a2⟩:=dQ HK.out j hlt;have HN:=hid a2;have d0:Hid (bR (kids.drop j)=kids[j].flags++bR (kids.drop (j+1))):=by show _=_;rw[Z5 hlt,bR]
     have a8:Hid (bA (kids.drop j)=kids[j].size+bA (kids.drop (j+1))):=by show _=_;rw[Z5 hlt,bA]
     have b4:Hid (∀f∈kids[j].flags,f.size<=maxLen):=fun f hf=>e0.out f (yW 5 a fl nt kids j hlt f hf);have b7:=f2.out kids[j] (by have:=fA kids j hlt;omega);subst hp;rw[Z6] at a0;cases hkid:kids[j] with
     | node k' a' fl' nt' kids'=>
     rw[hkid,aH] at a2;obtain⟨b2,b0,rfl,-,-,-⟩:=a2;have a1:∀m v,([.int .i64 k',.string a'.n,.int .i64 a'.op,.int .i64 a'.v,.int .i64 a'.sl,.string a'.f,.bool a'.on,.string fl',.bool nt',.slice b2 kids'.length b0]:List Value)[m]? = some v->wr.cell? ((p.add (j*10)).add m)=some v:=fun m v hv=>(HA.out.cell _ (by rw[bW,bW];exact hS _ b9) (by rw[bW,bW];exact fun e=>hSg (e ▸ b9))).trans (a0 m v hv);obtain⟨c0,c1,c2,c3,c4,c5,c6,c7,c8,c9⟩:=iF a1;clear a0 a1 hkid;have KA:=hid (aA.alloc wr (.cells #[.int .i64 k',.string a'.n,.int .i64 a'.op,.int .i64 a'.v,.int .i64 a'.sl,.string a'.f,.bool a'.on,.string fl',.bool nt',.slice b2 kids'.length b0] 96));have b1:=hid (HA.out.trans (cO (c:=g) KA.out));have d9:=hid (HM.out.keep KA.out);obtain⟨d2,-,e6⟩:=aE.facts HM.out.self;have b6:=hid (b7 [.int .i64 k',.string a'.n,.int .i64 a'.op,.int .i64 a'.v,.int .i64 a'.sl,.string a'.f,.bool a'.on,.string fl',.bool nt',.slice b2 kids'.length b0] n' D' _ (fun b hb=>R8 (hS b hb) b1.out.size) d9.out (by have:=a8.out;have:=a9.out;have:=f1.out;omega) b4.out (aH.mono (fun p hp=>b1.out.cell p (hS _ hp) (fun e=>hSg (e ▸ hp))) (fun _ h=>h) _ _ HN.out));clear b7;generalize kids[j]=tj at d0 a8 b6 b4 HN;go_wp2_with fail;clear c0 c1 c2 c3 c4 c5 c6 c7 c8 c9;refine b6.out.mono ?_;rintro e w3 ⟨rfl,b3,d1⟩;have e4:=hid b3;have e3:=hid (b1.out.trans d1);clear b3 d1 d2;go_wp2_with fail;go_roundg (kids.length-(j+1));case measure=>omega
     case rel=>exact⟨j+1,n'+tj.size,cS D' tj.flags,by omega,by go_num,e4.out,by have:=a8.out;have:=a9.out;omega,by rw[<-lG,<-d0.out,HP.out],e3.out⟩
    ·have HX:Hid (cS D (NT.node 5 a fl nt kids).flags=D'):=by show _=_;rw[<-HP.out,List.drop_eq_nil_of_le (by omega)];rfl
     go_wp2_with fail
     try simp only[Exit.inBlock,Exit.then]
     refine bodyPost_end (results_none rfl _ _ _) rfl ?_;refine⟨rfl,?_,HA.out⟩;rw[HX.out,NT.size];exact⟨HM.out.var,HM.out.self,HM.out.own.mono (by have:=a9.out;omega)⟩
  ·have e1:(k==5)=false:=by simp[hk5]
   have d5:Hid ((NT.node k a fl nt kids).flags=bR kids):=by show _=_;rw[NT.flags,if_neg hk5];rfl
   clear d8;go_wp2_with fail;clear e5 e1;go_loopg [15] kids.length (fun gk i wr=> ∃(j n':Nat) (D':DataW H),j+gk=kids.length/\i=.int .i64 j/\qG b g c n' D' wr/\n'+bA (kids.drop j)<=n+(1+bA kids)/\cS D' (bR (kids.drop j))=cS D (NT.node k a fl nt kids).flags/\bD (One g) w wr);case atStart=>exact⟨0,n,D,by simp,rfl,b5.out,by simp<;>omega,by rw[d5.out];rfl,cO d6.out⟩
   case round=>
    obtain⟨j,n',D',hj,rfl,a4,d3,a6,d4⟩:=hrel;have HM:=hid a4;have HP:=hid a6;have HA:=hid d4;have a9:=hid d3;clear a4 a6 d4 d3;by_cases hlt:j<kids.length
    ·obtain⟨p,cs,hp,b9,a0,a2⟩:=dQ HK.out j hlt;have HN:=hid a2;have d0:Hid (bR (kids.drop j)=kids[j].flags++bR (kids.drop (j+1))):=by show _=_;rw[Z5 hlt,bR]
     have a8:Hid (bA (kids.drop j)=kids[j].size+bA (kids.drop (j+1))):=by show _=_;rw[Z5 hlt,bA]
     have b4:Hid (∀f∈kids[j].flags,f.size<=maxLen):=fun f hf=>e0.out f (yW k a fl nt kids j hlt f hf);have b7:=f2.out kids[j] (by have:=fA kids j hlt;omega);subst hp;rw[Z6] at a0;cases hkid:kids[j] with
     | node k' a' fl' nt' kids'=>
     rw[hkid,aH] at a2;obtain⟨b2,b0,rfl,-,-,-⟩:=a2;have a1:∀m v,([.int .i64 k',.string a'.n,.int .i64 a'.op,.int .i64 a'.v,.int .i64 a'.sl,.string a'.f,.bool a'.on,.string fl',.bool nt',.slice b2 kids'.length b0]:List Value)[m]? = some v->wr.cell? ((p.add (j*10)).add m)=some v:=fun m v hv=>(HA.out.cell _ (by rw[bW,bW];exact hS _ b9) (by rw[bW,bW];exact fun e=>hSg (e ▸ b9))).trans (a0 m v hv);obtain⟨c0,c1,c2,c3,c4,c5,c6,c7,c8,c9⟩:=iF a1;clear a0 a1 hkid;have KA:=hid (aA.alloc wr (.cells #[.int .i64 k',.string a'.n,.int .i64 a'.op,.int .i64 a'.v,.int .i64 a'.sl,.string a'.f,.bool a'.on,.string fl',.bool nt',.slice b2 kids'.length b0] 96));have b1:=hid (HA.out.trans (cO (c:=g) KA.out));have d9:=hid (HM.out.keep KA.out);obtain⟨d2,-,e6⟩:=aE.facts HM.out.self;have b6:=hid (b7 [.int .i64 k',.string a'.n,.int .i64 a'.op,.int .i64 a'.v,.int .i64 a'.sl,.string a'.f,.bool a'.on,.string fl',.bool nt',.slice b2 kids'.length b0] n' D' _ (fun b hb=>R8 (hS b hb) b1.out.size) d9.out (by have:=a8.out;have:=a9.out;have:=f1.out;omega) b4.out (aH.mono (fun p hp=>b1.out.cell p (hS _ hp) (fun e=>hSg (e ▸ hp))) (fun _ h=>h) _ _ HN.out));clear b7;generalize kids[j]=tj at d0 a8 b6 b4 HN;go_wp2_with fail;clear c0 c1 c2 c3 c4 c5 c6 c7 c8 c9;refine b6.out.mono ?_;rintro e w3 ⟨rfl,b3,d1⟩;have e4:=hid b3;have e3:=hid (b1.out.trans d1);clear b3 d1 d2;go_wp2_with fail;go_roundg (kids.length-(j+1));case measure=>omega
     case rel=>exact⟨j+1,n'+tj.size,cS D' tj.flags,by omega,by go_num,e4.out,by have:=a8.out;have:=a9.out;omega,by rw[<-lG,<-d0.out,HP.out],e3.out⟩
    ·have HX:Hid (cS D (NT.node k a fl nt kids).flags=D'):=by show _=_;rw[<-HP.out,List.drop_eq_nil_of_le (by omega)];rfl
     go_wp2_with fail
     try simp only[Exit.inBlock,Exit.then]
     refine bodyPost_end (results_none rfl _ _ _) rfl ?_;refine⟨rfl,?_,HA.out⟩;rw[HX.out,NT.size];exact⟨HM.out.var,HM.out.self,HM.out.own.mono (by have:=a9.out;omega)⟩
end Go.Proofs.YthjlcjdlelkkdaaGreatDoor
namespace Go.Proofs.YthjlcjdlelkkdaaGreatDoor
open Go.RowKit Go.Lib
theorem iT{α:Type}[Inhabited α][DecidableEq α](d:Array α):∀(m:Nat) (x:α),x∈compactUpTo d m ↔ ∃j,j<m/\d[j]! = x
 | 0,x=>by simp[compactUpTo]
 | m+1,x=>by
  rw[compactUpTo_succ,U0,iT d m x];constructor
  ·rintro (⟨j,hj,e⟩ | h)
   ·exact⟨j,by omega,e⟩
   ·split at h
    ·exact⟨m,by omega,(T0.1 h).symm⟩
    ·cases h
  ·rintro⟨j,hj,e⟩;by_cases hjm:j<m
   ·exact Or.inl ⟨j,hjm,e⟩
   ·obtain rfl:j=m:=by omega
    by_cases h0:j=0
    ·subst h0;rw[if_pos (keeps_lt_one d 0 (by omega))];exact Or.inr (T0.2 e.symm)
    ·by_cases hk:d[j]! = d[j-1]!
     ·exact Or.inl ⟨j-1,by omega,hk.symm.trans e⟩
     ·rw[if_pos (keeps_pos hk)];exact Or.inr (T0.2 e.symm)
theorem kP(d:Array (List UInt8))(hd:∀i j,i<j->j<d.size->d[i]! <= d[j]!):∀m,m<=d.size->(compactUpTo d m).Pairwise (fun x y=>x<=y/\x≠y)
 | 0,_=>by simp[compactUpTo]
 | m+1,hm=>by
  rw[compactUpTo_succ];refine List.pairwise_append.2 ⟨kP d hd m (by omega),by split<;>simp,?_⟩;intro x hx y hy;split at hy
  ·rename_i hk;obtain rfl:=T0.1 hy;obtain⟨j,hj,rfl⟩:=(iT d m x).1 hx;refine⟨hd j m hj (by omega),fun e=>?_⟩;have h1:d[m]! = d[m-1]! :=by
    by_cases h:j=m-1
    ·rw[<-h,e]
    ·exact List.le_antisymm (e ▸ hd j (m-1) (by omega) (by omega)) (hd (m-1) m (by omega) (by omega))
   rw[keeps_neg (by omega) h1] at hk;cases hk
  ·cases hy
theorem aFs{ss L:List (List UInt8)}(hnd:ss.Nodup)(hm:∀x,x∈ss↔x∈L):ss.mergeSort (fun x y=>decide (x<=y))=compact (L.mergeSort fun x y=>decide (x<=y)):=by
 have tr:∀a b c:List UInt8,decide (a<=b)=true->decide (b<=c)=true->decide (a<=c)=true:=fun a b c h1 h2=>by simp only[decide_eq_true_eq] at *;exact List.le_trans h1 h2
 have a2:∀a b:List UInt8,(decide (a<=b)||decide (b<=a))=true:=fun a b=>by simp only[Bool.or_eq_true,decide_eq_true_eq];exact List.le_total a b
 have hp:=List.pairwise_mergeSort (le:=fun x y:List UInt8=>decide (x<=y)) tr a2 L;have a0:∀x,x∈compact (L.mergeSort fun x y=>decide (x<=y))↔x∈L:=fun x=>by
  unfold compact;rw[iT,<-(List.mergeSort_perm L fun x y=>decide (x<=y)).mem_iff];generalize L.mergeSort (fun x y=>decide (x<=y))=M;rw[List.mem_iff_getElem];constructor
  ·rintro⟨j,hj,e⟩;exact⟨j,hj,by rw[<-e];simp[hj]⟩
  ·rintro⟨j,hj,e⟩;exact⟨j,hj,by rw[<-e];simp[hj]⟩
 have hr:(compact (L.mergeSort fun x y=>decide (x<=y))).Pairwise (fun x y=>x<=y/\x≠y):=by
  unfold compact;refine kP _ (fun i j hij hj=>?_) _ (by simp);generalize L.mergeSort (fun x y=>decide (x<=y))=M at hp hj |-
  have a1:j<M.length:=by simpa using hj
  have:=List.pairwise_iff_getElem.1 hp i j (by omega) a1 hij;simpa[a1,show i<M.length by omega] using this
 refine List.Perm.eq_of_pairwise (le:=fun a b:List UInt8=>a<=b) (fun a b _ _ h1 h2=>List.le_antisymm h1 h2) ?_ (hr.imp fun h=>h.1) ?_
 ·exact (List.pairwise_mergeSort (le:=fun x y:List UInt8=>decide (x<=y)) tr a2 ss).imp fun h=>by simpa using h
 ·refine (List.mergeSort_perm ss _).trans ((List.perm_ext_iff_of_nodup hnd (hr.imp fun h=>h.2)).2 fun x=>by rw[a0,hm])
theorem vF{H:Type}(x:List UInt8):∀(fs:List ByteArray) (D:DataW H),Maps.IsMap D->(Maps.has (cS D fs) (.string x)=true↔x∈fs.map (·.data.toList)\/Maps.has D (.string x)=true)
 | [],D,_=>by simp[cS]
 | f :: fs,D,hD=>by
  have ih:=vF x fs (D.put (.string f.data.toList) (.lit (.bool true))) (by cases D<;>simp_all[Maps.IsMap,DataW.put]);show Maps.has (cS (D.put (.string f.data.toList) (.lit (.bool true))) fs) (.string x)=true↔_;rw[ih,List.map_cons,Q3];by_cases h:x=f.data.toList
  ·subst h;have:=Maps.has_put_same hD (k:= .string f.data.toList) (by simp[WideAt.IsKeyLit]) (.lit (.bool true));simp[this]
  ·rw[Maps.has_put_other (by simpa using h)];simp[h]
theorem aAq{H:Type}{t:NT}{ss:List (List UInt8)}{left:Lit->Bool}(hC:Collected (cS (H:=H) (.map []) t.flags) left ss)(hl:∀kl,left kl=false):ss.mergeSort (fun x y=>decide (x<=y))=t.sorted:=by
 unfold NT.sorted;refine aFs hC.1 fun x=>?_;rw[hC.2 x,vF x _ _ (by simp[Maps.IsMap]),hl];simp[Maps.has]
end Go.Proofs.YthjlcjdlelkkdaaGreatDoor
namespace Go.Proofs.YthjlcjdlelkkdaaGreatDoor
open Go.RowKit Go.Sort Go.Maps
theorem aMo(es:Array MapEntry)(seen:Array Nat):(leftOf es seen).size<=es.size:=by
 unfold leftOf;exact Array.size_filter_le
theorem aNi{H:Type}{P:Program}{k:TypeId}{R:Value->Option (DataW H × List MemPlace)}{w:World}{b r n cnt:Nat}{D:DataW H}{left:Lit->Bool}(h:w.ranges P k R b r n D left cnt):cnt<=n:=by
 obtain⟨es,a2,a1,a0,c0,-,-,hs,-,-,-,hc,-⟩:=h;rw[<-hc];exact U2 (aMo es a0) hs
def aWp(n:Nat):Value:= .bool (n != 0)
theorem pY{H:Type}{P:Program}{e:TypeId}(he:P.underlying e=some .bool){v:Value}{y:DataW H × List MemPlace}(h:plainElem P e v=some y):∃c,v=aWp c:=by
 unfold plainElem at h;rw[he] at h;cases v with
 | bool b=>exact⟨if b then 1 else 0,by cases b<;>rfl⟩
 | _=>simp at h
theorem aRw{B g cap:Nat}{ss:List (List UInt8)}{w:World}(h:w.ownsRow B 9 1 (.slice (some ⟨g,0,none⟩) ss.length cap) ss.length (ss.map encStr)):jA (.slice (some ⟨g,0,none⟩) ss.length cap) ss w:=by
 obtain⟨-,⟨h,-⟩ | ⟨g3,a3,a1,e3,-,a0,-,-,-,a2⟩⟩:=h
 ·cases h
 cases e3;refine Or.inr ⟨g,cap,rfl,(U9.1 a0).1,fun j x hx=>?_⟩;have hj:j<ss.length:=(R9.1 hx).1;have h1:=Q0 (·[j]?) a2;simp only[Nat.mul_one,List.getElem?_take,List.getElem?_map,hx,Option.map_some] at h1;rw[if_pos hj] at h1;simp only[World.cell?,a0,Nat.zero_add];simpa[encStr] using h1
theorem aBi(S:Nat->Prop)(t:NT)(cs:List Value)(w:World)(hS:∀b,S b->b<w.heap.size)(hnm:t.size<=1048576)(hfl:∀f∈t.flags,f.size<=maxLen)(hn:aH S w t cs):
  Calls Tryz.prog 43 #[.agg cs.toArray] w fun e w'=> ∃v,e=.returned v/\jA v t.sorted w'/\aA w w':=by
 have g1:= @run_makeMap Tryz.prog;have f8:=yS;have HN:=hid hn;rcases t with ⟨k,a,fl,nt,kids⟩;rw[aH] at hn;obtain⟨kp,kc,rfl,e6,f2,b1⟩:=hn;clear b1;go_enter Tryz.func43,Tryz.ntmps43;go_wp2_with fail;have g3:Hid (∀h:S (w.heap.size+1),False):=fun h=>by have:=hS _ h;omega
 have HW:Hid (∃W,W=((((w.alloc (Obj.cells #[.int .i64 k,.string a.n,.int .i64 a.op,.int .i64 a.v,.int .i64 a.sl,.string a.f,.bool a.on,.string fl,.bool nt,.slice kp kids.length kc] 96)).alloc (Obj.map #[] 0)).alloc (Obj.cells #[Value.map (some (w.heap.size+1))] 116)).alloc (Obj.cells #[Value.func (Fn.func 83) #[] #[Value.pointer (some { block:=w.heap.size+1+1,off:=0 }),Value.pointer (some { block:=w.heap.size+1+1+1,off:=0 })]] 150))):=⟨_,rfl⟩;obtain⟨W,hW⟩:=HW.out;have KW:Hid (aA w W):=by
  rw[hW];exact (((aA.alloc w _).alloc' _).alloc' _).alloc' _
 have g0:Hid (W.heap.size=w.heap.size+4):=by show _=_;rw[hW];simp
 have f0:Hid (qG (H:=Unit) (w.heap.size+1+1) (w.heap.size+1) (w.heap.size+1+1+1) 0 (.map []) W):=by
  rw[hW];refine⟨?_,?_,?_⟩
  ·have:=aE.new ((w.alloc (Obj.cells #[.int .i64 k,.string a.n,.int .i64 a.op,.int .i64 a.v,.int .i64 a.sl,.string a.f,.bool a.on,.string fl,.bool nt,.slice kp kids.length kc] 96)).alloc (Obj.map #[] 0)) 116 (Value.map (some (w.heap.size+1)));have e:((w.alloc (Obj.cells #[.int .i64 k,.string a.n,.int .i64 a.op,.int .i64 a.v,.int .i64 a.sl,.string a.f,.bool a.on,.string fl,.bool nt,.slice kp kids.length kc] 96)).alloc (Obj.map #[] 0)).heap.size=w.heap.size+1+1:=by simp
   rw[e] at this;exact this.keep (aA.alloc _ _) this.facts.2.2
  ·have:=aE.new (((w.alloc (Obj.cells #[.int .i64 k,.string a.n,.int .i64 a.op,.int .i64 a.v,.int .i64 a.sl,.string a.f,.bool a.on,.string fl,.bool nt,.slice kp kids.length kc] 96)).alloc (Obj.map #[] 0)).alloc (Obj.cells #[Value.map (some (w.heap.size+1))] 116)) 150 (Value.func (Fn.func 83) #[] #[Value.pointer (some { block:=w.heap.size+1+1,off:=0 }),Value.pointer (some { block:=w.heap.size+1+1+1,off:=0 })]);have e:(((w.alloc (Obj.cells #[.int .i64 k,.string a.n,.int .i64 a.op,.int .i64 a.v,.int .i64 a.sl,.string a.f,.bool a.on,.string fl,.bool nt,.slice kp kids.length kc] 96)).alloc (Obj.map #[] 0)).alloc (Obj.cells #[Value.map (some (w.heap.size+1))] 116)).heap.size=w.heap.size+1+1+1:=by simp
   rw[e] at this;exact this
  ·have:=World.ownsMap_made (H:=Unit) (w.alloc (Obj.cells #[.int .i64 k,.string a.n,.int .i64 a.op,.int .i64 a.v,.int .i64 a.sl,.string a.f,.bool a.on,.string fl,.bool nt,.slice kp kids.length kc] 96)) Tryz.prog 9 (plainElem Tryz.prog 4);have e:(w.alloc (Obj.cells #[.int .i64 k,.string a.n,.int .i64 a.op,.int .i64 a.v,.int .i64 a.sl,.string a.f,.bool a.on,.string fl,.bool nt,.slice kp kids.length kc] 96)).heap.size=w.heap.size+1:=by simp
   rw[e] at this;exact (this.alloc _).alloc _
 rw[<-hW];clear hW HW;refine (aHe (H:=Unit) _ (w.heap.size+1) _ S (by omega) (by omega) g3.out _ (NT.node k a fl nt kids) (Y1 _) _ 0 (.map []) W (fun b hb=>R8 (hS b hb) KW.out.size) f0.out (by unfold maxLen;omega) hfl (HN.out.keep hS KW.out)).mono ?_;rintro e w3 ⟨rfl,c9,c6⟩;have e1:=hid c9;have K3:Hid (aA w w3):=Below.trans KW.out (c6.below (B:=w.heap.size) KW.out.size fun b hb e=>by have:b=w.heap.size+1:=e;omega);have d5:Hid (w.heap.size+4<=w3.heap.size):=g0.out ▸ c6.size;clear c9 c6 g1;obtain⟨g2,-,e7⟩:=e1.out.var.facts;obtain⟨i0,hi,e4,e3,f1⟩:=info_parts aJz;go_wp2_with (first
  | (at_range;refine wpList_range_own _ rfl _ 116 rfl 9 4 qY Tryz.underlying116 _ (w.heap.size+1) _ _ rfl e1.out.own ?_;intro w0 a7 d9 d0)
  | go_in)
 go_frame
 have b8:=aNi a7;have K0:Hid (aA w w0):=K3.out.grown d9 K3.out.size (fun j hj=>by cases hj);have e8:Hid (w0.heap.size=w3.heap.size+1):=d0;have a5:=hid a7;have g6:w.heap.size+1<w3.heap.size:=by have:=d5.out;omega
 clear d9 d0 a7 g2 e7;generalize hD:cS (DataW.map (H:=Unit) []) (NT.node k a fl nt kids).flags=D0 at a5 b8;have HD:=hid hD;clear hD;go_loopw [5] (fun v wr=> ∃(a8:Lit->Bool) (cnt:Nat) (ss:List (List UInt8)),wr.ranges Tryz.prog 9 (plainElem Tryz.prog 4) (w.heap.size+1) w3.heap.size (0+(NT.node k a fl nt kids).size) D0 a8 cnt/\ss.length+cnt<=Maps.size D0/\wr.ownsRow (w3.heap.size+1) 9 1 v ss.length (ss.map encStr)/\Collected D0 a8 ss/\aA w wr/\w3.heap.size+1<=wr.heap.size)
  (fun _ wr=>wr.rangeLeft (w.heap.size+1) w3.heap.size)
 case atStart=>exact⟨_,_,[],a5.out,by simp,Q1 _ _ _ _,Collected.start _,K0.out,by rw[e8.out];exact Y1 _⟩
 case round=>
  obtain⟨a8,cnt,ss,e0,g4,b4,hC,d1,e9⟩:=hrel;have d3:=hid e0;have a2:=hid b4;have HC:=hid hC;have HK:=hid d1;have c5:=hid (U2 b8 (by rw[Z6];exact hnm));clear e0 b4 hC d1 a5 b8;go_wp2_with (first
   | (at_next;refine wpList_next_ranges _ rfl _ rfl 9 qY (plainElem Tryz.prog 4) encStr aWp (fun key kl hk=>by obtain⟨x,hx,_⟩:=Maps.keyOf_str Tryz.underlying9 hk;exact⟨x,hx⟩) (fun v y hv=>pY Tryz.underlying4 hv) (w.heap.size+1) w3.heap.size _ _ _ _ rfl d3.out ?_ ?_)
   | go_in)
  ·intro e5 d4;have c4:Hid (ss.mergeSort (fun x y=>decide (x<=y))=(NT.node k a fl nt kids).sorted):=aAq (H:=Unit) (by rw[HD.out];exact HC.out) d4;clear e5 d4;by_cases hn0:ss.length=0
   ·have f4:ss = []:=Y4.1 hn0;subst f4;have f9:∃p cap,u5=Value.slice p 0 cap:=by
     obtain⟨-,⟨e,-⟩ | ⟨g,cap,f6,e,-⟩⟩:=a2.out
     ·exact⟨_,_,e⟩
     ·exact⟨_,_,e⟩
    obtain⟨p,cap,rfl⟩:=f9;go_wp2_with fail;refine (Tryz.sort_Strings_none p cap wr).mono ?_;rintro e w4 ⟨rfl,b3⟩;rw[b3];clear b3;go_wp2_with fail;go_ret;exact⟨_,rfl,Or.inl ⟨by rw[<-c4.out,List.mergeSort_nil],p,cap,rfl⟩,HK.out⟩
   ·obtain⟨c0,⟨-,h0⟩ | ⟨g,cap,f6,rfl,b5,hb,e2,f7,g5,b9⟩⟩:=a2.out
    ·exact absurd h0 hn0
    rw[Nat.mul_one] at b9;have c7:=(U9.1 hb).1;have hH:Holds encStr wr g 0 ss.toArray:=holds_of_block hb b9;have a4:=hid (Tryz.sort_Strings g 0 cap ss wr hH c7 (by have:=c5.out;omega));have HB:=hid hb;clear hH b9 c0 hb;go_wp2_with fail;refine a4.out.mono ?_;rintro e w4 ⟨rfl,nn,os,b3⟩;have c1:(ss.mergeSort fun x y=>decide (x<=y)).length=ss.length:=by simp
    have a6:=ownsRow_sorted (n:=nn) (os:=os) (ss:=ss) (ts:=ss.mergeSort fun x y=>decide (x<=y)) c1 b5 HB.out e2 f7 g5;have a1:=grownBy_sorted (w:=wr) (g:=g) (n:=nn) (os:=os) (ss.mergeSort fun x y=>decide (x<=y)).toArray;rw[<-b3] at a6 a1;have K4:Hid (aA w w4):=HK.out.grown a1 HK.out.size (fun j hj=>by cases hj;have:=d5.out;omega);have O4:=hid a6;clear b3 a6 a1 a4;go_wp2_with fail;go_ret;refine⟨_,rfl,?_,K4.out⟩;have:=O4.out;rw[<-c1] at this;have:=aRw this;rw[c4.out] at this;rw[<-c1,c4.out];exact this
  ·intro x c kl yd yp w2 c8 b0 d7 hv d6 b2 d8 b7 f3 g7;obtain⟨x',ex,rfl,_⟩:=Maps.keyOf_str Tryz.underlying9 b0;obtain rfl:x=x':=encStr_inj ex;have a3:=a2.out.kept b7 (Or.inr (fun e=>by have:=(a2.out.lt _ e).1;omega));have a0:=hid a3;have c2:=hid b2;have f5:=hid (HC.out.step d7 d6);have K2:Hid (aA w w2):=HK.out.grown b7 HK.out.size (fun j hj=>by cases hj;omega);have d2:Hid (w3.heap.size+1<=w2.heap.size):=U2 e9 b7.size;have b6:=hid d8;have c3:=hid g4;clear f3 a3 b2 b7 b0 d7 hv d6 d8 ex;go_wp2_with (first
    | (at_builtin;refine wpList_append_own_at _ rfl _ _ 93 rfl (w3.heap.size+1) 9 i0 (.string ⟨#[]⟩) 1 16 Tryz.underlying93 hi e4 e3 f1 rfl (by decide) _ ss.length (ss.map encStr) rfl (a0.out.alloc _) ⟨w2.heap.size,0,none⟩ 1 1 [encStr x] rfl rfl (cell_one_new _ _ _) (by simp[Value.oneCell',encStr]) (by unfold maxLen;have:=c5.out;have:=c3.out;have:=b6.out;omega) (by have:=c5.out;have:=c3.out;have:=b6.out;omega) (by have:=d2.out;simp;omega) ?_;intro v' w4 h5 h6 _ _;go_frame)
    | go_in)
   have a9:=(c2.out.alloc (.cells #[encStr x] 9)).kept h6 (fun e=>by have:=(a0.out.lt _ e.symm).1;omega) (fun e=>by have:=(a0.out.lt _ e.symm).1;omega);go_roundw
   case rel=>
    refine⟨_,c8,ss++[x],by rw[Z6];exact a9,by simp;have:=c3.out;have:=b6.out;omega,by simpa using h5,f5.out,?_,?_⟩
    ·exact Below.grown (K2.out.alloc' _) h6 (by have:=K2.out.size;simp;omega) (fun j hj=>by have:=(a0.out.lt _ hj).1;omega)
    ·have h7:=h6.size;have:=d2.out;rw[aC] at h7;omega
   case measure=>rw[a9.left_eq,d3.out.left_eq];exact b6.out
end Go.Proofs.YthjlcjdlelkkdaaGreatDoor
