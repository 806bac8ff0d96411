/- Steps of the proof. -/
import Derived.Test.YthjlcjdlelkkdaaGreatDoorRs04
import Derived.Lib.QuietBelow
import Derived.Deep.RegionHeld3
set_option maxHeartbeats 16000000
set_option maxRecDepth 100000
namespace Go.Proofs.YthjlcjdlelkkdaaGreatDoor
open Go.RowKit Go.Sort
theorem dK{w:World}{b o:Nat}{v0 v1 v2 v3 v4 v5 v6 v7 v8 v9 v10 v11 v12 v13:Value}(h:∀(m:Nat) (v:Value),[v0,v1,v2,v3,v4,v5,v6,v7,v8,v9,v10,v11,v12,v13][m]? = some v->w.cell? ⟨b,o+m,none⟩=some v):
  w.cell? ⟨b,o,none⟩=some v0/\w.cell? ⟨b,o+1,none⟩=some v1/\w.cell? ⟨b,o+2,none⟩=some v2/\w.cell? ⟨b,o+3,none⟩=some v3/\w.cell? ⟨b,o+4,none⟩=some v4/\w.cell? ⟨b,o+5,none⟩=some v5/\w.cell? ⟨b,o+6,none⟩=some v6/\w.cell? ⟨b,o+7,none⟩=some v7/\w.cell? ⟨b,o+8,none⟩=some v8/\w.cell? ⟨b,o+9,none⟩=some v9
   /\w.cell? ⟨b,o+10,none⟩=some v10/\w.cell? ⟨b,o+11,none⟩=some v11/\w.cell? ⟨b,o+12,none⟩=some v12/\w.cell? ⟨b,o+13,none⟩=some v13:=
 ⟨h 0 _ rfl,h 1 _ rfl,h 2 _ rfl,h 3 _ rfl,h 4 _ rfl,h 5 _ rfl,h 6 _ rfl,h 7 _ rfl,h 8 _ rfl,h 9 _ rfl,h 10 _ rfl,h 11 _ rfl,h 12 _ rfl,h 13 _ rfl⟩
structure nC (S:Nat->Prop) (ct cc:Nat) (ps:List PK) (v:Value) (k:Nat) (w:World):Prop where
 tree:aE ct 24 v w
 sum:aE cc 3 (.int .i64 (ps.length+bI ps k:Nat)) w
 row:aZ S w ps v
 old:∀b,S b->b<ct/\b<cc
 part:ct≠cc
 small:bI ps k<=2*k
theorem nC.keep{S:Nat->Prop}{ct cc:Nat}{ps:List PK}{v:Value}{k:Nat}{w w':World}(h:nC S ct cc ps v k w)(k':aA w w'):nC S ct cc ps v k w':=
 ⟨h.tree.keep k' h.tree.facts.2.2,h.sum.keep k' h.sum.facts.2.2,h.row.keep (fun b hb=>Nat.lt_trans (h.old b hb).1 h.tree.facts.2.2) k',h.old,h.part,h.small⟩
theorem nC.next{S:Nat->Prop}{ct cc:Nat}{ps:List PK}{v:Value}{k:Nat}{w w':World}(h:nC S ct cc ps v k w)(ha:bD (One cc) w w')(hs:aE cc 3 (.int .i64 (ps.length+bI ps (k+1):Nat)) w')(hm:bI ps (k+1)<=2*(k+1)):nC S ct cc ps v (k+1) w':=by
 refine⟨?_,hs,h.row.mono (fun p hp=>ha.cell p (Nat.lt_trans (h.old _ hp).1 h.tree.facts.2.2) fun e=>?_) (fun _ h=>h),h.old,h.part,hm⟩
 ·have:=h.tree;unfold aE at this |-
  rw[ha.block ct h.tree.facts.2.2 fun e=>h.part e];exact this
 ·have e':p.block=cc:=e;have:=(h.old _ hp).2;omega
theorem aL.apart{b c:Nat}{cs:Array Value}{w w':World}(h:aL b cs w)(ha:bD (One c) w w')(hb:b≠c):aL b cs w':=
 ⟨R8 h.1 ha.size,fun o=>(ha.cell ⟨b,o,none⟩ h.1 (fun e=>hb e)).trans (h.2 o)⟩
theorem bK{P:Program}{F:FuncId}{args:Array Value}{W:World}{Q:Ending->World->Prop}(R:World->Prop)(hR:R W)(h:∀W',R W'->Calls P F args W' Q):Calls P F args W Q:=h W hR
theorem bE{P:Program}{c:Code}{Q:Exit->Act->World->Prop}{a:Act}{W:World}(R:World->Prop)(hR:R W)(h:∀W',R W'->c.wp P Q a W'):c.wp P Q a W:=h W hR
theorem aGr(S:Nat->Prop)(ct cc:Nat)(ps:List PK)(v:Value)(k:Nat)(w:World)(hk:k<ps.length)(h8:ps.length<=8)(h:nC S ct cc ps v k w):
  Calls Tryz.prog 103 #[.int .i64 k,.pointer (some ⟨ct,0,none⟩),.pointer (some ⟨cc,0,none⟩)] w fun e w'=>e=.returned (.int .i64 (pkE ps k))/\(pkE ps k=0->nC S ct cc ps v (k+1) w')/\bD (One cc) w w':=by
 have HH:=hid h;obtain⟨b,off,cap,rfl,hb,f6,e3⟩:=h.row.get hk;obtain⟨cs,f0,hp⟩:=e3 k hk;obtain⟨f4,-,i2⟩:=h.tree.facts;obtain⟨f3,f9,i7⟩:=h.sum.facts;have HP:=hid hp;generalize e0:ps[k]=p at hp HP;have a0:Hid (pkE ps k=if dV p≠0 then dV p else if 0<k/\dJ p (ps.getD (k-1) PK.zero)=false then 6 else if 14<ps.length+bI ps (k+1) then 2 else 0):=by
  show _=_;unfold pkE;rw[R0,Q9 hk,Q7,e0]
 have e6:Hid (bI ps (k+1)=bI ps k+p.fl.length):=by show _=_;rw[jM hk,e0]
 obtain⟨kk,a,fl,nt,kids,kp,fp,kc,fc,h3,f7,rfl,hf,hn⟩:=hp.spelt;obtain⟨c0,c1,c2,c3,c4,c5,c6,c7,c8,c9,b5,b3,a9,b4⟩:=dK f0;have g5:=h.old b hb;clear f0 hp hf hn h3 e0 h;rcases p with ⟨n,v,sl,fs,nd⟩;simp only at f7 c0 c1 c2 c3;have hS:∀b,S b->b<w.heap.size:=fun b hb=>Nat.lt_trans (HH.out.old b hb).1 i2;have e9:Hid (bI ps k<=2*k):=HH.out.small;go_enter Tryz.func103,Tryz.ntmps103;go_wp2_with fail;refine bK (fun W'=>aA w W'/\aL w.heap.size #[.string n,.int .i64 v,.int .i64 sl,.slice fp fs.length fc,.int .i64 kk,.string a.n,.int .i64 a.op,.int .i64 a.v,.int .i64 a.sl,.string a.f,.bool a.on,.string fl,.bool nt,.slice kp kids.length kc] W') ⟨aA.alloc _ _,aL.new _ _ _⟩ ?_;rintro W0 ⟨k0,b0⟩;refine (aEx S _ _ W0 (fun b hb=>R8 (hS b hb) k0.size) (HP.out.keep hS k0)).mono ?_;rintro e w1 ⟨rfl,k1⟩;have K1:=hid (k0.trans k1);have B1:=hid (b0.keep k1 b0.1);have H1:=hid (HH.out.keep K1.out);clear k1 k0 b0 c0 c1 c2 c3 c4 c5 c6 c7 c8 c9 b5 b3 a9 b4 f4 f3 f9;generalize e5:dV ⟨n,v,sl,fs,nd⟩=cp at a0 |-
 by_cases hz:cp=0
 ·subst hz;have h2:=(gZ (eW e5).2.2.1).1;simp only at h2;have i4:=e9.out;clear e5;obtain⟨h4,b6,g3⟩:=H1.out.sum.facts;have h9:=B1.out.2;have i6:=B1.out.1;go_wp2_with fail;clear h4 b6 h9;refine bE (fun W'=>aE cc 3 (.int .i64 (((ps.length+bI ps k:Nat):Int)+(fs.length:Int))) W'/\bD (One cc) w1 W') ⟨H1.out.sum.set _,kV _ _ _⟩ ?_;rintro W2 ⟨v2,a2⟩;have e2:((ps.length+bI ps k:Nat):Int)+(fs.length:Int)=((ps.length+bI ps (k+1):Nat):Int):=by have:=e6.out;omega
  rw[e2] at v2;have b7:bI ps (k+1)<=2*(k+1):=by have:=e6.out;omega
  have V2:=hid v2;have H2:=hid (H1.out.next a2 v2 b7);have A2:=hid ((cO K1.out:bD (One cc) w w1).trans a2);have B2:=hid (B1.out.apart a2 (by omega));have P2:Hid (eB S W2 ⟨n,v,sl,fs,nd⟩ [.string n,.int .i64 v,.int .i64 sl,.slice fp fs.length fc,.int .i64 kk,.string a.n,.int .i64 a.op,.int .i64 a.v,.int .i64 a.sl,.string a.f,.bool a.on,.string fl,.bool nt,.slice kp kids.length kc]):=HP.out.mono (fun p hp=>A2.out.cell p (hS _ hp) fun e=>by have e':p.block=cc:=e;have:=(HH.out.old _ hp).2;omega) (fun _ h=>h);clear v2 a2 e2 B1 H1 K1 e9 i4;by_cases h0:0<k
  ·obtain⟨m,rfl⟩:∃m,k=m+1:=⟨k-1,by omega⟩;have hm:m<ps.length:=by omega
   obtain⟨b2,g8,f2,i0,j0,-,a3⟩:=H2.out.row.get hm;cases i0;obtain⟨i9,a7,b1⟩:=a3 m hm;have HQ:Hid (ps.getD (m+1-1) PK.zero=ps[m]):=by show _=_;rw[R0,Nat.add_sub_cancel,Q9 hm,Q7]
   rw[HQ.out] at a0;generalize ps[m]=q at b1 a0;obtain⟨k1,a1,h7,h1,a8,g1,i1,h6,g2,-,g0,rfl,-,-⟩:=b1.spelt;have f5:=hid b1;rcases q with ⟨n1,v1,sl1,fs1,nd1⟩;have e4:b<W2.heap.size:=Nat.lt_trans g5.1 H2.out.tree.facts.2.2;have cb:∀(d:Nat) (os:Array Obj) (o:Nat) (x:Value),W2.cell? ⟨b,o,none⟩=some x->(grow (redrawn W2 d) os).cell? ⟨b,o,none⟩=some x:=fun d os o x hx=>((below_regrown W2 d os).cell (p:=⟨b,o,none⟩) e4).trans hx;obtain⟨c0,c1,c2,c3,c4,c5,c6,c7,c8,c9,b5,b3,a9,b4⟩:=dK a7;have d0:=fun d os=>cb d os _ _ c0;have d1:=fun d os=>cb d os _ _ c1;have d2:=fun d os=>cb d os _ _ c2;have d3:=fun d os=>cb d os _ _ c3;have d4:=fun d os=>cb d os _ _ c4;have d5:=fun d os=>cb d os _ _ c5;have d6:=fun d os=>cb d os _ _ c6;have d7:=fun d os=>cb d os _ _ c7;have d8:=fun d os=>cb d os _ _ c8;have d9:=fun d os=>cb d os _ _ c9;have h5:=fun d os=>cb d os _ _ b5;have i3:=fun d os=>cb d os _ _ b3;have g7:=fun d os=>cb d os _ _ a9;have g9:=fun d os=>cb d os _ _ b4;have dt:∀d os,(grow (redrawn W2 d) os).cell? ⟨ct,0,none⟩=some (.slice (some ⟨b,off,none⟩) ps.length cap):=fun d os=>((below_regrown W2 d os).cell (p:=⟨ct,0,none⟩) H2.out.tree.facts.2.2).trans H2.out.tree.facts.1;have db:∀o d os,(grow (redrawn W2 d) os).cell? ⟨w.heap.size,o,none⟩=(#[.string n,.int .i64 v,.int .i64 sl,.slice fp fs.length fc,.int .i64 kk,.string a.n,.int .i64 a.op,.int .i64 a.v,.int .i64 a.sl,.string a.f,.bool a.on,.string fl,.bool nt,.slice kp kids.length kc]:Array Value)[o]? :=fun o d os=>(B2.out.keep (below_regrown W2 d os) B2.out.1).2 o;have e8:∀b,S b->b<W2.heap.size:=fun b hb=>R8 (hS b hb) A2.out.size;generalize f1:dJ ⟨n,v,sl,fs,nd⟩ ⟨n1,v1,sl1,fs1,nd1⟩=β at a0;have a5:=hid (show ∀d os,Calls Tryz.prog 105 #[.agg #[.string n,.int .i64 v,.int .i64 sl,.slice fp fs.length fc,.int .i64 kk,.string a.n,.int .i64 a.op,.int .i64 a.v,.int .i64 a.sl,.string a.f,.bool a.on,.string fl,.bool nt,.slice kp kids.length kc],.agg #[.string n1,.int .i64 v1,.int .i64 sl1,.slice i1 fs1.length g2,.int .i64 k1,.string a1.n,.int .i64 a1.op,.int .i64 a1.v,.int .i64 a1.sl,.string a1.f,.bool a1.on,.string h7,.bool h1,.slice g1 a8.length h6]] (grow (redrawn W2 d) os) fun e w''=>e=.returned (.bool β)/\∃p:Regrown,w''=grow (redrawn W2 p.d) p.os from fun d os=>by rw[<-f1];exact Calls.regrown_of (aGj S _ _ _ _ _ (P2.out.keep e8 (below_regrown W2 d os)) (f5.out.keep e8 (below_regrown W2 d os))));have g6:(0:Int)<((m+1:Nat):Int):=by omega
   have hd:decide ((0:Int)<((m+1:Nat):Int))=true:=Y7 g6;have e1:((m+1:Nat):Int)-1=(m:Int):=by omega
   clear a7 b1 a3 c0 c1 c2 c3 c4 c5 c6 c7 c8 c9 b5 b3 a9 b4 cb f1;refine wp_region_quiet_below (by kernel_rfl) (by kernel_rfl) ?_
   repeat (first | go_big_quiet_step (exact a5.out _ _) | quiet_step (exact a5.out _ _))
   refine wpQuiet_nil ?_;intro _ g4;obtain⟨⟨dq,e7⟩,b9⟩:=g4;subst b9;have k4:=below_regrown W2 dq e7;generalize grow (redrawn W2 dq) e7=W4 at k4 |-
   have K4:=hid k4;have H4:=hid (H2.out.keep k4);have A4:=hid (A2.out.trans (cO k4));obtain⟨f8,-,b8⟩:=H4.out.sum.facts;clear d0 d1 d2 d3 d4 d5 d6 d7 d8 d9 h5 i3 g7 g9 dt db a5 k4;cases β
   ·have HY:Hid (pkE ps (m+1)=6):=by show _=_;rw[a0.out];simp
    clear a0;go_wp2_with fail;go_ret;exact⟨aD HY.out.symm,fun h=>absurd (HY.out.symm.trans h) (by decide),A4.out⟩
   have HX:Hid (pkE ps (m+1)=if 14<ps.length+bI ps (m+1+1) then 2 else 0):=by show _=_;rw[a0.out];simp
   clear a0;by_cases a4:14<ps.length+bI ps (m+1+1)
   ·have a6:(14:Int)<((ps.length+bI ps (m+1+1):Nat):Int):=by omega
    have HY:Hid (pkE ps (m+1)=2):=by show _=_;rw[HX.out,if_pos a4]
    clear a4 HX;go_wp2_with fail;go_ret;exact⟨aD HY.out.symm,fun h=>absurd (HY.out.symm.trans h) (by decide),A4.out⟩
   ·have a6:¬(14:Int)<((ps.length+bI ps (m+1+1):Nat):Int):=by omega
    have HY:Hid (pkE ps (m+1)=0):=by show _=_;rw[HX.out,if_neg a4]
    clear a4 HX;go_wp2_with fail;go_ret;exact⟨aD HY.out.symm,fun _=>H4.out,A4.out⟩
  ·have hd:decide ((0:Int)<(k:Int))=false:=Y8 (by omega);have HX:Hid (pkE ps k=if 14<ps.length+bI ps (k+1) then 2 else 0):=by show _=_;rw[a0.out];simp[h0]
   clear a0;go_quiet (fail)
   have k4:aA W2 (W2.drewN nq):=aA.drewN (aA.refl _) _;generalize W2.drewN nq=W4 at k4 |-
   have K4:=hid k4;have H4:=hid (H2.out.keep k4);have A4:=hid (A2.out.trans (cO k4));obtain⟨f8,-,b8⟩:=H4.out.sum.facts;have a4:¬14<ps.length+bI ps (k+1):=by omega
   have a6:¬(14:Int)<((ps.length+bI ps (k+1):Nat):Int):=by omega
   have HY:Hid (pkE ps (k)=0):=by show _=_;rw[HX.out,if_neg a4]
   clear a4 HX;go_wp2_with fail;go_ret;exact⟨aD HY.out.symm,fun _=>H4.out,A4.out⟩
 ·have HX:Hid (pkE ps k=cp):=by show _=_;rw[a0.out,if_pos hz]
  have i5:(cp==0)=false:=by simp[hz]
  have i8:(cp != 0)=true:=by simp[hz]
  have HZ:=hid hz;clear hz a0 e5;go_wp2_with fail;go_ret;exact⟨aD HX.out.symm,fun h=>absurd (HX.out.symm.trans h) HZ.out,cO K1.out⟩
theorem qS(args:Array Value)(w:World):(callFunc 103 args).run Tryz.prog w=.ok (.enter 103 args) w:=enters_of Tryz.func103 (by kernel_rfl) rfl args w
theorem lJ(S:Nat->Prop)(ps:List PK)(v:Value)(w:World)(hS:∀b,S b->b<w.heap.size)(hp:aZ S w ps v):
  Calls Tryz.prog 74 #[.agg #[v]] w fun e w'=>e=.returned (.int .i64 (cA ps))/\aA w w':=by
 have HP:=hid hp;obtain⟨p,cap,rfl,a2⟩:=hp.len;have a6:∀(fn:Fn) (first cap:Array Value) (w:World),(Instr.makeFunc fn first cap).run Tryz.prog w=.ok (.func fn first cap) w:=fun _ _ _ _=>rfl;have a4:=qS;clear hp;by_cases h8:8<ps.length
 ·have a5:(8:Int)<(ps.length:Int):=by omega
  have HX:Hid (cA ps=2):=by show _=_;unfold cA;rw[if_pos h8]
  have k0:=hid (aA.alloc w (.cells #[.slice p ps.length cap] 24));go_enter Tryz.func74,Tryz.ntmps74;go_wp2_with fail;go_ret;exact⟨aD HX.out.symm,k0.out⟩
 ·have a5:¬(8:Int)<(ps.length:Int):=by omega
  have HX:Hid (cA ps=aM (pkE ps) 0 ps.length):=by show _=_;unfold cA;rw[if_neg h8]
  have a0:∀(k:Nat) (W':World),k<ps.length->nC S w.heap.size (w.heap.size+1) ps (.slice p ps.length cap) k W'->Calls Tryz.prog 103 (#[.int .i64 k]++#[.pointer (some ⟨w.heap.size,0,none⟩),.pointer (some ⟨w.heap.size+1,0,none⟩)]) W' fun e w'=>e=.returned (.int .i64 (pkE ps k))/\(pkE ps k=0->nC S w.heap.size (w.heap.size+1) ps (.slice p ps.length cap) (k+1) w')/\bD (One (w.heap.size+1)) W' w':=by
   intro k W' hk h1;exact aGr S _ _ ps _ k W' hk (by omega) h1
  have a1:=hid (fun W h=>mP ps.length (pkE ps) (nC S w.heap.size (w.heap.size+1) ps (.slice p ps.length cap)) (w.heap.size+1) a2 qS a0 W h);clear a0 h8;go_enter Tryz.func74,Tryz.ntmps74;go_wp2_with fail;refine bK (fun W'=>aA w W'/\nC S w.heap.size (w.heap.size+1) ps (.slice p ps.length cap) 0 W') ⟨(aA.alloc _ _).alloc' _,?_⟩ ?_
  ·have hz:=aC w (.cells #[.slice p ps.length cap] 24);refine⟨(aE.new w 24 (.slice p ps.length cap)).keep (aA.alloc _ _) (by rw[hz];omega),?_,HP.out.keep hS ((aA.alloc _ _).alloc' _),fun b hb=>⟨hS b hb,Nat.lt_succ_of_lt (hS b hb)⟩,by omega,by simp[bI]⟩;have:=aE.new (w.alloc (.cells #[.slice p ps.length cap] 24)) 3 (.int .i64 ps.length);rw[hz] at this;have e0:(ps.length+bI ps 0:Nat)=ps.length:=by simp[bI]
   rw[e0];exact this
  rintro W1 ⟨k1,h1⟩;refine (a1.out W1 h1).mono ?_;rintro e w2 ⟨rfl,a3⟩;have K2:Hid (aA w w2):=Below.trans k1 (a3.below k1.size fun b hb e=>by have:b=w.heap.size+1:=e;omega);clear a3 a1 k1 h1;go_wp2_with fail;go_ret;exact⟨aD HX.out.symm,K2.out⟩
def kD(p:PK)(a:At):Bool:=(p.n.toList==a.n.toList)&&(gS a.op a.v a.sl p.v p.sl&&(a.f.toList.isEmpty||fB p.fl a.f.data.toList))
def cE(ps:List PK)(a:At):Nat->List Int
 | 0=> []
 | k+1=>cE ps a k++(if kD (ps.getD k PK.zero) a=true then [(k:Int)] else [])
def mJ(ps:List PK)(a:At):Int:=if cA ps≠0 then cA ps else fQ a
def fD(v:Value)(zs:List Int)(w:World):Prop:=(zs = []/\v=.slice none 0 0)\/∃g cap,v=.slice (some ⟨g,0,none⟩) zs.length cap/\g<w.heap.size/\∀(j:Nat) x,zs[j]? = some x->w.cell? ⟨g,j,none⟩=some (.int .i64 x)
theorem fD.keep{v:Value}{zs:List Int}{w w':World}(h:fD v zs w)(k:aA w w'):fD v zs w':=by
 rcases h with h | ⟨g,cap,h1,h2,h3⟩
 ·exact Or.inl h
 ·exact Or.inr ⟨g,cap,h1,R8 h2 k.size,fun j x hx=>(k.cell (p:=⟨g,j,none⟩) h2).trans (h3 j x hx)⟩
theorem fD.len{v:Value}{zs:List Int}{w:World}(h:fD v zs w):∃p cap,v=.slice p zs.length cap:=by
 rcases h with ⟨rfl,h⟩ | ⟨g,cap,h,-⟩
 ·exact⟨none,0,h⟩
 ·exact⟨_,cap,h⟩
theorem aDy(S:Nat->Prop)(p:PK)(cs:List Value)(an af:ByteArray)(aop av asl:Int)(aon:Bool)(w:World)(hS:∀b,S b->b<w.heap.size)(hp:eB S w p cs):
  Calls Tryz.prog 94 #[.agg cs.toArray,.agg #[.string an,.int .i64 aop,.int .i64 av,.int .i64 asl,.string af,.bool aon]] w fun e w'=>e=.returned (.bool (kD p ⟨an,aop,av,asl,af,aon⟩))/\aA w w':=by
 obtain⟨k,a,fl,nt,kids,kp,fp,kc,fc,-,a5,rfl,hf,-⟩:=hp.spelt;have HF:=hid hf;clear hp hf;rcases p with ⟨n,v,sl,fs,nd⟩;have HM:Hid (kD ⟨n,v,sl,fs,nd⟩ ⟨an,aop,av,asl,af,aon⟩=((n.toList==an.toList)&&(gS aop av asl v sl&&(af.toList.isEmpty||fB fs af.data.toList)))):=rfl;have KW:=hid ((aA.alloc w (.cells #[.string n,.int .i64 v,.int .i64 sl,.slice fp fs.length fc,.int .i64 k,.string a.n,.int .i64 a.op,.int .i64 a.v,.int .i64 a.sl,.string a.f,.bool a.on,.string fl,.bool nt,.slice kp kids.length kc] 98)).alloc' (.cells #[.string an,.int .i64 aop,.int .i64 av,.int .i64 asl,.string af,.bool aon] 63));cases h1:(n.toList==an.toList)
 ·rw[h1] at HM;go_enter Tryz.func94,Tryz.ntmps94;go_wp2_with fail;go_ret;exact⟨aK (by rw[HM.out];rfl),KW.out⟩
 ·rw[h1] at HM;go_enter Tryz.func94,Tryz.ntmps94;go_wp2_with fail;refine bK (fun W'=>aA w W'/\aL w.heap.size #[.string n,.int .i64 v,.int .i64 sl,.slice fp fs.length fc,.int .i64 k,.string a.n,.int .i64 a.op,.int .i64 a.v,.int .i64 a.sl,.string a.f,.bool a.on,.string fl,.bool nt,.slice kp kids.length kc] W'/\aL (w.heap.size+1) #[.string an,.int .i64 aop,.int .i64 av,.int .i64 asl,.string af,.bool aon] W') ⟨(aA.alloc _ _).alloc' _,(aL.new _ _ _).keep (aA.alloc _ _) (by simp),?_⟩ ?_
  ·have:=aL.new (w.alloc (.cells #[.string n,.int .i64 v,.int .i64 sl,.slice fp fs.length fc,.int .i64 k,.string a.n,.int .i64 a.op,.int .i64 a.v,.int .i64 a.sl,.string a.f,.bool a.on,.string fl,.bool nt,.slice kp kids.length kc] 98)) #[.string an,.int .i64 aop,.int .i64 av,.int .i64 asl,.string af,.bool aon] 63;rw[aC] at this;exact this
  rintro W0 ⟨k0,b0,b1⟩;refine (aPo _ _ _ _ _ _ _ _ W0).mono ?_;rintro e w1 ⟨rfl,k1⟩;have K1:=hid (k0.trans k1);have B0:=hid (b0.keep k1 b0.1);have B1:=hid (b1.keep k1 b1.1);clear k0 b0 b1 k1 KW;generalize gS aop av asl v sl=β at HM |-
  have a2:=B0.out.2;have a1:=B0.out.1;have a4:=B1.out.2;have a3:=B1.out.1;cases β
  ·go_wp2_with fail;go_ret;exact⟨aK (by rw[HM.out];rfl),K1.out⟩
  ·cases h2:af.toList.isEmpty
   ·rw[h2] at HM;have h3:(af.toList == [])=false:=by simpa using h2
    go_wp2_with fail;refine (mE S fs _ af w1 (HF.out.keep hS K1.out)).mono ?_;rintro e w2 ⟨rfl,a0⟩;rw[a0];clear a0;go_wp2_with fail;go_ret;exact⟨aK (by rw[HM.out];simp),K1.out⟩
   ·rw[h2] at HM;have h3:(af.toList == [])=true:=by simpa using h2
    go_wp2_with fail;go_ret;exact⟨aK (by rw[HM.out];rfl),K1.out⟩
theorem dM:(Tryz.prog.info? 3).map (fun i=>(i.zero,i.size,i.bytes))=some (some (.int .i64 0),1,8):=by kernel_rfl
def aT(B:Nat)(v:Value)(zs:List Int)(w:World):Prop:=w.ownsRow B 3 1 v zs.length (zs.map (Value.int .i64))
theorem cG{s:Int}(u:Value)(h:u ∈ [Value.int .i64 s]):u.oneCell'=true:=by rw[T0.1 h];rfl
theorem aT.ints{B:Nat}{v:Value}{zs:List Int}{w:World}(h:aT B v zs w):fD v zs w:=by
 obtain⟨a2,⟨rfl,h0⟩ | ⟨g,cap,a5,rfl,a0,hb,a3,a6,a4,a1⟩⟩:=h
 ·exact Or.inl ⟨Y4.1 h0,rfl⟩
 ·refine Or.inr ⟨g,cap,rfl,(U9.1 hb).1,fun j x hx=>?_⟩;have hj:j<zs.length:=(R9.1 hx).1;have h1:=Q0 (·[j]?) a1;simp only[Nat.mul_one,List.getElem?_take,List.getElem?_map,hx,Option.map_some] at h1;rw[if_pos hj] at h1;simp only[World.cell?,hb];simpa using h1
theorem fJ{B:Nat}{v v':Value}{zs:List Int}{x:Int}{w w':World}{o:Obj}(hB:B<=w.heap.size)(hw:aT B v zs w)(h1:w'.ownsRow B 3 1 v' (zs.length+1) (zs.map (Value.int .i64)++[.int .i64 x]))(h2:(w.alloc o).grownBy w' v.ownBlock):
  aT B v' (zs++[x]) w'/\Below B w w':=by
 refine⟨?_,?_⟩
 ·unfold aT;rw[X9,Z9];exact h1
 ·exact Below.grown ((Below.refl B w).alloc hB o) h2 (by have:=aC w o;omega) (fun g hg=>(dN hw hg).1)
theorem hY(ps:List PK)(a:At):∀k,(cE ps a k).length<=k
 | 0=>by simp[cE]
 | k+1=>by
  have:=hY ps a k;rw[cE,X9];split<;>simp<;>omega
def aLe(ps:List PK)(a:At)(w:World)(e:Ending)(w':World):Prop:=
 ∃v,e=.returned (.tuple #[v,.int .i64 (mJ ps a)])/\(mJ ps a≠0->v=.slice none 0 0)/\(mJ ps a=0->aT (w.heap.size+2) v (cE ps a ps.length) w')/\aA w w'
theorem aHt(S:Nat->Prop)(ps:List PK)(v:Value)(an af:ByteArray)(aop av asl:Int)(aon:Bool)(w:World)(hS:∀b,S b->b<w.heap.size)(hp:aZ S w ps v):
  Calls Tryz.prog 58 #[.agg #[v],.agg #[.string an,.int .i64 aop,.int .i64 av,.int .i64 asl,.string af,.bool aon]] w fun e w'=>aLe ps ⟨an,aop,av,asl,af,aon⟩ w e w':=by
 obtain⟨i0,hi,d9,b3,e4⟩:=info_parts dM;have HP:=hid hp;obtain⟨p,cap,rfl,e1⟩:=hp.len;have a6:cA ps=0->ps.length<=8:=fun h=>(cL h).1;have HE:Hid (mJ ps ⟨an,aop,av,asl,af,aon⟩=if cA ps≠0 then cA ps else chk an.data.toList aop av asl af.data.toList aon):=rfl;clear hp;go_enter Tryz.func58,Tryz.ntmps58;go_wp2_with fail;refine bK (fun W'=>aA w W'/\aE w.heap.size 24 (.slice p ps.length cap) W'/\aL (w.heap.size+1) #[.string an,.int .i64 aop,.int .i64 av,.int .i64 asl,.string af,.bool aon] W') ⟨(aA.alloc _ _).alloc' _,(aE.new _ _ _).keep (aA.alloc _ _) (by simp),?_⟩ ?_
 ·have:=aL.new (w.alloc (.cells #[.slice p ps.length cap] 24)) #[.string an,.int .i64 aop,.int .i64 av,.int .i64 asl,.string af,.bool aon] 63;rw[aC] at this;exact this
 rintro W0 ⟨k0,v0,b0⟩;refine (lJ S ps _ W0 (fun b hb=>R8 (hS b hb) k0.size) (HP.out.keep hS k0)).mono ?_;rintro e w1 ⟨rfl,k1⟩;have K1:=hid (k0.trans k1);have V1:=hid (v0.keep k1 v0.facts.2.2);have B1:=hid (b0.keep k1 b0.1);clear k0 v0 b0 k1;generalize d0:cA ps=ct at HE a6 |-
 obtain⟨b7,-,e0⟩:=V1.out.facts;have a5:=B1.out.2;have d6:=B1.out.1;by_cases hz:ct=0
 ·subst hz;have h8:=a6 rfl;clear a6;go_wp2_with fail;clear b7 a5;refine (oQ an af aop av asl aon w1).mono ?_;rintro e w2 ⟨rfl,k2⟩;have K2:=hid (K1.out.trans k2);have V2:=hid (V1.out.keep k2 V1.out.facts.2.2);have B2:=hid (B1.out.keep k2 B1.out.1);clear k2 K1 V1 B1;generalize d3:chk an.data.toList aop av asl af.data.toList aon=ca at HE |-
  obtain⟨b7,-,b5⟩:=V2.out.facts;have a5:=B2.out.2;by_cases hza:ca=0
  ·subst hza;have d1:Hid (mJ ps ⟨an,aop,av,asl,af,aon⟩=0):=by show _=_;rw[HE.out];simp
   clear HE d3 d0;go_wp2_with fail;go_loopg [8,24] ps.length (fun gk pv i wr=> ∃j:Nat,j+gk=ps.length/\i=.int .i64 j/\aT (w.heap.size+2) pv (cE ps ⟨an,aop,av,asl,af,aon⟩ j) wr/\aL (w.heap.size+1) #[.string an,.int .i64 aop,.int .i64 av,.int .i64 asl,.string af,.bool aon] wr/\aA w wr);case atStart=>exact⟨0,by simp,rfl,Q1 _ _ _ _,B2.out,K2.out⟩
   case round=>
    obtain⟨j,hj,rfl,a4,d5,d2⟩:=hrel;have a3:=hid a4;have b1:=hid d5;have a7:=hid d2;clear a4 d5 d2 B2 K2 V2 b7 a5 e0 d6 b5;by_cases hlt:j<ps.length
    ·obtain⟨b,off,d8,f1,f3,-,a1⟩:=(HP.out.keep hS a7.out).get hlt;cases f1;obtain⟨cs,d7,a9⟩:=a1 j hlt;have a2:Hid (cE ps ⟨an,aop,av,asl,af,aon⟩ (j+1)=cE ps ⟨an,aop,av,asl,af,aon⟩ j++(if kD ps[j] ⟨an,aop,av,asl,af,aon⟩=true then [(j:Int)] else [])):=by
      show _=_;rw[cE,R0,Q9 hlt,Q7]
     have e3:=hY ps ⟨an,aop,av,asl,af,aon⟩ j;generalize ps[j]=q at a9 a2;have e5:=hid a9;obtain⟨k,a,fl,nt,kids,kp,fp,kc,fc,-,e2,rfl,-,-⟩:=a9.spelt;obtain⟨c0,c1,c2,c3,c4,c5,c6,c7,c8,c9,f0,e8,e6,e9⟩:=dK d7;rcases q with ⟨n,v,sl,fs,nd⟩;simp only at e2 c0 c1 c2 c3;have a5:=b1.out.2;have d6:=b1.out.1;have e7:w.heap.size<=wr.heap.size:=a7.out.size;have d4:∀b,S b->b<wr.heap.size:=fun b hb=>R8 (hS b hb) e7;clear a1 d7 a9;go_wp2_with fail;refine bK (fun W'=>aA wr W') (aA.alloc _ _) ?_;intro W3 k3;refine (aDy S _ _ an af aop av asl aon W3 (fun b hb=>R8 (d4 b hb) k3.size) (e5.out.keep d4 k3)).mono ?_;rintro e w4 ⟨rfl,k4⟩;have b9:=hid (k3.trans k4);have K4:=hid (a7.out.trans b9.out);have a0:Hid (aT (w.heap.size+2) u8 (cE ps ⟨an,aop,av,asl,af,aon⟩ j) w4):=aX a3.out b9.out;have b6:=hid (b1.out.keep b9.out b1.out.1);clear k3 k4 c0 c1 c2 c3 c4 c5 c6 c7 c8 c9 f0 e8 e6 e9 a5;generalize kD ⟨n,v,sl,fs,nd⟩ ⟨an,aop,av,asl,af,aon⟩=β at a2 |-
     cases β
     ·have a8:Hid (cE ps ⟨an,aop,av,asl,af,aon⟩ (j+1)=cE ps ⟨an,aop,av,asl,af,aon⟩ j):=by show _=_;rw[a2.out];simp
      clear a2;go_wp2_with fail;go_roundg (ps.length-(j+1));case rel=>exact⟨j+1,by omega,by go_num,by rw[a8.out];exact a0.out,b6.out,K4.out⟩
      case measure=>omega
     ·have a8:Hid (cE ps ⟨an,aop,av,asl,af,aon⟩ (j+1)=cE ps ⟨an,aop,av,asl,af,aon⟩ j++[(j:Int)]):=by show _=_;rw[a2.out];simp
      have b2:w.heap.size+2<=w4.heap.size:=b6.out.1;clear a2;generalize cE ps ⟨an,aop,av,asl,af,aon⟩ j=zs at e3 a0 a8;go_wp2_with (at_builtin;refine wpList_append_own_at _ rfl _ _ 27 rfl (w.heap.size+2) 3 i0 (.int .i64 0) 1 8 Tryz.underlying27 hi d9 b3 e4 rfl (by decide) u8 zs.length (zs.map (Value.int .i64)) rfl (World.ownsRow.alloc a0.out _) ⟨w4.heap.size,0,none⟩ 1 1 [.int .i64 j] rfl rfl iN cG (by unfold maxLen;omega) (by omega) (by have:=aC w4 (.cells #[.int .i64 j] 3);omega) ?_)
      intro v' w5 h5 h6 _ _;obtain⟨h7,b4⟩:=fJ b2 a0.out h5 h6;have H7:=hid h7;have K5:Hid (aA w w5):=Below.trans K4.out (b4.mono (by omega));have f2:Hid (aL (w.heap.size+1) #[.string an,.int .i64 aop,.int .i64 av,.int .i64 asl,.string af,.bool aon] w5):=b6.out.keep b4 (by omega);clear h5 h6 h7 b4;go_wp2_with fail;go_roundg (ps.length-(j+1));case rel=>exact⟨j+1,by omega,by go_num,by rw[a8.out];exact H7.out,f2.out,K5.out⟩
      case measure=>omega
    ·go_wp2_with fail;go_ret2
     obtain rfl:j=ps.length:=by omega
     exact⟨_,by rw[d1.out];rfl,fun h=>absurd d1.out h,fun _=>a3.out,a7.out⟩
  ·have HX:Hid (mJ ps ⟨an,aop,av,asl,af,aon⟩=ca):=by show _=_;rw[HE.out];simp
   have b3:(ca==0)=false:=by simp[hza]
   have b8:(ca != 0)=true:=by simp[hza]
   have HZ:=hid hza;clear hza HE d3;go_wp2_with fail;go_ret2
   exact⟨_,by rw[HX.out];rfl,fun _=>rfl,fun h=>absurd (HX.out.symm.trans h) HZ.out,K2.out⟩
 ·have HX:Hid (mJ ps ⟨an,aop,av,asl,af,aon⟩=ct):=by show _=_;rw[HE.out,if_pos hz]
  have b3:(ct==0)=false:=by simp[hz]
  have b8:(ct != 0)=true:=by simp[hz]
  have HZ:=hid hz;clear hz HE d0 a6;go_wp2_with fail;go_ret2
  exact⟨_,by rw[HX.out];rfl,fun _=>rfl,fun h=>absurd (HX.out.symm.trans h) HZ.out,K1.out⟩
end Go.Proofs.YthjlcjdlelkkdaaGreatDoor
namespace Go.Proofs.YthjlcjdlelkkdaaGreatDoor
open Go.RowKit
def iY(b:Nat)(cs:Array Value)(w:World):Prop:=w.heap[b]? = some (.cells cs 98 (0,0))
theorem iY.facts{b:Nat}{cs:Array Value}{w:World}(h:iY b cs w):(∀o,w.cell? ⟨b,o,none⟩=cs[o]?)/\(∀o,w.frozen? ⟨b,o,none⟩=false)/\b<w.heap.size:=by
 unfold iY at h;refine⟨fun o=>by simp[World.cell?,h],fun o=>by simp[World.frozen?,h],(U9.1 h).1⟩
theorem iY.new(w:World)(cs:Array Value):iY w.heap.size cs (w.alloc (.cells cs 98)):=by
 show (w.heap.push _)[w.heap.size]? = _;rw[Array.getElem?_push,if_pos rfl]
theorem iY.keep{b B:Nat}{cs:Array Value}{w w':World}(h:iY b cs w)(k:Below B w w')(hB:b<B):iY b cs w':=by
 unfold iY at h |-;rw[k.block b hB];exact h
theorem aSx{α:Type}{cs:Array α}(h:cs.size=14):∃c0 c1 c2 c3 c4 c5 c6 c7 c8 c9 c10 c11 c12 c13,cs=#[c0,c1,c2,c3,c4,c5,c6,c7,c8,c9,c10,c11,c12,c13]:=by
 obtain⟨l⟩:=cs
 match l,h with
 | [c0,c1,c2,c3,c4,c5,c6,c7,c8,c9,c10,c11,c12,c13],_=>exact⟨c0,c1,c2,c3,c4,c5,c6,c7,c8,c9,c10,c11,c12,c13,rfl⟩
theorem iY.set{b:Nat}{cs:Array Value}{w:World}(h:iY b cs w)(hs:cs.size=14)(v0 v1 v2 v3 v4 v5 v6 v7 v8 v9 v10 v11 v12 v13:Value):
  iY b #[v0,v1,v2,v3,v4,v5,v6,v7,v8,v9,v10,v11,v12,v13] ((((((((((((((w.setCell ⟨b,0,none⟩ v0).setCell ⟨b,1,none⟩ v1).setCell ⟨b,2,none⟩ v2).setCell ⟨b,3,none⟩ v3).setCell ⟨b,4,none⟩ v4).setCell ⟨b,5,none⟩ v5).setCell ⟨b,6,none⟩ v6).setCell ⟨b,7,none⟩ v7).setCell ⟨b,8,none⟩ v8).setCell ⟨b,9,none⟩ v9).setCell ⟨b,10,none⟩ v10).setCell ⟨b,11,none⟩ v11).setCell ⟨b,12,none⟩ v12).setCell ⟨b,13,none⟩ v13)/\Below b w ((((((((((((((w.setCell ⟨b,0,none⟩ v0).setCell ⟨b,1,none⟩ v1).setCell ⟨b,2,none⟩ v2).setCell ⟨b,3,none⟩ v3).setCell ⟨b,4,none⟩ v4).setCell ⟨b,5,none⟩ v5).setCell ⟨b,6,none⟩ v6).setCell ⟨b,7,none⟩ v7).setCell ⟨b,8,none⟩ v8).setCell ⟨b,9,none⟩ v9).setCell ⟨b,10,none⟩ v10).setCell ⟨b,11,none⟩ v11).setCell ⟨b,12,none⟩ v12).setCell ⟨b,13,none⟩ v13)/\((((((((((((((w.setCell ⟨b,0,none⟩ v0).setCell ⟨b,1,none⟩ v1).setCell ⟨b,2,none⟩ v2).setCell ⟨b,3,none⟩ v3).setCell ⟨b,4,none⟩ v4).setCell ⟨b,5,none⟩ v5).setCell ⟨b,6,none⟩ v6).setCell ⟨b,7,none⟩ v7).setCell ⟨b,8,none⟩ v8).setCell ⟨b,9,none⟩ v9).setCell ⟨b,10,none⟩ v10).setCell ⟨b,11,none⟩ v11).setCell ⟨b,12,none⟩ v12).setCell ⟨b,13,none⟩ v13).heap.size=w.heap.size/\∀k,k≠b->((((((((((((((w.setCell ⟨b,0,none⟩ v0).setCell ⟨b,1,none⟩ v1).setCell ⟨b,2,none⟩ v2).setCell ⟨b,3,none⟩ v3).setCell ⟨b,4,none⟩ v4).setCell ⟨b,5,none⟩ v5).setCell ⟨b,6,none⟩ v6).setCell ⟨b,7,none⟩ v7).setCell ⟨b,8,none⟩ v8).setCell ⟨b,9,none⟩ v9).setCell ⟨b,10,none⟩ v10).setCell ⟨b,11,none⟩ v11).setCell ⟨b,12,none⟩ v12).setCell ⟨b,13,none⟩ v13).heap[k]? = w.heap[k]? :=by
 obtain⟨c0,c1,c2,c3,c4,c5,c6,c7,c8,c9,a4,a1,a3,a2,rfl⟩:=aSx hs;refine⟨?_,?_,?_,?_⟩
 ·have a0:=aJ (aJ (aJ (aJ (aJ (aJ (aJ (aJ (aJ (aJ (aJ (aJ (aJ (aJ (h) 0 v0) 1 v1) 2 v2) 3 v3) 4 v4) 5 v5) 6 v6) 7 v7) 8 v8) 9 v9) 10 v10) 11 v11) 12 v12) 13 v13;simp only[List.setIfInBounds_toArray,List.set_cons_zero,List.set_cons_succ] at a0;exact a0
 ·exact (((((((((((((((Below.refl b w).setCell (p:=⟨b,0,none⟩) (Y1 _) v0).setCell (p:=⟨b,1,none⟩) (Y1 _) v1).setCell (p:=⟨b,2,none⟩) (Y1 _) v2).setCell (p:=⟨b,3,none⟩) (Y1 _) v3).setCell (p:=⟨b,4,none⟩) (Y1 _) v4).setCell (p:=⟨b,5,none⟩) (Y1 _) v5).setCell (p:=⟨b,6,none⟩) (Y1 _) v6).setCell (p:=⟨b,7,none⟩) (Y1 _) v7).setCell (p:=⟨b,8,none⟩) (Y1 _) v8).setCell (p:=⟨b,9,none⟩) (Y1 _) v9).setCell (p:=⟨b,10,none⟩) (Y1 _) v10).setCell (p:=⟨b,11,none⟩) (Y1 _) v11).setCell (p:=⟨b,12,none⟩) (Y1 _) v12).setCell (p:=⟨b,13,none⟩) (Y1 _) v13)
 ·simp[World.setCell]
 ·intro k hk;simp[World.setCell,Array.getElem?_modify,Ne.symm hk]
theorem cV{P:Program}{fn:Func}{R:Ending->World->Prop}{a:Act}{W:World}{v:Value}(T:World->Prop)(hT:T W)(hd:a.defers = [])(h:∀W',T W'->(results fn a.tmps).run P W'=.ok v W'/\R (.returned v) W'):bodyPost P fn R .ret a W:=
 bodyPost_ret (h W hT).1 hd (h W hT).2
def aAe:List Value:= [.string ⟨#[]⟩,.int .i64 0,.int .i64 0,.slice none 0 0,.int .i64 0,.string ⟨#[]⟩,.int .i64 0,.int .i64 0,.int .i64 0,.string ⟨#[]⟩,.bool false,.string ⟨#[]⟩,.bool false,.slice none 0 0]
theorem aWh{l:List bX}(h:l.length≠5):aCc l=1:=by
 match l,h with
 | [],_=>rfl
 | [_],_=>rfl
 | [_,_],_=>rfl
 | [_,_,_],_=>rfl
 | [_,_,_,_],_=>rfl
 | [_,_,_,_,_],h=>exact absurd rfl h
 | _ :: _ :: _ :: _ :: _ :: _ :: _,_=>rfl
theorem tF(sep:List UInt8):∀(k:Nat) (l:List UInt8),(Lib.splitK sep 0 k l).length<=k+1
 | 0,_=>by simp[Lib.splitK]
 | k+1,l=>by
  rw[Lib.splitK];split
  ·simp
  ·have:=tF sep k (l.drop ((Lib.index l sep).toNat+sep.length));simp only[List.length_cons];omega
theorem aHp(s:ByteArray):∃ws:List ByteArray,ws=Lib.splitB ⟨#[32]⟩ 0 (min 5 (s.size+1)-1) s/\ws.length<=min 5 (s.size+1)/\ws.map (·.data.toList)=Lib.splitN s.data.toList [32] 5/\∀x∈ws,x.size<=s.size:=by
 have a0:s.data.toList.length=s.size:=aU s;have hd:(Lib.splitB ⟨#[32]⟩ 0 (min 5 (s.size+1)-1) s).map (·.data.toList)=Lib.splitN s.data.toList [32] 5:=by
  unfold Lib.splitN;rw[a0];exact Lib.splitB_data ⟨#[32]⟩ 0 _ s
 refine⟨_,rfl,?_,hd,fun x hx=>?_⟩
 ·have:=tF [32] (min 5 (s.size+1)-1) s.data.toList;have e:=Q0 List.length hd;rw[A0] at e;unfold Lib.splitN at e;rw[a0] at e;omega
 ·have:x.data.toList∈Lib.splitN s.data.toList [32] 5:=by rw[<-hd];exact Q4.2 ⟨x,hx,rfl⟩
  have h2:=qC _ _ _ this;rw[aU,aU] at h2;exact h2
theorem aCw{ws:List ByteArray}{m j:Nat}{x:ByteArray}(h:ws[j]? = some x):(Lib.cellsOf ws m)[j]? = some (.string x):=by
 have hj:=(R9.1 h).1;unfold Lib.cellsOf;rw[List.getElem?_toArray,Y0 (by simpa using hj),Z2,h];rfl
theorem yE(s:ByteArray)(w:World)(hM:lN w)(hs:s.size<=20000):
  Calls Tryz.prog 122 #[.string s] w fun e w'=> ∃v,e=.returned v/\cU (fun b=>w.heap.size<=b/\b<w'.heap.size) w' (fV s.data.toList) v/\aA w w':=by
 rcases nA s [] with ⟨h1,h2,h3⟩ | ⟨h1,h2,h3⟩
 ·have HF:Hid (fV s.data.toList = []):=by show _=_;unfold fV;rw[if_pos h1]
  clear h1;go_enter Tryz.func122,Tryz.ntmps122;go_wp2_with fail;go_ret;exact⟨_,rfl,Or.inl ⟨HF.out,none,0,rfl⟩,aA.refl _⟩
 ·have HF:Hid (fV s.data.toList=(Lib.split s.data.toList [44]).map fun x=>⟨x.toArray⟩):=by show _=_;unfold fV;rw[if_neg h1]
  obtain⟨a5,mm,a2⟩:=hM;have hl:=Lib.splitB_all ⟨#[44]⟩ (by decide) 0 _ s rfl;have hc:=Lib.countB_le ⟨#[44]⟩ (by decide) s.size s (Y1 _);have hd:(Lib.splitB ⟨#[44]⟩ 0 (Lib.countB s ⟨#[44]⟩) s).map (·.data.toList)=Lib.split s.data.toList [44]:=Lib.splitB_data ⟨#[44]⟩ 0 _ s;have a1:Hid (fV s.data.toList=Lib.splitB ⟨#[44]⟩ 0 (Lib.countB s ⟨#[44]⟩) s):=by
   show _=_;rw[HF.out,<-hd,List.map_map]
   conv=>rhs;rw[<-List.map_id (Lib.splitB ⟨#[44]⟩ 0 (Lib.countB s ⟨#[44]⟩) s)]
   apply List.map_congr_left;intro x _;exact dB x
  have HL:=hid hl;have HC:=hid hc;clear h1 hd hl hc HF;go_enter Tryz.func122,Tryz.ntmps122;go_wp2_with fail;refine (Tryz.strings_Split s ⟨#[44]⟩ mm w (by omega) a2 (by decide)).mono ?_;rintro e w1 ⟨rfl,a0⟩;have K1:Hid (aA w w1):=by rw[a0];exact aA.alloc _ _
  have a3:Hid (w1.heap.size=w.heap.size+1):=by show _=_;rw[a0,aC]
  have a4:Hid (∀(j:Nat) (x:ByteArray),(Lib.splitB ⟨#[44]⟩ 0 (Lib.countB s ⟨#[44]⟩) s)[j]? = some x->w1.cell? ⟨w.heap.size,0+j,none⟩=some (.string x)):=by
   intro j x hx;rw[a0];have:=jI (w:=w) (cs:=(Lib.splitB ⟨#[44]⟩ 0 (Lib.countB s ⟨#[44]⟩) s).map Value.string) (T:=9) j (.string x) (by simp[hx]);rwa [Addr.add_mid] at this
  clear a0 a2;go_wp2_with fail;go_ret;refine⟨_,rfl,Or.inr ⟨w.heap.size,0,Lib.countB s ⟨#[44]⟩+1,?_,⟨⟨Y1 _,by rw[a3.out];omega⟩,by rw[a1.out,HL.out];exact Y1 _⟩,?_,?_⟩,K1.out⟩
  ·rw[a1.out,HL.out];rfl
  ·rw[a1.out,HL.out];have:=HC.out;omega
  ·rw[a1.out];exact a4.out
end Go.Proofs.YthjlcjdlelkkdaaGreatDoor
namespace Go.Proofs.YthjlcjdlelkkdaaGreatDoor
open Go.RowKit
def aOk(l:List UInt8)(w:World)(e:Ending)(w':World):Prop:=
 ∃cs:List Value,e=.returned (.tuple #[.agg cs.toArray,.int .i64 (gU l)])/\(gU l=0->eB (fun b=>w.heap.size<=b/\b<w'.heap.size) w' (nW l) cs)/\(gU l≠0->cs=aAe)/\aA w w'
def aOq(b:Nat)(ws:List ByteArray)(w:World):Prop:=b<w.heap.size/\∀(j:Nat) (x:ByteArray),ws[j]? = some x->w.cell? ⟨b,j,none⟩=some (.string x)
theorem aOq.keep{b:Nat}{ws:List ByteArray}{w w':World}(h:aOq b ws w)(k:aA w w'):aOq b ws w':=⟨R8 h.1 k.size,fun j x hx=>(k.cell (p:=⟨b,j,none⟩) h.1).trans (h.2 j x hx)⟩
structure kL (w5:World) (bp bw bn:Nat) (ws:List ByteArray) (nb:Array Value) (W:World):Prop where
 keep:aA w5 W
 pbox:iY bp #[.string ⟨#[]⟩,.int .i64 0,.int .i64 0,.slice none 0 0,.int .i64 0,.string ⟨#[]⟩,.int .i64 0,.int .i64 0,.int .i64 0,.string ⟨#[]⟩,.bool false,.string ⟨#[]⟩,.bool false,.slice none 0 0] W
 words:aOq bw ws W
 nbox:aL bn nb W
theorem kL.on{w5:World}{bp bw bn:Nat}{ws:List ByteArray}{nb:Array Value}{W W':World}(h:kL w5 bp bw bn ws nb W)(k:aA W W'):kL w5 bp bw bn ws nb W':=
 ⟨h.keep.trans k,h.pbox.keep k h.pbox.facts.2.2,h.words.keep k,h.nbox.keep k h.nbox.1⟩
theorem kL.cells{w5:World}{bp bw bn:Nat}{x0 x1 x2 x3 x4:ByteArray}{nb:Array Value}{W:World}(h:kL w5 bp bw bn [x0,x1,x2,x3,x4] nb W):
  W.cell? ⟨bw,0,none⟩=some (.string x0)/\W.cell? ⟨bw,3,none⟩=some (.string x3)/\∀o,W.cell? ⟨bn,o,none⟩=nb[o]? :=
 ⟨h.words.2 0 _ rfl,h.words.2 3 _ rfl,h.nbox.2⟩
theorem kL.after{w5:World}{bp bw bn:Nat}{x0 x1 x2 x3 x4:ByteArray}{nb:Array Value}{w:World}(h:kL w5 bp bw bn [x0,x1,x2,x3,x4] nb w)(h1:bw≠bp)(h2:bn≠bp)(v0 v1 v2 v3 v4 v5 v6 v7 v8 v9 v10 v11 v12 v13:Value):
  ((((((((((((((w.setCell ⟨bp,0,none⟩ v0).setCell ⟨bp,1,none⟩ v1).setCell ⟨bp,2,none⟩ v2).setCell ⟨bp,3,none⟩ v3).setCell ⟨bp,4,none⟩ v4).setCell ⟨bp,5,none⟩ v5).setCell ⟨bp,6,none⟩ v6).setCell ⟨bp,7,none⟩ v7).setCell ⟨bp,8,none⟩ v8).setCell ⟨bp,9,none⟩ v9).setCell ⟨bp,10,none⟩ v10).setCell ⟨bp,11,none⟩ v11).setCell ⟨bp,12,none⟩ v12).setCell ⟨bp,13,none⟩ v13).cell? ⟨bw,0,none⟩=some (.string x0)/\((((((((((((((w.setCell ⟨bp,0,none⟩ v0).setCell ⟨bp,1,none⟩ v1).setCell ⟨bp,2,none⟩ v2).setCell ⟨bp,3,none⟩ v3).setCell ⟨bp,4,none⟩ v4).setCell ⟨bp,5,none⟩ v5).setCell ⟨bp,6,none⟩ v6).setCell ⟨bp,7,none⟩ v7).setCell ⟨bp,8,none⟩ v8).setCell ⟨bp,9,none⟩ v9).setCell ⟨bp,10,none⟩ v10).setCell ⟨bp,11,none⟩ v11).setCell ⟨bp,12,none⟩ v12).setCell ⟨bp,13,none⟩ v13).cell? ⟨bw,3,none⟩=some (.string x3)/\∀o,((((((((((((((w.setCell ⟨bp,0,none⟩ v0).setCell ⟨bp,1,none⟩ v1).setCell ⟨bp,2,none⟩ v2).setCell ⟨bp,3,none⟩ v3).setCell ⟨bp,4,none⟩ v4).setCell ⟨bp,5,none⟩ v5).setCell ⟨bp,6,none⟩ v6).setCell ⟨bp,7,none⟩ v7).setCell ⟨bp,8,none⟩ v8).setCell ⟨bp,9,none⟩ v9).setCell ⟨bp,10,none⟩ v10).setCell ⟨bp,11,none⟩ v11).setCell ⟨bp,12,none⟩ v12).setCell ⟨bp,13,none⟩ v13).cell? ⟨bn,o,none⟩=nb[o]? :=by
 have k:=(h.pbox.set rfl v0 v1 v2 v3 v4 v5 v6 v7 v8 v9 v10 v11 v12 v13).2.2.2;have c:=h.cells;generalize ((((((((((((((w.setCell ⟨bp,0,none⟩ v0).setCell ⟨bp,1,none⟩ v1).setCell ⟨bp,2,none⟩ v2).setCell ⟨bp,3,none⟩ v3).setCell ⟨bp,4,none⟩ v4).setCell ⟨bp,5,none⟩ v5).setCell ⟨bp,6,none⟩ v6).setCell ⟨bp,7,none⟩ v7).setCell ⟨bp,8,none⟩ v8).setCell ⟨bp,9,none⟩ v9).setCell ⟨bp,10,none⟩ v10).setCell ⟨bp,11,none⟩ v11).setCell ⟨bp,12,none⟩ v12).setCell ⟨bp,13,none⟩ v13)=W' at k |-
 exact⟨(X0 (w:=w) (k bw h1)).trans c.1,(X0 (w:=w) (k bw h1)).trans c.2.1,fun o=>(X0 (w:=w) (k bn h2)).trans (c.2.2 o)⟩
def aWj(w5:World)(fs:List ByteArray)(v:Value)(W:World):Prop:=cU (fun b=>w5.heap.size<=b/\b<W.heap.size) W fs v
theorem aXe{α:Type}{cs:List α}(h:cs.length=5):∃c0 c1 c2 c3 c4,cs = [c0,c1,c2,c3,c4]:=by
 match cs,h with
 | [c0,c1,c2,c3,c4],_=>exact⟨c0,c1,c2,c3,c4,rfl⟩
theorem aBg(s:ByteArray)(w:World)(hE:Env w)(hM:lN w)(hs:s.size<=20000):
  Calls Tryz.prog 87 #[.string s] w fun e w'=>aOk s.data.toList w e w':=by
 obtain⟨ws,b9,d5,b5,c7⟩:=aHp s;have b7:Hid (gU s.data.toList=aCc (ws.map (·.data.toList))):=by show _=_;unfold gU;rw[b5]
 have c3:Hid (nW s.data.toList=aIx (ws.map (·.data.toList))):=by show _=_;unfold nW;rw[b5]
 have HE:=hid hE;have HM:=hid hM;have a3:=hid c7;clear b5 hE hM c7;go_enter Tryz.func87,Tryz.ntmps87;go_wp2_with fail;refine bK (fun W'=>aA w W'/\iY w.heap.size #[.string ⟨#[]⟩,.int .i64 0,.int .i64 0,.slice none 0 0,.int .i64 0,.string ⟨#[]⟩,.int .i64 0,.int .i64 0,.int .i64 0,.string ⟨#[]⟩,.bool false,.string ⟨#[]⟩,.bool false,.slice none 0 0] W') ⟨aA.alloc _ _,iY.new _ _⟩ ?_;rintro W1 ⟨k1,b1⟩;obtain⟨d0,mm,c5⟩:=HM.out.keep k1;refine (Tryz.strings_SplitN s ⟨#[32]⟩ 5 mm W1 (by omega) c5 (by decide) (by decide) (by decide)).mono ?_;rintro e w2 ⟨rfl,a4⟩;rw[<-b9] at a4 |-
 have K2:Hid (aA w w2):=by rw[a4];exact k1.trans (aA.alloc _ _)
 have B2:Hid (iY w.heap.size #[.string ⟨#[]⟩,.int .i64 0,.int .i64 0,.slice none 0 0,.int .i64 0,.string ⟨#[]⟩,.int .i64 0,.int .i64 0,.int .i64 0,.string ⟨#[]⟩,.bool false,.string ⟨#[]⟩,.bool false,.slice none 0 0] w2):=by rw[a4];exact b1.keep (aA.alloc _ _) b1.facts.2.2
 have a5:Hid (aOq W1.heap.size ws w2):=by
  rw[a4];refine⟨by rw[aC];omega,fun j x hx=>?_⟩;have:=aCw (m:=min 5 (s.size+1)) hx;show (match (W1.heap.push _)[W1.heap.size]? with | some (Obj.cells c _ _)=>c[j]? | _=>none)=_;rw[Array.getElem?_push,if_pos rfl];exact this
 have b4:w.heap.size<W1.heap.size:=b1.facts.2.2;clear a4 k1 b1 c5 d0 b9;generalize W1.heap.size=bw at a5 b4 |-
 by_cases h5:ws.length=5
 ·rw[h5];obtain⟨x0,x1,x2,x3,x4,rfl⟩:=aXe h5;have HW:Hid (gU s.data.toList=if fK x1.data.toList=false\/fK x2.data.toList=false then 1 else rdE x4.data.toList):=b7.out;have HP:Hid (nW s.data.toList=⟨⟨x0.data.toList.toArray⟩,fX x1.data.toList,fX x2.data.toList,fV x3.data.toList,(kF x4.data.toList).getD NT.zero⟩):=c3.out;have e1:x0.size<=s.size:=a3.out x0 (by simp);have e8:x1.size<=s.size:=a3.out x1 (by simp);have f0:x2.size<=s.size:=a3.out x2 (by simp);have f4:x3.size<=s.size:=a3.out x3 (by simp);have c1:w2.cell? ⟨bw,1,none⟩=some (.string x1):=a5.out.2 1 _ rfl;clear b7 c3 a3 h5 d5;go_wp2_with fail;refine (iC x1 w2 (HE.out.keep K2.out) (by omega)).mono ?_;rintro e w3 ⟨n1,rfl,b8,k3⟩;have K3:=hid (K2.out.trans k3);have B3:=hid (B2.out.keep k3 B2.out.facts.2.2);have b2:=hid (a5.out.keep k3);have a8:=hid b8;clear c1 k3 K2 B2 a5 b8;have c2:w3.cell? ⟨bw,2,none⟩=some (.string x2):=b2.out.2 2 _ rfl;generalize fK x1.data.toList=β1 at HW a8 |-
  go_wp2_with fail;refine (iC x2 w3 (HE.out.keep K3.out) (by omega)).mono ?_;rintro e w4 ⟨n2,rfl,c0,k4⟩;have K4:=hid (K3.out.trans k4);have B4:=hid (B3.out.keep k4 B3.out.facts.2.2);have a7:=hid (b2.out.keep k4);have b3:=hid c0;clear c2 k4 K3 B3 b2 c0;generalize fK x2.data.toList=β2 at HW b3 |-
  obtain⟨d4,d7,d2⟩:=B4.out.facts;cases β1
  ·have HX:Hid (gU s.data.toList=1):=by show _=_;rw[HW.out];simp
   go_wp2_with fail;refine cV (v:= .tuple #[.agg #[.string ⟨#[]⟩,.int .i64 0,.int .i64 0,.slice none 0 0,.int .i64 0,.string ⟨#[]⟩,.int .i64 0,.int .i64 0,.int .i64 0,.string ⟨#[]⟩,.bool false,.string ⟨#[]⟩,.bool false,.slice none 0 0],.int .i64 1]) (fun W'=>iY w.heap.size #[.string ⟨#[]⟩,.int .i64 0,.int .i64 0,.slice none 0 0,.int .i64 0,.string ⟨#[]⟩,.int .i64 0,.int .i64 0,.int .i64 0,.string ⟨#[]⟩,.bool false,.string ⟨#[]⟩,.bool false,.slice none 0 0] W'/\aA w W') ?_ rfl ?_
   ·have h:=B4.out.set rfl (.string ⟨#[]⟩) (.int .i64 0) (.int .i64 0) (.slice none 0 0) (.int .i64 0) (.string ⟨#[]⟩) (.int .i64 0) (.int .i64 0) (.int .i64 0) (.string ⟨#[]⟩) (.bool false) (.string ⟨#[]⟩) (.bool false) (.slice none 0 0);exact⟨h.1,Below.trans K4.out h.2.1⟩
   rintro W ⟨hb,hk⟩;obtain⟨a1,-,-⟩:=hb.facts;refine⟨by simp[results,Tryz.results87,go_sem,a1],aAe,by rw[HX.out];rfl,fun h=>absurd (HX.out.symm.trans h) (by decide),fun _=>rfl,hk⟩
  cases β2
  ·have HX:Hid (gU s.data.toList=1):=by show _=_;rw[HW.out];simp
   go_wp2_with fail;refine cV (v:= .tuple #[.agg #[.string ⟨#[]⟩,.int .i64 0,.int .i64 0,.slice none 0 0,.int .i64 0,.string ⟨#[]⟩,.int .i64 0,.int .i64 0,.int .i64 0,.string ⟨#[]⟩,.bool false,.string ⟨#[]⟩,.bool false,.slice none 0 0],.int .i64 1]) (fun W'=>iY w.heap.size #[.string ⟨#[]⟩,.int .i64 0,.int .i64 0,.slice none 0 0,.int .i64 0,.string ⟨#[]⟩,.int .i64 0,.int .i64 0,.int .i64 0,.string ⟨#[]⟩,.bool false,.string ⟨#[]⟩,.bool false,.slice none 0 0] W'/\aA w W') ?_ rfl ?_
   ·have h:=B4.out.set rfl (.string ⟨#[]⟩) (.int .i64 0) (.int .i64 0) (.slice none 0 0) (.int .i64 0) (.string ⟨#[]⟩) (.int .i64 0) (.int .i64 0) (.int .i64 0) (.string ⟨#[]⟩) (.bool false) (.string ⟨#[]⟩) (.bool false) (.slice none 0 0);exact⟨h.1,Below.trans K4.out h.2.1⟩
   rintro W ⟨hb,hk⟩;obtain⟨a1,-,-⟩:=hb.facts;refine⟨by simp[results,Tryz.results87,go_sem,a1],aAe,by rw[HX.out];rfl,fun h=>absurd (HX.out.symm.trans h) (by decide),fun _=>rfl,hk⟩
  have a6:Hid (gU s.data.toList=rdE x4.data.toList):=by show _=_;rw[HW.out];simp
  obtain rfl:=a8.out rfl;obtain rfl:=b3.out rfl;have c4:w4.cell? ⟨bw,4,none⟩=some (.string x4):=a7.out.2 4 _ rfl;clear HW a8 b3 d4 d7 d2;go_wp2_with fail;refine (yC x4 w4 (HE.out.keep K4.out) (HM.out.keep K4.out)).mono ?_;rintro e w5 ⟨cs,rfl,a0,a2,k5⟩;have K5:=hid (K4.out.trans k5);have B5:=hid (B4.out.keep k5 B4.out.facts.2.2);have d6:=hid (a7.out.keep k5);have f3:w4.heap.size<=w5.heap.size:=k5.size;have d1:w.heap.size<w4.heap.size:=B4.out.facts.2.2;clear c4 k5 K4 B4 a7;generalize c9:rdE x4.data.toList=re at a6 a0 a2 |-
  by_cases hz:re=0
  ·subst hz;obtain⟨t,ht,hn⟩:=a0 rfl;have HT:Hid ((kF x4.data.toList).getD NT.zero=t):=by show _=_;rw[ht];rfl
   have d8:=hid hn;cases htt:t with
   | node k a fl nt kids=>
   have c8:=hn;rw[htt,aH] at c8;obtain⟨kp,kc,rfl,-,-,-⟩:=c8;clear hn a2 a0 c9 ht;go_upto_region 11 with fail;refine bE (fun W'=>kL w5 w.heap.size bw w5.heap.size [x0,x1,x2,x3,x4] #[.int .i64 k,.string a.n,.int .i64 a.op,.int .i64 a.v,.int .i64 a.sl,.string a.f,.bool a.on,.string fl,.bool nt,.slice kp kids.length kc] W') ⟨aA.alloc _ _,B5.out.keep (aA.alloc _ _) B5.out.facts.2.2,d6.out.keep (aA.alloc _ _),aL.new _ _ _⟩ ?_;intro W6 le;have LE:=hid le;have LD:=hid (LE.out.on (show aA W6 W6.drew from⟨rfl,rfl,rfl,Y1 _,fun _ _=>rfl⟩));have b0:bw≠w.heap.size:=by omega
   have a9:w5.heap.size≠w.heap.size:=by have:=B5.out.facts.2.2;omega
   have e0:W6.cell? ⟨bw,0,none⟩=some (.string x0):=le.words.2 0 _ rfl;have e3:W6.cell? ⟨bw,3,none⟩=some (.string x3):=le.words.2 3 _ rfl;have en:=le.nbox.2;have eb:=le.words.1;have el:=le.nbox.1;have ep:=le.pbox.facts.1;have ez:=le.pbox.facts.2.1;have ey:=le.pbox.facts.2.2;clear le;go_region_held3 (fun W'=>W'.cell? ⟨bw,0,none⟩=some (.string x0)/\W'.cell? ⟨bw,3,none⟩=some (.string x3)/\∀o,W'.cell? ⟨w5.heap.size,o,none⟩=(#[.int .i64 k,.string a.n,.int .i64 a.op,.int .i64 a.v,.int .i64 a.sl,.string a.f,.bool a.on,.string fl,.bool nt,.slice kp kids.length kc]:Array Value)[o]?) (first | with_reducible exact LE.out.cells | with_reducible exact LD.out.cells | exact LE.out.after b0 a9 _ _ _ _ _ _ _ _ _ _ _ _ _ _ | go_keep)
    (first
     | (go_at_call 121;refine (oR _ _ (by omega)).mono ?_;rintro e w7 ⟨rfl,k7⟩;(first | (have k8:=iM k7) | (have k8:=k7));have LF:=hid (LE.out.on k8);clear LE k7 k8;have LE:=LF;clear LF;have ep:=LE.out.pbox.facts.1;have ez:=LE.out.pbox.facts.2.1;have ey:=LE.out.pbox.facts.2.2)
     | (go_at_call 122;refine (yE x3 _ (HM.out.keep (K5.out.trans LE.out.keep)) (by omega)).mono ?_;rintro e w7 ⟨fv,rfl,hf,k7⟩;obtain⟨fp,fc,rfl,e6⟩:=hf.len;have FS:Hid (aWj w5 (fV x3.data.toList) (.slice fp (fV x3.data.toList).length fc) w7):=cU.mono (fun _ _=>rfl) (fun _ hb=>⟨U2 LE.out.keep.size hb.1,hb.2⟩) hf;have LF:=hid (LE.out.on k7);clear LE k7 hf;have LE:=LF;clear LF;have ep:=LE.out.pbox.facts.1;have ez:=LE.out.pbox.facts.2.1;have ey:=LE.out.pbox.facts.2.2))
   clear ep ez ey en eb el e0 e3 LD;go_wp2_with fail;refine cV (v:= .tuple #[.agg #[.string x0,.int .i64 (fX x1.data.toList),.int .i64 (fX x2.data.toList),.slice fp (fV x3.data.toList).length fc,.int .i64 k,.string a.n,.int .i64 a.op,.int .i64 a.v,.int .i64 a.sl,.string a.f,.bool a.on,.string fl,.bool nt,.slice kp kids.length kc],.int .i64 0]) (fun W'=>iY w.heap.size #[.string x0,.int .i64 (fX x1.data.toList),.int .i64 (fX x2.data.toList),.slice fp (fV x3.data.toList).length fc,.int .i64 k,.string a.n,.int .i64 a.op,.int .i64 a.v,.int .i64 a.sl,.string a.f,.bool a.on,.string fl,.bool nt,.slice kp kids.length kc] W'/\Below w.heap.size w7 W'/\W'.heap.size=w7.heap.size/\∀k,k≠w.heap.size->W'.heap[k]? = w7.heap[k]?) (LE.out.pbox.set rfl _ _ _ _ _ _ _ _ _ _ _ _ _ _) rfl ?_;rintro W ⟨hb,hk,hz,ho⟩;obtain⟨a1,-,-⟩:=hb.facts;have c6:∀p:Addr,p.block≠w.heap.size->W.cell? p=w7.cell? p:=fun p hp=>X0 (w:=w7) (ho _ hp);have f1:=LE.out.keep.size;refine⟨by simp[results,Tryz.results87,go_sem,a1],[.string x0,.int .i64 (fX x1.data.toList),.int .i64 (fX x2.data.toList),.slice fp (fV x3.data.toList).length fc,.int .i64 k,.string a.n,.int .i64 a.op,.int .i64 a.v,.int .i64 a.sl,.string a.f,.bool a.on,.string fl,.bool nt,.slice kp kids.length kc],by rw[a6.out],fun _=>?_,fun h=>absurd a6.out h,Below.trans (K5.out.trans LE.out.keep) hk⟩;rw[HP.out,HT.out,dB];refine⟨_,_,rfl,?_,?_⟩
   ·exact cU.mono (fun p hp=>c6 p (by have:=hp.1;omega)) (fun b hb=>⟨by have:=hb.1;omega,by rw[hz];exact hb.2⟩) FS.out
   ·exact aH.mono (fun p hp=>(c6 p (by have:=hp.1;omega)).trans (LE.out.keep.cell (p:=p) hp.2)) (fun b hb=>⟨by have:=hb.1;omega,by rw[hz];have:=hb.2;omega⟩) _ _ d8.out
  ·have HX:Hid (gU s.data.toList=re):=a6.out;obtain rfl:=a2 hz;have d9:(re==0)=false:=by simp[hz]
   have d3:(re != 0)=true:=by simp[hz]
   have HZ:=hid hz;clear hz a0 a2 c9;unfold aAd;go_upto_region 10 with fail;refine bE (fun W'=>aA w W'/\iY w.heap.size #[.string ⟨#[]⟩,.int .i64 0,.int .i64 0,.slice none 0 0,.int .i64 0,.string ⟨#[]⟩,.int .i64 0,.int .i64 0,.int .i64 0,.string ⟨#[]⟩,.bool false,.string ⟨#[]⟩,.bool false,.slice none 0 0] W') ⟨K5.out.alloc' _,B5.out.keep (aA.alloc _ _) B5.out.facts.2.2⟩ ?_;rintro W6 ⟨k6,b6⟩;have K6:=hid k6;have B6:=hid b6;obtain⟨e7,e4,e5⟩:=b6.facts;clear k6 b6;go_wp2_with fail;refine cV (v:= .tuple #[.agg #[.string ⟨#[]⟩,.int .i64 0,.int .i64 0,.slice none 0 0,.int .i64 0,.string ⟨#[]⟩,.int .i64 0,.int .i64 0,.int .i64 0,.string ⟨#[]⟩,.bool false,.string ⟨#[]⟩,.bool false,.slice none 0 0],.int .i64 re]) (fun W'=>iY w.heap.size #[.string ⟨#[]⟩,.int .i64 0,.int .i64 0,.slice none 0 0,.int .i64 0,.string ⟨#[]⟩,.int .i64 0,.int .i64 0,.int .i64 0,.string ⟨#[]⟩,.bool false,.string ⟨#[]⟩,.bool false,.slice none 0 0] W'/\aA w W') ?_ rfl ?_
   ·have h:=B6.out.set rfl (.string ⟨#[]⟩) (.int .i64 0) (.int .i64 0) (.slice none 0 0) (.int .i64 0) (.string ⟨#[]⟩) (.int .i64 0) (.int .i64 0) (.int .i64 0) (.string ⟨#[]⟩) (.bool false) (.string ⟨#[]⟩) (.bool false) (.slice none 0 0);exact⟨h.1,Below.trans K6.out h.2.1⟩
   rintro W ⟨hb,hk⟩;obtain⟨a1,-,-⟩:=hb.facts;refine⟨by simp[results,Tryz.results87,go_sem,a1],aAe,by rw[HX.out];rfl,fun h=>absurd (HX.out.symm.trans h) HZ.out,fun _=>rfl,hk⟩
 ·have f2:(ws.length:Int)<5:=by omega
  have HX:Hid (gU s.data.toList=1):=by show _=_;rw[b7.out];exact aWh (by simpa using h5)
  obtain⟨e2,d3,e9⟩:=B2.out.facts;go_wp2_with fail;refine cV (v:= .tuple #[.agg #[.string ⟨#[]⟩,.int .i64 0,.int .i64 0,.slice none 0 0,.int .i64 0,.string ⟨#[]⟩,.int .i64 0,.int .i64 0,.int .i64 0,.string ⟨#[]⟩,.bool false,.string ⟨#[]⟩,.bool false,.slice none 0 0],.int .i64 1]) (fun W'=>iY w.heap.size #[.string ⟨#[]⟩,.int .i64 0,.int .i64 0,.slice none 0 0,.int .i64 0,.string ⟨#[]⟩,.int .i64 0,.int .i64 0,.int .i64 0,.string ⟨#[]⟩,.bool false,.string ⟨#[]⟩,.bool false,.slice none 0 0] W'/\aA w W') ?_ rfl ?_
  ·have h:=B2.out.set rfl (.string ⟨#[]⟩) (.int .i64 0) (.int .i64 0) (.slice none 0 0) (.int .i64 0) (.string ⟨#[]⟩) (.int .i64 0) (.int .i64 0) (.int .i64 0) (.string ⟨#[]⟩) (.bool false) (.string ⟨#[]⟩) (.bool false) (.slice none 0 0);exact⟨h.1,Below.trans K2.out h.2.1⟩
  rintro W ⟨hb,hk⟩;obtain⟨a1,-,-⟩:=hb.facts;refine⟨by simp[results,Tryz.results87,go_sem,a1],aAe,by rw[HX.out];rfl,fun h=>absurd (HX.out.symm.trans h) (by decide),fun _=>rfl,hk⟩
end Go.Proofs.YthjlcjdlelkkdaaGreatDoor
namespace Go.Proofs.YthjlcjdlelkkdaaGreatDoor
open Go.RowKit
def dS(B:Nat)(v:Value)(acc:List PK)(w:World):Prop:=
 ∃csl:List (List Value),csl.length=acc.length/\(∀cs∈csl,cs.length=14)/\w.ownsRow B 98 14 v acc.length csl.flatten/\∀(i:Nat) t cs,acc[i]? = some t->csl[i]? = some cs->eB (fun b=>B<=b/\b<w.heap.size/\v.ownBlock≠some b) w t cs
theorem dS.nil(B:Nat)(w:World):dS B (.slice none 0 0) [] w:=⟨[],rfl,by simp,Q1 _ _ _ _,by simp⟩
theorem dS.other{B:Nat}{v:Value}{acc:List PK}{w w':World}(h:dS B v acc w)(hs:w.heap.size<=w'.heap.size)(hb:∀b,B<=b->b<w.heap.size->w'.heap[b]? = w.heap[b]?):dS B v acc w':=by
 obtain⟨csl,h1,h2,⟨h3,a1⟩,h4⟩:=h;refine⟨csl,h1,h2,⟨h3,a1.imp id ?_⟩,fun i t cs hi hc=>eB.mono (fun p hp=>X0 (w:=w) (hb _ hp.1 hp.2.1)) (fun b hb=>⟨hb.1,R8 hb.2.1 hs,hb.2.2⟩) (h4 i t cs hi hc)⟩;rintro⟨g,cap,a0,e1,e2,e3,e4⟩;exact⟨g,cap,a0,e1,e2,by rw[hb g e2 (U9.1 e3).1];exact e3,e4⟩
theorem dS.keep{B:Nat}{v:Value}{acc:List PK}{w w':World}(h:dS B v acc w)(k:aA w w'):dS B v acc w':=h.other k.size fun b _ hb=>k.block b hb
theorem dS.push{B B':Nat}{v v':Value}{acc:List PK}{csl:List (List Value)}{t:PK}{cs:List Value}{w w':World}{o:Obj}(h1:csl.length=acc.length)(h2:∀cs∈csl,cs.length=14)
  (h4:∀(i:Nat) t cs,acc[i]? = some t->csl[i]? = some cs->eB (fun b=>B<=b/\b<w.heap.size/\v.ownBlock≠some b) w t cs)
  (hB:B<=B') (hv:∀g,v.ownBlock=some g->g<B') (hn:eB (fun b=>B'<=b/\b<w.heap.size) w t cs) (hc:cs.length=14)
  (h5:w'.ownsRow B 98 14 v' (acc.length+1) (csl.flatten++cs)) (h6:(w.alloc o).grownBy w' v.ownBlock) (h7:v'.ownBlock=v.ownBlock\/v'.ownBlock=some (w.alloc o).heap.size):dS B v' (acc++[t]) w':=by
 have e:=aC w o;have a4:w.heap.size<=w'.heap.size:=by have:=h6.size;omega
 have a0:∀p:Addr,p.block<w.heap.size->v.ownBlock≠some p.block->w'.cell? p=w.cell? p:=fun p hp a1=>by
  rw[X0 (w:=w.alloc o) (a:=p) (h6.block p.block (by omega) (fun e=>a1 e.symm))];exact (aA.alloc w o).cell hp
 have a1:∀b,b<w.heap.size->v.ownBlock≠some b->v'.ownBlock≠some b:=fun b hb hn=>by
  rcases h7 with h7 | h7
  ·rw[h7];exact hn
  ·rw[h7];intro e;have:=U6 e;omega
 refine⟨csl++[cs],by simp[h1],fun x hx=>?_,by simpa using h5,fun i u x hu hx=>?_⟩
 ·rcases U0.1 hx with hx | hx
  ·exact h2 x hx
  ·rw[T0.1 hx];exact hc
 ·by_cases hi:i<acc.length
  ·rw[Y0 hi] at hu;rw[Y0 (by omega)] at hx;exact eB.mono (fun p hp=>a0 p hp.2.1 hp.2.2) (fun b hb=>⟨hb.1,by omega,a1 b hb.2.1 hb.2.2⟩) (h4 i u x hu hx)
  ·have a3:i=acc.length:=by
    have:=(R9.1 hu).1;simp at this;omega
   subst a3;rw[Y2 (Y1 _),Nat.sub_self] at hu;rw[<-h1,Y2 (Y1 _),Nat.sub_self] at hx;cases hu;cases hx
   have a2:∀b,B'<=b->v.ownBlock≠some b:=fun b hb e=>by have:=hv b e;omega
   exact eB.mono (fun p hp=>a0 p hp.2 (a2 _ hp.1)) (fun b hb=>⟨by omega,by omega,a1 b hb.2 (a2 b hb.1)⟩) hn
theorem xW{csl:List (List Value)}(h2:∀cs∈csl,cs.length=14):∀(i:Nat) (cs:List Value),csl[i]? = some cs->∀(m:Nat) (v:Value),cs[m]? = some v->csl.flatten[i*14+m]? = some v:=by
 induction csl with
 | nil=>intro i cs h;simp at h
 | cons c r ih=>
  intro i cs h m v hv;have hc:c.length=14:=h2 c (by simp);cases i with
  | zero=>
   simp at h;subst h;have hm:m<c.length:=(R9.1 hv).1;rw[List.flatten_cons,Nat.zero_mul,Z6,Y0 hm];exact hv
  | succ i=>
   rw[List.flatten_cons,Y2 (by omega),show (i+1)*14+m-c.length=i*14+m by omega];exact ih (fun x hx=>h2 x (by simp[hx])) i cs (by simpa using h) m v hv
theorem dS.final{B:Nat}{v:Value}{acc:List PK}{w:World}(h:dS B v acc w):aZ (fun b=>B<=b/\b<w.heap.size) w acc v:=by
 obtain⟨csl,h1,h2,⟨h3,⟨rfl,h0⟩ | ⟨g,cap,a1,rfl,e2,e3,e4,e5,e6,e7⟩⟩,h4⟩:=h
 ·obtain rfl:=Y4.1 h0;exact Or.inl ⟨rfl,none,0,rfl⟩
 ·have hg:=(U9.1 e3).1;refine Or.inr ⟨g,0,cap,rfl,⟨e2,hg⟩,by unfold maxLen at e5;omega,fun i hi=>?_⟩;refine⟨csl[i],fun m u hu=>?_,?_⟩
  ·have a0:csl[i].length=14:=h2 _ (U5 _);have hm:m<14:=by rw[<-a0];exact (R9.1 hu).1
   have hf:=xW h2 i csl[i] (Q9 (by omega)) m u hu;rw[<-e7,List.getElem?_take,if_pos (by omega)] at hf;simp only[World.cell?,e3,Nat.zero_add];simpa using hf
  ·exact eB.mono (fun _ _=>rfl) (fun b hb=>⟨hb.1,hb.2.1⟩) (h4 i _ _ (Q9 hi) (Q9 (by omega)))
def lM(v:Value):Prop:=∀(p:Option Addr) (n c:Nat),v=.slice p n c->n<=c
theorem jE:lM (.slice none 0 0):=fun p n c e=>by cases e;exact Y1 _
theorem dS.cap{B:Nat}{v:Value}{acc:List PK}{w:World}(h:dS B v acc w):lM v:=by
 obtain⟨csl,-,-,⟨-,⟨rfl,-⟩ | ⟨g,cap,a0,rfl,-,-,h4,-⟩⟩,-⟩:=h
 ·exact jE
 ·exact fun p n c e=>by cases e;exact h4
theorem dS.own{B:Nat}{v:Value}{acc:List PK}{w:World}(h:dS B v acc w):∀g,v.ownBlock=some g->B<=g/\g<w.heap.size:=fun g hg=>by
 obtain⟨csl,-,-,o1,-⟩:=h;exact dN o1 hg
theorem dS.shape{B:Nat}{v:Value}{acc:List PK}{w:World}(h:dS B v acc w):∃p cap,v=.slice p acc.length cap:=by
 obtain⟨p,cap,h,-⟩:=h.final.len;exact⟨p,cap,h⟩
theorem aTk:(Tryz.prog.info? 98).map (fun i=>(i.zero,i.size,i.bytes))=some (some (.agg #[.string ⟨#[]⟩,.int .i64 0,.int .i64 0,.slice none 0 0,.int .i64 0,.string ⟨#[]⟩,.int .i64 0,.int .i64 0,.int .i64 0,.string ⟨#[]⟩,.bool false,.string ⟨#[]⟩,.bool false,.slice none 0 0]),14,176):=by kernel_rfl
end Go.Proofs.YthjlcjdlelkkdaaGreatDoor
namespace Go.Proofs.YthjlcjdlelkkdaaGreatDoor
open Go.RowKit
def aOp(l:List UInt8)(w:World)(e:Ending)(w':World):Prop:=
 ∃v,e=.returned (.tuple #[.agg #[v],.int .i64 ((rdT l).2.1:Nat),.int .i64 (rdT l).1])/\((rdT l).1≠0->v=.slice none 0 0)/\aZ (fun b=>w.heap.size<=b/\b<w'.heap.size) w' (rdT l).2.2 v/\aA w w'/\lM v
theorem aKq{l:List UInt8}{e:Int}{k:Nat}(h0:¬20000<l.length)(he:e≠0)(h:lT (l.length+1) l 0 []=(e,k,[])):rdT l=(e,k,[]):=by
 unfold rdT;rw[if_neg h0,h];simp[he]
theorem aUc{l:List UInt8}{k:Nat}{ps:List PK}(h0:¬20000<l.length)(h:lT (l.length+1) l 0 []=(0,k,ps)):rdT l=if cA ps≠0 then (cA ps,0,[]) else (0,0,ps):=by
 unfold rdT;rw[if_neg h0,h];simp
theorem xC(s:ByteArray)(w:World)(hE:Env w)(hM:lN w):
  Calls Tryz.prog 47 #[.string s] w fun e w'=>aOp s.data.toList w e w':=by
 obtain⟨i0,hi,e6,e5,f7⟩:=info_parts aTk;have f1:=aU s;have HE:=hid hE;have HM:=hid hM;have V0:=hid (aE.new w 24 (.slice none 0 0));have K0:=hid (aA.alloc w (.cells #[.slice none 0 0] 24));clear hE hM;by_cases hlong:20000<s.size
 ·have f0:(20000:Int)<(s.size:Int):=by omega
  have HX:Hid (rdT s.data.toList=(2,0,[])):=by show _=_;unfold rdT;rw[if_pos (by omega)]
  go_enter Tryz.func47,Tryz.ntmps47;go_wp2_with fail;refine cV (v:= .tuple #[.agg #[.slice none 0 0],.int .i64 0,.int .i64 2]) (fun W'=>aE w.heap.size 24 (.slice none 0 0) W'/\aA w W') ⟨V0.out,K0.out⟩ rfl ?_;rintro W ⟨hb,hk⟩;obtain⟨a6,-,-⟩:=hb.facts;refine⟨by simp[results,Tryz.results47,go_sem,a6],.slice none 0 0,by rw[HX.out];rfl,fun _=>rfl,by rw[HX.out];exact Or.inl ⟨rfl,none,0,rfl⟩,hk,jE⟩
 ·have f0:¬(20000:Int)<(s.size:Int):=by omega
  have a1:¬20000<s.data.toList.length:=by omega
  go_enter Tryz.func47,Tryz.ntmps47;go_wp2_with fail;refine bE (fun W'=>aE w.heap.size 24 (.slice none 0 0) W'/\aA w W') ⟨V0.out,K0.out⟩ ?_;rintro W1 ⟨v1,k1⟩;have V1:=hid v1;have K1:=hid k1;clear v1 k1 V0 K0;go_loopg [0,3] (s.size+1) (fun gk sv av wr=> ∃(l:ByteArray) (k:Nat) (acc:List PK) (tv:Value),sv=.string l/\av=.int .i64 k/\lT (s.data.toList.length+1) s.data.toList 0 []=lT gk l.data.toList k acc/\l.size<gk/\k+gk<=s.size+1/\acc.length=k/\aE w.heap.size 24 tv wr/\dS (w.heap.size+1) tv acc wr/\aA w wr);case atStart=>exact⟨s,0,[],_,rfl,rfl,by rw[f1],by omega,by omega,rfl,V1.out,dS.nil _ _,K1.out⟩
  case round=>
   obtain⟨l,k,acc,tv,rfl,rfl,d7,h8,hk,rfl,hv,b1,b8⟩:=hrel;have e3:=hid d7;have HV:=hid hv;have a5:=hid b1;have d8:=hid b8;have f2:=hid (HM.out.keep b8);have h9:=hid (HE.out.keep b8);clear d7 hv b1 b8 V1 K1;obtain⟨mk,rfl⟩:∃m,gk=m+1:=⟨gk-1,by omega⟩;rcases nA l [] with ⟨h1,h2,h3⟩ | ⟨h1,h2,h3⟩
   · -- all is read
    have a4:Hid (rdT s.data.toList=if cA acc≠0 then (cA acc,0,[]) else (0,0,acc)):=aUc a1 (k:=acc.length) (by rw[e3.out,lT,if_pos h1]);obtain⟨tp,tc,rfl⟩:=a5.out.shape;obtain⟨g6,f9,h0⟩:=HV.out.facts;have b2:=hid a5.out.final;have d0:=hid a5.out.cap;clear h1;go_wp2_with fail;refine (lJ (fun b=>w.heap.size+1<=b/\b<wr.heap.size) acc _ wr (fun _ h=>h.2) b2.out).mono ?_;rintro e w2 ⟨rfl,k2⟩;have K2:=hid (d8.out.trans k2);have V2:=hid (HV.out.keep k2 HV.out.facts.2.2);have F2:=hid (b2.out.keep (fun _ h=>h.2) k2);have h6:wr.heap.size<=w2.heap.size:=k2.size;obtain⟨d4,b3,f6⟩:=V2.out.facts;clear k2 g6 f9;generalize d2:cA acc=ct at a4 |-
    by_cases hz:ct=0
    ·subst hz;have HX:Hid (rdT s.data.toList=(0,0,acc)):=by show _=_;rw[a4.out];simp
     clear a4 d2;go_wp2_with fail;refine cV (v:= .tuple #[.agg #[.slice tp acc.length tc],.int .i64 0,.int .i64 0]) (fun W'=>aE w.heap.size 24 (.slice tp acc.length tc) W'/\aA w W'/\W'.heap.size=w2.heap.size/\∀b,b≠w.heap.size->W'.heap[b]? = w2.heap[b]?) ⟨V2.out.set _,Below.trans K2.out (aQ _ _ _ _),dI _ _ _ _,lU _ _ _ _⟩ rfl ?_;rintro W ⟨hb,g9,e7,g8⟩;obtain⟨a6,-,-⟩:=hb.facts;refine⟨by simp[results,Tryz.results47,go_sem,a6],.slice tp acc.length tc,by rw[HX.out];rfl,fun h=>absurd (by rw[HX.out]) h,?_,g9,d0.out⟩;rw[HX.out];exact aZ.mono (fun p hp=>X0 (w:=w2) (g8 _ (by have:=hp.1;omega))) (fun b hb=>⟨by have:=hb.1;omega,by rw[e7];have:=hb.2;omega⟩) F2.out
    ·have HX:Hid (rdT s.data.toList=(ct,0,[])):=by show _=_;rw[a4.out];simp[hz]
     have c0:(ct==0)=false:=by simp[hz]
     have c9:(ct != 0)=true:=by simp[hz]
     clear a4 hz d2;go_wp2_with fail;refine cV (v:= .tuple #[.agg #[.slice none 0 0],.int .i64 0,.int .i64 ct]) (fun W'=>aE w.heap.size 24 (.slice none 0 0) W'/\aA w W') ⟨V2.out.set _,Below.trans K2.out (aQ _ _ _ _)⟩ rfl ?_;rintro W ⟨hb,hk⟩;obtain⟨a6,-,-⟩:=hb.facts;refine⟨by simp[results,Tryz.results47,go_sem,a6],.slice none 0 0,by rw[HX.out];rfl,fun _=>rfl,by rw[HX.out];exact Or.inl ⟨rfl,none,0,rfl⟩,hk,jE⟩
   ·obtain⟨e9,mm,e0⟩:=f2.out;have f4:=aU l;go_wp2_with fail;refine (Tryz.strings_Cut l ⟨#[10]⟩ mm wr (by omega) e0).mono ?_;rintro e w2 ⟨rfl,nq,e1⟩;have k2:aA wr w2:=by rw[e1];exact aA.drewN (aA.refl _) _
    have f8:=hid k2;have K2:=hid (d8.out.trans k2);have V2:=hid (HV.out.keep k2 HV.out.facts.2.2);have b7:=hid (a5.out.keep k2);have a7:Hid (lT (s.data.toList.length+1) s.data.toList 0 []=if (Lib.cut l.data.toList [10]).2.2=false then (1,acc.length,[]) else if gU (Lib.cut l.data.toList [10]).1≠0 then (gU (Lib.cut l.data.toList [10]).1,acc.length,[]) else lT mk (Lib.cut l.data.toList [10]).2.1 (acc.length+1) (acc++[nW (Lib.cut l.data.toList [10]).1])):=by
     show _=_;rw[e3.out,lT,if_neg h1]
    have a2:(Lib.cut l.data.toList [10]).2.2=true->l.data.toList=(Lib.cut l.data.toList [10]).1++10 :: (Lib.cut l.data.toList [10]).2.1:=fun h=>(aMg 10 (show Lib.cut l.data.toList [10]=((Lib.cut l.data.toList [10]).1,(Lib.cut l.data.toList [10]).2.1,true) by rw[<-h])).1;clear e1 k2 e0 h1 e9;rw[show (ByteArray.mk #[10]).data.toList = [10] from rfl];generalize Lib.cut l.data.toList [10]=ct at a7 a2 |-
    obtain⟨x,r,b⟩:=ct;simp only at a7 a2 |-
    obtain⟨d4,b3,f6⟩:=V2.out.facts;cases b
    ·have HX:Hid (rdT s.data.toList=(1,acc.length,[])):=aKq a1 (by decide) (by rw[a7.out];simp);go_wp2_with fail;refine cV (v:= .tuple #[.agg #[.slice none 0 0],.int .i64 acc.length,.int .i64 1]) (fun W'=>aE w.heap.size 24 (.slice none 0 0) W'/\aA w W') ⟨V2.out.set _,Below.trans K2.out (aQ _ _ _ _)⟩ rfl ?_;rintro W ⟨hb,hk⟩;obtain⟨a6,-,-⟩:=hb.facts;refine⟨by simp[results,Tryz.results47,go_sem,a6],.slice none 0 0,by rw[HX.out],fun _=>rfl,by rw[HX.out];exact Or.inl ⟨rfl,none,0,rfl⟩,hk,jE⟩
    ·have g4:=Q0 List.length (a2 rfl);simp only[List.length_append,List.length_cons] at g4;have i3:(⟨x.toArray⟩:ByteArray).size=x.length:=by rw[<-aU]
     clear a2 d4 b3;go_wp2_with fail;refine (aBg ⟨x.toArray⟩ w2 (HE.out.keep K2.out) (HM.out.keep K2.out) (by omega)).mono ?_;rintro e w3 ⟨cs,rfl,a0,a3,k3⟩;have g3:(⟨x.toArray⟩:ByteArray).data.toList=x:=by simp
     rw[g3] at a0 a3 |-
     have K3:=hid (K2.out.trans k3);have V3:=hid (V2.out.keep k3 V2.out.facts.2.2);have b5:=hid (b7.out.keep k3);have g1:w2.heap.size<=w3.heap.size:=k3.size;have e4:wr.heap.size<=w2.heap.size:=f8.out.size;have g0:Hid (w.heap.size+1<=w2.heap.size):=V2.out.facts.2.2;clear k3 V2 b7;generalize d1:gU x=le at a7 a0 a3 |-
     by_cases hz:le=0
     ·subst hz;have d6:Hid (lT (s.data.toList.length+1) s.data.toList 0 []=lT mk r (acc.length+1) (acc++[nW x])):=by show _=_;rw[a7.out];simp
      have c8:=a0 rfl;have c7:=hid c8;obtain⟨kk,a,fl,nt,kids,kp,fp,kc,fc,-,-,rfl,-,-⟩:=c8.spelt;generalize nW x=pk at d6 c7;clear c8 a0 a3 a7 d1;rcases pk with ⟨n,v,sl,fs,nd⟩;go_upto_region 10 with fail;refine bE (fun W'=>aE w.heap.size 24 tv W'/\aA w W'/\aA w3 W'/\iY w3.heap.size #[.string n,.int .i64 v,.int .i64 sl,.slice fp fs.length fc,.int .i64 kk,.string a.n,.int .i64 a.op,.int .i64 a.v,.int .i64 a.sl,.string a.f,.bool a.on,.string fl,.bool nt,.slice kp kids.length kc] W'/\dS (w.heap.size+1) tv acc W') ⟨V3.out.keep (aA.alloc _ _) V3.out.facts.2.2,K3.out.alloc' _,aA.alloc _ _,iY.new _ _,b5.out.keep (aA.alloc _ _)⟩ ?_;rintro W4 ⟨v4,k4,c6,b4,b0⟩;have V4:=hid v4;have K4:=hid k4;have f3:=hid b0;have a9:=hid a5.out.own;have P4:Hid (eB (fun b=>w2.heap.size<=b/\b<W4.heap.size) W4 ⟨n,v,sl,fs,nd⟩ [.string n,.int .i64 v,.int .i64 sl,.slice fp fs.length fc,.int .i64 kk,.string a.n,.int .i64 a.op,.int .i64 a.v,.int .i64 a.sl,.string a.f,.bool a.on,.string fl,.bool nt,.slice kp kids.length kc]):=eB.mono (fun p hp=>c6.cell (p:=p) hp.2) (fun b hb=>⟨hb.1,R8 hb.2 c6.size⟩) c7.out;obtain⟨d9,e2,f5⟩:=v4.facts;obtain⟨g7,g2,i2⟩:=b4.facts;obtain⟨csl,c1,c2,c3,c4⟩:=b0;have d5:=hid c3;have d3:=hid c4;have e8:w.heap.size+1<=w2.heap.size:=g0.out;clear v4 k4 c6 b4 c3 c4 c7 V3 K3 b5;go_wp2_with (at_builtin;refine wpList_append_own_at _ rfl _ _ 22 rfl (w.heap.size+1) 98 i0 (.agg #[.string ⟨#[]⟩,.int .i64 0,.int .i64 0,.slice none 0 0,.int .i64 0,.string ⟨#[]⟩,.int .i64 0,.int .i64 0,.int .i64 0,.string ⟨#[]⟩,.bool false,.string ⟨#[]⟩,.bool false,.slice none 0 0]) 14 176 Tryz.underlying22 hi e6 e5 f7 rfl (by decide) tv acc.length csl.flatten rfl (d5.out.alloc _) ⟨W4.heap.size,0,none⟩ 1 1 [.string n,.int .i64 v,.int .i64 sl,.slice fp fs.length fc,.int .i64 kk,.string a.n,.int .i64 a.op,.int .i64 a.v,.int .i64 a.sl,.string a.f,.bool a.on,.string fl,.bool nt,.slice kp kids.length kc] rfl rfl jI (by intro u hu;simp at hu;rcases hu with rfl | rfl | rfl | rfl | rfl | rfl | rfl | rfl | rfl | rfl | rfl | rfl | rfl | rfl<;>rfl) (by unfold maxLen;omega) (by omega) (by have:=aC W4 (.cells #[.string n,.int .i64 v,.int .i64 sl,.slice fp fs.length fc,.int .i64 kk,.string a.n,.int .i64 a.op,.int .i64 a.v,.int .i64 a.sl,.string a.f,.bool a.on,.string fl,.bool nt,.slice kp kids.length kc] 98);omega) ?_)
      intro v5 w5 h1 h2 _ h4;obtain⟨g5,a8,rfl⟩:=aS h1 (Q2 _);have b6:tv.ownBlock≠some w.heap.size:=fun e=>by have:=a9.out _ e;omega
      have V5:=hid (V4.out.grown h2 b6);have b9:=hid (dS.push (B':=w2.heap.size) c1 c2 d3.out (by omega) (fun g' hg'=>by have:=(a9.out g' hg').2;omega) P4.out rfl (by simpa using h1) h2 (by rw[aC];exact h4));have L5:Below (w.heap.size+1) W4 w5:=((Below.refl _ W4).alloc (by omega) _).grown h2 (by have:=aC W4 (.cells #[.string n,.int .i64 v,.int .i64 sl,.slice fp fs.length fc,.int .i64 kk,.string a.n,.int .i64 a.op,.int .i64 a.v,.int .i64 a.sl,.string a.f,.bool a.on,.string fl,.bool nt,.slice kp kids.length kc] 98);omega) (fun g' hg'=>(a9.out g' hg').1);have K5:Hid (aA w w5):=Below.trans K4.out (L5.mono (by omega));obtain⟨i4,h5,h7⟩:=V5.out.facts;clear h1 h2 h4 L5 d9 e2 g7 g2 b6 d5 d3;have V6:=hid (V5.out.set (.slice (some ⟨g5,0,none⟩) (acc.length+1) a8));have K6:Hid (aA w (w5.setCell ⟨w.heap.size,0,none⟩ (.slice (some ⟨g5,0,none⟩) (acc.length+1) a8))):=Below.trans K5.out (aQ _ _ _ _);have c5:=hid (b9.out.other (w':=w5.setCell ⟨w.heap.size,0,none⟩ (.slice (some ⟨g5,0,none⟩) (acc.length+1) a8)) (by rw[dI];exact Y1 _) (fun b hb _=>lU w5 w.heap.size 0 _ b (by omega)));have i1:(⟨r.toArray⟩:ByteArray).size=r.length:=by rw[<-aU]
      go_wp2_with fail;go_roundg mk;case measure=>omega
      case rel=>exact⟨⟨r.toArray⟩,(acc++[(⟨n,v,sl,fs,nd⟩:PK)]).length,acc++[⟨n,v,sl,fs,nd⟩],_,rfl,by rw[X9];go_num,by rw[X9];exact d6.out,by omega,by rw[X9];simp;omega,rfl,V6.out,c5.out,K6.out⟩
     ·have HX:Hid (rdT s.data.toList=(le,acc.length,[])):=aKq a1 hz (by rw[a7.out];simp[hz]);have c0:(le==0)=false:=by simp[hz]
      have c9:(le != 0)=true:=by simp[hz]
      obtain rfl:=a3 hz;clear hz a0 a3 a7 d1;unfold aAe;go_upto_region 9 with fail;refine bE (fun W'=>aE w.heap.size 24 tv W'/\aA w W') ⟨V3.out.keep (aA.alloc _ _) V3.out.facts.2.2,K3.out.alloc' _⟩ ?_;rintro W4 ⟨v4,k4⟩;have V4:=hid v4;have K4:=hid k4;obtain⟨d9,e2,f5⟩:=v4.facts;clear v4 k4;go_wp2_with fail;refine cV (v:= .tuple #[.agg #[.slice none 0 0],.int .i64 acc.length,.int .i64 le]) (fun W'=>aE w.heap.size 24 (.slice none 0 0) W'/\aA w W') ⟨V4.out.set _,Below.trans K4.out (aQ _ _ _ _)⟩ rfl ?_;rintro W ⟨hb,hk⟩;obtain⟨a6,-,-⟩:=hb.facts;refine⟨by simp[results,Tryz.results47,go_sem,a6],.slice none 0 0,by rw[HX.out],fun _=>rfl,by rw[HX.out];exact Or.inl ⟨rfl,none,0,rfl⟩,hk,jE⟩
end Go.Proofs.YthjlcjdlelkkdaaGreatDoor
namespace Go.Proofs.YthjlcjdlelkkdaaGreatDoor
open Go.RowKit
def aF(b:Nat)(T:TypeId)(cs:Array Value)(w:World):Prop:=w.heap[b]? = some (.cells cs T (0,0))
theorem aF.facts{b:Nat}{T:TypeId}{cs:Array Value}{w:World}(h:aF b T cs w):(∀o,w.cell? ⟨b,o,none⟩=cs[o]?)/\(∀o,w.frozen? ⟨b,o,none⟩=false)/\b<w.heap.size:=by
 unfold aF at h;refine⟨fun o=>by simp[World.cell?,h],fun o=>by simp[World.frozen?,h],(U9.1 h).1⟩
theorem aF.new(w:World)(T:TypeId)(cs:Array Value):aF w.heap.size T cs (w.alloc (.cells cs T)):=by
 show (w.heap.push _)[w.heap.size]? = _;rw[Array.getElem?_push,if_pos rfl]
theorem aF.keep{b B:Nat}{T:TypeId}{cs:Array Value}{w w':World}(h:aF b T cs w)(k:Below B w w')(hB:b<B):aF b T cs w':=by
 unfold aF at *;rw[k.block b hB];exact h
theorem aF.set{b:Nat}{T:TypeId}{cs:Array Value}{w:World}(h:aF b T cs w)(o:Nat)(x:Value):aF b T (cs.setIfInBounds o x) (w.setCell ⟨b,o,none⟩ x):=by
 have:=aJ h o x;unfold aF;rw[this]
end Go.Proofs.YthjlcjdlelkkdaaGreatDoor
namespace Go.Proofs.YthjlcjdlelkkdaaGreatDoor
open Go.RowKit
structure MB where
 pl:Int
 on:List Bool
def MB.zero:MB:=⟨0,[]⟩
def cH(ps:List PK)(m:MB):PK:=ps.getD m.pl.toNat PK.zero
def mbE(ps:List PK)(ms:List MB)(k:Nat):Int:=
 if (ms.getD k MB.zero).pl<0\/(ps.length:Int)<=(ms.getD k MB.zero).pl then 5
 else if 0<k/\(ms.getD k MB.zero).pl<=(ms.getD (k-1) MB.zero).pl then 6
 else if (ms.getD k MB.zero).on.length≠(cH ps (ms.getD k MB.zero)).fl.length then 4 else 0
def tM(ps:List PK)(ms:List MB):Int:=aM (mbE ps ms) 0 ms.length
def dZ(ps:List PK)(ms:List MB):Int:=if cA ps≠0 then cA ps else tM ps ms
def aN(fs:List ByteArray)(x:ByteArray):Nat:=fs.findIdx fun f=>decide (f=x)
def isB(p:PK)(m:MB)(a:At):Bool:=
 (p.n.toList==a.n.toList)&&gS a.op a.v a.sl p.v p.sl&&(a.f.toList.isEmpty||(decide (aN p.fl a.f<p.fl.length)&&(m.on.getD (aN p.fl a.f) false==a.on)))
def oG(ps:List PK)(ms:List MB)(k:Int)(a:At):Nat->Bool
 | 0=>false
 | n+1=>oG ps ms k a n||(!decide ((n:Int)=k)&&isB (cH ps (ms.getD n MB.zero)) (ms.getD n MB.zero) a)
def gR(ps:List PK)(ms:List MB)(k:Int)(a:At):Bool:=oG ps ms k a ms.length
mutual
def bU(ps:List PK)(ms:List MB)(k:Nat):NT->Bool
 | .node kd a fl nt kids=>
  if kd=1 then gR ps ms (-1) a
  else if kd=2 then !gR ps ms k a
  else if kd=4 then aCn ps ms k kids
  else if kd=5/\((ms.getD k MB.zero).on.getD (aN (cH ps (ms.getD k MB.zero)).fl fl) false==nt)=true then true
  else aCl ps ms k kids
def aCn(ps:List PK)(ms:List MB)(k:Nat):List NT->Bool
 | []=>false
 | t :: ts=>bU ps ms k t||aCn ps ms k ts
def aCl(ps:List PK)(ms:List MB)(k:Nat):List NT->Bool
 | []=>true
 | t :: ts=>bU ps ms k t&&aCl ps ms k ts
end
def aJv(ps:List PK)(ms:List MB)(k:Nat):Bool:=bU ps ms k (cH ps (ms.getD k MB.zero)).nd
def gP(ps:List PK)(ms:List MB)(k:Nat):Nat->Bool
 | 0=>false
 | n+1=>gP ps ms k n||(((cH ps (ms.getD n MB.zero)).n.toList==(cH ps (ms.getD k MB.zero)).n.toList)&&((cH ps (ms.getD n MB.zero)).sl==(cH ps (ms.getD k MB.zero)).sl))
structure WI where
 ts:List At
 ins:List MB
 ma:List Int
 on:List (Int × Int)
def maE(ps:List PK)(ma:List Int)(k:Nat):Int:=
 if ma.getD k 0<0\/(ps.length:Int)<=ma.getD k 0 then 5 else if 0<k/\ma.getD k 0<=ma.getD (k-1) 0 then 6 else 0
def onE(ps:List PK)(on:List (Int × Int))(k:Nat):Int:=
 if (on.getD k (0,0)).1<0\/(ps.length:Int)<=(on.getD k (0,0)).1 then 5
 else if (on.getD k (0,0)).2<0\/((ps.getD (on.getD k (0,0)).1.toNat PK.zero).fl.length:Int)<=(on.getD k (0,0)).2 then 5
 else if 0<k/\¬((on.getD (k-1) (0,0)).1<(on.getD k (0,0)).1\/(on.getD (k-1) (0,0)).1=(on.getD k (0,0)).1/\(on.getD (k-1) (0,0)).2<(on.getD k (0,0)).2) then 6 else 0
def taE(ts:List At):Int:=if 6<ts.length then 2 else aM (fun k=>fQ (ts.getD k At.zero)) 0 ts.length
def bB(ps:List PK)(w:WI):Int:=
 if dZ ps w.ins≠0 then dZ ps w.ins else if taE w.ts≠0 then taE w.ts else if aM (maE ps w.ma) 0 w.ma.length≠0 then aM (maE ps w.ma) 0 w.ma.length else aM (onE ps w.on) 0 w.on.length
def zW(ps:List PK)(ms:List MB)(ts:List At):Bool:=ts.all fun a=>gR ps ms (-1) a
def aEk(ps:List PK)(ma:List Int)(ms:List MB)(k:Nat):Bool:= !ma.contains (ms.getD k MB.zero).pl&&aJv ps ms k && !gP ps ms k k
def qJ(ps:List PK)(ma:List Int)(ms:List MB):Nat->Bool
 | 0=>true
 | n+1=>qJ ps ma ms n&&aEk ps ma ms n
def dR(ps:List PK)(w:WI)(ms:List MB):Bool:=zW ps ms w.ts&&qJ ps w.ma ms ms.length
def bC(S:Nat->Prop)(w:World)(bs:List Bool)(v:Value):Prop:=
 ∃(p:Option Addr) (cap:Nat),v=.slice p bs.length cap/\bs.length<=9223372036854775807/\(0<bs.length->∃b off,p=some ⟨b,off,none⟩/\S b/\∀(j:Nat) (x:Bool),bs[j]? = some x->w.cell? ⟨b,off+j,none⟩=some (.bool x))
def cD(S:Nat->Prop)(w:World)(ms:List MB)(v:Value):Prop:=
 ∃(p:Option Addr) (cap:Nat),v=.slice p ms.length cap/\(ms.length<=cap/\ms.length<=9223372036854775807)/\(0<ms.length->∃b off,p=some ⟨b,off,none⟩/\S b/\
  ∀(j:Nat) (m:MB),ms[j]? = some m->∃ov:Value,w.cell? ⟨b,off+j*2,none⟩=some (.int .i64 m.pl)/\w.cell? ⟨b,off+j*2+1,none⟩=some ov/\bC S w m.on ov)
def aI(S:Nat->Prop)(w:World)(zs:List Int)(v:Value):Prop:=
 ∃(p:Option Addr) (cap:Nat),v=.slice p zs.length cap/\zs.length<=9223372036854775807/\(0<zs.length->∃b off,p=some ⟨b,off,none⟩/\S b/\∀(j:Nat) (x:Int),zs[j]? = some x->w.cell? ⟨b,off+j,none⟩=some (.int .i64 x))
def gT(S:Nat->Prop)(w:World)(zs:List (Int × Int))(v:Value):Prop:=
 ∃(p:Option Addr) (cap:Nat),v=.slice p zs.length cap/\zs.length<=9223372036854775807/\(0<zs.length->∃b off,p=some ⟨b,off,none⟩/\S b/\∀(j:Nat) (x:Int × Int),zs[j]? = some x->w.cell? ⟨b,off+j*2,none⟩=some (.int .i64 x.1)/\w.cell? ⟨b,off+j*2+1,none⟩=some (.int .i64 x.2))
def kK(S:Nat->Prop)(w:World)(ts:List At)(v:Value):Prop:=
 ∃(p:Option Addr) (cap:Nat),v=.slice p ts.length cap/\ts.length<=9223372036854775807/\(0<ts.length->∃b off,p=some ⟨b,off,none⟩/\S b/\
  ∀(j:Nat) (a:At),ts[j]? = some a->w.cell? ⟨b,off+j*6,none⟩=some (.string a.n)/\w.cell? ⟨b,off+j*6+1,none⟩=some (.int .i64 a.op)/\w.cell? ⟨b,off+j*6+2,none⟩=some (.int .i64 a.v)/\w.cell? ⟨b,off+j*6+3,none⟩=some (.int .i64 a.sl)/\w.cell? ⟨b,off+j*6+4,none⟩=some (.string a.f)/\w.cell? ⟨b,off+j*6+5,none⟩=some (.bool a.on))
section
variable {S S':Nat->Prop} {w w':World}
theorem bC.mono(hw:∀p:Addr,S p.block->w'.cell? p=w.cell? p)(hS:∀b,S b->S' b){bs:List Bool}{v:Value}(h:bC S w bs v):bC S' w' bs v:=by
 obtain⟨p,cap,h1,h2,h3⟩:=h;refine⟨p,cap,h1,h2,fun h=>?_⟩;obtain⟨b,off,h4,h5,h6⟩:=h3 h;exact⟨b,off,h4,hS _ h5,fun j x hx=>(hw ⟨b,off+j,none⟩ h5).trans (h6 j x hx)⟩
theorem cD.mono(hw:∀p:Addr,S p.block->w'.cell? p=w.cell? p)(hS:∀b,S b->S' b){ms:List MB}{v:Value}(h:cD S w ms v):cD S' w' ms v:=by
 obtain⟨p,cap,h1,h2,h3⟩:=h;refine⟨p,cap,h1,h2,fun h=>?_⟩;obtain⟨b,off,h4,h5,h6⟩:=h3 h;refine⟨b,off,h4,hS _ h5,fun j m hm=>?_⟩;obtain⟨ov,h7,h8,h9⟩:=h6 j m hm;exact⟨ov,(hw ⟨b,_,none⟩ h5).trans h7,(hw ⟨b,_,none⟩ h5).trans h8,h9.mono hw hS⟩
theorem aI.mono(hw:∀p:Addr,S p.block->w'.cell? p=w.cell? p)(hS:∀b,S b->S' b){zs:List Int}{v:Value}(h:aI S w zs v):aI S' w' zs v:=by
 obtain⟨p,cap,h1,h2,h3⟩:=h;refine⟨p,cap,h1,h2,fun h=>?_⟩;obtain⟨b,off,h4,h5,h6⟩:=h3 h;exact⟨b,off,h4,hS _ h5,fun j x hx=>(hw ⟨b,off+j,none⟩ h5).trans (h6 j x hx)⟩
theorem gT.mono(hw:∀p:Addr,S p.block->w'.cell? p=w.cell? p)(hS:∀b,S b->S' b){zs:List (Int × Int)}{v:Value}(h:gT S w zs v):gT S' w' zs v:=by
 obtain⟨p,cap,h1,h2,h3⟩:=h;refine⟨p,cap,h1,h2,fun h=>?_⟩;obtain⟨b,off,h4,h5,h6⟩:=h3 h;exact⟨b,off,h4,hS _ h5,fun j x hx=>⟨(hw ⟨b,_,none⟩ h5).trans (h6 j x hx).1,(hw ⟨b,_,none⟩ h5).trans (h6 j x hx).2⟩⟩
theorem kK.mono(hw:∀p:Addr,S p.block->w'.cell? p=w.cell? p)(hS:∀b,S b->S' b){ts:List At}{v:Value}(h:kK S w ts v):kK S' w' ts v:=by
 obtain⟨p,cap,h1,h2,h3⟩:=h;refine⟨p,cap,h1,h2,fun h=>?_⟩;obtain⟨b,off,h4,h5,h6⟩:=h3 h;refine⟨b,off,h4,hS _ h5,fun j x hx=>?_⟩;obtain⟨g1,g2,g3,g4,g5,g6⟩:=h6 j x hx;exact⟨(hw ⟨b,_,none⟩ h5).trans g1,(hw ⟨b,_,none⟩ h5).trans g2,(hw ⟨b,_,none⟩ h5).trans g3,(hw ⟨b,_,none⟩ h5).trans g4,(hw ⟨b,_,none⟩ h5).trans g5,(hw ⟨b,_,none⟩ h5).trans g6⟩
theorem bC.keep{B:Nat}(hS:∀b,S b->b<B)(k:Below B w w'){bs:List Bool}{v:Value}(h:bC S w bs v):bC S w' bs v:=h.mono (bQ hS k) fun _ h=>h
theorem cD.keep{B:Nat}(hS:∀b,S b->b<B)(k:Below B w w'){ms:List MB}{v:Value}(h:cD S w ms v):cD S w' ms v:=h.mono (bQ hS k) fun _ h=>h
theorem aI.keep{B:Nat}(hS:∀b,S b->b<B)(k:Below B w w'){zs:List Int}{v:Value}(h:aI S w zs v):aI S w' zs v:=h.mono (bQ hS k) fun _ h=>h
theorem gT.keep{B:Nat}(hS:∀b,S b->b<B)(k:Below B w w'){zs:List (Int × Int)}{v:Value}(h:gT S w zs v):gT S w' zs v:=h.mono (bQ hS k) fun _ h=>h
theorem kK.keep{B:Nat}(hS:∀b,S b->b<B)(k:Below B w w'){ts:List At}{v:Value}(h:kK S w ts v):kK S w' ts v:=h.mono (bQ hS k) fun _ h=>h
end
end Go.Proofs.YthjlcjdlelkkdaaGreatDoor
namespace Go.Proofs.YthjlcjdlelkkdaaGreatDoor
open Go.RowKit
theorem cD.len{S:Nat->Prop}{w:World}{ms:List MB}{v:Value}(h:cD S w ms v):∃p cap,v=.slice p ms.length cap/\ms.length<=9223372036854775807:=by
 obtain⟨p,cap,h1,h2,-⟩:=h;exact⟨p,cap,h1,h2.2⟩
theorem cD.get{S:Nat->Prop}{w:World}{ms:List MB}{v:Value}(h:cD S w ms v){k:Nat}(hk:k<ms.length):∃b off cap,v=.slice (some ⟨b,off,none⟩) ms.length cap/\S b/\ms.length<=9223372036854775807/\
  ∀(j:Nat) (m:MB),ms[j]? = some m->∃(op:Option Addr) (oc:Nat),w.cell? ⟨b,off+j*2,none⟩=some (.int .i64 m.pl)/\w.cell? ⟨b,off+j*2+1,none⟩=some (.slice op m.on.length oc)/\m.on.length<=9223372036854775807/\bC S w m.on (.slice op m.on.length oc):=by
 obtain⟨p,cap,h1,h2,h3⟩:=h;obtain⟨b,off,rfl,h5,h6⟩:=h3 (by omega);refine⟨b,off,cap,h1,h5,h2.2,fun j m hm=>?_⟩;obtain⟨ov,h7,h8,h9⟩:=h6 j m hm;obtain⟨op,oc,rfl,a0,-⟩:=id h9;exact⟨op,oc,h7,h8,a0,h9⟩
theorem gJ(ms:List MB)(j:Nat)(h:j<ms.length):ms.getD j MB.zero=ms[j]:=by
 rw[R0,Q9 h,Q7]
theorem fC(ps:List PK)(j:Nat)(h:j<ps.length):ps.getD j PK.zero=ps[j]:=by
 rw[R0,Q9 h,Q7]
theorem aRi(S:Nat->Prop)(ps:List PK)(ms:List MB)(ct cl k:Nat)(tv lv:Value)(w:World)(hk:k<ms.length)(hp:aZ S w ps tv)(hm:cD S w ms lv)(ht:aE ct 24 tv w)(hl:aE cl 26 lv w):
  Calls Tryz.prog 76 #[.int .i64 k,.pointer (some ⟨cl,0,none⟩),.pointer (some ⟨ct,0,none⟩)] w fun e w'=>e=.returned (.int .i64 (mbE ps ms k))/\aA w w':=by
 have HP:=hid hp;obtain⟨b,off,cap,rfl,hb,b6,a7⟩:=hm.get hk;obtain⟨tp,tc,rfl,b3⟩:=hp.len;obtain⟨c5,-,c9⟩:=ht.facts;obtain⟨c8,-,c6⟩:=hl.facts;obtain⟨op,oc,a8,b0,b2,-⟩:=a7 k _ (Q9 hk);have HX:Hid (mbE ps ms k=if ms[k].pl<0\/(ps.length:Int)<=ms[k].pl then 5 else if 0<k/\ms[k].pl<=(ms.getD (k-1) MB.zero).pl then 6 else if ms[k].on.length≠(ps.getD ms[k].pl.toNat PK.zero).fl.length then 4 else 0):=by
  show _=_;unfold mbE cH;rw[gJ ms k hk]
 have a0:0<k->∃x:Int,Hid ((ms.getD (k-1) MB.zero).pl=x)/\w.cell? ⟨b,off+(k-1)*2,none⟩=some (.int .i64 x):=fun h0=>by
  obtain⟨_,_,h1,-⟩:=a7 (k-1) _ (Q9 (by omega));exact⟨ms[k-1].pl,by show _=_;rw[gJ ms (k-1) (by omega)],h1⟩
 generalize ms[k]=m at HX a8 b0 b2;obtain⟨pl,on⟩:=m;simp only at HX a8 b0 b2;clear a7 hm hp ht hl;by_cases h0:pl<0
 ·have HY:Hid (mbE ps ms k=5):=by show _=_;rw[HX.out,if_pos (Or.inl h0)]
  clear HX a0;go_enter Tryz.func76,Tryz.ntmps76;go_wp2_with fail;go_ret;exact⟨aD HY.out.symm,aA.refl _⟩
 ·by_cases h1:(ps.length:Int)<=pl
  ·have HY:Hid (mbE ps ms k=5):=by show _=_;rw[HX.out,if_pos (Or.inr h1)]
   clear HX a0;go_enter Tryz.func76,Tryz.ntmps76;go_wp2_with fail;go_ret;exact⟨aD HY.out.symm,aA.refl _⟩
  ·obtain⟨q,rfl⟩:∃q:Nat,pl=q:=⟨pl.toNat,by omega⟩;have hq:q<ps.length:=by omega
   have a2:Hid (mbE ps ms k=if 0<k/\(q:Int)<=(ms.getD (k-1) MB.zero).pl then 6 else if on.length≠(ps.getD q PK.zero).fl.length then 4 else 0):=by
    show _=_;rw[HX.out,if_neg (by omega)];rfl
   clear HX;obtain⟨tb,c1,b9,b8,c7,-,a4⟩:=HP.out.get hq;cases b8;obtain⟨cs,b5,a9⟩:=a4 q hq;rw[fC ps q hq] at a2;generalize ps[q]=p at a9 a2;obtain⟨kk,a,fl,nt,kids,kp,fp,kc,fc,c2,b7,rfl,hf,hn⟩:=a9.spelt;obtain⟨-,-,-,c3,-⟩:=dK b5;clear b5 a9 a4 hf hn c2;rcases p with ⟨pn,pv,psl,fs,nd⟩;simp only at b7 c3 a2;have tail:∀(W:World),mbE ps ms k=(if on.length≠fs.length then 4 else 0)->True:=fun _ _=>trivial;clear tail;by_cases hk0:0<k
   ·obtain⟨x,b1,b4⟩:=a0 hk0;rw[b1.out] at a2;obtain⟨m,rfl⟩:∃m,k=m+1:=⟨k-1,by omega⟩;have c4:w.cell? ⟨b,off+m*2,none⟩=some (.int .i64 x):=b4;have c0:(0:Int)<((m+1:Nat):Int):=by omega
    have hd:decide ((0:Int)<((m+1:Nat):Int))=true:=Y7 c0;have e1:((m+1:Nat):Int)-1=(m:Int):=by omega
    have hm:m<ms.length:=by omega
    clear a0 b1 b4;by_cases hle:(q:Int)<=x
    ·have HY:Hid (mbE ps ms (m+1)=6):=by show _=_;rw[a2.out,if_pos ⟨by omega,hle⟩]
     clear a2;go_enter Tryz.func76,Tryz.ntmps76;go_wp2_with fail;go_ret;exact⟨aD HY.out.symm,aA.refl _⟩
    ·have a3:Hid (mbE ps ms (m+1)=if on.length≠fs.length then 4 else 0):=by show _=_;rw[a2.out,if_neg (fun h=>hle h.2)]
     clear a2;by_cases hne:on.length=fs.length
     ·have HY:Hid (mbE ps ms (m+1)=0):=by show _=_;rw[a3.out,if_neg (fun h=>h hne)]
      have a6:((on.length:Int)==(fs.length:Int))=true:=by simp[hne]
      have a5:((on.length:Int) != (fs.length:Int))=false:=by simp[hne]
      clear a3 hne;go_enter Tryz.func76,Tryz.ntmps76;go_wp2_with fail;go_quiet (fail)
      go_wp2_with fail;go_ret;exact⟨aD HY.out.symm,aA.drewN (aA.refl _) _⟩
     ·have HY:Hid (mbE ps ms (m+1)=4):=by show _=_;rw[a3.out,if_pos hne]
      have a1:¬(on.length:Int)=(fs.length:Int):=by omega
      have a6:((on.length:Int)==(fs.length:Int))=false:=by simp[a1]
      have a5:((on.length:Int) != (fs.length:Int))=true:=by simp[a1]
      clear a3 hne;go_enter Tryz.func76,Tryz.ntmps76;go_wp2_with fail;go_quiet (fail)
      go_wp2_with fail;go_ret;exact⟨aD HY.out.symm,aA.drewN (aA.refl _) _⟩
   ·have a3:Hid (mbE ps ms k=if on.length≠fs.length then 4 else 0):=by show _=_;rw[a2.out,if_neg (fun h=>hk0 h.1)]
    obtain rfl:k=0:=by omega
    rw[Nat.zero_mul,Nat.add_zero] at a8 b0;clear a2 a0;by_cases hne:on.length=fs.length
    ·have HY:Hid (mbE ps ms 0=0):=by show _=_;rw[a3.out,if_neg (fun h=>h hne)]
     have a6:((on.length:Int)==(fs.length:Int))=true:=by simp[hne]
     have a5:((on.length:Int) != (fs.length:Int))=false:=by simp[hne]
     clear a3 hne;go_enter Tryz.func76,Tryz.ntmps76;go_wp2_with fail;go_quiet (fail)
     go_wp2_with fail;go_ret;exact⟨aD HY.out.symm,aA.drewN (aA.refl _) _⟩
    ·have HY:Hid (mbE ps ms 0=4):=by show _=_;rw[a3.out,if_pos hne]
     have a1:¬(on.length:Int)=(fs.length:Int):=by omega
     have a6:((on.length:Int)==(fs.length:Int))=false:=by simp[a1]
     have a5:((on.length:Int) != (fs.length:Int))=true:=by simp[a1]
     clear a3 hne;go_enter Tryz.func76,Tryz.ntmps76;go_wp2_with fail;go_quiet (fail)
     go_wp2_with fail;go_ret;exact⟨aD HY.out.symm,aA.drewN (aA.refl _) _⟩
theorem uV(args:Array Value)(w:World):(callFunc 76 args).run Tryz.prog w=.ok (.enter 76 args) w:=enters_of Tryz.func76 (by kernel_rfl) rfl args w
theorem aAm(S:Nat->Prop)(ps:List PK)(ms:List MB)(tv lv:Value)(w:World)(hS:∀b,S b->b<w.heap.size)(hp:aZ S w ps tv)(hm:cD S w ms lv):
  Calls Tryz.prog 37 #[.agg #[tv],lv] w fun e w'=>e=.returned (.int .i64 (dZ ps ms))/\aA w w':=by
 have HP:=hid hp;have HM:=hid hm;obtain⟨tp,tc,rfl,a5⟩:=hp.len;obtain⟨lp,lc,rfl,a1⟩:=hm.len;have a7:∀(fn:Fn) (first cap:Array Value) (w:World),(Instr.makeFunc fn first cap).run Tryz.prog w=.ok (.func fn first cap) w:=fun _ _ _ _=>rfl;have a6:=uV;have HX:Hid (dZ ps ms=if cA ps≠0 then cA ps else aM (mbE ps ms) 0 ms.length):=rfl;clear hp hm;go_enter Tryz.func37,Tryz.ntmps37;go_wp2_with fail;refine bK (fun W'=>aA w W'/\aE w.heap.size 24 (.slice tp ps.length tc) W'/\aE (w.heap.size+1) 26 (.slice lp ms.length lc) W') ⟨(aA.alloc _ _).alloc' _,(aE.new _ _ _).keep (aA.alloc _ _) (by simp),?_⟩ ?_
 ·have:=aE.new (w.alloc (.cells #[.slice tp ps.length tc] 24)) 26 (.slice lp ms.length lc);rw[aC] at this;exact this
 rintro W0 ⟨k0,v0,l0⟩;refine (lJ S ps _ W0 (fun b hb=>R8 (hS b hb) k0.size) (HP.out.keep hS k0)).mono ?_;rintro e w1 ⟨rfl,k1⟩;have K1:=hid (k0.trans k1);have V1:=hid (v0.keep k1 v0.facts.2.2);have L1:=hid (l0.keep k1 l0.facts.2.2);clear k0 v0 l0 k1;generalize cA ps=ct at HX |-
 by_cases hz:ct=0
 ·subst hz;have a3:Hid (dZ ps ms=aM (mbE ps ms) 0 ms.length):=by show _=_;rw[HX.out];simp
  obtain⟨a9,-,b1⟩:=L1.out.facts;have a0:∀(k:Nat) (W':World),k<ms.length->aA w1 W'->Calls Tryz.prog 76 (#[.int .i64 k]++#[.pointer (some ⟨w.heap.size+1,0,none⟩),.pointer (some ⟨w.heap.size,0,none⟩)]) W' fun e w'=>e=.returned (.int .i64 (mbE ps ms k))/\(mbE ps ms k=0->aA w1 w')/\bD (One w1.heap.size) W' w':=by
   intro k W' hk h1;have c:=aRi S ps ms w.heap.size (w.heap.size+1) k _ _ W' hk (HP.out.keep hS (K1.out.trans h1)) (HM.out.keep hS (K1.out.trans h1)) (V1.out.keep h1 V1.out.facts.2.2) (L1.out.keep h1 L1.out.facts.2.2);refine Calls.mono c ?_;rintro e w' ⟨rfl,h4⟩;exact⟨rfl,fun _=>h1.trans h4,cO h4⟩
  have a2:=hid (mP ms.length (mbE ps ms) (fun _ W'=>aA w1 W') w1.heap.size a1 uV a0 w1 (aA.refl _));clear a0 HX;go_wp2_with fail;refine a2.out.mono ?_;rintro e w2 ⟨rfl,a4⟩;have K2:Hid (aA w w2):=Below.trans K1.out (a4.below K1.out.size fun b hb e=>by have:b=w1.heap.size:=e;have:=K1.out.size;omega);clear a4 a2;go_wp2_with fail;go_ret;exact⟨aD a3.out.symm,K2.out⟩
 ·have a3:Hid (dZ ps ms=ct):=by show _=_;rw[HX.out,if_pos hz]
  have a8:(ct==0)=false:=by simp[hz]
  have b0:(ct != 0)=true:=by simp[hz]
  clear hz HX;go_wp2_with fail;go_ret;exact⟨aD a3.out.symm,K1.out⟩
end Go.Proofs.YthjlcjdlelkkdaaGreatDoor
namespace Go.Proofs.YthjlcjdlelkkdaaGreatDoor
open Go.RowKit Go.Sort
theorem aDu(x:ByteArray):∀(fs:List ByteArray) (i:Nat),Lib.idxFromS fs x i=if aN fs x<fs.length then ((i+aN fs x:Nat):Int) else -1
 | [],i=>by simp[Lib.idxFromS,aN]
 | f :: fs,i=>by
  have ih:=aDu x fs (i+1);unfold aN at ih |-
  rw[Lib.idxFromS,List.findIdx_cons];by_cases h:f=x
  ·simp[h]
  ·rw[if_neg h,ih];simp only[h,decide_false,cond_false,List.length_cons];by_cases h2:List.findIdx (fun f=>decide (f=x)) fs<fs.length
   ·rw[if_pos h2,if_pos (by omega)];omega
   ·rw[if_neg h2,if_neg (by omega)]
theorem aPv(fs:List ByteArray)(x:ByteArray):Lib.idxOfS fs x=if aN fs x<fs.length then (aN fs x:Int) else -1:=by
 unfold Lib.idxOfS;rw[aDu,Z6]
theorem aMj(S:Nat->Prop)(fs:List ByteArray)(v:Value)(x:ByteArray)(w:World)(h:cU S w fs v):
  Calls Tryz.prog 85 #[v,.string x] w fun e w'=>e=.returned (.int .i64 (if aN fs x<fs.length then (aN fs x:Int) else -1))/\w'=w:=by
 rw[<-aPv];by_cases h0:fs = []
 ·obtain⟨p,c,rfl,-⟩:=h.len;subst h0;refine (Tryz.slices_Index_string_empty p c x w).mono ?_;rintro e w' ⟨rfl,rfl⟩;exact⟨rfl,rfl⟩
 ·obtain⟨b,off,cap,rfl,-,hl,hc⟩:=h.get (j:=0) (List.length_pos_iff.2 h0);refine (Tryz.slices_Index_string b off fs.length cap fs x w (Y1 _) hl (cU.getD hc)).mono ?_;rintro e w' ⟨rfl,rfl⟩;exact⟨by rw[Z7],rfl⟩
theorem bC.cell{S:Nat->Prop}{w:World}{bs:List Bool}{p:Option Addr}{n cap:Nat}(h:bC S w bs (.slice p n cap)){q:Nat}(hq:q<bs.length):∃b off,p=some ⟨b,off,none⟩/\S b/\w.cell? ⟨b,off+q,none⟩=some (.bool (bs.getD q false)):=by
 obtain⟨p',a0,e,-,h3⟩:=h;cases e;obtain⟨b,off,rfl,h5,h6⟩:=h3 (by omega);refine⟨b,off,rfl,h5,?_⟩;rw[R0,Q9 hq,Q7];exact h6 q _ (Q9 hq)
end Go.Proofs.YthjlcjdlelkkdaaGreatDoor
namespace Go.Proofs.YthjlcjdlelkkdaaGreatDoor
open Go.RowKit Go.Sort
def yI(ps:List PK)(ms:List MB):Prop:=∀(j:Nat) (m:MB),ms[j]? = some m->0<=m.pl/\m.pl<ps.length/\m.on.length=(cH ps m).fl.length
theorem aQn{ps:List PK}{ms:List MB}{k:Nat}(hk:k<ms.length)(h:mbE ps ms k=0):0<=ms[k].pl/\ms[k].pl<ps.length/\ms[k].on.length=(cH ps ms[k]).fl.length/\(0<k->(ms.getD (k-1) MB.zero).pl<ms[k].pl):=by
 unfold mbE at h;rw[gJ ms k hk] at h;split at h
 ·cases h
 ·split at h
  ·cases h
  ·split at h
   ·cases h
   ·rename_i h1 h2 h3;exact⟨by omega,by omega,Decidable.of_not_not h3,fun h0=>by omega⟩
theorem aRl{ps:List PK}{ms:List MB}(h:dZ ps ms=0):yI ps ms:=by
 intro j m hm;obtain⟨hj,rfl⟩:=R9.1 hm;have h2:tM ps ms=0:=by
  unfold dZ at h;split at h
  ·rename_i hn;exact absurd h hn
  ·exact h
 have:=(cW ms.length 0).1 h2 j hj;rw[Z6] at this;obtain⟨h1,h2,h3,-⟩:=aQn hj this;exact⟨h1,h2,h3⟩
end Go.Proofs.YthjlcjdlelkkdaaGreatDoor
