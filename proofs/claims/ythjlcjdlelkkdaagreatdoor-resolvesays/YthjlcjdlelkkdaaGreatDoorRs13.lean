/- Steps of the proof. -/
import Derived.Test.YthjlcjdlelkkdaaGreatDoorRs11
import Derived.Test.YthjlcjdlelkkdaaGreatDoorRs12
set_option maxHeartbeats 16000000
set_option maxRecDepth 100000
namespace Go.Proofs.YthjlcjdlelkkdaaGreatDoor
section
open Go.RowKit
theorem fL{m:List Bool}{c i:Nat}(h:i<c):(m.take c).getD i false=m.getD i false:=by
 rw[R0,R0,List.getElem?_take,if_pos h]
theorem aQg{m o:List Bool}(c:Nat)(hl:m.length=o.length)(h:Cn.nI m o):Cn.nI (m.take c) (o.take c):=by
 rcases h with rfl | ⟨j,hj,h1,h2,h3⟩
 ·exact .inl rfl
 ·by_cases hc:j<c
  ·exact .inr ⟨j,by rw[List.length_take];omega,fun i hi=>by rw[fL (by omega),fL (by omega)];exact h1 i hi,by rw[fL hc];exact h2,by rw[fL hc];exact h3⟩
  ·refine .inl (Cn.qU (by rw[List.length_take,List.length_take,hl]) fun i hi=>?_);rw[List.length_take] at hi;rw[fL (by omega),fL (by omega),h1 i (by omega)]
theorem aWo{m:List Bool}{c:Nat}(hc:c<=m.length):Cn.nH (Cn.chL (m.take c)) m:=by
 intro x hx;obtain⟨v,hv,rfl⟩:=Q4.1 hx;have hv:=List.mem_range.1 hv;rw[List.length_take] at hv;rw[fL (by omega)];unfold Cn.inM;cases hm:m.getD v false with
 | true=>rw[if_pos rfl,show ((v:Int)+1).natAbs-1=v by omega,hm,Y7 (by omega)];rfl
 | false=>rw[if_neg (by simp),show (-(v:Int)-1).natAbs-1=v by omega,hm,Y8 (by omega)];rfl
theorem aTs{n c:Nat}{F:List (List Int)}{may:List Bool->Bool}(hE:Cn.uE n c F may)(hF:∀x∈F,Cn.aO n x)(hc:c<=n){m:List Bool}(hm:Cn.Mod n F m):may (m.take c)=true:=by
 have hl:(m.take c).length=c:=by rw[List.length_take,hm.1];omega
 cases h:may (m.take c) with
 | true=>rfl
 | false=>exact absurd ((hE _ hl).2 h) (Cn.mH hF (fun x hx=>⟨(Cn.nL _ x hx).1,by have:=(Cn.nL _ x hx).2;omega⟩) hm.2 (aWo (by rw[hm.1];exact hc)))
theorem aKk{n c:Nat}{F:List (List Int)}{may:List Bool->Bool}(hE:Cn.uE n c F may)(hF:∀x∈F,Cn.aO n x)(hc:c<=n){d:List Bool}(hd:d.length=c)(h:may d=true):∃o,Cn.Mod n F o/\o.take c=d:=by
 obtain⟨h1,h2⟩:=(hE d hd).1 h;obtain⟨h3,h4⟩:=Cn.aEm hF (fun x hx=>⟨(Cn.nL d x hx).1,by have:=(Cn.nL d x hx).2;omega⟩) h1 h2;refine⟨_,h3,Cn.qU (by rw[List.length_take,h3.1];omega) fun i hi=>?_⟩;rw[List.length_take,h3.1] at hi;rw[fL (by omega)];have h5:=h4 _ (Z1 (Cn.aJk (m:=d) (v:=i) (by omega)));unfold Cn.inM at h5;revert h5;cases hm:d.getD i false with
 | true=>rw[if_pos rfl,show ((i:Int)+1).natAbs-1=i by omega,Y7 (by omega)];intro h5;simpa using h5
 | false=>rw[if_neg (by simp),show (-(i:Int)-1).natAbs-1=i by omega,Y8 (by omega)];intro h5;simpa using h5
theorem aDq{α β:Type}{f g:α->Option β}:∀ {l:List α},(∀x∈l,f x=g x)->l.filterMap f=l.filterMap g
 | [],_=>rfl
 | a :: l,h=>by rw[List.filterMap_cons,List.filterMap_cons,h a (by simp),aDq fun x hx=>h x (by simp[hx])]
theorem aRo{c:Cn.CT}(h:c.Ok){m m':List Bool}(e:∀v,v<c.many->m.getD v false=m'.getD v false):c.set m=c.set m':=by
 have hN:c.nf.length<=c.many:=by unfold Cn.CT.many;omega
 unfold Cn.CT.set;refine aDq fun i hi=>?_;have hi:=List.mem_range.1 hi;have e1:c.takes m i=c.takes m' i:=by
  unfold Cn.CT.takes;rw[e _ (by have:=Cn.CT.idx_lt h hi;omega)]
 have e2:c.flags m i=c.flags m' i:=by
  unfold Cn.CT.flags;refine List.map_congr_left fun k hk=>?_;rw[e _ (Cn.CT.base_lt_many c hi (List.mem_range.1 hk))]
 rw[e1,e2]
theorem zS{ps:List PK}{wi:WI}(h:(aB ps wi).Ok)(m:List Bool):bP ps wi (m.take (aB ps wi).many)=bP ps wi m:=by
 unfold bP;rw[aRo h fun v hv=>fL hv]
def nG(ps:List PK)(wi:WI)(c:List Bool):Prop:=c.length=(aB ps wi).many/\dR ps wi (bP ps wi c)=true/\∀d:List Bool,d.length=(aB ps wi).many->dR ps wi (bP ps wi d)=true->Cn.nI c d
def fO(ps:List PK)(wi:WI):Prop:=∀d:List Bool,d.length=(aB ps wi).many->dR ps wi (bP ps wi d)=false
theorem nG.one{ps:List PK}{wi:WI}{c d:List Bool}(h:nG ps wi c)(h':nG ps wi d):c=d:=(h.2.2 d h'.1 h'.2.1).anti (h'.2.2 c h.1 h.2.1)
theorem nG.some{ps:List PK}{wi:WI}{c:List Bool}(h:nG ps wi c)(h':fO ps wi):False:=by have:=h' c h.1;rw[h.2.1] at this;cases this
noncomputable def dD(ps:List PK)(wi:WI)(steps:Int):Cn.Ans:=Cn.pL ((dX ps wi).n:Nat) (dX ps wi).cl steps
theorem aJt{ps:List PK}{wi:WI}(h:bB ps wi=0):Cn.iK ((dX ps wi).n:Nat) (dX ps wi).cl=0:=by
 obtain⟨-,h2,h3,h4,-⟩:=tV h;exact Cn.aHk h2 h3 fun c hc=>⟨(h4 c hc).2,(h4 c hc).1⟩
theorem aWc{ps:List PK}{wi:WI}(h:bB ps wi=0){s:Int}(h1:1<=s)(h2:s<=40000):(dD ps wi s).er=0\/(dD ps wi s).er=8:=Cn.aUy (aJt h) h1 h2
theorem mU{ps:List PK}{wi:WI}(h:bB ps wi=0):(dD ps wi 40000).er=0:=by
 have a1:=(oV wi (cT h).1).1;have hp:(2 ^ ((aB ps wi).many+1):Nat)<=2 ^ 15:=Nat.pow_le_pow_right (by omega) (by omega);unfold dD;rw[Cn.qB (aJt h) (by omega) (by omega)];have a0:=Cn.aRt (n:=(dX ps wi).n) (c:=(aB ps wi).many) (s:=(40000:Int).toNat) (yR h).decides (by omega) (by show _<=40000;omega);unfold Cn.fP;generalize (Cn.gG (dX ps wi).n (dX ps wi).cl (40000:Int).toNat)=r at a0 |-
 cases hr:r.o with
 | out=>exact absurd hr a0
 | model m=>rfl
 | closed=>rfl
theorem wN{ps:List PK}{wi:WI}(h:bB ps wi=0){s:Int}(he:(dD ps wi s).er=0):((dD ps wi s).P = []/\(aB ps wi).many<=(dD ps wi s).m.length/\(dD ps wi s).m.length<=400/\nG ps wi ((dD ps wi s).m.take (aB ps wi).many))\/((dD ps wi s).P ≠ []/\fO ps wi/\Cn.aJa (dX ps wi).cl (dD ps wi s).P/\(dD ps wi s).P.length<=40000/\∀c∈(dD ps wi s).P,c.length<=60/\Cn.aO (dX ps wi).n c):=by
 obtain⟨g1,g2,g3,g4,-⟩:=tV h;have hE:=yR h;obtain⟨n,hn,-,-,-,-,ha⟩:=Cn.aUj he;obtain rfl:(dX ps wi).n=n:=by omega
 have hF:∀x∈(dX ps wi).cl,Cn.aO (dX ps wi).n x:=fun x hx=>(g4 x hx).1;rcases ha with ⟨h1,h2,h3⟩ | ⟨h1,-,h3,h4,h5,h6⟩
 ·refine .inl ⟨h1,?_,?_,?_,aTs hE hF g1 h2,fun d hd hv=>?_⟩
  ·show _<=(Cn.pL _ _ s).m.length;rw[h2.1];exact g1
  ·show (Cn.pL _ _ s).m.length<=_;rw[h2.1];exact g2
  ·show ((Cn.pL _ _ s).m.take _).length=_;rw[List.length_take,h2.1];omega
  ·obtain⟨o,ho,rfl⟩:=aKk hE hF g1 hd hv;exact aQg _ (h2.1.trans ho.1.symm) (h3 o ho)
 ·refine .inr ⟨h1,fun d hd=>?_,h3,h4,h5⟩;cases hv:dR ps wi (bP ps wi d) with
  | false=>rfl
  | true=>
   obtain⟨o,ho,-⟩:=aKk hE hF g1 hd hv;exact absurd ho (h6 o)
theorem aFg{ps:List PK}{wi:WI}{c:List Bool}{s:Int}(h:bB ps wi=0)(he:(dD ps wi s).er=0)(hb:nG ps wi c):(dD ps wi s).P = []/\bP ps wi (dD ps wi s).m=bP ps wi c:=by
 rcases wN h he with ⟨h1,-,-,h4⟩ | ⟨-,h2,-⟩
 ·refine⟨h1,?_⟩;rw[<-zS (jQ (cT h).2.1),h4.one hb]
 ·exact (hb.some h2).elim
theorem aFh{ps:List PK}{wi:WI}{s:Int}(h:bB ps wi=0)(he:(dD ps wi s).er=0)(hn:fO ps wi):(dD ps wi s).P ≠ []:=by
 rcases wN h he with ⟨-,-,-,h4⟩ | ⟨h1,-⟩
 ·exact (h4.some hn).elim
 ·exact h1
theorem aWb{ps:List PK}{wi:WI}(h:bB ps wi=0):(∃c,nG ps wi c)\/fO ps wi:=by
 rcases wN h (mU h) with ⟨-,-,-,h4⟩ | ⟨-,h2,-⟩
 ·exact .inl ⟨_,h4⟩
 ·exact .inr h2
structure DR (ps:List PK) (wi:WI) (x:Cn.DD) (L:Nat) (w:World):Prop where
 tk:Cn.aI x.ro w (aB ps wi).tks x.tv
 fg:∃k,Cn.gW x.g1 k ((aB ps wi).fgs wi.on) w
 gl:x.ro x.g1
 pk:aZ (fun b=>b<L) w ps x.pv
 many:x.many=(aB ps wi).many
 cap:lM x.pv
 ro:∀b,x.ro b->b<w.heap.size/\¬x.own b
theorem DR.other{ps:List PK}{wi:WI}{x:Cn.DD}{L:Nat}{w w':World}(h:DR ps wi x L w)(hs:w.heap.size<=w'.heap.size)(k:Below L w w')(hb:∀b,x.ro b->w'.heap[b]? = w.heap[b]?):DR ps wi x L w':=by
 obtain⟨n,hf⟩:=h.fg;exact⟨h.tk.mono (fun p hp=>X0 (w:=w) (hb _ hp)) fun _ h=>h,⟨n,hf.at (hb _ h.gl)⟩,h.gl,h.pk.keep (B:=L) (fun _ h=>h) k,h.many,h.cap,fun b hr=>⟨R8 (h.ro b hr).1 hs,(h.ro b hr).2⟩⟩
theorem DR.keep{ps:List PK}{wi:WI}{x:Cn.DD}{L:Nat}{w w':World}(h:DR ps wi x L w)(hL:L<=w.heap.size)(k:aA w w'):DR ps wi x L w':=h.other k.size (Below.mono k hL) fun b hr=>k.block b (h.ro b hr).1
theorem lQ{x:Cn.DD}{L:Nat}{s:Cn.DS}{O':Nat->Prop}{w w':World}(d:Cn.DM x L s w)(t:Cn.aG x.own O' w w'):Below L w w':=t.below d.L fun b hb ho=>by have:=(d.lt ho).1;omega
theorem DR.turn{ps:List PK}{wi:WI}{x:Cn.DD}{L:Nat}{s:Cn.DS}{w w':World}{v:Value}{k:Nat}{cc:Nat->Prop}(h:DR ps wi x L w)(d:Cn.DM x L s w)(t:Cn.aG x.own (x.to v k cc).own w w'):DR ps wi (x.to v k cc) L w':=by
 have h2:=h.other t.size (lQ d t) fun b hr=>t.block b (h.ro b hr).1 (h.ro b hr).2;exact⟨h2.tk,h2.fg,h2.gl,h2.pk,h2.many,h2.cap,fun b hr=>⟨(h2.ro b hr).1,fun ho=>(t.new b ho).elim (h.ro b hr).2 fun hge=>by have:=(h.ro b hr).1;omega⟩⟩
theorem rC{L:Nat}{w w':World}(hL:L<=w.heap.size)(k:aA w w'):Below L w w':=Below.mono k hL
theorem wS(x:Int)(b:Bool)(w:World)(h:x.natAbs<=900000):Calls Tryz.prog 60 #[.int .i64 x,.bool b] w fun e w'=>e=.returned (.int .i64 (Cn.sg x b))/\w'=w:=by
 have h1:x<=900000:=by omega
 have h2 : -900000<=x:=by omega
 cases b with
 | true=>
  go_enter Tryz.func60,Tryz.ntmps60;go_wp2_with fail;go_ret;exact⟨rfl,rfl⟩
 | false=>
  go_enter Tryz.func60,Tryz.ntmps60;go_wp2_with fail;go_ret;exact⟨rfl,rfl⟩
theorem xE:Tryz.prog.underlying 74=some (.map 99 3):=Tryz.underlying74
theorem aDn(ps:List PK)(wi:WI)(x:Cn.DD)(L:Nat)(s:Cn.DS)(i:Nat)(nm:ByteArray)(w:World)(h:Cn.DM x L s w)(hr:DR ps wi x L w)(h8:ps.length<=8)(hi:i<ps.length)(hf:aN (ps.getD i PK.zero).fl nm<(ps.getD i PK.zero).fl.length)(hf2:(ps.getD i PK.zero).fl.length<=2):
  Calls Tryz.prog 61 #[.pointer (some ⟨x.b,0,none⟩),.int .i64 i,.string nm] w fun e w'=>e=.returned (.int .i64 ((aB ps wi).fgL i (aN (ps.getD i PK.zero).fl nm)))/\aA w w':=by
 obtain⟨pb,po,pc,b4,b7,-,a2⟩:=hr.pk.get hi;obtain⟨cs,b3,a7⟩:=a2 i hi;obtain⟨k,a,fl,nt,kids,kp,fp,kc,fc,-,a4,rfl,a6,-⟩:=a7.spelt;have c3:w.cell? ⟨pb,po+i*14+3,none⟩=some (.slice fp ps[i].fl.length fc):=b3 3 _ rfl;have hq:ps.getD i PK.zero=ps[i]:=fC ps i hi;have a5:=mK wi hi;have b2:=dC ps wi;rw[hq] at hf hf2 a5 |-
 obtain⟨n,hm⟩:=hr.fg;have b5:=Cn.CT.fgs_get (c:=aB ps wi) (on:=wi.on) (fun i k=>rfl) (i:=i) (k:=aN ps[i].fl nm) (by rw[b2];exact hi) (by rw[a5];exact hf);have HI:=hid (show ∀W,aA w W->Calls Tryz.prog 85 #[.slice fp ps[i].fl.length fc,.string nm] W fun e w'=>e=.returned (.int .i64 (aN ps[i].fl nm:Nat))/\w'=W from fun W kW=>by
  have hL:=h.L;have:=aMj (fun b=>b<L) ps[i].fl (.slice fp ps[i].fl.length fc) nm W (a6.keep (B:=w.heap.size) (fun b hb=>R8 hb hL) kW);rw[if_pos hf] at this;exact this)
 have a3:Cn.SmP ((aN ps[i].fl nm:Nat):Int):=by unfold Cn.SmP;omega
 have b0:Cn.SmP ((i:Nat):Int):=by unfold Cn.SmP;omega
 have a1:=hm.look xE b0 a3;have a0:=(hm.keep (aA.drew (aA.refl w))).look xE b0 a3;rw[b5] at a1 a0;generalize (aB ps wi).fgL i (aN ps[i].fl nm)=r at a1 a0 |-
 generalize ps[i].fl=fs at c3 HI a1 a0 hf hf2 a4 a3;generalize aN fs nm=kf at HI a1 a0 hf a3;have b1:w.cell? ⟨x.b,2,none⟩=some (.map (some x.g1)):=h.cell 2;have a9:w.cell? ⟨x.b,3,none⟩=some (.slice (some ⟨pb,po,none⟩) ps.length pc):=(h.cell 3).trans (Q0 some b4);have b9:=h.box.facts.2.2;have b8:pb<w.heap.size:=R8 b7 h.L;have c0:(i:Int)<(ps.length:Int):=by omega
 have HS:=hid (show w.cell? ⟨x.b,2,none⟩=some (.map (some x.g1))/\w.cell? ⟨x.b,3,none⟩=some (.slice (some ⟨pb,po,none⟩) ps.length pc)/\w.cell? ⟨pb,po+i*14+3,none⟩=some (.slice fp fs.length fc)/\(Instr.lookup 74 (.map (some x.g1)) (.agg #[.int .i64 i,.int .i64 kf]) false).run Tryz.prog w=.ok (.int .i64 r) w from⟨b1,a9,c3,a1⟩);have b6:=hid (show w.drew.cell? ⟨x.b,2,none⟩=some (.map (some x.g1))/\w.drew.cell? ⟨x.b,3,none⟩=some (.slice (some ⟨pb,po,none⟩) ps.length pc)/\w.drew.cell? ⟨pb,po+i*14+3,none⟩=some (.slice fp fs.length fc)/\(Instr.lookup 74 (.map (some x.g1)) (.agg #[.int .i64 i,.int .i64 kf]) false).run Tryz.prog w.drew=.ok (.int .i64 r) w.drew from⟨b1,a9,c3,a0⟩);clear b3 a7 a2 a6 hm h hr b4 hq a5 b2 b5;go_enter Tryz.func61,Tryz.ntmps61;go_upto_region 1 with fail;go_region_held3 (fun W'=>W'.cell? ⟨x.b,2,none⟩=some (.map (some x.g1))/\W'.cell? ⟨x.b,3,none⟩=some (.slice (some ⟨pb,po,none⟩) ps.length pc)/\W'.cell? ⟨pb,po+i*14+3,none⟩=some (.slice fp fs.length fc)/\(Instr.lookup 74 (.map (some x.g1)) (.agg #[.int .i64 i,.int .i64 kf]) false).run Tryz.prog W'=.ok (.int .i64 r) W')
  (first | with_reducible exact HS.out | with_reducible exact b6.out | go_keep)
  (first | (go_at_call 85;refine (HI.out _ (aA.drew (aA.refl _))).mono ?_;rintro e w7 ⟨rfl,a8⟩;rw[a8];clear a8))
 go_wp2_with fail;go_ret;exact⟨rfl,aA.drew (aA.refl _)⟩
end
section
theorem qN{ps:List PK}{wi:WI}(hok:(aB ps wi).Ok)(h8:ps.length<=8){s:Cn.DS}{m c:Nat}(h:Cn.Bd s m c)(hm:(aB ps wi).many<=m)(but:Int)(a:At):Cn.Bd (dT ps (aB ps wi) but s a).1 (m+8) (c+24)/\(∀y∈(dT ps (aB ps wi) but s a).2,y.natAbs<=m+8)/\(dT ps (aB ps wi) but s a).2.length<=8:=by
 obtain⟨h1,h2,h3⟩:=Cn.aGi (but:=but) (nof:=a.f.toList.isEmpty) (tk:=fun z=>(aB ps wi).tkL z.toNat) (fg:=fgA ps (aB ps wi) a) (cE ps a ps.length) s [] m c h (fun z hz=>by
  exact U2 (qM hok a z hz).1.2 hm) (fun y hy=>by simp at hy)
 have hl:=hY ps a ps.length;unfold dT;exact⟨h1.mono (by omega) (by omega),fun y hy=>U2 (h2 y hy) (by omega),by simp at h3;omega⟩
mutual
theorem aUp{ps:List PK}{wi:WI}(hok:(aB ps wi).Ok)(h8:ps.length<=8){i:Nat}(hi:i<ps.length):∀(t:NT) (s:Cn.DS) (m c:Nat),Cn.Bd s m c->(aB ps wi).many<=m->(∀f∈t.flags,aN (ps.getD i PK.zero).fl f<(ps.getD i PK.zero).fl.length)->t.size<=50->
  Cn.Bd (ndS ps (aB ps wi) i t s).1 (m+10*t.size) (c+100*t.size)/\(ndS ps (aB ps wi) i t s).2.natAbs<=m+10*t.size
 | .node kd a fl nt kids,s,m,c,h,hm,hfl,hsz=>by
  rw[NT.flags] at hfl;rw[NT.size] at hsz |-
  obtain⟨g1,g2⟩:=aOz hok h8 hi kids s m c h hm (fun f hf=>hfl f (Y5 _ hf)) (by omega);have a0:=tZ ps (aB ps wi) i kids s;have a4:=uA kids;rw[ndS];generalize kdS ps (aB ps wi) i kids s=Q at g1 g2 a0 |-
  by_cases k1:kd=1
  ·rw[if_pos k1];obtain⟨j1,j2,j3⟩:=qN hok h8 g1 (by omega) (-1) a;exact⟨(j1.some (k:=8) j3).mono (by omega) (by omega),U2 (j1.someL fun y hy=>U2 (j2 y hy) (by omega)) (by omega)⟩
  rw[if_neg k1];by_cases k2:kd=2
  ·rw[if_pos k2];obtain⟨j1,j2,j3⟩:=qN hok h8 g1 (by omega) i a;refine⟨(j1.some (k:=8) j3).mono (by omega) (by omega),?_⟩;show (-(_:Int)).natAbs<=_;rw[Int.natAbs_neg];exact U2 (j1.someL fun y hy=>U2 (j2 y hy) (by omega)) (by omega)
  rw[if_neg k2];by_cases k4:kd=4
  ·rw[if_pos k4];exact⟨(g1.some (k:=50) (by omega)).mono (by omega) (by omega),U2 (g1.someL fun y hy=>U2 (g2 y hy) (by omega)) (by omega)⟩
  rw[if_neg k4];have a1:=g1.all (k:=50) (l:=Q.2) (by omega);have a2:(Q.1.allL Q.2).natAbs<=m+10*bA kids+1:=g1.allL fun y hy=>U2 (g2 y hy) (Nat.le_succ _);by_cases k5:kd=5
  ·rw[if_pos k5];have hf:=Cn.CT.fg_lit (aB ps wi) (i:=i) (k:=aN (ps.getD i PK.zero).fl fl) (by rw[dC];exact hi) (by rw[mK wi hi];exact hfl fl (by simp[k5]));have a5:=(Cn.sS hf nt).2;have a3:((Q.1.allS Q.2).someL [Cn.sg ((aB ps wi).fgL i (aN (ps.getD i PK.zero).fl fl)) nt,Q.1.allL Q.2]).natAbs<=m+10*bA kids+1+1:=a1.someL fun y hy=>by
    rcases Q3.1 hy with rfl | hy
    ·omega
    ·rw[T0.1 hy];omega
   exact⟨(a1.some (k:=2) (by simp)).mono (by omega) (by omega),U2 (show (ifS _ (sW Q)).2.natAbs<=_ from a3) (by omega)⟩
  ·rw[if_neg k5];exact⟨a1.mono (by omega) (by omega),U2 (show (sW Q).2.natAbs<=_ from a2) (by omega)⟩
theorem aOz{ps:List PK}{wi:WI}(hok:(aB ps wi).Ok)(h8:ps.length<=8){i:Nat}(hi:i<ps.length):∀(ts:List NT) (s:Cn.DS) (m c:Nat),Cn.Bd s m c->(aB ps wi).many<=m->(∀f∈bR ts,aN (ps.getD i PK.zero).fl f<(ps.getD i PK.zero).fl.length)->bA ts<=49->
  Cn.Bd (kdS ps (aB ps wi) i ts s).1 (m+10*bA ts) (c+100*bA ts)/\∀y∈(kdS ps (aB ps wi) i ts s).2,y.natAbs<=m+10*bA ts
 | [],s,m,c,h,_,_,_=>by rw[kdS];exact⟨h.mono (by omega) (by omega),by simp⟩
 | t :: ts,s,m,c,h,hm,hfl,hsz=>by
  rw[bR] at hfl;rw[bA] at hsz |-
  obtain⟨g1,g2⟩:=aUp hok h8 hi t s m c h hm (fun f hf=>hfl f (Y6 _ hf)) (by omega);obtain⟨j1,j2⟩:=aOz hok h8 hi ts _ _ _ g1 (by omega) (fun f hf=>hfl f (Y5 _ hf)) (by omega);rw[kdS];refine⟨j1.mono (by omega) (by omega),fun y hy=>?_⟩;rcases Q3.1 hy with rfl | hy
  ·omega
  ·exact U2 (j2 y hy) (by omega)
end
end
section
open Go.RowKit
def aJg(ps:List PK)(c:Cn.CT)(but:Int)(a:At):Cn.DS × List Int->Int->Cn.DS × List Int:=Cn.iJ but a.f.toList.isEmpty (fun z=>c.tkL z.toNat) (fgA ps c a)
def aSo(x:Cn.DD)(L:Nat)(r:Cn.DS × List Int)(w:World)(e:Ending)(w':World):Prop:=
 ∃(lp:Option Addr) (lc:Nat) (v:Value) (k:Nat) (cc:Nat->Prop),e=.returned (.slice lp r.2.length lc)/\(lp=none->lc=0)/\Cn.aI (fun b=>w.heap.size<=b/\b<w'.heap.size/\¬(x.to v k cc).own b) w' r.2 (.slice lp r.2.length lc)/\Cn.DM (x.to v k cc) L r.1 w'/\Cn.aG x.own (x.to v k cc).own w w'
theorem aKm{B:Nat}{zs:List Int}{p:Option Addr}{n c:Nat}{w:World}(h:Cn.aT B (.slice p n c) zs w):p=none->c=0:=by
 rintro rfl;obtain⟨-,⟨e,-⟩ | ⟨g,cap,a0,e,-⟩⟩:=h
 ·cases e;rfl
 ·cases e
theorem aEw{B:Nat}{zs:List Int}{p:Option Addr}{n c:Nat}{w:World}{O:Nat->Prop}(h:Cn.aT B (.slice p n c) zs w)(hl:zs.length<=1000000)(ho:∀g,(Value.slice p n c).ownBlock=some g->¬O g):Cn.aI (fun b=>B<=b/\b<w.heap.size/\¬O b) w zs (.slice p n c):=by
 obtain⟨p',c',e1,e2,e3⟩:=h.nums hl;cases e1;refine⟨p,c,rfl,e2,fun h0=>?_⟩;obtain⟨b,off,rfl,hb,hc⟩:=e3 h0;exact⟨b,off,rfl,⟨hb.1,hb.2,ho b (by
  obtain⟨-,⟨e,-⟩ | ⟨g,cap,a0,e,-⟩⟩:=h
  ·cases e
  ·cases e;rfl)⟩,hc⟩
theorem aMe{α β:Type}(F:α->β->α)(a:α){zs:List β}{j:Nat}{z:β}(h:zs[j]? = some z):(zs.take (j+1)).foldl F a=F ((zs.take j).foldl F a) z:=by
 obtain⟨hj,rfl⟩:=R9.1 h;rw[U4 hj,List.foldl_append];rfl
theorem aTa{ps:List PK}{wi:WI}(hok:(aB ps wi).Ok)(h8:ps.length<=8){s:Cn.DS}{m c:Nat}(h:Cn.Bd s m c)(hm:(aB ps wi).many<=m)(but:Int)(a:At)(j:Nat):Cn.Bd (((cE ps a ps.length).take j).foldl (aJg ps (aB ps wi) but a) (s,[])).1 (m+8) (c+24)/\(((cE ps a ps.length).take j).foldl (aJg ps (aB ps wi) but a) (s,[])).2.length<=8:=by
 obtain⟨h1,h2,h3⟩:=Cn.aGi (but:=but) (nof:=a.f.toList.isEmpty) (tk:=fun z=>(aB ps wi).tkL z.toNat) (fg:=fgA ps (aB ps wi) a) ((cE ps a ps.length).take j) s [] m c h (fun z hz=>U2 (qM hok a z (List.mem_of_mem_take hz)).1.2 hm) (fun y hy=>by simp at hy);have hl:=hY ps a ps.length;have ht:((cE ps a ps.length).take j).length<=8:=by rw[List.length_take];omega
 exact⟨h1.mono (by omega) (by omega),by simp only[List.length_nil] at h3;exact U2 h3 (by omega)⟩
theorem zL{x x':Cn.DD}{lv:Value}{w w':World}(h:∀g,lv.ownBlock=some g->g<w.heap.size/\¬x.own g)(t:Cn.aG x.own x'.own w w'):∀g,lv.ownBlock=some g->¬x'.own g:=fun g hg ho=>by
 rcases t.new g ho with h1 | h1
 ·exact (h g hg).2 h1
 ·have:=(h g hg).1;omega
theorem aSe{O O':Nat->Prop}{w7 wr w5:World}{v:Value}(t:Cn.aG O O' w7 wr)(g:wr.grownBy w5 v.ownBlock)(hv:∀c,v.ownBlock=some c->w7.heap.size<=c):Cn.aG O O' w7 w5:=
 ⟨g.os.trans t.os,g.tape.trans t.tape,g.output.trans t.output,U2 t.size g.size,fun b hb hn=>(g.block b (R8 hb t.size) (fun e=>by have:=hv b e.symm;omega)).trans (t.block b hb hn),t.new⟩
theorem vE{wr w5:World}{v:Value}(g:wr.grownBy w5 v.ownBlock){b o:Nat}(hb:b<wr.heap.size)(hv:v.ownBlock≠some b):w5.cell? ⟨b,o,none⟩=wr.cell? ⟨b,o,none⟩:=X0 (w:=wr) (g.block b hb (fun e=>hv e.symm))
theorem uK{x:Cn.DD}{L:Nat}{s2:Cn.DS}{O:Nat->Prop}{acc:List Int}{z:Int}{lv v5:Value}{w7 wr w5:World}{o:Obj}(ow:Cn.aT w7.heap.size lv acc wr)(ap:∀g,lv.ownBlock=some g->¬x.own g)(d:Cn.DM x L s2 wr)(t:Cn.aG O x.own w7 wr)(h1:w5.ownsRow w7.heap.size 3 1 v5 (acc.length+1) (acc.map (Value.int .i64)++[.int .i64 z]))(h2:(wr.alloc o).grownBy w5 lv.ownBlock)(h4:v5.ownBlock=lv.ownBlock\/v5.ownBlock=some (wr.alloc o).heap.size):
  Cn.aT w7.heap.size v5 (acc++[z]) w5/\(∀g,v5.ownBlock=some g->¬x.own g)/\Cn.DM x L s2 w5/\Cn.aG O x.own w7 w5:=by
 have g5:=Cn.bH h2;refine⟨?_,fun g hg ho=>?_,d.other g5.size fun b ho=>g5.block b (d.lt ho).2 (fun e=>ap b e.symm ho),aSe t g5 fun c hc=>(Cn.bN ow hc).1⟩
 ·unfold Cn.aT;rw[X9,Z9];exact h1
 ·rcases Cn.kX h4 with e | ⟨g',e,hge⟩
  ·exact ap g (e ▸ hg) ho
  ·rw[e] at hg;have:=U6 hg;have:=(d.lt ho).2;omega
theorem yJ(ps:List PK)(wi:WI)(x:Cn.DD)(L:Nat)(s:Cn.DS)(an af:ByteArray)(aop av asl:Int)(aon:Bool)(but:Int)(w:World)(m c:Nat)(hT:cA ps=0)(hA:fQ ⟨an,aop,av,asl,af,aon⟩=0)(hok:(aB ps wi).Ok)(h:Cn.DM x L s w)(hr:DR ps wi x L w)(hb:Cn.Bd s m c)(hm:(aB ps wi).many<=m)(hm2:m<=400000)(hc2:c<=400000):
  Calls Tryz.prog 28 #[.pointer (some ⟨x.b,0,none⟩),.agg #[.string an,.int .i64 aop,.int .i64 av,.int .i64 asl,.string af,.bool aon],.int .i64 but] w fun e w'=>aSo x L (dT ps (aB ps wi) but s ⟨an,aop,av,asl,af,aon⟩) w e w':=by
 obtain⟨i0,hi,g2,g0,g4⟩:=info_parts dM;have h8:=(cL hT).1;have HD:=hid h;have HR:=hid hr;have e0:=hid h.L;have HE:=hid (show mJ ps ⟨an,aop,av,asl,af,aon⟩=0 by unfold mJ;rw[hT];simpa using hA);have c4:=hid (fun j=>aTa hok h8 hb hm but ⟨an,aop,av,asl,af,aon⟩ j);obtain⟨pp,pc,c6,h9⟩:=hr.pk.len;have i6:=hid c6;have g9:=h.box.facts.2.2;have f7:w.cell? ⟨x.b,3,none⟩=some (.slice pp ps.length pc):=(h.cell 3).trans (Q0 some c6);have f6:=hid (c6 ▸ hr.pk);have a4:=hid (qM hok ⟨an,aop,av,asl,af,aon⟩);have b0:Hid (dT ps (aB ps wi) but s ⟨an,aop,av,asl,af,aon⟩=(cE ps ⟨an,aop,av,asl,af,aon⟩ ps.length).foldl (aJg ps (aB ps wi) but ⟨an,aop,av,asl,af,aon⟩) (s,[])):=rfl;have e4:=hid (hY ps ⟨an,aop,av,asl,af,aon⟩ ps.length);clear h hr hb c6 hA;go_enter Tryz.func28,Tryz.ntmps28;go_upto_region 1 with fail;refine bE (fun W'=>aA w W'/\aL w.heap.size #[.string an,.int .i64 aop,.int .i64 av,.int .i64 asl,.string af,.bool aon] W') ⟨aA.alloc _ _,aL.new _ _ _⟩ ?_;rintro W1 ⟨k1,b1⟩;have K1:=hid k1;have B1:=hid b1;have D1:=hid (HD.out.keep k1);have a9:W1.cell? ⟨x.b,3,none⟩=some (.slice pp ps.length pc):=(k1.cell (p:=⟨x.b,3,none⟩) g9).trans f7;have HS:=hid (show W1.cell? ⟨x.b,3,none⟩=some (.slice pp ps.length pc)/\∀o,W1.cell? ⟨w.heap.size,o,none⟩=(#[.string an,.int .i64 aop,.int .i64 av,.int .i64 asl,.string af,.bool aon]:Array Value)[o]? from⟨a9,b1.2⟩);have b5:=hid (show W1.drew.cell? ⟨x.b,3,none⟩=some (.slice pp ps.length pc)/\∀o,W1.drew.cell? ⟨w.heap.size,o,none⟩=(#[.string an,.int .i64 aop,.int .i64 av,.int .i64 asl,.string af,.bool aon]:Array Value)[o]? from⟨a9,b1.2⟩);have b7:x.b<W1.heap.size:=R8 g9 k1.size;have a8:w.heap.size<W1.heap.size:=b1.1;clear k1 b1;have i2:=hid (show ∀W,aA W1 W->Calls Tryz.prog 58 #[.agg #[.slice pp ps.length pc],.agg #[.string an,.int .i64 aop,.int .i64 av,.int .i64 asl,.string af,.bool aon]] W fun e w'=> ∃v,e=.returned (.tuple #[v,.int .i64 0])/\aT (W.heap.size+2) v (cE ps ⟨an,aop,av,asl,af,aon⟩ ps.length) w'/\aA W w' from fun W kW=>by
  have hL:=e0.out;have hk:aA w W:=K1.out.trans kW;refine (aHt (fun b=>b<L) ps _ an af aop av asl aon W (fun b hb=>by have:=hk.size;omega) (f6.out.keep (B:=w.heap.size) (fun b hb=>by omega) hk)).mono ?_;rintro e w' ⟨v,rfl,-,h3,h4⟩;exact⟨v,by rw[HE.out],h3 HE.out,h4⟩)
 go_region_held3 (fun W'=>W'.cell? ⟨x.b,3,none⟩=some (.slice pp ps.length pc)/\∀o,W'.cell? ⟨w.heap.size,o,none⟩=(#[.string an,.int .i64 aop,.int .i64 av,.int .i64 asl,.string af,.bool aon]:Array Value)[o]?)
  (first | with_reducible exact HS.out | with_reducible exact b5.out | with_reducible exact c7.out | go_keep)
  (first | (go_at_call 58;refine (i2.out _ (aA.drew (aA.refl _))).mono ?_;rintro e w7 ⟨zv,rfl,g7,k7⟩;have K7:=hid (iM k7);have ZV:=hid g7;have c7:=hid (show w7.cell? ⟨x.b,3,none⟩=some (.slice pp ps.length pc)/\∀o,w7.cell? ⟨w.heap.size,o,none⟩=(#[.string an,.int .i64 aop,.int .i64 av,.int .i64 asl,.string af,.bool aon]:Array Value)[o]? from⟨(K7.out.cell (p:=⟨x.b,3,none⟩) b7).trans HS.out.1,fun o=>(K7.out.cell (p:=⟨w.heap.size,o,none⟩) a8).trans (HS.out.2 o)⟩);clear k7 g7))
 obtain⟨zp,zc,b4⟩:=ZV.out.ints.len;subst b4;have D7:=hid (D1.out.keep K7.out);have KW:=hid (K1.out.trans K7.out);have e7:=hid (show ∀b,w.heap.size<=b->¬x.own b from fun b hb ho=>by have:=(HD.out.lt ho).2;omega);have BX:=hid c7.out.2;have f5:w.heap.size<w7.heap.size:=R8 a8 K7.out.size;have l3:w.heap.size<W1.drew.heap.size+2:=by have:W1.drew.heap.size=W1.heap.size:=rfl;omega
 have ZN:=hid (show Cn.aI (fun b=>w.heap.size<b/\b<w7.heap.size) w7 (cE ps ⟨an,aop,av,asl,af,aon⟩ ps.length) (.slice zp (cE ps ⟨an,aop,av,asl,af,aon⟩ ps.length).length zc) from (Cn.aT.nums (show Cn.aT _ _ _ _ from ZV.out) (by have:=e4.out;omega)).mono (fun _ _=>rfl) (fun b hb=>⟨by have:=hb.1;omega,hb.2⟩));clear HS b5 c7 a9 f7 D1 K1 ZV B1 f6 i6 b7 a8 h9;have j8:=e4.out;obtain⟨zs,b4⟩:∃zs,zs=cE ps ⟨an,aop,av,asl,af,aon⟩ ps.length:=⟨_,rfl⟩;rw[<-b4] at ZN b0 c4 a4 j8 |-
 have k2:=hid b4;clear b4 e4;obtain⟨F,hF⟩:∃F,F=aJg ps (aB ps wi) but ⟨an,aop,av,asl,af,aon⟩:=⟨_,rfl⟩;rw[<-hF] at b0 c4;have HF:=hid hF;clear hF;go_wp2_with fail;go_loopg [9,23] zs.length (fun gk lv iv wr=> ∃(j:Nat) (v:Value) (k:Nat) (cc:Nat->Prop),j+gk=zs.length/\iv=.int .i64 j/\Cn.aT w7.heap.size lv ((zs.take j).foldl F (s,[])).2 wr/\(∀g,lv.ownBlock=some g->¬(x.to v k cc).own g)/\Cn.DM (x.to v k cc) L ((zs.take j).foldl F (s,[])).1 wr/\Cn.aG x.own (x.to v k cc).own w7 wr);case atStart=>exact⟨0,x.cv,x.np,x.cs,by omega,rfl,Q1 _ _ _ _,by simp[Value.ownBlock],D7.out,Cn.aG.refl _ _⟩
 case round=>
  obtain⟨j,v,k,cc,hj,rfl,a6,f3,hd,ht⟩:=hrel;have OW:=hid a6;have AP:=hid f3;have D2:=hid hd;have T2:=hid ht;obtain⟨lp,lc,j0⟩:=a6.ints.len;subst j0;clear a6 f3 hd ht D7;by_cases hlt:j<zs.length
  ·obtain⟨zb,zo,rfl,k5,f2⟩:=(ZN.out.turn T2.out (fun b hb=>⟨hb.2,e7.out b (by omega)⟩)).nth hlt;have j9:=f2 j _ (Q9 hlt);have k4:=hid (Q9 hlt);have d4:=a4.out zs[j] (U5 hlt);have g8:∃i:Nat,i<ps.length/\zs[j]=(i:Int)/\kD (ps.getD i PK.zero) ⟨an,aop,av,asl,af,aon⟩=true:=lR.1 (by rw[<-k2.out];exact U5 hlt);have i8:=R8 k5.2 T2.out.size;have k9:(j:Int)<(zs.length:Int):=by omega
   have c2:=hid (aMe F (s,[]) k4.out);obtain⟨b2,d7⟩:=c4.out j;generalize zs[j]=z at j9 d4 g8 c2;obtain⟨i,d5,rfl,c1⟩:=g8;generalize (zs.take j).foldl F (s,[])=st at OW D2 c2 b2 d7 AP |-
   obtain⟨s2,acc⟩:=st;dsimp only at OW D2 b2 d7 AP |-
   have g1:=hid (show F (s2,acc) (i:Int)=if (i:Int)=but then (s2,acc) else if af.toList.isEmpty=true then (s2,acc++[(aB ps wi).tkL i]) else (s2.bothS ((aB ps wi).tkL i) (fgA ps (aB ps wi) ⟨an,aop,av,asl,af,aon⟩ (i:Int)),acc++[s2.bothL ((aB ps wi).tkL i) (fgA ps (aB ps wi) ⟨an,aop,av,asl,af,aon⟩ (i:Int))]) by rw[HF.out];rfl);clear f2;by_cases hbt:(i:Int)=but
   ·have h5:((i:Int)==but)=true:=by simpa using hbt
    have HN:=hid (c2.out.trans (g1.out.trans (if_pos hbt)));clear hbt;go_wp2_with fail;go_roundg (zs.length-(j+1));case rel=>exact⟨j+1,v,k,cc,by omega,by go_num,by rw[HN.out];exact OW.out,AP.out,by rw[HN.out];exact D2.out,T2.out⟩
    case measure=>omega
   ·have h5:((i:Int)==but)=false:=by simpa using hbt
    have b8:=hid (c2.out.trans (g1.out.trans (if_neg hbt)));have B2:=hid (lQ HD.out ((Cn.aG.keep KW.out).trans T2.out));have R2:=hid (HR.out.turn HD.out ((Cn.aG.keep KW.out).trans T2.out));have h0:=hid (show ∀o,wr.cell? ⟨w.heap.size,o,none⟩=(#[.string an,.int .i64 aop,.int .i64 av,.int .i64 asl,.string af,.bool aon]:Array Value)[o]? from fun o=>(T2.out.cell ⟨w.heap.size,o,none⟩ f5 (e7.out _ (Y1 _))).trans (BX.out o));have a2:w.heap.size<wr.heap.size:=R8 f5 T2.out.size;have f8:wr.cell? ⟨w.heap.size,4,none⟩=some (.string af):=h0.out 4;have f9:wr.cell? ⟨w.heap.size,5,none⟩=some (.bool aon):=h0.out 5;have a7:wr.cell? ⟨x.b,1,none⟩=some x.tv:=D2.out.cell 1;have d8:x.b<wr.heap.size:=D2.out.box.facts.2.2;have c9:=dC ps wi;have e9:=Cn.CT.tks_len (aB ps wi);obtain⟨tp,tc,c8,-⟩:=R2.out.tk.shape;have c0:x.tv=.slice tp (aB ps wi).tks.length tc:=c8;obtain⟨tb,a0,i1,d2,f4⟩:=(c8 ▸ R2.out.tk:Cn.aI _ wr (aB ps wi).tks (.slice tp (aB ps wi).tks.length tc)).nth (k:=i) (by omega);subst i1;have d6:=f4 i _ (Cn.CT.tks_get (aB ps wi) (i:=i) (by omega));rw[c0,e9,c9] at a7;have e6:tb<w.heap.size/\¬x.own tb:=HR.out.ro tb d2;have e8:¬(x.to v k cc).own tb:=(R2.out.ro tb d2).2;have b3:tb<wr.heap.size:=(R2.out.ro tb d2).1;have l2:(i:Int)<(ps.length:Int):=by omega
    have h7:((aB ps wi).tkL i).natAbs<=(aB ps wi).many:=d4.1.2;have j1:=hm;have k0:=T2.out.size;have l0:=hid (And.intro c9 e9);clear f4 c9 e9 c8 c0 hbt;cases hem:af.toList.isEmpty
    ·have h3:(af.toList == [])=false:=by simpa using hem
     have HN:=hid (b8.out.trans (if_neg (by rw[hem];decide)));have j7:aN (ps.getD i PK.zero).fl af<(ps.getD i PK.zero).fl.length:=by
      unfold kD at c1;dsimp only at c1;rw[hem] at c1;simp only[Bool.and_eq_true,Bool.false_or] at c1;exact tW.1 c1.2.2
     have e5:(ps.getD i PK.zero).fl.length<=2:=(gZ (eW ((cL hT).2 _ (by rw[R0,Q9 d5];exact U5 d5))).2.2.1).1;have d9:(fgA ps (aB ps wi) ⟨an,aop,av,asl,af,aon⟩ (i:Int)).natAbs<=(aB ps wi).many:=(d4.2 hem).1.2;have c5:=hid (show fgA ps (aB ps wi) ⟨an,aop,av,asl,af,aon⟩ (i:Int)=Cn.sg ((aB ps wi).fgL i (aN (ps.getD i PK.zero).fl af)) aon by unfold fgA;rw[Y3]);have a5:((aB ps wi).fgL i (aN (ps.getD i PK.zero).fl af)).natAbs<=900000:=by rw[c5.out,Cn.aIh] at d9;omega
     have HS:=hid (show wr.cell? ⟨x.b,1,none⟩=some (.slice (some ⟨tb,a0,none⟩) ps.length tc)/\wr.cell? ⟨tb,a0+i,none⟩=some (.int .i64 ((aB ps wi).tkL i))/\wr.cell? ⟨w.heap.size,4,none⟩=some (.string af)/\wr.cell? ⟨w.heap.size,5,none⟩=some (.bool aon) from⟨a7,d6,f8,f9⟩);have b5:=hid (show wr.drew.cell? ⟨x.b,1,none⟩=some (.slice (some ⟨tb,a0,none⟩) ps.length tc)/\wr.drew.cell? ⟨tb,a0+i,none⟩=some (.int .i64 ((aB ps wi).tkL i))/\wr.drew.cell? ⟨w.heap.size,4,none⟩=some (.string af)/\wr.drew.cell? ⟨w.heap.size,5,none⟩=some (.bool aon) from⟨a7,d6,f8,f9⟩);have k6:=hid b2;have i4:s2.n<=500000:=by have:=b2.1;omega
     have d1:s2.cl.length<=500000:=by have:=b2.2.1;omega
     generalize f1:(aB ps wi).fgL i (aN (ps.getD i PK.zero).fl af)=fr at a5 c5;have i7:=hid f1;generalize (aB ps wi).tkL i=tki at d6 h7 HN HS b5;clear f1 b2;have j3:=hid (show ∀W,aA wr W->Calls Tryz.prog 61 #[.pointer (some ⟨x.b,0,none⟩),.int .i64 i,.string af] W fun e w'=>e=.returned (.int .i64 fr)/\aA W w' from fun W kW=>by
      rw[<-i7.out];exact aDn ps wi (x.to v k cc) L s2 i af W (D2.out.keep kW) (R2.out.keep (by have:=e0.out;omega) kW) h8 d5 j7 e5)
     have e3:=hid (show ∀b,b<w7.heap.size->(Value.slice lp acc.length lc).ownBlock≠some b from fun b hb e=>by have:=(Cn.bN OW.out e).1;omega);have l1:L<=w.heap.size:=e0.out;have g3:=hid (show ¬(x.to v k cc).own w.heap.size from fun ho=>by
      rcases T2.out.new _ ho with h | h
      ·exact e7.out _ (Y1 _) h
      ·omega)
     have j4:=hid (show ∀W,aA wr W->Calls Tryz.prog 59 #[.pointer (some ⟨x.b,0,none⟩),.int .i64 tki,.int .i64 (Cn.sg fr aon)] W fun e w'=>e=.returned (.int .i64 (s2.bothL tki (Cn.sg fr aon)))/\∃v3 k3 c3,Cn.DM (x.to v3 k3 c3) L (s2.bothS tki (Cn.sg fr aon)) w'/\Cn.aG x.own (x.to v3 k3 c3).own w7 w'/\Cn.aT w7.heap.size (.slice lp acc.length lc) acc w'/\(∀g,(Value.slice lp acc.length lc).ownBlock=some g->¬(x.to v3 k3 c3).own g)/\wr.heap.size<=w'.heap.size/\(w'.cell? ⟨x.b,1,none⟩=some (.slice (some ⟨tb,a0,none⟩) ps.length tc)/\w'.cell? ⟨tb,a0+i,none⟩=some (.int .i64 tki)/\w'.cell? ⟨w.heap.size,4,none⟩=some (.string af)/\w'.cell? ⟨w.heap.size,5,none⟩=some (.bool aon)) from fun W kW=>by
      refine (Cn.aPe (x.to v k cc) L s2 tki (Cn.sg fr aon) W (D2.out.keep kW) (by omega) (by rw[Cn.aIh];exact a5) d1 i4).mono ?_;rintro e a1 ⟨rfl,v3,k3,c3,d3,t3⟩;have TR:Cn.aG (x.to v k cc).own (x.to v3 k3 c3).own wr a1:=(Cn.aG.keep kW).trans t3;refine⟨rfl,v3,k3,c3,d3,T2.out.trans TR,Cn.cM OW.out (fun g hg=>TR.block g (Cn.bN OW.out hg).2 (AP.out g hg)),zL (fun g hg=>⟨(Cn.bN OW.out hg).2,AP.out g hg⟩) TR,TR.size,?_,(TR.cell ⟨tb,a0+i,none⟩ b3 e8).trans HS.out.2.1,(TR.cell ⟨w.heap.size,4,none⟩ a2 g3.out).trans HS.out.2.2.1,(TR.cell ⟨w.heap.size,5,none⟩ a2 g3.out).trans HS.out.2.2.2⟩;have e1:=d3.cell 1;have e2:=D2.out.cell 1;exact e1.trans (e2.symm.trans HS.out.1))
     have i3:=hid (show ∀(a1 w5:World) (v5:Value) (o:Obj) (v3:Value) (k3:Nat) (c3:Nat->Prop),Cn.DM (x.to v3 k3 c3) L (s2.bothS tki (Cn.sg fr aon)) a1->Cn.aG x.own (x.to v3 k3 c3).own w7 a1->Cn.aT w7.heap.size (.slice lp acc.length lc) acc a1->(∀g,(Value.slice lp acc.length lc).ownBlock=some g->¬(x.to v3 k3 c3).own g)->wr.heap.size<=a1.heap.size->(a1.cell? ⟨x.b,1,none⟩=some (.slice (some ⟨tb,a0,none⟩) ps.length tc)/\a1.cell? ⟨tb,a0+i,none⟩=some (.int .i64 tki)/\a1.cell? ⟨w.heap.size,4,none⟩=some (.string af)/\a1.cell? ⟨w.heap.size,5,none⟩=some (.bool aon))->w5.ownsRow w7.heap.size 3 1 v5 (acc.length+1) (acc.map (Value.int .i64)++[.int .i64 (s2.bothL tki (Cn.sg fr aon))])->(a1.alloc o).grownBy w5 (Value.slice lp acc.length lc).ownBlock->(v5.ownBlock=(Value.slice lp acc.length lc).ownBlock\/v5.ownBlock=some (a1.alloc o).heap.size)->(Cn.aT w7.heap.size v5 (acc++[s2.bothL tki (Cn.sg fr aon)]) w5/\(∀g,v5.ownBlock=some g->¬(x.to v3 k3 c3).own g)/\Cn.DM (x.to v3 k3 c3) L (s2.bothS tki (Cn.sg fr aon)) w5/\Cn.aG x.own (x.to v3 k3 c3).own w7 w5)/\(w5.cell? ⟨x.b,1,none⟩=some (.slice (some ⟨tb,a0,none⟩) ps.length tc)/\w5.cell? ⟨tb,a0+i,none⟩=some (.int .i64 tki)/\w5.cell? ⟨w.heap.size,4,none⟩=some (.string af)/\w5.cell? ⟨w.heap.size,5,none⟩=some (.bool aon)) from fun a1 w5 v5 o v3 k3 c3 d t ow ap hz hs h1 h2 h4=>by
      have P:=uK ow ap d t h1 h2 h4;refine⟨P,(P.2.2.1.cell 1).trans ((d.cell 1).symm.trans hs.1),(vE (Cn.bH h2) (by omega) (e3.out _ (by have:=e6.1;omega))).trans hs.2.1,(vE (Cn.bH h2) (by omega) (e3.out _ (by omega))).trans hs.2.2.1,(vE (Cn.bH h2) (by omega) (e3.out _ (by omega))).trans hs.2.2.2⟩)
     go_wp2_with fail;go_region_held3 (fun W'=>W'.cell? ⟨x.b,1,none⟩=some (.slice (some ⟨tb,a0,none⟩) ps.length tc)/\W'.cell? ⟨tb,a0+i,none⟩=some (.int .i64 tki)/\W'.cell? ⟨w.heap.size,4,none⟩=some (.string af)/\W'.cell? ⟨w.heap.size,5,none⟩=some (.bool aon))
      (first | with_reducible exact HS.out | with_reducible exact b5.out | with_reducible exact j2.out | with_reducible exact b6.out | with_reducible exact HS11.out | with_reducible exact h6.out | go_keep)
      (first
       | (go_at_call 61;refine (j3.out _ (aA.drew (aA.refl _))).mono ?_;rintro e w8 ⟨rfl,k8⟩;have K8:=hid (iM k8);have j2:=hid (show w8.cell? ⟨x.b,1,none⟩=some (.slice (some ⟨tb,a0,none⟩) ps.length tc)/\w8.cell? ⟨tb,a0+i,none⟩=some (.int .i64 tki)/\w8.cell? ⟨w.heap.size,4,none⟩=some (.string af)/\w8.cell? ⟨w.heap.size,5,none⟩=some (.bool aon) from⟨(K8.out.cell (p:=⟨x.b,1,none⟩) d8).trans HS.out.1,(K8.out.cell (p:=⟨tb,a0+i,none⟩) b3).trans HS.out.2.1,(K8.out.cell (p:=⟨w.heap.size,4,none⟩) a2).trans HS.out.2.2.1,(K8.out.cell (p:=⟨w.heap.size,5,none⟩) a2).trans HS.out.2.2.2⟩);clear k8)
       | (go_at_call 60;refine (wS fr aon _ a5).mono ?_;rintro e w9 ⟨rfl,g6⟩;rw[g6];clear g6)
       | (go_at_call 59;refine (j4.out w8 K8.out).mono ?_;rintro e a1 ⟨rfl,v3,k3,c3,d3,t3,o3,a3,z3,s3⟩;have i5:=hid d3;have j6:=hid t3;have b9:=hid o3;have f0:=hid a3;have b6:=hid s3;clear d3 t3 o3 a3 s3)
       | (refine Cn.aW rfl _ _ 27 rfl w7.heap.size 3 i0 (.int .i64 0) 1 8 Tryz.underlying27 hi g2 g0 g4 rfl (by decide) (.slice lp acc.length lc) acc.length (acc.map (Value.int .i64)) rfl (World.ownsRow.alloc b9.out _) ⟨a1.heap.size,0,none⟩ 1 1 [.int .i64 (s2.bothL tki (Cn.sg fr aon))] rfl rfl Cn.dP cG (by unfold maxLen;omega) (by omega) (by rw[aC];omega) ?_;intro v5 w5 h1 h2 h4;have PP:=hid (i3.out a1 w5 v5 _ v3 k3 c3 i5.out j6.out b9.out f0.out z3 b6.out h1 h2 h4);have P5:=hid PP.out.1;have h6:=hid PP.out.2;clear h1 h2 h4 PP))
     obtain⟨g5,i9,j5⟩:=Cn.aS P5.out.1 (by simp);rw[j5] at P5 |-
     go_wp2_with fail;go_roundg (zs.length-(j+1));case rel=>exact⟨j+1,v3,k3,c3,by omega,by go_num,by rw[HN.out,c5.out];exact P5.out.1,P5.out.2.1,by rw[HN.out,c5.out];exact P5.out.2.2.1,P5.out.2.2.2⟩
     case measure=>omega
    ·have h3:(af.toList == [])=true:=by simpa using hem
     have HN:=hid (b8.out.trans (if_pos hem));go_wp2_with (at_builtin;refine wpList_append_own_at _ rfl _ _ 27 rfl w7.heap.size 3 i0 (.int .i64 0) 1 8 Tryz.underlying27 hi g2 g0 g4 rfl (by decide) (.slice lp acc.length lc) acc.length (acc.map (Value.int .i64)) rfl (World.ownsRow.alloc OW.out _) ⟨wr.heap.size,0,none⟩ 1 1 [.int .i64 ((aB ps wi).tkL i)] rfl rfl Cn.dP cG (by unfold maxLen;omega) (by omega) (by rw[aC];omega) ?_;intro v5 w5 h1 h2 _ h4)
     have P5:=hid (uK OW.out AP.out D2.out T2.out h1 h2 h4);clear h1 h2 h4;go_wp2_with fail;go_roundg (zs.length-(j+1));case rel=>exact⟨j+1,v,k,cc,by omega,by go_num,by rw[HN.out];exact P5.out.1,P5.out.2.1,by rw[HN.out];exact P5.out.2.2.1,P5.out.2.2.2⟩
     case measure=>omega
  ·obtain rfl:j=zs.length:=by omega
   have d0:=hid (show dT ps (aB ps wi) but s ⟨an,aop,av,asl,af,aon⟩=(zs.take zs.length).foldl F (s,[]) by rw[Z7];exact b0.out);obtain⟨-,d7⟩:=c4.out zs.length;go_wp2_with fail;go_ret;rw[d0.out];exact⟨lp,lc,v,k,cc,rfl,aKm OW.out,(aEw OW.out (by omega) AP.out).mono (fun _ _=>rfl) (fun b hb=>⟨by have:=hb.1;omega,hb.2⟩),D2.out,(Cn.aG.keep KW.out).trans T2.out⟩
end
section
open Go.RowKit
structure CM (b g:Nat) (pv tsv inv mav onv:Value) (n:Nat) (tk:List Int) (cnt:Int) (f:Int->Int->Int) (k:Nat) (w:World):Prop where
 tr:aE b 24 pv w
 wi:aF (b+1) 30 #[tsv,inv,mav,onv] w
 rs:aF (b+2) 76 #[.int .i64 0,.slice none 0 0,.map none] w
 row:aF (b+3) 3 (tk.map (Value.int .i64)).toArray w
 mp:Cn.gW g k f w
 bx:aF (g+1) 76 #[.int .i64 cnt,.slice (some ⟨b+3,0,none⟩) n n,.map (some g)] w
 far:b+4<=g
section
variable {b g:Nat} {pv tsv inv mav onv:Value} {n:Nat} {tk:List Int} {cnt:Int} {f:Int->Int->Int} {k:Nat} {w w':World}
theorem CM.lt(h:CM b g pv tsv inv mav onv n tk cnt f k w):b+4<=g/\g+1<w.heap.size:=⟨h.far,h.bx.facts.2.2⟩
theorem CM.keep(h:CM b g pv tsv inv mav onv n tk cnt f k w)(kp:aA w w'):CM b g pv tsv inv mav onv n tk cnt f k w':=
 ⟨h.tr.keep kp h.tr.facts.2.2,h.wi.keep kp h.wi.facts.2.2,h.rs.keep kp h.rs.facts.2.2,h.row.keep kp h.row.facts.2.2,h.mp.keep kp,h.bx.keep kp h.bx.facts.2.2,h.far⟩
theorem CM.next(h:CM b g pv tsv inv mav onv n tk cnt f k w):CM b g pv tsv inv mav onv n tk (cnt+1) f k (w.setCell ⟨g+1,0,none⟩ (.int .i64 (cnt+1))):=by
 have a0:∀c,c≠g+1->(w.setCell ⟨g+1,0,none⟩ (.int .i64 (cnt+1))).heap[c]? = w.heap[c]? :=fun c hc=>Below.heap_setCell _ _ _ _ (fun e=>hc e);have a1:=h.far;refine⟨?_,?_,?_,?_,h.mp.at (a0 _ (by omega)),h.bx.set 0 _,a1⟩
 ·have:=h.tr;unfold aE at *;rw[a0 _ (by omega)];exact this
 ·have:=h.wi;unfold aF at *;rw[a0 _ (by omega)];exact this
 ·have:=h.rs;unfold aF at *;rw[a0 _ (by omega)];exact this
 ·have:=h.row;unfold aF at *;rw[a0 _ (by omega)];exact this
theorem CM.set(h:CM b g pv tsv inv mav onv n tk cnt f k w)(i:Nat)(v:Int):CM b g pv tsv inv mav onv n (tk.set i v) cnt f k (w.setCell ⟨b+3,i,none⟩ (.int .i64 v)):=by
 have a0:∀c,c≠b+3->(w.setCell ⟨b+3,i,none⟩ (.int .i64 v)).heap[c]? = w.heap[c]? :=fun c hc=>Below.heap_setCell _ _ _ _ (fun e=>hc e);have a1:=h.far;refine⟨?_,?_,?_,?_,h.mp.at (a0 _ (by omega)),?_,a1⟩
 ·have:=h.tr;unfold aE at *;rw[a0 _ (by omega)];exact this
 ·have:=h.wi;unfold aF at *;rw[a0 _ (by omega)];exact this
 ·have:=h.rs;unfold aF at *;rw[a0 _ (by omega)];exact this
 ·have:=h.row.set i (.int .i64 v);rwa [List.setIfInBounds_toArray,<-List.map_set] at this
 ·have:=h.bx;unfold aF at *;rw[a0 _ (by omega)];exact this
theorem CM.put{f':Int->Int->Int}{k':Nat}(h:CM b g pv tsv inv mav onv n tk cnt f k w)(hm:Cn.gW (g) k' f' w')(hg:w.grownBy w' (some (g))):CM b g pv tsv inv mav onv n tk cnt f' k' w':=by
 have hl:=h.lt;have a0:∀c,c<w.heap.size->c≠g->w'.heap[c]? = w.heap[c]? :=fun c hc hn=>hg.block c hc fun e=>hn (U6 e);refine⟨?_,?_,?_,?_,hm,?_,h.far⟩
 ·have:=h.tr;unfold aE at *;rw[a0 _ (by omega) (by omega)];exact this
 ·have:=h.wi;unfold aF at *;rw[a0 _ (by omega) (by omega)];exact this
 ·have:=h.rs;unfold aF at *;rw[a0 _ (by omega) (by omega)];exact this
 ·have:=h.row;unfold aF at *;rw[a0 _ (by omega) (by omega)];exact this
 ·have:=h.bx;unfold aF at *;rw[a0 _ (by omega) (by omega)];exact this
theorem CM.more{k':Nat}(h:CM b g pv tsv inv mav onv n tk cnt f k w)(hk:k<=k'):CM b g pv tsv inv mav onv n tk cnt f k' w:=⟨h.tr,h.wi,h.rs,h.row,h.mp.mono hk,h.bx,h.far⟩
theorem CM.at(h:CM b g pv tsv inv mav onv n tk cnt f k w){i:Nat}(hi:i<tk.length):w.cell? ⟨b+3,i,none⟩=some (.int .i64 (tk.getD i 0))/\w.frozen? ⟨b+3,i,none⟩=false:=by
 refine⟨?_,h.row.facts.2.1 i⟩;rw[h.row.facts.1,List.getElem?_toArray,Z2,Q9 hi,R0,Q9 hi];rfl
end
theorem aPg{b n:Nat}{zs:List Int}{w:World}(h:aF b 3 (zs.map (Value.int .i64)).toArray w)(hn:zs.length=n)(hl:n<=1000000):Cn.aI (fun c=>c=b) w zs (.slice (some ⟨b,0,none⟩) n n):=by
 refine⟨_,n,by rw[hn],by omega,fun _=>⟨b,0,rfl,rfl,fun j x hx=>?_⟩⟩;rw[Z6,h.facts.1,List.getElem?_toArray,Z2,hx];rfl
theorem aLj(c:Cn.CT){i:Nat}(hi:i<c.nf.length):c.base (i+1)=c.base i+c.nf.getD i 0:=by
 unfold Cn.CT.base;rw[U4 hi,List.sum_append,R0,Q9 hi];simp;omega
theorem aOy(c:Cn.CT):c.base c.nf.length=c.many:=by unfold Cn.CT.base Cn.CT.many;rw[Z7]
theorem aSz(c:Cn.CT)(i:Nat):c.base i<=c.many:=by
 have:=Cn.pO c.nf i (max i c.nf.length) (by omega);rw[List.take_of_length_le (l:=c.nf) (i:=max i c.nf.length) (by omega)] at this;unfold Cn.CT.base Cn.CT.many;omega
theorem eT{z:Int}(h:z.natAbs<=1000000):IntKind.i64.wrap z=z:=by rw[IntKind.wrap_i64];omega
theorem aHa(args:Array Value)(w:World):(callFunc 57 args).run Tryz.prog w=.ok (.enter 57 args) w:=enters_of Tryz.func57 (by kernel_rfl) rfl args w
theorem sI(bc:Nat)(n:Int)(tv mv:Value)(w:World)(h:aF bc 76 #[.int .i64 n,tv,mv] w)(h0:0<=n)(h1:n<=1000000):
  Calls Tryz.prog 57 #[.pointer (some ⟨bc,0,none⟩)] w fun e w'=>e=.returned (.int .i64 (n+1))/\w'=w.setCell ⟨bc,0,none⟩ (.int .i64 (n+1)):=by
 have a0:w.cell? ⟨bc,0,none⟩=some (.int .i64 n):=h.facts.1 0;have a1:=h.facts.2.1 0;have hl:=h.facts.2.2;clear h;go_enter Tryz.func57,Tryz.ntmps57;go_wp2_with fail;go_ret;exact⟨rfl,rfl⟩
theorem aEt{ps:List PK}{on:List (Int × Int)}(h:aM (onE ps on) 0 on.length=0)(h8:ps.length<=8)(h2:∀p∈ps,p.fl.length<=2):(∀q∈on,0<=q.1/\q.1<ps.length/\0<=q.2/\q.2<(ps.getD q.1.toNat PK.zero).fl.length)/\on.Nodup/\on.length<=32:=by
 have hz:=(cW on.length 0).1 h;have hk:∀k (hk:k<on.length),(0<=on[k].1/\on[k].1<ps.length/\0<=on[k].2/\on[k].2<(ps.getD on[k].1.toNat PK.zero).fl.length)/\(0<k->(on.getD (k-1) (0,0)).1<on[k].1\/(on.getD (k-1) (0,0)).1=on[k].1/\(on.getD (k-1) (0,0)).2<on[k].2):=fun k hk=>by
  have h1:=hz k hk;have e:on.getD k (0,0)=on[k]:=by rw[R0,Q9 hk];rfl
  rw[Z6] at h1;unfold onE at h1;rw[e] at h1;split at h1
  ·omega
  ·split at h1
   ·omega
   ·split at h1
    ·omega
    ·rename_i g1 g2 g3;refine⟨by omega,fun h0=>?_⟩;exact Classical.byContradiction fun hn=>g3 ⟨h0,hn⟩
 have a1:∀q∈on,0<=q.1/\q.1<ps.length/\0<=q.2/\q.2<(ps.getD q.1.toNat PK.zero).fl.length:=fun q hq=>by
  obtain⟨k,a0,rfl⟩:=List.getElem_of_mem hq;exact (hk k a0).1
 have a5:∀q∈on,q.2<2:=fun q hq=>by
  have h3:=a1 q hq;have h4:ps.getD q.1.toNat PK.zero∈ps:=by rw[R0,Q9 (show q.1.toNat<ps.length by omega)];exact U5 _
  have:=h2 _ h4;omega
 have a6:(on.map fun q=>4*q.1+q.2).length=on.length:=by simp
 have a2:∀k (hk:k<on.length),(on.map fun q=>4*q.1+q.2).getD k 0=4*on[k].1+on[k].2:=fun k hk=>by rw[R0,Z2,Q9 hk];rfl
 have a3:∀k,0<k->k<(on.map fun q=>4*q.1+q.2).length->(on.map fun q=>4*q.1+q.2).getD (k-1) 0<(on.map fun q=>4*q.1+q.2).getD k 0:=fun k h0 a0=>by
  rw[a6] at a0;rw[a2 k a0,a2 (k-1) (by omega)];have e:on.getD (k-1) (0,0)=on[k-1]:=by rw[R0,Q9 (show k-1<on.length by omega)];rfl
  have h3:=(hk k a0).2 h0;rw[e] at h3;have h4:=a1 _ (U5 a0);have h5:=a5 _ (U5 (show k-1<on.length by omega));omega
 have a4:=aCa a3;refine⟨a1,?_,?_⟩
 ·rw[List.pairwise_map] at a4;rw[List.nodup_iff_pairwise_ne];exact a4.imp fun hab e=>by rw[e] at hab;omega
 ·by_cases h0:on.length=0
  ·omega
  ·have g1:=aLb a3 (fun x hx=>by obtain⟨q,hq,rfl⟩:=Q4.1 hx;have:=a1 q hq;omega) (on.length-1) (by omega);rw[a2 _ (by omega)] at g1;have g2:=a1 _ (U5 (show on.length-1<on.length by omega));have g3:=a5 _ (U5 (show on.length-1<on.length by omega));omega
end
section
open Go.RowKit
structure NV (x:Cn.DD) (bh bd bp i:Nat) (w:World):Prop where
 h:aE bh 126 (.func (Fn.func 62) #[] #[.pointer (some ⟨bh,0,none⟩),.pointer (some ⟨bd,0,none⟩),.pointer (some ⟨bp,0,none⟩)]) w
 d:aE bd 73 (.pointer (some ⟨x.b,0,none⟩)) w
 p:aE bp 3 (.int .i64 i) w
 no:¬x.own bh/\¬x.own bd/\¬x.own bp
theorem aE.turnV{c:Nat}{T:TypeId}{v:Value}{w w':World}{O O':Nat->Prop}(h:aE c T v w)(k:Cn.aG O O' w w')(hc:¬O c):aE c T v w':=by
 have hl:=h.facts.2.2;unfold aE at *;rw[k.block c hl hc];exact h
theorem NV.turn{x:Cn.DD}{bh bd bp i:Nat}{w w':World}{v:Value}{k:Nat}{cc:Nat->Prop}(h:NV x bh bd bp i w)(t:Cn.aG x.own (x.to v k cc).own w w'):NV (x.to v k cc) bh bd bp i w':=by
 have a2:=h.h.facts.2.2;have a1:=h.d.facts.2.2;have a0:=h.p.facts.2.2;exact⟨h.h.turnV t h.no.1,h.d.turnV t h.no.2.1,h.p.turnV t h.no.2.2,fun ho=>(t.new _ ho).elim h.no.1 (by omega),fun ho=>(t.new _ ho).elim h.no.2.1 (by omega),fun ho=>(t.new _ ho).elim h.no.2.2 (by omega)⟩
theorem NV.keep{x:Cn.DD}{bh bd bp i:Nat}{w w':World}(h:NV x bh bd bp i w)(k:aA w w'):NV x bh bd bp i w':=⟨h.h.keep k h.h.facts.2.2,h.d.keep k h.d.facts.2.2,h.p.keep k h.p.facts.2.2,h.no⟩
def aGg(x:Cn.DD)(L:Nat)(r:Cn.DS × Int)(w:World)(e:Ending)(w':World):Prop:=e=.returned (.int .i64 r.2)/\∃v k cc,Cn.DM (x.to v k cc) L r.1 w'/\Cn.aG x.own (x.to v k cc).own w w'
def aUw(ps:List PK)(wi:WI)(i bh bd bp L:Nat)(t:NT):Prop:=∀(x:Cn.DD) (s:Cn.DS) (cs:List Value) (m c:Nat) (w:World),Cn.DM x L s w->DR ps wi x L w->NV x bh bd bp i w->aH (fun b=>b<L) w t cs->Cn.Bd s m c->(aB ps wi).many<=m->m+10*t.size<=300000->c+100*t.size<=300000->
 Calls Tryz.prog 62 #[.agg cs.toArray,.pointer (some ⟨bh,0,none⟩),.pointer (some ⟨bd,0,none⟩),.pointer (some ⟨bp,0,none⟩)] w fun e w'=>aGg x L (ndS ps (aB ps wi) i t s) w e w'
theorem aDk(args:Array Value)(w:World):(callFunc 62 args).run Tryz.prog w=.ok (.enter 62 args) w:=enters_of Tryz.func62 (by kernel_rfl) rfl args w
theorem mY:∀(ts:List NT) (j:Nat) (h:j<ts.length),bA (ts.take j)+ts[j].size<=bA ts
 | [],j,h=>absurd h (Q5 _)
 | t :: ts,0,_=>by simp only[List.take_zero,List.getElem_cons_zero,bA];omega
 | t :: ts,j+1,h=>by
  have:=mY ts j (by simpa using h);simp only[List.take_succ_cons,List.getElem_cons_succ,bA];omega
theorem mI:∀ {ts:List NT} {f:ByteArray},f∈bR ts ↔ ∃t∈ts,f∈t.flags
 | [],f=>by simp[bR]
 | t :: ts,f=>by rw[bR,U0,mI (ts:=ts)];simp
theorem aTw(ps:List PK)(wi:WI)(i bh bd bp L:Nat)(hT:cA ps=0)(hok:(aB ps wi).Ok)(hi:i<ps.length)(kd:Int)(a:At)(fl:ByteArray)(nt:Bool)(kids:List NT)(hnode:bF (.node kd a fl nt kids)=0)(hfl:∀f∈NT.flags (.node kd a fl nt kids),aN (ps.getD i PK.zero).fl f<(ps.getD i PK.zero).fl.length)(hsz:(NT.node kd a fl nt kids).size<=50)(IH:∀(j:Nat) (h:j<kids.length),aUw ps wi i bh bd bp L kids[j]):aUw ps wi i bh bd bp L (.node kd a fl nt kids):=by
 intro x s cs m c w h hr hv hn hb hm j9 i4;obtain⟨i0,l4,l3,l1,l5⟩:=info_parts dM;have h8:=(cL hT).1;have k7:(ps.getD i PK.zero).fl.length<=2:=(gZ (eW ((cL hT).2 _ (by rw[R0,Q9 hi];exact U5 hi))).2.2.1).1;rw[NT.size] at hsz j9 i4;rw[NT.flags] at hfl;have f9:=hid (show ∀f∈bR kids,aN (ps.getD i PK.zero).fl f<(ps.getD i PK.zero).fl.length from fun f hf=>hfl f (Y5 _ hf));have f5:=hid (show kd=5->aN (ps.getD i PK.zero).fl fl<(ps.getD i PK.zero).fl.length from fun h5=>hfl fl (by simp[h5]));have m8:=uA kids;have j6:=hid (fun (j:Nat)=>aOz hok h8 hi (kids.take j) s m c hb hm (fun f hf=>by
  obtain⟨t,ht,i5⟩:=mI.1 hf;exact f9.out f (mI.2 ⟨t,List.mem_of_mem_take ht,i5⟩)) (by
  by_cases hj:j<kids.length
  ·have:=mY kids j hj;omega
  ·rw[List.take_of_length_le (by omega)];omega))
 have l7:=hid (fun (j:Nat) (hj:j<kids.length)=>mY kids j hj);have HD:=hid h;have HR:=hid hr;have HV:=hid hv;have f7:=hid h.L;rw[aH] at hn;obtain⟨kp,kc,rfl,m4,g5,b4⟩:=hn;have HK:=hid b4;have k6:=aDk;have b8:=hid (show ndS ps (aB ps wi) i (.node kd a fl nt kids) s=if kd=1 then pQ (dT ps (aB ps wi) (-1) (kdS ps (aB ps wi) i kids s).1 a) else if kd=2 then aVv (pQ (dT ps (aB ps wi) i (kdS ps (aB ps wi) i kids s).1 a)) else if kd=4 then pQ (kdS ps (aB ps wi) i kids s) else if kd=5 then ifS (Cn.sg ((aB ps wi).fgL i (aN (ps.getD i PK.zero).fl fl)) nt) (sW (kdS ps (aB ps wi) i kids s)) else sW (kdS ps (aB ps wi) i kids s) by rw[ndS]);have j5:=hid IH;have d7:=hid (fW hnode);have g8:kids.length<=50:=by omega
 clear h hr hv hb b4 IH hnode hfl;go_enter Tryz.func62,Tryz.ntmps62;go_upto_region 2 with fail;refine bE (fun W'=>aA w W'/\aL w.heap.size #[.int .i64 kd,.string a.n,.int .i64 a.op,.int .i64 a.v,.int .i64 a.sl,.string a.f,.bool a.on,.string fl,.bool nt,.slice kp kids.length kc] W') ⟨aA.alloc _ _,aL.new _ _ _⟩ ?_;rintro W0 ⟨k0,b0⟩;have K0:=hid k0;have B0:=hid b0;have D0:=hid (HD.out.keep k0);have V0:=hid (HV.out.keep k0);have i3:=hid (show ∀b,w.heap.size<=b->¬x.own b from fun b hb ho=>by have:=(HD.out.lt ho).2;omega);have g6:W0.cell? ⟨w.heap.size,9,none⟩=some (.slice kp kids.length kc):=b0.2 9;have e9:=b0.1;obtain⟨bn,f0⟩:∃bn,bn=w.heap.size:=⟨_,rfl⟩;rw[<-f0] at B0 i3 g6 e9 |-
 have j8:=hid f0;clear k0 b0 f0;have e2:=hid (show L<=W0.heap.size by have:=f7.out;have:=j8.out;omega);have f2:=hid (show ∀(v:Value) (k:Nat) (cc:Nat->Prop) (W:World),Cn.aG x.own (x.to v k cc).own W0 W->Below L w W from fun v k cc W t=>(rC f7.out K0.out).trans (lQ D0.out t));have j4:=hid (show ∀(v:Value) (k:Nat) (cc:Nat->Prop) (W:World),Cn.aG x.own (x.to v k cc).own W0 W->∀o,W.cell? ⟨bn,o,none⟩=(#[.int .i64 kd,.string a.n,.int .i64 a.op,.int .i64 a.v,.int .i64 a.sl,.string a.f,.bool a.on,.string fl,.bool nt,.slice kp kids.length kc]:Array Value)[o]? from fun v k cc W t o=>(t.cell ⟨bn,o,none⟩ e9 (i3.out _ (Y1 _))).trans (B0.out.2 o));go_wp2_with fail;clear g6;go_loopg [6,12] kids.length (fun gk lv iv wr=> ∃(j:Nat) (v:Value) (k:Nat) (cc:Nat->Prop),j+gk=kids.length/\iv=.int .i64 j/\Cn.aT W0.heap.size lv (kdS ps (aB ps wi) i (kids.take j) s).2 wr/\(∀g,lv.ownBlock=some g->¬(x.to v k cc).own g)/\Cn.DM (x.to v k cc) L (kdS ps (aB ps wi) i (kids.take j) s).1 wr/\Cn.aG x.own (x.to v k cc).own W0 wr);case atStart=>exact⟨0,x.cv,x.np,x.cs,by omega,rfl,by rw[List.take_zero,kdS];exact Q1 _ _ _ _,by simp[Value.ownBlock],by rw[List.take_zero,kdS];exact D0.out,Cn.aG.refl _ _⟩
 case round=>
  obtain⟨j,v,k,cc,hj,rfl,b9,g0,hd,ht⟩:=hrel;have OW:=hid b9;have AP:=hid g0;have D2:=hid hd;have T2:=hid ht;have V2:=hid (V0.out.turn ht);have R2:=hid ((HR.out.keep f7.out K0.out).turn D0.out ht);have c0:=hid (j6.out j);have g4:=hid (tZ ps (aB ps wi) i (kids.take j) s);obtain⟨lp,lc,k5⟩:=b9.ints.len;subst k5;clear b9 g0 hd ht D0;by_cases hlt:j<kids.length
  ·obtain⟨p,cs,hp,l6,a7,b1⟩:=dQ (bJ.mono (bQ (B:=L) (fun _ h=>h) (f2.out v k cc wr T2.out)) (fun _ h=>h) kids kp 0 HK.out) j hlt;have m7:=l7.out j hlt;have e0:=hid (show kdS ps (aB ps wi) i (kids.take (j+1)) s=((ndS ps (aB ps wi) i kids[j] (kdS ps (aB ps wi) i (kids.take j) s).1).1,(kdS ps (aB ps wi) i (kids.take j) s).2++[(ndS ps (aB ps wi) i kids[j] (kdS ps (aB ps wi) i (kids.take j) s).1).2]) by rw[U4 hlt,aEd]);have d8:(kdS ps (aB ps wi) i (kids.take j) s).2.length<=50:=by rw[g4.out,List.length_take];omega
   obtain⟨a9,-⟩:=c0.out;generalize kdS ps (aB ps wi) i (kids.take j) s=st at OW D2 e0 a9 d8 AP |-
   obtain⟨s2,acc⟩:=st;dsimp only at OW D2 a9 d8 e0 AP |-
   have b6:=hid (show ∀W,aA wr W->Calls Tryz.prog 62 #[.agg cs.toArray,.pointer (some ⟨bh,0,none⟩),.pointer (some ⟨bd,0,none⟩),.pointer (some ⟨bp,0,none⟩)] W fun e w'=>e=.returned (.int .i64 (ndS ps (aB ps wi) i kids[j] s2).2)/\∃v3 k3 c3,Cn.DM (x.to v3 k3 c3) L (ndS ps (aB ps wi) i kids[j] s2).1 w'/\Cn.aG x.own (x.to v3 k3 c3).own W0 w'/\Cn.aT W0.heap.size (.slice lp acc.length lc) acc w'/\(∀g,(Value.slice lp acc.length lc).ownBlock=some g->¬(x.to v3 k3 c3).own g) from fun W kW=>by
    have e1:L<=wr.heap.size:=U2 e2.out T2.out.size;refine (j5.out j hlt (x.to v k cc) s2 cs (m+10*bA (kids.take j)) (c+100*bA (kids.take j)) W (D2.out.keep kW) (R2.out.keep e1 kW) (V2.out.keep kW) (b1.keep (B:=L) (fun _ h=>h) (rC e1 kW)) a9 (by omega) (by omega) (by omega)).mono ?_;rintro e w4 ⟨rfl,v3,k3,c3,d3,t3⟩;have TR:Cn.aG (x.to v k cc).own (x.to v3 k3 c3).own wr w4:=(Cn.aG.keep kW).trans t3;exact⟨rfl,v3,k3,c3,d3,T2.out.trans TR,Cn.cM OW.out (fun g hg=>TR.block g (Cn.bN OW.out hg).2 (AP.out g hg)),zL (fun g hg=>⟨(Cn.bN OW.out hg).2,AP.out g hg⟩) TR⟩)
   subst hp;rw[Z6] at a7;generalize ndS ps (aB ps wi) i kids[j] s2=r at b6 e0;cases hkid:kids[j] with
   | node k' a' fl' nt' kids'=>
   rw[hkid,aH] at b1;obtain⟨m3,m5,rfl,-,-,-⟩:=b1;obtain⟨y0,y1,y2,y3,y4,y5,y6,y7,y8,y9⟩:=iF a7;have i7:p.block<wr.heap.size:=R8 l6 (U2 e2.out T2.out.size);obtain⟨i6,-,j2⟩:=V2.out.h.facts;have m1:(j:Int)<(kids.length:Int):=by omega
   have e4:=T2.out.size;clear a7 hkid;go_wp2_with fail;refine bK (fun W'=>aA wr W') (aA.alloc _ _) ?_;intro W1 k1;refine (b6.out W1 k1).mono ?_;rintro e w4 ⟨rfl,v3,k3,c3,d3,t3,o3,a3⟩;have D4:=hid d3;have T4:=hid t3;have g9:=hid o3;have i8:=hid a3;have j0:=t3.size;clear d3 t3 o3 a3 k1 y0 y1 y2 y3 y4 y5 y6 y7 y8 y9 i6 j2;go_wp2_with (at_builtin;refine wpList_append_own_at _ rfl _ _ 27 rfl W0.heap.size 3 i0 (.int .i64 0) 1 8 Tryz.underlying27 l4 l3 l1 l5 rfl (by decide) (.slice lp acc.length lc) acc.length (acc.map (Value.int .i64)) rfl (World.ownsRow.alloc g9.out _) ⟨w4.heap.size,0,none⟩ 1 1 [.int .i64 r.2] rfl rfl Cn.dP cG (by unfold maxLen;omega) (by omega) (by rw[aC];omega) ?_;intro v5 w5 h1 h2 _ h4)
   have P5:=hid (uK g9.out i8.out D4.out T4.out h1 h2 h4);clear h1 h2 h4;go_wp2_with fail;go_roundg (kids.length-(j+1));case rel=>exact⟨j+1,v3,k3,c3,by omega,by go_num,by rw[e0.out];exact P5.out.1,P5.out.2.1,by rw[e0.out];exact P5.out.2.2.1,P5.out.2.2.2⟩
   case measure=>omega
  ·obtain rfl:j=kids.length:=by omega
   have a9:=c0.out.1;have a5:=hid c0.out.2;have e3:(kdS ps (aB ps wi) i (kids.take kids.length) s).2.length<=50:=by rw[g4.out,List.length_take];omega
   rw[Z7] at OW D2 AP a9 e3 a5 |-
   have e4:=T2.out.size;have a4:=hid (show ∀(v:Value) (k:Nat) (cc:Nat->Prop) (W:World),Cn.aG x.own (x.to v k cc).own W0 W->(W.cell? ⟨bd,0,none⟩=some (.pointer (some ⟨x.b,0,none⟩))/\W.cell? ⟨bp,0,none⟩=some (.int .i64 i)/\∀o,W.cell? ⟨bn,o,none⟩=(#[.int .i64 kd,.string a.n,.int .i64 a.op,.int .i64 a.v,.int .i64 a.sl,.string a.f,.bool a.on,.string fl,.bool nt,.slice kp kids.length kc]:Array Value)[o]?) from fun v k cc W t=>⟨((V0.out.turn t).d.facts.1),((V0.out.turn t).p.facts.1),j4.out v k cc W t⟩);generalize hQ:kdS ps (aB ps wi) i kids s=Q at OW D2 AP a9 e3 a5 b8 |-
   obtain⟨s2,acc⟩:=Q;dsimp only at OW D2 AP a9 e3 a5 |-
   have m2:s2.n<=400000:=by have:=a9.1;omega
   have k2:s2.cl.length<=400000:=by have:=a9.2.1;omega
   have d0:∀y∈acc,y.natAbs<=400000:=fun y hy=>by have:=a5.out y hy;omega
   have i1:=hid (aEw OW.out (by omega) AP.out);have c6:=hid (aKm OW.out);have b3:=hid d0;have e5:=hid a9;obtain⟨n0,m0,i9⟩:=a4.out v k cc wr T2.out;have m6:=i9 0;have l0:bn<wr.heap.size:=R8 e9 T2.out.size;have m9:=V2.out.d.facts.2.2;have i7:=V2.out.p.facts.2.2;have a8:=hid (show ∀(v4:Value) (k4:Nat) (c4:Nat->Prop) (w':World) (r:Cn.DS × Int),Cn.DM (x.to v4 k4 c4) L r.1 w'->Cn.aG x.own (x.to v4 k4 c4).own W0 w'->ndS ps (aB ps wi) i (.node kd a fl nt kids) s=r->aGg x L (ndS ps (aB ps wi) i (.node kd a fl nt kids) s) w (.returned (.int .i64 r.2)) w' from fun v4 k4 c4 w' r d t e=>by rw[e];exact⟨rfl,v4,k4,c4,d,(Cn.aG.keep K0.out).trans t⟩);have a1:=hid (show ∀(W:World) (v3:Value) (k3:Nat) (c3:Nat->Prop) (s3:Cn.DS) (l:List Int) (Q:Nat->Prop) (p:Option Addr) (n cap:Nat),l.length=n->(p=none->cap=0)->Cn.DM (x.to v3 k3 c3) L s3 W->Cn.aG x.own (x.to v3 k3 c3).own W0 W->(∀b,Q b->b<W.heap.size/\¬(x.to v3 k3 c3).own b)->Cn.aI Q W l (.slice p n cap)->l.length<=900->s3.cl.length<=500000->s3.n<=500000->(∀y∈l,y.natAbs<=900000)->Calls Tryz.prog 63 #[.pointer (some ⟨x.b,0,none⟩),.slice p n cap] W fun e w'=>e=.returned (.int .i64 (s3.someL l))/\∃v4 c4,Cn.DM (x.to v4 k3 c4) L (s3.someS l) w'/\Cn.aG x.own (x.to v4 k3 c4).own W0 w' from fun W v3 k3 c3 s3 l Q p n cap h1 h2 h3 h4 h5 h6 h7 h8 h9 h10=>by
    refine (Cn.aFp (x.to v3 k3 c3) L s3 Q l p n cap W h1 h2 h3 h5 h6 h7 h8 h9 h10).mono ?_;rintro e w' ⟨rfl,v4,c4,d4,t4⟩;exact⟨rfl,v4,c4,d4,h4.trans t4⟩)
   have a6:=hid (show ∀W,aA wr W->Calls Tryz.prog 64 #[.pointer (some ⟨x.b,0,none⟩),.slice lp acc.length lc] W fun e w'=>e=.returned (.int .i64 (s2.allL acc))/\∃v3 c3,Cn.DM (x.to v3 k c3) L (s2.allS acc) w'/\Cn.aG x.own (x.to v3 k c3).own W0 w' from fun W kW=>by
    refine (Cn.aJe (x.to v k cc) L s2 (fun b=>b<wr.heap.size) acc lp acc.length lc W rfl (D2.out.keep kW) (fun b hb=>R8 hb kW.size) ((i1.out.mono (fun _ _=>rfl) (fun b hb=>hb.2.1)).keep (B:=wr.heap.size) (fun _ h=>h) kW) (by omega) (by omega) (by omega) (fun y hy=>by have:=b3.out y hy;omega)).mono ?_;rintro e w' ⟨rfl,v3,c3,d3,t3⟩;exact⟨rfl,v3,c3,d3,(T2.out.trans (Cn.aG.keep kW)).trans t3⟩)
   have b5:=hid (show ∀(but:Int) W,aA wr W->fQ a=0->Calls Tryz.prog 28 #[.pointer (some ⟨x.b,0,none⟩),.agg #[.string a.n,.int .i64 a.op,.int .i64 a.v,.int .i64 a.sl,.string a.f,.bool a.on],.int .i64 but] W fun e w'=> ∃a2 a0 v3 k3 c3,e=.returned (.slice a2 (dT ps (aB ps wi) but s2 a).2.length a0)/\(a2=none->a0=0)/\Cn.aI (fun b=>b<w'.heap.size/\¬(x.to v3 k3 c3).own b) w' (dT ps (aB ps wi) but s2 a).2 (.slice a2 (dT ps (aB ps wi) but s2 a).2.length a0)/\Cn.DM (x.to v3 k3 c3) L (dT ps (aB ps wi) but s2 a).1 w'/\Cn.aG x.own (x.to v3 k3 c3).own W0 w' from fun but W kW hA=>by
    have e1:L<=wr.heap.size:=U2 e2.out T2.out.size;refine (yJ ps wi (x.to v k cc) L s2 a.n a.f a.op a.v a.sl a.on but W _ _ hT hA hok (D2.out.keep kW) (R2.out.keep e1 kW) e5.out (by omega) (by omega) (by omega)).mono ?_;rintro e w' ⟨a2,a0,v3,k3,c3,rfl,h1,h2,h3,h4⟩;exact⟨a2,a0,v3,k3,c3,rfl,h1,h2.mono (fun _ _=>rfl) (fun b hb=>⟨hb.2.1,hb.2.2⟩),h3,(T2.out.trans (Cn.aG.keep kW)).trans h4⟩)
   have g7:=hid (fun but:Int=>qN hok h8 a9 (by omega) but a);have c5:=hid (show ∀(but:Int) (w8:World) (a2:Option Addr) (a0:Nat) (v3:Value) (k3:Nat) (c3:Nat->Prop),(a2=none->a0=0)->Cn.aI (fun b=>b<w8.heap.size/\¬(x.to v3 k3 c3).own b) w8 (dT ps (aB ps wi) but s2 a).2 (.slice a2 (dT ps (aB ps wi) but s2 a).2.length a0)->Cn.DM (x.to v3 k3 c3) L (dT ps (aB ps wi) but s2 a).1 w8->Cn.aG x.own (x.to v3 k3 c3).own W0 w8->Calls Tryz.prog 63 #[.pointer (some ⟨x.b,0,none⟩),.slice a2 (dT ps (aB ps wi) but s2 a).2.length a0] w8 fun e w'=>e=.returned (.int .i64 ((dT ps (aB ps wi) but s2 a).1.someL (dT ps (aB ps wi) but s2 a).2))/\∃v4 c4,Cn.DM (x.to v4 k3 c4) L ((dT ps (aB ps wi) but s2 a).1.someS (dT ps (aB ps wi) but s2 a).2) w'/\Cn.aG x.own (x.to v4 k3 c4).own W0 w' from fun but w8 a2 a0 v3 k3 c3 h1 h2 h3 h4=>by
    obtain⟨g1,g2,g3⟩:=g7.out but;exact a1.out w8 v3 k3 c3 _ _ _ a2 _ a0 rfl h1 h3 h4 (fun b hb=>hb) h2 (by omega) (by have:=g1.2.1;omega) (by have:=g1.1;omega) (fun y hy=>by have:=g2 y hy;omega))
   have h0:=hid (show ∀but:Int,IntKind.i64.wrap (-((dT ps (aB ps wi) but s2 a).1.someL (dT ps (aB ps wi) but s2 a).2)) = -((dT ps (aB ps wi) but s2 a).1.someL (dT ps (aB ps wi) but s2 a).2) from fun but=>by
    obtain⟨g1,g2,g3⟩:=g7.out but;have:=g1.someL (l:=(dT ps (aB ps wi) but s2 a).2) (fun y hy=>U2 (g2 y hy) (by omega));exact eT (by omega))
   rcases d7.out with ⟨hk12,-,-,-,hA⟩ | ⟨hk34,-,-,-⟩ | ⟨hk5,-,-⟩
   ·rcases hk12 with rfl | rfl
    ·have HS:=hid (a4.out v k cc wr T2.out);have c8:=hid (show wr.drew.cell? ⟨bd,0,none⟩=some (.pointer (some ⟨x.b,0,none⟩))/\wr.drew.cell? ⟨bp,0,none⟩=some (.int .i64 i)/\∀o,wr.drew.cell? ⟨bn,o,none⟩=(#[.int .i64 1,.string a.n,.int .i64 a.op,.int .i64 a.v,.int .i64 a.sl,.string a.f,.bool a.on,.string fl,.bool nt,.slice kp kids.length kc]:Array Value)[o]? from⟨HS.out.1,HS.out.2.1,HS.out.2.2⟩);have k9:=h0.out (-1);have f4:=hid (b5.out (-1));have f1:=hid (c5.out (-1));go_wp2_with fail;go_region_held3 (fun W'=>W'.cell? ⟨bd,0,none⟩=some (.pointer (some ⟨x.b,0,none⟩))/\W'.cell? ⟨bp,0,none⟩=some (.int .i64 i)/\∀o,W'.cell? ⟨bn,o,none⟩=(#[.int .i64 1,.string a.n,.int .i64 a.op,.int .i64 a.v,.int .i64 a.sl,.string a.f,.bool a.on,.string fl,.bool nt,.slice kp kids.length kc]:Array Value)[o]?)
      (first | with_reducible exact HS.out | with_reducible exact c8.out | with_reducible exact d2.out | with_reducible exact d5.out | go_keep)
      (first
       | (go_at_call 28;refine (f4.out _ (aA.drew (aA.refl _)) hA).mono ?_;rintro e w8 ⟨a2,a0,v3,k3,c3,rfl,c9,d9,d1,b7⟩;have f6:=hid c9;have f3:=hid d9;have f8:=hid d1;have e6:=hid b7;have d2:=hid (a4.out v3 k3 c3 w8 b7);clear c9 d9 d1 b7)
       | (go_at_call 63;refine (f1.out w8 a2 a0 v3 k3 c3 f6.out f3.out f8.out e6.out).mono ?_;rintro e w9 ⟨rfl,v4,c4,d4,t4⟩;have D9:=hid d4;have T9:=hid t4;have d5:=hid (a4.out v4 k3 c4 w9 t4);clear d4 t4))
     go_wp2_with fail;go_ret;exact a8.out v4 k3 c4 _ (pQ (dT ps (aB ps wi) (-1) s2 a)) D9.out T9.out (by rw[b8.out];rfl)
    ·have HS:=hid (a4.out v k cc wr T2.out);have c8:=hid (show wr.drew.cell? ⟨bd,0,none⟩=some (.pointer (some ⟨x.b,0,none⟩))/\wr.drew.cell? ⟨bp,0,none⟩=some (.int .i64 i)/\∀o,wr.drew.cell? ⟨bn,o,none⟩=(#[.int .i64 2,.string a.n,.int .i64 a.op,.int .i64 a.v,.int .i64 a.sl,.string a.f,.bool a.on,.string fl,.bool nt,.slice kp kids.length kc]:Array Value)[o]? from⟨HS.out.1,HS.out.2.1,HS.out.2.2⟩);have k9:=h0.out (i:Int);have f4:=hid (b5.out (i:Int));have f1:=hid (c5.out (i:Int));go_wp2_with fail;go_region_held3 (fun W'=>W'.cell? ⟨bd,0,none⟩=some (.pointer (some ⟨x.b,0,none⟩))/\W'.cell? ⟨bp,0,none⟩=some (.int .i64 i)/\∀o,W'.cell? ⟨bn,o,none⟩=(#[.int .i64 2,.string a.n,.int .i64 a.op,.int .i64 a.v,.int .i64 a.sl,.string a.f,.bool a.on,.string fl,.bool nt,.slice kp kids.length kc]:Array Value)[o]?)
      (first | with_reducible exact HS.out | with_reducible exact c8.out | with_reducible exact d2.out | with_reducible exact d5.out | go_keep)
      (first
       | (go_at_call 28;refine (f4.out _ (aA.drew (aA.refl _)) hA).mono ?_;rintro e w8 ⟨a2,a0,v3,k3,c3,rfl,c9,d9,d1,b7⟩;have f6:=hid c9;have f3:=hid d9;have f8:=hid d1;have e6:=hid b7;have d2:=hid (a4.out v3 k3 c3 w8 b7);clear c9 d9 d1 b7)
       | (go_at_call 63;refine (f1.out w8 a2 a0 v3 k3 c3 f6.out f3.out f8.out e6.out).mono ?_;rintro e w9 ⟨rfl,v4,c4,d4,t4⟩;have D9:=hid d4;have T9:=hid t4;have d5:=hid (a4.out v4 k3 c4 w9 t4);clear d4 t4))
     go_wp2_with fail;go_ret;exact a8.out v4 k3 c4 _ (aVv (pQ (dT ps (aB ps wi) (i:Int) s2 a))) D9.out T9.out (by rw[b8.out];rfl)
   ·rcases hk34 with rfl | rfl
    ·go_wp2_with fail;refine (a6.out wr (aA.refl _)).mono ?_;rintro e w' ⟨rfl,v3,c3,d3,t3⟩;have D4:=hid d3;have T4:=hid t3;clear d3 t3;go_wp2_with fail;go_ret;exact a8.out v3 k c3 _ (sW (s2,acc)) D4.out T4.out (by rw[b8.out];rfl)
    ·go_wp2_with fail;refine (a1.out wr v k cc s2 acc _ lp acc.length lc rfl c6.out D2.out T2.out (fun b hb=>hb.2) i1.out (by omega) (by omega) (by omega) (fun y hy=>by have:=b3.out y hy;omega)).mono ?_;rintro e w' ⟨rfl,v3,c3,d3,t3⟩;have D4:=hid d3;have T4:=hid t3;clear d3 t3;go_wp2_with fail;go_ret;exact a8.out v3 k c3 _ (pQ (s2,acc)) D4.out T4.out (by rw[b8.out];rfl)
   ·subst hk5;have c2:=f5.out rfl;have HS:=hid (a4.out v k cc wr T2.out);have c8:=hid (show wr.drew.cell? ⟨bd,0,none⟩=some (.pointer (some ⟨x.b,0,none⟩))/\wr.drew.cell? ⟨bp,0,none⟩=some (.int .i64 i)/\∀o,wr.drew.cell? ⟨bn,o,none⟩=(#[.int .i64 5,.string a.n,.int .i64 a.op,.int .i64 a.v,.int .i64 a.sl,.string a.f,.bool a.on,.string fl,.bool nt,.slice kp kids.length kc]:Array Value)[o]? from⟨HS.out.1,HS.out.2.1,HS.out.2.2⟩);have l8:=Cn.CT.fg_lit (aB ps wi) (i:=i) (k:=aN (ps.getD i PK.zero).fl fl) (by rw[dC];exact hi) (by rw[mK wi hi];exact c2);have c1:((aB ps wi).fgL i (aN (ps.getD i PK.zero).fl fl)).natAbs<=900000:=by have:=l8.2;omega
    have c7:=hid (show ∀W,aA wr W->Calls Tryz.prog 61 #[.pointer (some ⟨x.b,0,none⟩),.int .i64 i,.string fl] W fun e w'=>e=.returned (.int .i64 ((aB ps wi).fgL i (aN (ps.getD i PK.zero).fl fl)))/\aA W w' from fun W kW=>aDn ps wi (x.to v k cc) L s2 i fl W (D2.out.keep kW) (R2.out.keep (U2 e2.out T2.out.size) kW) h8 hi c2 k7);have d6:=hid (show ∀(b2:World) (v3:Value) (c3:Nat->Prop),Cn.DM (x.to v3 k c3) L (s2.allS acc) b2->Cn.aG x.own (x.to v3 k c3).own W0 b2->Calls Tryz.prog 63 #[.pointer (some ⟨x.b,0,none⟩),.slice (some ⟨b2.heap.size,0,none⟩) 2 2] (b2.alloc (.cells #[.int .i64 (Cn.sg ((aB ps wi).fgL i (aN (ps.getD i PK.zero).fl fl)) nt),.int .i64 (s2.allL acc)] 3)) fun e w'=>e=.returned (.int .i64 ((s2.allS acc).someL [Cn.sg ((aB ps wi).fgL i (aN (ps.getD i PK.zero).fl fl)) nt,s2.allL acc]))/\∃v4 c4,Cn.DM (x.to v4 k c4) L ((s2.allS acc).someS [Cn.sg ((aB ps wi).fgL i (aN (ps.getD i PK.zero).fl fl)) nt,s2.allL acc]) w'/\Cn.aG x.own (x.to v4 k c4).own W0 w' from fun b2 v3 c3 d t=>by
     have g1:=e5.out.all (k:=50) (l:=acc) e3;have g2:=e5.out.allL (l:=acc) (fun y hy=>U2 (a5.out y hy) (Nat.le_succ _));exact a1.out _ v3 k c3 _ _ (fun b=>b=b2.heap.size) _ 2 2 rfl (by intro h;cases h) (d.keep (aA.alloc _ _)) (t.trans (Cn.aG.keep (aA.alloc _ _))) (fun b hb=>by subst hb;exact⟨by rw[aC];omega,fun ho=>by have:=(d.lt ho).2;omega⟩) (Cn.oJ _ _ _) (by simp) (by have:=g1.2.1;omega) (by have:=g1.1;omega) (fun y hy=>by
      rcases Q3.1 hy with rfl | hy
      ·rw[Cn.aIh];exact c1
      ·rw[T0.1 hy];omega))
    generalize (aB ps wi).fgL i (aN (ps.getD i PK.zero).fl fl)=fr at c7 d6 c1 b8;go_wp2_with fail;go_region_held3 (fun W'=>W'.cell? ⟨bd,0,none⟩=some (.pointer (some ⟨x.b,0,none⟩))/\W'.cell? ⟨bp,0,none⟩=some (.int .i64 i)/\∀o,W'.cell? ⟨bn,o,none⟩=(#[.int .i64 5,.string a.n,.int .i64 a.op,.int .i64 a.v,.int .i64 a.sl,.string a.f,.bool a.on,.string fl,.bool nt,.slice kp kids.length kc]:Array Value)[o]?)
     (first | with_reducible exact HS.out | with_reducible exact c8.out | with_reducible exact d2.out | with_reducible exact d5.out | with_reducible exact e7.out | with_reducible exact e8.out | go_keep)
     (first
      | (go_at_call 61;refine (c7.out _ (aA.drew (aA.refl _))).mono ?_;rintro e w8 ⟨rfl,k8⟩;have K8:=hid (iM k8);have d2:=hid (a4.out v k cc w8 (T2.out.trans (Cn.aG.keep K8.out)));clear k8)
      | (go_at_call 60;refine (wS fr nt _ c1).mono ?_;rintro e w9 ⟨rfl,i2⟩;rw[i2];clear i2)
      | (go_at_call 64;refine (a6.out w8 K8.out).mono ?_;rintro e b2 ⟨rfl,v3,c3,d3,t3⟩;have j1:=hid d3;have l2:=hid t3;have e7:=hid (a4.out v3 k c3 b2 t3);have e8:=hid (a4.out v3 k c3 (b2.alloc (.cells #[.int .i64 (Cn.sg fr nt),.int .i64 (s2.allL acc)] 3)) (t3.trans (Cn.aG.keep (aA.alloc _ _))));clear d3 t3)
      | (go_at_call 63;refine (d6.out b2 v3 c3 j1.out l2.out).mono ?_;rintro e l9 ⟨rfl,v4,c4,d4,t4⟩;have j7:=hid d4;have j3:=hid t4;have d5:=hid (a4.out v4 k c4 l9 t4);clear d4 t4))
    go_wp2_with fail;go_ret;exact a8.out v4 k c4 _ (ifS (Cn.sg fr nt) (sW (s2,acc))) j7.out j3.out (by rw[b8.out];rfl)
theorem aRr:∀ {ts:List NT} (j:Nat) (h:j<ts.length),ts[j].size<=bA ts:=fun {ts} j h=>by have:=mY ts j h;omega
theorem aQt(ps:List PK)(wi:WI)(i bh bd bp L:Nat)(hT:cA ps=0)(hok:(aB ps wi).Ok)(hi:i<ps.length):∀(n:Nat) (t:NT),t.size<=n->t.ok->(∀f∈t.flags,aN (ps.getD i PK.zero).fl f<(ps.getD i PK.zero).fl.length)->t.size<=50->aUw ps wi i bh bd bp L t
 | 0,.node kd a fl nt kids,hn,_,_,_=>by rw[NT.size] at hn;omega
 | n+1,.node kd a fl nt kids,hn,ho,hf,hs=>by
  rw[NT.ok] at ho;refine aTw ps wi i bh bd bp L hT hok hi kd a fl nt kids ho.1 hf hs fun j hj=>?_;rw[NT.size] at hn hs;have:=aRr j hj;refine aQt ps wi i bh bd bp L hT hok hi n kids[j] (by omega) (aBd ho.2 j hj) (fun f hfm=>hf f ?_) (by omega);rw[NT.flags];exact Y5 _ (mI.2 ⟨_,U5 hj,hfm⟩)
theorem xU(ps:List PK)(wi:WI)(x:Cn.DD)(L:Nat)(s:Cn.DS)(i:Nat)(w:World)(m c:Nat)(hT:cA ps=0)(hok:(aB ps wi).Ok)(hi:i<ps.length)(h:Cn.DM x L s w)(hr:DR ps wi x L w)(hb:Cn.Bd s m c)(hm:(aB ps wi).many<=m)(hm2:m<=200000)(hc2:c<=200000):
  Calls Tryz.prog 29 #[.pointer (some ⟨x.b,0,none⟩),.int .i64 i] w fun e w'=>aGg x L (ndS ps (aB ps wi) i (ps.getD i PK.zero).nd s) w e w':=by
 obtain⟨pb,po,pc,c4,b6,-,a4⟩:=hr.pk.get hi;obtain⟨cs,c3,b7⟩:=a4 i hi;obtain⟨kd,a,fl,nt,kids,kp,fp,kc,fc,c9,-,rfl,-,a1⟩:=b7.spelt;obtain⟨y0,y1,y2,y3,y4,y5,y6,y7,y8,y9,a7,a9,b3,a8⟩:=dK c3;have hq:ps.getD i PK.zero=ps[i]:=fC ps i hi;have hP:dV ps[i]=0:=(cL hT).2 _ (U5 hi);obtain⟨-,-,-,-,hN⟩:=eW hP;have b2:=(cZ.1 hN).2;have c1:=(gQ (cZ.1 hN).1).1;have b4:=oC hP;rw[<-hq] at b4 c1 b2 a1;have HD:=hid h;have HR:=hid hr;have b8:=hid h.L;have b5:=hid a1;have HB:=hid hb;have c2:=h.box.facts.2.2;have b0:w.cell? ⟨x.b,3,none⟩=some (.slice (some ⟨pb,po,none⟩) ps.length pc):=(h.cell 3).trans (Q0 some c4);have a0:pb<w.heap.size:=R8 b6 h.L;have d2:(i:Int)<(ps.length:Int):=by omega
 have c6:=aDk;have a5:=hid (fun bh bd bp=>aQt ps wi i bh bd bp L hT hok hi _ (ps.getD i PK.zero).nd (Y1 _) b2 b4 (by omega));generalize (ps.getD i PK.zero).nd=t at b5 a5 c1 |-
 clear c3 b7 a4 a1 h hr c4 hq c9 hN b2 b4 hP y0 y1 y2 y3 hb;go_enter Tryz.func29,Tryz.ntmps29;go_upto_region 3 with fail;have k1:=aA.alloc w (.cells #[.pointer (some ⟨x.b,0,none⟩)] 73);have v1:=aE.new w 73 (.pointer (some ⟨x.b,0,none⟩));have z1:=aC w (.cells #[.pointer (some ⟨x.b,0,none⟩)] 73);generalize w.alloc (.cells #[.pointer (some ⟨x.b,0,none⟩)] 73)=A1 at k1 v1 z1 |-
 have k2:=aA.alloc A1 (.cells #[.int .i64 i] 3);have v2:=aE.new A1 3 (.int .i64 i);have z2:=aC A1 (.cells #[.int .i64 i] 3);generalize A1.alloc (.cells #[.int .i64 i] 3)=A2 at k2 v2 z2 |-
 have k3:=aA.alloc A2 (.cells #[.func (Fn.func 62) #[] #[.pointer (some ⟨w.heap.size+1+1,0,none⟩),.pointer (some ⟨w.heap.size,0,none⟩),.pointer (some ⟨w.heap.size+1,0,none⟩)]] 126);have v3:=aE.new A2 126 (.func (Fn.func 62) #[] #[.pointer (some ⟨w.heap.size+1+1,0,none⟩),.pointer (some ⟨w.heap.size,0,none⟩),.pointer (some ⟨w.heap.size+1,0,none⟩)]);generalize A2.alloc (.cells #[.func (Fn.func 62) #[] #[.pointer (some ⟨w.heap.size+1+1,0,none⟩),.pointer (some ⟨w.heap.size,0,none⟩),.pointer (some ⟨w.heap.size+1,0,none⟩)]] 126)=W3 at k3 v3 |-
 rw[z1] at v2;rw[z2,z1] at v3;have K3:=hid ((k1.trans k2).trans k3);have b1:=hid (show ∀b,w.heap.size<=b->¬x.own b from fun b hb ho=>by have:=(HD.out.lt ho).2;omega);have a3:=hid (show NV x (w.heap.size+1+1) w.heap.size (w.heap.size+1) i W3 from⟨v3,v1.keep (k2.trans k3) (by omega),v2.keep k3 (by omega),b1.out _ (by omega),b1.out _ (by omega),b1.out _ (by omega)⟩);have HS:=hid (show W3.cell? ⟨w.heap.size+1+1,0,none⟩=some (.func (Fn.func 62) #[] #[.pointer (some ⟨w.heap.size+1+1,0,none⟩),.pointer (some ⟨w.heap.size,0,none⟩),.pointer (some ⟨w.heap.size+1,0,none⟩)])/\W3.cell? ⟨w.heap.size,0,none⟩=some (.pointer (some ⟨x.b,0,none⟩))/\W3.cell? ⟨w.heap.size+1,0,none⟩=some (.int .i64 i)/\W3.cell? ⟨x.b,3,none⟩=some (.slice (some ⟨pb,po,none⟩) ps.length pc)/\W3.cell? ⟨pb,po+i*14+4,none⟩=some (.int .i64 kd)/\W3.cell? ⟨pb,po+i*14+5,none⟩=some (.string a.n)/\W3.cell? ⟨pb,po+i*14+6,none⟩=some (.int .i64 a.op)/\W3.cell? ⟨pb,po+i*14+7,none⟩=some (.int .i64 a.v)/\W3.cell? ⟨pb,po+i*14+8,none⟩=some (.int .i64 a.sl)/\W3.cell? ⟨pb,po+i*14+9,none⟩=some (.string a.f)/\W3.cell? ⟨pb,po+i*14+10,none⟩=some (.bool a.on)/\W3.cell? ⟨pb,po+i*14+11,none⟩=some (.string fl)/\W3.cell? ⟨pb,po+i*14+12,none⟩=some (.bool nt)/\W3.cell? ⟨pb,po+i*14+13,none⟩=some (.slice kp kids.length kc) from⟨a3.out.h.facts.1,a3.out.d.facts.1,a3.out.p.facts.1,(K3.out.cell (p:=⟨x.b,3,none⟩) c2).trans b0,(K3.out.cell (p:=⟨pb,_,none⟩) a0).trans y4,(K3.out.cell (p:=⟨pb,_,none⟩) a0).trans y5,(K3.out.cell (p:=⟨pb,_,none⟩) a0).trans y6,(K3.out.cell (p:=⟨pb,_,none⟩) a0).trans y7,(K3.out.cell (p:=⟨pb,_,none⟩) a0).trans y8,(K3.out.cell (p:=⟨pb,_,none⟩) a0).trans y9,(K3.out.cell (p:=⟨pb,_,none⟩) a0).trans a7,(K3.out.cell (p:=⟨pb,_,none⟩) a0).trans a9,(K3.out.cell (p:=⟨pb,_,none⟩) a0).trans b3,(K3.out.cell (p:=⟨pb,_,none⟩) a0).trans a8⟩);have c5:=hid (show W3.drew.cell? ⟨w.heap.size+1+1,0,none⟩=some (.func (Fn.func 62) #[] #[.pointer (some ⟨w.heap.size+1+1,0,none⟩),.pointer (some ⟨w.heap.size,0,none⟩),.pointer (some ⟨w.heap.size+1,0,none⟩)])/\W3.drew.cell? ⟨w.heap.size,0,none⟩=some (.pointer (some ⟨x.b,0,none⟩))/\W3.drew.cell? ⟨w.heap.size+1,0,none⟩=some (.int .i64 i)/\W3.drew.cell? ⟨x.b,3,none⟩=some (.slice (some ⟨pb,po,none⟩) ps.length pc)/\W3.drew.cell? ⟨pb,po+i*14+4,none⟩=some (.int .i64 kd)/\W3.drew.cell? ⟨pb,po+i*14+5,none⟩=some (.string a.n)/\W3.drew.cell? ⟨pb,po+i*14+6,none⟩=some (.int .i64 a.op)/\W3.drew.cell? ⟨pb,po+i*14+7,none⟩=some (.int .i64 a.v)/\W3.drew.cell? ⟨pb,po+i*14+8,none⟩=some (.int .i64 a.sl)/\W3.drew.cell? ⟨pb,po+i*14+9,none⟩=some (.string a.f)/\W3.drew.cell? ⟨pb,po+i*14+10,none⟩=some (.bool a.on)/\W3.drew.cell? ⟨pb,po+i*14+11,none⟩=some (.string fl)/\W3.drew.cell? ⟨pb,po+i*14+12,none⟩=some (.bool nt)/\W3.drew.cell? ⟨pb,po+i*14+13,none⟩=some (.slice kp kids.length kc) from HS.out);have d0:x.b<W3.heap.size:=R8 c2 K3.out.size;have c8:pb<W3.heap.size:=R8 a0 K3.out.size;have d3:=a3.out.h.facts.2.2;have d1:=hid (show ∀W,aA W3 W->Calls Tryz.prog 62 #[.agg #[.int .i64 kd,.string a.n,.int .i64 a.op,.int .i64 a.v,.int .i64 a.sl,.string a.f,.bool a.on,.string fl,.bool nt,.slice kp kids.length kc],.pointer (some ⟨w.heap.size+1+1,0,none⟩),.pointer (some ⟨w.heap.size,0,none⟩),.pointer (some ⟨w.heap.size+1,0,none⟩)] W fun e w'=>e=.returned (.int .i64 (ndS ps (aB ps wi) i t s).2)/\(∃v k cc,Cn.DM (x.to v k cc) L (ndS ps (aB ps wi) i t s).1 w'/\Cn.aG x.own (x.to v k cc).own w w')/\(w'.cell? ⟨w.heap.size+1+1,0,none⟩=some (.func (Fn.func 62) #[] #[.pointer (some ⟨w.heap.size+1+1,0,none⟩),.pointer (some ⟨w.heap.size,0,none⟩),.pointer (some ⟨w.heap.size+1,0,none⟩)])/\w'.cell? ⟨w.heap.size,0,none⟩=some (.pointer (some ⟨x.b,0,none⟩))/\w'.cell? ⟨w.heap.size+1,0,none⟩=some (.int .i64 i)/\w'.cell? ⟨x.b,3,none⟩=some (.slice (some ⟨pb,po,none⟩) ps.length pc)/\w'.cell? ⟨pb,po+i*14+4,none⟩=some (.int .i64 kd)/\w'.cell? ⟨pb,po+i*14+5,none⟩=some (.string a.n)/\w'.cell? ⟨pb,po+i*14+6,none⟩=some (.int .i64 a.op)/\w'.cell? ⟨pb,po+i*14+7,none⟩=some (.int .i64 a.v)/\w'.cell? ⟨pb,po+i*14+8,none⟩=some (.int .i64 a.sl)/\w'.cell? ⟨pb,po+i*14+9,none⟩=some (.string a.f)/\w'.cell? ⟨pb,po+i*14+10,none⟩=some (.bool a.on)/\w'.cell? ⟨pb,po+i*14+11,none⟩=some (.string fl)/\w'.cell? ⟨pb,po+i*14+12,none⟩=some (.bool nt)/\w'.cell? ⟨pb,po+i*14+13,none⟩=some (.slice kp kids.length kc)) from fun W kW=>by
  have hk:aA w W:=K3.out.trans kW;refine (a5.out _ _ _ x s _ m c W (HD.out.keep hk) (HR.out.keep b8.out hk) (a3.out.keep kW) (b5.out.keep (B:=L) (fun _ h=>h) (rC b8.out hk)) HB.out hm (by omega) (by omega)).mono ?_;rintro e w' ⟨rfl,v,k,cc,d,t'⟩;have TW:Cn.aG x.own (x.to v k cc).own w w':=(Cn.aG.keep hk).trans t';have T3:Cn.aG x.own (x.to v k cc).own W3 w':=(Cn.aG.keep kW).trans t';have N:=a3.out.turn T3;have a6:=lQ HD.out TW;have a2:∀o,w'.cell? ⟨pb,o,none⟩=w.cell? ⟨pb,o,none⟩:=fun o=>a6.cell (p:=⟨pb,o,none⟩) b6;have e3:w'.cell? ⟨x.b,3,none⟩=some (.slice (some ⟨pb,po,none⟩) ps.length pc):=(d.cell 3).trans ((HD.out.cell 3).symm.trans b0);exact⟨rfl,⟨v,k,cc,d,TW⟩,N.h.facts.1,N.d.facts.1,N.p.facts.1,e3,(a2 _).trans y4,(a2 _).trans y5,(a2 _).trans y6,(a2 _).trans y7,(a2 _).trans y8,(a2 _).trans y9,(a2 _).trans a7,(a2 _).trans a9,(a2 _).trans b3,(a2 _).trans a8⟩)
 clear k1 v1 z1 k2 v2 z2 k3 v3 y4 y5 y6 y7 y8 y9 a7 a9 b3 a8 b0;go_region_held3 (fun W'=>W'.cell? ⟨w.heap.size+1+1,0,none⟩=some (.func (Fn.func 62) #[] #[.pointer (some ⟨w.heap.size+1+1,0,none⟩),.pointer (some ⟨w.heap.size,0,none⟩),.pointer (some ⟨w.heap.size+1,0,none⟩)])/\W'.cell? ⟨w.heap.size,0,none⟩=some (.pointer (some ⟨x.b,0,none⟩))/\W'.cell? ⟨w.heap.size+1,0,none⟩=some (.int .i64 i)/\W'.cell? ⟨x.b,3,none⟩=some (.slice (some ⟨pb,po,none⟩) ps.length pc)/\W'.cell? ⟨pb,po+i*14+4,none⟩=some (.int .i64 kd)/\W'.cell? ⟨pb,po+i*14+5,none⟩=some (.string a.n)/\W'.cell? ⟨pb,po+i*14+6,none⟩=some (.int .i64 a.op)/\W'.cell? ⟨pb,po+i*14+7,none⟩=some (.int .i64 a.v)/\W'.cell? ⟨pb,po+i*14+8,none⟩=some (.int .i64 a.sl)/\W'.cell? ⟨pb,po+i*14+9,none⟩=some (.string a.f)/\W'.cell? ⟨pb,po+i*14+10,none⟩=some (.bool a.on)/\W'.cell? ⟨pb,po+i*14+11,none⟩=some (.string fl)/\W'.cell? ⟨pb,po+i*14+12,none⟩=some (.bool nt)/\W'.cell? ⟨pb,po+i*14+13,none⟩=some (.slice kp kids.length kc))
  (first | with_reducible exact HS.out | with_reducible exact c5.out | with_reducible exact c7.out | go_keep)
  (first | (go_at_call 62;refine (d1.out _ (aA.drew (aA.refl _))).mono ?_;rintro e w8 ⟨rfl,b9,c0⟩;have D8:=hid b9;have c7:=hid c0;clear b9 c0))
 go_wp2_with fail;go_ret;exact⟨rfl,D8.out⟩
theorem mS{α:Type}(F:α->Nat->α)(a:α)(j:Nat):(List.range (j+1)).foldl F a=F ((List.range j).foldl F a) j:=by rw[List.range_succ,List.foldl_append];rfl
theorem aPb{ps:List PK}{ct:Cn.CT}{i:Nat}{s:Cn.DS}{m c:Nat}(h:Cn.Bd s m c):∀j,Cn.Bd ((List.range j).foldl (slS ps ct i) s) m (c+j)
 | 0=>h
 | j+1=>by
  rw[mS];have:=aPb (ps:=ps) (ct:=ct) (i:=i) h j;unfold slS;split
  ·exact (this.clause _).mono (Y1 _) (by omega)
  ·exact this.mono (Y1 _) (by omega)
theorem aNh(ps:List PK)(wi:WI)(x:Cn.DD)(L:Nat)(s:Cn.DS)(i:Nat)(w:World)(m c:Nat)(h8:ps.length<=8)(hok:(aB ps wi).Ok)(hm14:(aB ps wi).many<=14)(hi:i<ps.length)(h:Cn.DM x L s w)(hr:DR ps wi x L w)(hb:Cn.Bd s m c)(hc2:c<=300000):
  Calls Tryz.prog 30 #[.pointer (some ⟨x.b,0,none⟩),.int .i64 i] w fun e w'=>e=.returned (.tuple #[])/\∃v cc,Cn.DM (x.to v x.np cc) L ((List.range i).foldl (slS ps (aB ps wi) i) s) w'/\Cn.aG x.own (x.to v x.np cc).own w w':=by
 have HD:=hid h;have HR:=hid hr;have c2:=hid h.L;have HB:=hid hb;obtain⟨pb,po,pc,c1,e4,-,a5⟩:=hr.pk.get hi;obtain⟨cs,f2,e7⟩:=a5 i hi;obtain⟨kd,a,fl,nt,kids,kp,fp,kc,fc,-,d7,rfl,-,-⟩:=e7.spelt;obtain⟨y0,y1,y2,y3,y4,y5,y6,y7,y8,y9,c9,c5,c6,d1⟩:=dK f2;have hq:ps.getD i PK.zero=ps[i]:=fC ps i hi;have f8:ps.length<=pc:=hr.cap _ _ _ c1;have d5:w.cell? ⟨x.b,3,none⟩=some (.slice (some ⟨pb,po,none⟩) ps.length pc):=(h.cell 3).trans (Q0 some c1);have f5:=h.box.facts.2.2;have h7:pb<w.heap.size:=R8 e4 h.L;have i1:(i:Int)<(ps.length:Int):=by omega
 have e6:(i:Int)<=(pc:Int):=by omega
 have e3:=hid a5;have i0:=hid c1;have HQ:=hid hq;obtain⟨q,e5⟩:∃q,q=ps[i]:=⟨_,rfl⟩;rw[<-e5] at y0 y1 y2 y3 d7 HQ;clear f2 e7 a5 h hr hb c1 hq e5;go_enter Tryz.func30,Tryz.ntmps30;go_upto_region 1 with fail;refine bE (fun W'=>aA w W'/\aL w.heap.size #[.string q.n,.int .i64 q.v,.int .i64 q.sl,.slice fp q.fl.length fc,.int .i64 kd,.string a.n,.int .i64 a.op,.int .i64 a.v,.int .i64 a.sl,.string a.f,.bool a.on,.string fl,.bool nt,.slice kp kids.length kc] W') ⟨aA.alloc _ _,aL.new _ _ _⟩ ?_;rintro W0 ⟨k0,b0⟩;have K0:=hid k0;have D0:=hid (HD.out.keep k0);have e8:W0.cell? ⟨w.heap.size,0,none⟩=some (.string q.n):=b0.2 0;have f4:W0.cell? ⟨w.heap.size,2,none⟩=some (.int .i64 q.sl):=b0.2 2;have c0:=b0.1;have d5:W0.cell? ⟨x.b,3,none⟩=some (.slice (some ⟨pb,po,none⟩) ps.length pc):=(k0.cell (p:=⟨x.b,3,none⟩) f5).trans d5;have h6:x.b<W0.heap.size:=R8 f5 k0.size;have d9:=hid (show ∀b,w.heap.size<=b->¬x.own b from fun b hb ho=>by have:=(HD.out.lt ho).2;omega);obtain⟨bn,e9⟩:∃bn,bn=w.heap.size:=⟨_,rfl⟩;rw[<-e9] at d9 e8 f4 c0 |-
 clear k0 b0 e9 y0 y1 y2 y3 y4 y5 y6 y7 y8 y9 c9 c5 c6 d1;have d6:=hid (show ∀(v:Value) (cc:Nat->Prop) (W:World),Cn.aG x.own (x.to v x.np cc).own W0 W->Below L w W from fun v cc W t=>(rC c2.out K0.out).trans (lQ D0.out t));go_wp2_with fail;go_loopg [23] i (fun gk iv wr=> ∃(j:Nat) (v:Value) (cc:Nat->Prop),j+gk=i/\iv=.int .i64 j/\Cn.DM (x.to v x.np cc) L ((List.range j).foldl (slS ps (aB ps wi) i) s) wr/\Cn.aG x.own (x.to v x.np cc).own W0 wr);case atStart=>exact⟨0,x.cv,x.cs,by omega,rfl,D0.out,Cn.aG.refl _ _⟩
 case round=>
  obtain⟨j,v,cc,hj,rfl,hd,ht⟩:=hrel;have D2:=hid hd;have T2:=hid ht;have R2:=hid ((HR.out.keep c2.out K0.out).turn D0.out ht);have BL:=hid (d6.out v cc wr ht);clear hd ht D0 d5;have b8:wr.cell? ⟨bn,0,none⟩=some (.string q.n):=(T2.out.cell ⟨bn,0,none⟩ c0 (d9.out _ (Y1 _))).trans e8;have b1:wr.cell? ⟨bn,2,none⟩=some (.int .i64 q.sl):=(T2.out.cell ⟨bn,2,none⟩ c0 (d9.out _ (Y1 _))).trans f4;have a3:bn<wr.heap.size:=R8 c0 T2.out.size;by_cases c7:j<i
  ·obtain⟨i3,b3,a8⟩:=e3.out j (by omega);obtain⟨g5,a2,h1,f7,a7,g8,g6,f9,g1,-,b6,rfl,-,-⟩:=a8.spelt;have b4:=fun m v hv=>(BL.out.cell (p:=⟨pb,po+j*14+m,none⟩) e4).trans (b3 m v hv);obtain⟨y0,y1,y2,y3,y4,y5,y6,y7,y8,y9,c9,c5,c6,d1⟩:=dK b4;have d8:pb<wr.heap.size:=by have:=c2.out;have:=BL.out.size;omega
   have h9:(j:Int)<(i:Int):=by omega
   have c3:=hid (show qI ps j i=((ps[j].n.toList==q.n.toList)&&(ps[j].sl==q.sl)) by unfold qI;rw[HQ.out,fC ps j (by omega)]);have b9:=hid (mS (slS ps (aB ps wi) i) s j);have f1:=aPb (ps:=ps) (ct:=aB ps wi) (i:=i) HB.out j;generalize ps[j]=r at y0 y1 y2 y3 c3 b6;generalize (List.range j).foldl (slS ps (aB ps wi) i) s=s2 at D2 b9 f1 |-
   have d2:=hid (show slS ps (aB ps wi) i s2 j=if qI ps j i=true then s2.clause [-(aB ps wi).tkL j,-(aB ps wi).tkL i] else s2 from rfl);clear b3 b4 a8;go_upto_region 4 with fail;refine bE (fun W'=>aA wr W'/\aL wr.heap.size #[.string r.n,.int .i64 r.v,.int .i64 r.sl,.slice g6 r.fl.length g1,.int .i64 g5,.string a2.n,.int .i64 a2.op,.int .i64 a2.v,.int .i64 a2.sl,.string a2.f,.bool a2.on,.string h1,.bool f7,.slice g8 a7.length f9] W') ⟨aA.alloc _ _,aL.new _ _ _⟩ ?_;rintro W5 ⟨k5,b5⟩;have D5:=hid (D2.out.keep k5);have T5:=hid (T2.out.trans (Cn.aG.keep k5));have R5:=hid (R2.out.keep (by have:=c2.out;have:=BL.out.size;omega) k5);have g2:W5.cell? ⟨wr.heap.size,0,none⟩=some (.string r.n):=b5.2 0;have h0:W5.cell? ⟨wr.heap.size,2,none⟩=some (.int .i64 r.sl):=b5.2 2;have h5:=b5.1;have b8:W5.cell? ⟨bn,0,none⟩=some (.string q.n):=(k5.cell (p:=⟨bn,0,none⟩) a3).trans b8;have b1:W5.cell? ⟨bn,2,none⟩=some (.int .i64 q.sl):=(k5.cell (p:=⟨bn,2,none⟩) a3).trans b1;have a3:bn<W5.heap.size:=R8 a3 k5.size;obtain⟨bm,f3⟩:∃bm,bm=wr.heap.size:=⟨_,rfl⟩;rw[<-f3] at g2 h0 h5 |-
   clear k5 b5 f3 y0 y1 y2 y3 y4 y5 y6 y7 y8 y9 c9 c5 c6 d1 d8;cases e1:(r.n.toList==q.n.toList)
   ·have HN:=hid (b9.out.trans (d2.out.trans (if_neg (by rw[c3.out,e1];simp))));go_wp2_with fail;go_roundg (i-(j+1));case rel=>exact⟨j+1,v,cc,by omega,by go_num,by rw[HN.out];exact D5.out,T5.out⟩
    case measure=>omega
   ·cases e2:(r.sl==q.sl)
    ·have HN:=hid (b9.out.trans (d2.out.trans (if_neg (by rw[c3.out,e1,e2];decide))));go_wp2_with fail;go_roundg (i-(j+1));case rel=>exact⟨j+1,v,cc,by omega,by go_num,by rw[HN.out];exact D5.out,T5.out⟩
     case measure=>omega
    ·have HN:=hid (b9.out.trans (d2.out.trans (if_pos (by rw[c3.out,e1,e2];rfl))));have a1:W5.cell? ⟨x.b,1,none⟩=some x.tv:=D5.out.cell 1;have d3:x.b<W5.heap.size:=D5.out.box.facts.2.2;have a6:=dC ps wi;have f6:=Cn.CT.tks_len (aB ps wi);obtain⟨tp,tc,d0,-⟩:=R5.out.tk.shape;have b7:x.tv=.slice tp (aB ps wi).tks.length tc:=d0;obtain⟨tb,a0,g0,f0,c8⟩:=(d0 ▸ R5.out.tk:Cn.aI _ W5 (aB ps wi).tks (.slice tp (aB ps wi).tks.length tc)).nth (k:=i) (by omega);subst g0;have a9:=c8 j _ (Cn.CT.tks_get (aB ps wi) (i:=j) (by omega));have b2:=c8 i _ (Cn.CT.tks_get (aB ps wi) (i:=i) (by omega));rw[b7,f6,a6] at a1;have e0:¬(x.to v x.np cc).own tb:=(R5.out.ro tb f0).2;have a4:tb<W5.heap.size:=(R5.out.ro tb f0).1;have h4:((aB ps wi).tkL j).natAbs<=1000:=by have:=(Cn.CT.tk_lit hok (i:=j) (by omega)).2;omega
     have h3:((aB ps wi).tkL i).natAbs<=1000:=by have:=(Cn.CT.tk_lit hok (i:=i) (by omega)).2;omega
     clear c8 a6 f6 d0 b7;generalize (aB ps wi).tkL j=tj at a9 h4 HN;generalize (aB ps wi).tkL i=ti at b2 h3 HN;have i4:IntKind.i64.wrap (-tj) = -tj:=eT (by omega);have i2:IntKind.i64.wrap (-ti) = -ti:=eT (by omega);have g3:(j:Int)<(ps.length:Int):=by omega
     have HS:=hid (show W5.cell? ⟨x.b,1,none⟩=some (.slice (some ⟨tb,a0,none⟩) ps.length tc)/\W5.cell? ⟨tb,a0+j,none⟩=some (.int .i64 tj)/\W5.cell? ⟨tb,a0+i,none⟩=some (.int .i64 ti) from⟨a1,a9,b2⟩);have g4:=hid (show W5.drew.cell? ⟨x.b,1,none⟩=some (.slice (some ⟨tb,a0,none⟩) ps.length tc)/\W5.drew.cell? ⟨tb,a0+j,none⟩=some (.int .i64 tj)/\W5.drew.cell? ⟨tb,a0+i,none⟩=some (.int .i64 ti) from⟨a1,a9,b2⟩);have g9:=hid (show (W5.drew.alloc (.cells #[.int .i64 (-tj),.int .i64 (-ti)] 3)).cell? ⟨x.b,1,none⟩=some (.slice (some ⟨tb,a0,none⟩) ps.length tc)/\(W5.drew.alloc (.cells #[.int .i64 (-tj),.int .i64 (-ti)] 3)).cell? ⟨tb,a0+j,none⟩=some (.int .i64 tj)/\(W5.drew.alloc (.cells #[.int .i64 (-tj),.int .i64 (-ti)] 3)).cell? ⟨tb,a0+i,none⟩=some (.int .i64 ti) from⟨((aA.alloc _ _).cell (p:=⟨x.b,1,none⟩) d3).trans a1,((aA.alloc _ _).cell (p:=⟨tb,a0+j,none⟩) a4).trans a9,((aA.alloc _ _).cell (p:=⟨tb,a0+i,none⟩) a4).trans b2⟩);have g7:=hid (show Calls Tryz.prog 27 #[.pointer (some ⟨x.b,0,none⟩),.slice (some ⟨W5.heap.size,0,none⟩) 2 2] (W5.drew.alloc (.cells #[.int .i64 (-tj),.int .i64 (-ti)] 3)) fun e w'=>e=.returned (.tuple #[])/\∃v4 c4,Cn.DM (x.to v4 x.np c4) L (s2.clause [-tj,-ti]) w'/\Cn.aG x.own (x.to v4 x.np c4).own W0 w'/\(w'.cell? ⟨x.b,1,none⟩=some (.slice (some ⟨tb,a0,none⟩) ps.length tc)/\w'.cell? ⟨tb,a0+j,none⟩=some (.int .i64 tj)/\w'.cell? ⟨tb,a0+i,none⟩=some (.int .i64 ti)) from by
      have ka:aA W5 (W5.drew.alloc (.cells #[.int .i64 (-tj),.int .i64 (-ti)] 3)):=(aA.drew (aA.refl W5)).alloc' _;refine (Cn.fU (x.to v x.np cc) L s2 (fun b=>b=W5.heap.size) [-tj,-ti] _ 2 2 _ rfl (D5.out.keep ka) (fun b hb=>by subst hb;rw[aC];exact Nat.lt_succ_self _) (Cn.oJ W5.drew _ _) (by simp) (by have:=f1.2.1;omega)).mono ?_;rintro e w' ⟨rfl,v4,c4,d4,t4⟩;have TR:Cn.aG (x.to v x.np cc).own (x.to v4 x.np c4).own W5 w':=(Cn.aG.keep ka).trans t4;have c7:∀o,w'.cell? ⟨tb,o,none⟩=W5.cell? ⟨tb,o,none⟩:=fun o=>TR.cell ⟨tb,o,none⟩ a4 e0;exact⟨rfl,v4,c4,d4,T5.out.trans TR,(d4.cell 1).trans ((D5.out.cell 1).symm.trans a1),(c7 _).trans a9,(c7 _).trans b2⟩)
     go_upto_region 5 with fail;go_region_held3 (fun W'=>W'.cell? ⟨x.b,1,none⟩=some (.slice (some ⟨tb,a0,none⟩) ps.length tc)/\W'.cell? ⟨tb,a0+j,none⟩=some (.int .i64 tj)/\W'.cell? ⟨tb,a0+i,none⟩=some (.int .i64 ti))
      (first | with_reducible exact HS.out | with_reducible exact g4.out | with_reducible exact g9.out | with_reducible exact h2.out | go_keep)
      (first | (go_at_call 27;refine g7.out.mono ?_;rintro e w8 ⟨rfl,v4,c4,d4,t4,s4⟩;have D8:=hid d4;have T8:=hid t4;have h2:=hid s4;clear d4 t4 s4))
     go_wp2_with fail;go_roundg (i-(j+1));case rel=>exact⟨j+1,v4,c4,by omega,by go_num,by rw[HN.out];exact D8.out,T8.out⟩
     case measure=>omega
  ·obtain rfl:j=i:=by omega
   go_wp2_with fail;refine bodyPost_end (results_none rfl _ _ _) rfl ?_;exact⟨rfl,v,cc,D2.out,(Cn.aG.keep K0.out).trans T2.out⟩
end
end Go.Proofs.YthjlcjdlelkkdaaGreatDoor
