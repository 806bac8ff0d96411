/- Steps of the proof: EncRead, EncBoundN, EncAsked, EncChooseM. -/
import Derived.Test.YthaaaecmeafofaaGreatDoorRb19
import Derived.Test.YthaaaecmeafofaaGreatDoorRb20
import Derived.Test.YthaaaecmeafofaaGreatDoorRb22
import Derived.Deep.RegionHeld3
set_option maxHeartbeats 16000000
set_option maxRecDepth 100000
namespace Go.Proofs.YthaaaecmeafofaaGreatDoor
open Go.RowKit
structure DR (ps:List PK) (wi:WI) (x:Cn.DD) (L:Nat) (w:World):Prop where
 tk:Cn.aH x.ro w (aB ps wi).tks x.tv
 fg : ∃ k,Cn.gH x.g1 k ((aB ps wi).fgs wi.on) w
 gl:x.ro x.g1
 pk:bC (fun b=>b<L) w ps x.pv
 many:x.many=(aB ps wi).many
 cap:kV x.pv
 ro : ∀ b,x.ro b->b<w.heap.size/\¬ x.own b
theorem DR.other {ps:List PK} {wi:WI} {x:Cn.DD} {L:Nat} {w w':World} (h:DR ps wi x L w) (hs:w.heap.size<=w'.heap.size) (k:Below L w w') (hb : ∀ b,x.ro b->w'.heap[b]? = w.heap[b]?):DR ps wi x L w':=by
 obtain ⟨n,hf⟩:=h.fg
 exact ⟨h.tk.mono (fun p hp=>World.cell?_of_block (w:=w) (hb _ hp)) fun _ h=>h,⟨n,hf.at (hb _ h.gl)⟩,h.gl,h.pk.keep (B:=L) (fun _ h=>h) k,h.many,h.cap,fun b hr=>⟨Nat.lt_of_lt_of_le (h.ro b hr).1 hs,(h.ro b hr).2⟩⟩
theorem DR.keep {ps:List PK} {wi:WI} {x:Cn.DD} {L:Nat} {w w':World} (h:DR ps wi x L w) (hL:L<=w.heap.size) (k:aA w w'):DR ps wi x L w':=h.other k.size (Below.mono k hL) fun b hr=>k.block b (h.ro b hr).1
theorem lC {x:Cn.DD} {L:Nat} {s:Cn.DS} {O':Nat->Prop} {w w':World} (d:Cn.DM x L s w) (t:Cn.aF x.own O' w w'):Below L w w':=t.below d.L fun b hb ho=>by have:=(d.lt ho).1;omega
theorem DR.turn {ps:List PK} {wi:WI} {x:Cn.DD} {L:Nat} {s:Cn.DS} {w w':World} {v:Value} {k:Nat} {cc:Nat->Prop} (h:DR ps wi x L w) (d:Cn.DM x L s w) (t:Cn.aF x.own (x.to v k cc).own w w'):DR ps wi (x.to v k cc) L w':=by
 have h2:=h.other t.size (lC d t) fun b hr=>t.block b (h.ro b hr).1 (h.ro b hr).2
 exact ⟨h2.tk,h2.fg,h2.gl,h2.pk,h2.many,h2.cap,fun b hr=>⟨(h2.ro b hr).1,fun ho=>(t.new b ho).elim (h.ro b hr).2 fun hge=>by have:=(h.ro b hr).1;omega⟩⟩
theorem qG {L:Nat} {w w':World} (hL:L<=w.heap.size) (k:aA w w'):Below L w w':=Below.mono k hL
theorem pG (x:Int) (b:Bool) (w:World) (h:x.natAbs<=900000):Calls Tryz.prog 84 #[.int .i64 x,.bool b] w fun e w'=>e=.returned (.int .i64 (Cn.sg x b))/\w'=w:=by
 have h1:x<=900000:=by omega
 have h2 : -900000<=x:=by omega
 cases b with
 | true=>
  go_enter Tryz.func84,Tryz.ntmps84
  go_wp2_with fail
  go_ret
  exact ⟨rfl,rfl⟩
 | false=>
  go_enter Tryz.func84,Tryz.ntmps84
  go_wp2_with fail
  go_ret
  exact ⟨rfl,rfl⟩
theorem qZ:Tryz.prog.underlying 132=some (.map 65 3):=Tryz.underlying132
theorem aBu (ps:List PK) (wi:WI) (x:Cn.DD) (L:Nat) (s:Cn.DS) (i:Nat) (nm:ByteArray) (w:World) (h:Cn.DM x L s w) (hr:DR ps wi x L w) (h8:ps.length<=8) (hi:i<ps.length) (hf:aO (ps.getD i PK.zero).fl nm<(ps.getD i PK.zero).fl.length) (hf2:(ps.getD i PK.zero).fl.length<=2) :
  Calls Tryz.prog 138 #[.pointer (some ⟨x.b,0,none⟩),.int .i64 i,.string nm] w fun e w'=>e=.returned (.int .i64 ((aB ps wi).fgL i (aO (ps.getD i PK.zero).fl nm)))/\aA w w':=by
 obtain ⟨pb,po,pc,hpv,hpb,-,hrow⟩:=hr.pk.get hi
 obtain ⟨cs,hcs,hpj⟩:=hrow i hi
 obtain ⟨k,a,fl,nt,kids,kp,fp,kc,fc,-,hfl0,rfl,hf0,-⟩:=hpj.spelt
 have c3:w.cell? ⟨pb,po+i*14+3,none⟩=some (.slice fp ps[i].fl.length fc):=hcs 3 _ rfl
 have hq:ps.getD i PK.zero=ps[i]:=fD ps i hi
 have hnf:=kN wi hi
 have hnl:=cB ps wi
 rw [hq] at hf hf2 hnf ⊢
 obtain ⟨n,hm⟩:=hr.fg
 have hlt:=Cn.CT.fgs_get (c:=aB ps wi) (on:=wi.on) (fun i k=>rfl) (i:=i) (k:=aO ps[i].fl nm) (by rw [hnl];exact hi) (by rw [hnf];exact hf)
 have HI:=hid (show ∀ W,aA w W->Calls Tryz.prog 61 #[.slice fp ps[i].fl.length fc,.string nm] W fun e w'=>e=.returned (.int .i64 (aO ps[i].fl nm:Nat))/\w'=W from fun W kW=>by
  have hL:=h.L
  have:=rI (fun b=>b<L) ps[i].fl (.slice fp ps[i].fl.length fc) nm W (hf0.keep (B:=w.heap.size) (fun b hb=>Nat.lt_of_lt_of_le hb hL) kW)
  rw [if_pos hf] at this
  exact this)
 have hsk:Cn.SmP ((aO ps[i].fl nm:Nat):Int):=by unfold Cn.SmP;omega
 have hsi:Cn.SmP ((i:Nat):Int):=by unfold Cn.SmP;omega
 have hlk:=hm.look qZ hsi hsk
 have hlkd:=(hm.keep (aA.drew (aA.refl w))).look qZ hsi hsk
 rw [hlt] at hlk hlkd
 generalize (aB ps wi).fgL i (aO ps[i].fl nm)=r at hlk hlkd ⊢
 generalize ps[i].fl=fs at c3 HI hlk hlkd hf hf2 hfl0 hsk
 generalize aO fs nm=kf at HI hlk hlkd hf hsk
 have hb2:w.cell? ⟨x.b,2,none⟩=some (.map (some x.g1)):=h.cell 2
 have hb3:w.cell? ⟨x.b,3,none⟩=some (.slice (some ⟨pb,po,none⟩) ps.length pc):=(h.cell 3).trans (congrArg some hpv)
 have hbl:=h.box.facts.2.2
 have hpl:pb<w.heap.size:=Nat.lt_of_lt_of_le hpb h.L
 have hiI:(i:Int)<(ps.length:Int):=by omega
 have HS:=hid (show w.cell? ⟨x.b,2,none⟩=some (.map (some x.g1))/\w.cell? ⟨x.b,3,none⟩=some (.slice (some ⟨pb,po,none⟩) ps.length pc)/\w.cell? ⟨pb,po+i*14+3,none⟩=some (.slice fp fs.length fc)/\(Instr.lookup 132 (.map (some x.g1)) (.agg #[.int .i64 i,.int .i64 kf]) false).run Tryz.prog w=.ok (.int .i64 r) w from ⟨hb2,hb3,c3,hlk⟩)
 have HSd:=hid (show w.drew.cell? ⟨x.b,2,none⟩=some (.map (some x.g1))/\w.drew.cell? ⟨x.b,3,none⟩=some (.slice (some ⟨pb,po,none⟩) ps.length pc)/\w.drew.cell? ⟨pb,po+i*14+3,none⟩=some (.slice fp fs.length fc)/\(Instr.lookup 132 (.map (some x.g1)) (.agg #[.int .i64 i,.int .i64 kf]) false).run Tryz.prog w.drew=.ok (.int .i64 r) w.drew from ⟨hb2,hb3,c3,hlkd⟩)
 clear hcs hpj hrow hf0 hm h hr hpv hq hnf hnl hlt
 go_enter Tryz.func138,Tryz.ntmps138
 go_upto_region 1 with fail
 go_region_held3 (fun W'=>W'.cell? ⟨x.b,2,none⟩=some (.map (some x.g1))/\W'.cell? ⟨x.b,3,none⟩=some (.slice (some ⟨pb,po,none⟩) ps.length pc)/\W'.cell? ⟨pb,po+i*14+3,none⟩=some (.slice fp fs.length fc)/\(Instr.lookup 132 (.map (some x.g1)) (.agg #[.int .i64 i,.int .i64 kf]) false).run Tryz.prog W'=.ok (.int .i64 r) W')
  (first | with_reducible exact HS.out | with_reducible exact HSd.out | go_keep)
  (first | (go_at_call 61;refine (HI.out _ (aA.drew (aA.refl _))).mono ?_;rintro e w7 ⟨rfl,hw7⟩;rw [hw7];clear hw7))
 go_wp2_with fail
 go_ret
 exact ⟨rfl,aA.drew (aA.refl _)⟩
end Go.Proofs.YthaaaecmeafofaaGreatDoor
namespace Go.Proofs.YthaaaecmeafofaaGreatDoor
theorem pP {ps:List PK} {wi:WI} (hok:(aB ps wi).Ok) (h8:ps.length<=8) {s:Cn.DS} {m c:Nat} (h:Cn.Bd s m c) (hm:(aB ps wi).many<=m) (but:Int) (a:At):Cn.Bd (dK ps (aB ps wi) but s a).1 (m+8) (c+24)/\(∀ y∈(dK ps (aB ps wi) but s a).2,y.natAbs<=m+8)/\(dK ps (aB ps wi) but s a).2.length<=8:=by
 obtain ⟨h1,h2,h3⟩:=Cn.aEf (but:=but) (nof:=a.f.toList.isEmpty) (tk:=fun z=>(aB ps wi).tkL z.toNat) (fg:=fgA ps (aB ps wi) a) (bX ps a ps.length) s [] m c h (fun z hz=>by
  exact Nat.le_trans (pO hok a z hz).1.2 hm) (fun y hy=>by simp at hy)
 have hl:=gO ps a ps.length
 unfold dK
 exact ⟨h1.mono (by omega) (by omega),fun y hy=>Nat.le_trans (h2 y hy) (by omega),by simp at h3;omega⟩
mutual
theorem aRd {ps:List PK} {wi:WI} (hok:(aB ps wi).Ok) (h8:ps.length<=8) {i:Nat} (hi:i<ps.length) : ∀ (t:NT) (s:Cn.DS) (m c:Nat),Cn.Bd s m c->(aB ps wi).many<=m->(∀ f∈t.flags,aO (ps.getD i PK.zero).fl f<(ps.getD i PK.zero).fl.length)->t.size<=50->
  Cn.Bd (ndS ps (aB ps wi) i t s).1 (m+10*t.size) (c+100*t.size)/\(ndS ps (aB ps wi) i t s).2.natAbs<=m+10*t.size
 | .node kd a fl nt kids,s,m,c,h,hm,hfl,hsz=>by
  rw [NT.flags] at hfl
  rw [NT.size] at hsz ⊢
  obtain ⟨g1,g2⟩:=aMa hok h8 hi kids s m c h hm (fun f hf=>hfl f (List.mem_append_right _ hf)) (by omega)
  have hlen:=tE ps (aB ps wi) i kids s
  have hkl:=tF kids
  rw [ndS]
  generalize kdS ps (aB ps wi) i kids s=Q at g1 g2 hlen ⊢
  by_cases k1:kd=1
  ·rw [if_pos k1]
   obtain ⟨j1,j2,j3⟩:=pP hok h8 g1 (by omega) (-1) a
   exact ⟨(j1.some (k:=8) j3).mono (by omega) (by omega),Nat.le_trans (j1.someL fun y hy=>Nat.le_trans (j2 y hy) (by omega)) (by omega)⟩
  rw [if_neg k1]
  by_cases k2:kd=2
  ·rw [if_pos k2]
   obtain ⟨j1,j2,j3⟩:=pP hok h8 g1 (by omega) i a
   refine ⟨(j1.some (k:=8) j3).mono (by omega) (by omega),?_⟩
   show (-(_:Int)).natAbs<=_
   rw [Int.natAbs_neg]
   exact Nat.le_trans (j1.someL fun y hy=>Nat.le_trans (j2 y hy) (by omega)) (by omega)
  rw [if_neg k2]
  by_cases k4:kd=4
  ·rw [if_pos k4]
   exact ⟨(g1.some (k:=50) (by omega)).mono (by omega) (by omega),Nat.le_trans (g1.someL fun y hy=>Nat.le_trans (g2 y hy) (by omega)) (by omega)⟩
  rw [if_neg k4]
  have a1:=g1.all (k:=50) (l:=Q.2) (by omega)
  have a2:(Q.1.allL Q.2).natAbs<=m+10*bO kids+1:=g1.allL fun y hy=>Nat.le_trans (g2 y hy) (Nat.le_succ _)
  by_cases k5:kd=5
  ·rw [if_pos k5]
   have hf:=Cn.CT.fg_lit (aB ps wi) (i:=i) (k:=aO (ps.getD i PK.zero).fl fl) (by rw [cB];exact hi) (by rw [kN wi hi];exact hfl fl (by simp [k5]))
   have hf2:=(Cn.pE hf nt).2
   have a3:((Q.1.allS Q.2).someL [Cn.sg ((aB ps wi).fgL i (aO (ps.getD i PK.zero).fl fl)) nt,Q.1.allL Q.2]).natAbs<=m+10*bO kids+1+1:=a1.someL fun y hy=>by
    rcases List.mem_cons.1 hy with rfl | hy
    ·omega
    ·rw [List.mem_singleton.1 hy];omega
   exact ⟨(a1.some (k:=2) (by simp)).mono (by omega) (by omega),Nat.le_trans (show (ifS _ (rU Q)).2.natAbs<=_ from a3) (by omega)⟩
  ·rw [if_neg k5]
   exact ⟨a1.mono (by omega) (by omega),Nat.le_trans (show (rU Q).2.natAbs<=_ from a2) (by omega)⟩
theorem aMa {ps:List PK} {wi:WI} (hok:(aB ps wi).Ok) (h8:ps.length<=8) {i:Nat} (hi:i<ps.length) : ∀ (ts:List NT) (s:Cn.DS) (m c:Nat),Cn.Bd s m c->(aB ps wi).many<=m->(∀ f∈dE ts,aO (ps.getD i PK.zero).fl f<(ps.getD i PK.zero).fl.length)->bO ts<=49->
  Cn.Bd (kdS ps (aB ps wi) i ts s).1 (m+10*bO ts) (c+100*bO ts)/\∀ y∈(kdS ps (aB ps wi) i ts s).2,y.natAbs<=m+10*bO ts
 | [],s,m,c,h,_,_,_=>by rw [kdS];exact ⟨h.mono (by omega) (by omega),by simp⟩
 | t :: ts,s,m,c,h,hm,hfl,hsz=>by
  rw [dE] at hfl
  rw [bO] at hsz ⊢
  obtain ⟨g1,g2⟩:=aRd hok h8 hi t s m c h hm (fun f hf=>hfl f (List.mem_append_left _ hf)) (by omega)
  obtain ⟨j1,j2⟩:=aMa hok h8 hi ts _ _ _ g1 (by omega) (fun f hf=>hfl f (List.mem_append_right _ hf)) (by omega)
  rw [kdS]
  refine ⟨j1.mono (by omega) (by omega),fun y hy=> ?_⟩
  rcases List.mem_cons.1 hy with rfl | hy
  ·omega
  ·exact Nat.le_trans (j2 y hy) (by omega)
end
end Go.Proofs.YthaaaecmeafofaaGreatDoor
namespace Go.Proofs.YthaaaecmeafofaaGreatDoor
open Go.RowKit
def aHd (ps:List PK) (c:Cn.CT) (but:Int) (a:At):Cn.DS × List Int->Int->Cn.DS × List Int:=Cn.gY but a.f.toList.isEmpty (fun z=>c.tkL z.toNat) (fgA ps c a)
def aPe (x:Cn.DD) (L:Nat) (r:Cn.DS × List Int) (w:World) (e:Ending) (w':World):Prop:=
 ∃ (lp:Option Addr) (lc:Nat) (v:Value) (k:Nat) (cc:Nat->Prop),e=.returned (.slice lp r.2.length lc)/\(lp=none->lc=0)/\Cn.aH (fun b=>w.heap.size<=b/\b<w'.heap.size/\¬ (x.to v k cc).own b) w' r.2 (.slice lp r.2.length lc)/\Cn.DM (x.to v k cc) L r.1 w'/\Cn.aF x.own (x.to v k cc).own w w'
theorem aIb {B:Nat} {zs:List Int} {p:Option Addr} {n c:Nat} {w:World} (h:Cn.aU B (.slice p n c) zs w):p=none->c=0:=by
 rintro rfl
 obtain ⟨-,⟨e,-⟩ | ⟨g,cap,cur,e,-⟩⟩:=h
 ·cases e;rfl
 ·cases e
theorem aCx {B:Nat} {zs:List Int} {p:Option Addr} {n c:Nat} {w:World} {O:Nat->Prop} (h:Cn.aU B (.slice p n c) zs w) (hl:zs.length<=1000000) (ho : ∀ g,(Value.slice p n c).ownBlock=some g->¬ O g):Cn.aH (fun b=>B<=b/\b<w.heap.size/\¬ O b) w zs (.slice p n c):=by
 obtain ⟨p',c',e1,e2,e3⟩:=h.nums hl
 cases e1
 refine ⟨p,c,rfl,e2,fun h0=> ?_⟩
 obtain ⟨b,off,rfl,hb,hc⟩:=e3 h0
 exact ⟨b,off,rfl,⟨hb.1,hb.2,ho b (by
  obtain ⟨-,⟨e,-⟩ | ⟨g,cap,cur,e,-⟩⟩:=h
  ·cases e
  ·cases e;rfl)⟩,hc⟩
theorem aJl {α β:Type} (F:α->β->α) (a:α) {zs:List β} {j:Nat} {z:β} (h:zs[j]? = some z):(zs.take (j+1)).foldl F a=F ((zs.take j).foldl F a) z:=by
 obtain ⟨hj,rfl⟩:=List.getElem?_eq_some_iff.1 h
 rw [List.take_succ_eq_append_getElem hj,List.foldl_append]
 rfl
theorem aPr {ps:List PK} {wi:WI} (hok:(aB ps wi).Ok) (h8:ps.length<=8) {s:Cn.DS} {m c:Nat} (h:Cn.Bd s m c) (hm:(aB ps wi).many<=m) (but:Int) (a:At) (j:Nat):Cn.Bd (((bX ps a ps.length).take j).foldl (aHd ps (aB ps wi) but a) (s,[])).1 (m+8) (c+24)/\(((bX ps a ps.length).take j).foldl (aHd ps (aB ps wi) but a) (s,[])).2.length<=8:=by
 obtain ⟨h1,h2,h3⟩:=Cn.aEf (but:=but) (nof:=a.f.toList.isEmpty) (tk:=fun z=>(aB ps wi).tkL z.toNat) (fg:=fgA ps (aB ps wi) a) ((bX ps a ps.length).take j) s [] m c h (fun z hz=>Nat.le_trans (pO hok a z (List.mem_of_mem_take hz)).1.2 hm) (fun y hy=>by simp at hy)
 have hl:=gO ps a ps.length
 have ht:((bX ps a ps.length).take j).length<=8:=by rw [List.length_take];omega
 exact ⟨h1.mono (by omega) (by omega),by simp only [List.length_nil] at h3;exact Nat.le_trans h3 (by omega)⟩
theorem xQ {x x':Cn.DD} {lv:Value} {w w':World} (h : ∀ g,lv.ownBlock=some g->g<w.heap.size/\¬ x.own g) (t:Cn.aF x.own x'.own w w') : ∀ g,lv.ownBlock=some g->¬ x'.own g:=fun g hg ho=>by
 rcases t.new g ho with h1 | h1
 ·exact (h g hg).2 h1
 ·have:=(h g hg).1;omega
theorem aOt {O O':Nat->Prop} {w7 wr w5:World} {v:Value} (t:Cn.aF O O' w7 wr) (g:wr.grownBy w5 v.ownBlock) (hv : ∀ c,v.ownBlock=some c->w7.heap.size<=c):Cn.aF O O' w7 w5:=
 ⟨g.os.trans t.os,g.tape.trans t.tape,g.output.trans t.output,Nat.le_trans t.size g.size,fun b hb hn=>(g.block b (Nat.lt_of_lt_of_le hb t.size) (fun e=>by have:=hv b e.symm;omega)).trans (t.block b hb hn),t.new⟩
theorem uB {wr w5:World} {v:Value} (g:wr.grownBy w5 v.ownBlock) {b o:Nat} (hb:b<wr.heap.size) (hv:v.ownBlock≠some b):w5.cell? ⟨b,o,none⟩=wr.cell? ⟨b,o,none⟩:=World.cell?_of_block (w:=wr) (g.block b hb (fun e=>hv e.symm))
theorem tO {x:Cn.DD} {L:Nat} {s2:Cn.DS} {O:Nat->Prop} {acc:List Int} {z:Int} {lv v5:Value} {w7 wr w5:World} {o:Obj} (ow:Cn.aU w7.heap.size lv acc wr) (ap : ∀ g,lv.ownBlock=some g->¬ x.own g) (d:Cn.DM x L s2 wr) (t:Cn.aF O x.own w7 wr) (h1:w5.ownsRow w7.heap.size 3 1 v5 (acc.length+1) (acc.map (Value.int .i64) ++ [.int .i64 z])) (h2:(wr.alloc o).grownBy w5 lv.ownBlock) (h4:v5.ownBlock=lv.ownBlock∨v5.ownBlock=some (wr.alloc o).heap.size) :
  Cn.aU w7.heap.size v5 (acc ++ [z]) w5/\(∀ g,v5.ownBlock=some g->¬ x.own g)/\Cn.DM x L s2 w5/\Cn.aF O x.own w7 w5:=by
 have g5:=Cn.bZ h2
 refine ⟨?_,fun g hg ho=> ?_,d.other g5.size fun b ho=>g5.block b (d.lt ho).2 (fun e=>ap b e.symm ho),aOt t g5 fun c hc=>(Cn.bQ ow hc).1⟩
 ·unfold Cn.aU
  rw [List.length_append,List.map_append]
  exact h1
 ·rcases Cn.nZ h4 with e | ⟨g',e,hge⟩
  ·exact ap g (e ▸ hg) ho
  ·rw [e] at hg
   have:=Option.some.inj hg
   have:=(d.lt ho).2
   omega
theorem wV (ps:List PK) (wi:WI) (x:Cn.DD) (L:Nat) (s:Cn.DS) (an af:ByteArray) (aop av asl:Int) (aon:Bool) (but:Int) (w:World) (m c:Nat) (hT:dA ps=0) (hA:iE ⟨an,aop,av,asl,af,aon⟩=0) (hok:(aB ps wi).Ok) (h:Cn.DM x L s w) (hr:DR ps wi x L w) (hb:Cn.Bd s m c) (hm:(aB ps wi).many<=m) (hm2:m<=400000) (hc2:c<=400000) :
  Calls Tryz.prog 94 #[.pointer (some ⟨x.b,0,none⟩),.agg #[.string an,.int .i64 aop,.int .i64 av,.int .i64 asl,.string af,.bool aon],.int .i64 but] w fun e w'=>aPe x L (dK ps (aB ps wi) but s ⟨an,aop,av,asl,af,aon⟩) w e w':=by
 obtain ⟨i0,hi,hz0,hz1,hz2⟩:=info_parts dG
 have h8:=(dN hT).1
 have HD:=hid h
 have HR:=hid hr
 have HLL:=hid h.L
 have HE:=hid (show lS ps ⟨an,aop,av,asl,af,aon⟩=0 by unfold lS;rw [hT];simpa using hA)
 have HBJ:=hid (fun j=>aPr hok h8 hb hm but ⟨an,aop,av,asl,af,aon⟩ j)
 obtain ⟨pp,pc,hpv,hpl⟩:=hr.pk.len
 have HPV:=hid hpv
 have hbl:=h.box.facts.2.2
 have hb3:w.cell? ⟨x.b,3,none⟩=some (.slice pp ps.length pc):=(h.cell 3).trans (congrArg some hpv)
 have HPK:=hid (hpv ▸ hr.pk)
 have HLITS:=hid (pO hok ⟨an,aop,av,asl,af,aon⟩)
 have HASK:Hid (dK ps (aB ps wi) but s ⟨an,aop,av,asl,af,aon⟩=(bX ps ⟨an,aop,av,asl,af,aon⟩ ps.length).foldl (aHd ps (aB ps wi) but ⟨an,aop,av,asl,af,aon⟩) (s,[])):=rfl
 have HML:=hid (gO ps ⟨an,aop,av,asl,af,aon⟩ ps.length)
 clear h hr hb hpv hA
 go_enter Tryz.func94,Tryz.ntmps94
 go_upto_region 1 with fail
 refine bF (fun W'=>aA w W'/\aN w.heap.size #[.string an,.int .i64 aop,.int .i64 av,.int .i64 asl,.string af,.bool aon] W') ⟨aA.alloc _ _,aN.new _ _ _⟩ ?_
 rintro W1 ⟨k1,b1⟩
 have K1:=hid k1
 have B1:=hid b1
 have D1:=hid (HD.out.keep k1)
 have hb31:W1.cell? ⟨x.b,3,none⟩=some (.slice pp ps.length pc):=(k1.cell (p:=⟨x.b,3,none⟩) hbl).trans hb3
 have HS:=hid (show W1.cell? ⟨x.b,3,none⟩=some (.slice pp ps.length pc)/\∀ o,W1.cell? ⟨w.heap.size,o,none⟩=(#[.string an,.int .i64 aop,.int .i64 av,.int .i64 asl,.string af,.bool aon]:Array Value)[o]? from ⟨hb31,b1.2⟩)
 have HSd:=hid (show W1.drew.cell? ⟨x.b,3,none⟩=some (.slice pp ps.length pc)/\∀ o,W1.drew.cell? ⟨w.heap.size,o,none⟩=(#[.string an,.int .i64 aop,.int .i64 av,.int .i64 asl,.string af,.bool aon]:Array Value)[o]? from ⟨hb31,b1.2⟩)
 have hbl1:x.b<W1.heap.size:=Nat.lt_of_lt_of_le hbl k1.size
 have hwl1:w.heap.size<W1.heap.size:=b1.1
 clear k1 b1
 have HCM:=hid (show ∀ W,aA W1 W->Calls Tryz.prog 136 #[.agg #[.slice pp ps.length pc],.agg #[.string an,.int .i64 aop,.int .i64 av,.int .i64 asl,.string af,.bool aon]] W fun e w'=> ∃ v,e=.returned (.tuple #[v,.int .i64 0])/\aU (W.heap.size+2) v (bX ps ⟨an,aop,av,asl,af,aon⟩ ps.length) w'/\aA W w' from fun W kW=>by
  have hL:=HLL.out
  have hk:aA w W:=K1.out.trans kW
  refine (aFn (fun b=>b<L) ps _ an af aop av asl aon W (fun b hb=>by have:=hk.size;omega) (HPK.out.keep (B:=w.heap.size) (fun b hb=>by omega) hk)).mono ?_
  rintro e w' ⟨v,rfl,-,h3,h4⟩
  exact ⟨v,by rw [HE.out],h3 HE.out,h4⟩)
 go_region_held3 (fun W'=>W'.cell? ⟨x.b,3,none⟩=some (.slice pp ps.length pc)/\∀ o,W'.cell? ⟨w.heap.size,o,none⟩=(#[.string an,.int .i64 aop,.int .i64 av,.int .i64 asl,.string af,.bool aon]:Array Value)[o]?)
  (first | with_reducible exact HS.out | with_reducible exact HSd.out | with_reducible exact HS2.out | go_keep)
  (first | (go_at_call 136;refine (HCM.out _ (aA.drew (aA.refl _))).mono ?_;rintro e w7 ⟨zv,rfl,hzv,k7⟩;have K7:=hid (hJ k7);have ZV:=hid hzv;have HS2:=hid (show w7.cell? ⟨x.b,3,none⟩=some (.slice pp ps.length pc)/\∀ o,w7.cell? ⟨w.heap.size,o,none⟩=(#[.string an,.int .i64 aop,.int .i64 av,.int .i64 asl,.string af,.bool aon]:Array Value)[o]? from ⟨(K7.out.cell (p:=⟨x.b,3,none⟩) hbl1).trans HS.out.1,fun o=>(K7.out.cell (p:=⟨w.heap.size,o,none⟩) hwl1).trans (HS.out.2 o)⟩);clear k7 hzv))
 obtain ⟨zp,zc,hzs⟩:=ZV.out.ints.len
 subst hzs
 have D7:=hid (D1.out.keep K7.out)
 have KW:=hid (K1.out.trans K7.out)
 have HNO:=hid (show ∀ b,w.heap.size<=b->¬ x.own b from fun b hb ho=>by have:=(HD.out.lt ho).2;omega)
 have BX:=hid HS2.out.2
 have hw7:w.heap.size<w7.heap.size:=Nat.lt_of_lt_of_le hwl1 K7.out.size
 have hZB:w.heap.size<W1.drew.heap.size+2:=by have:W1.drew.heap.size=W1.heap.size:=rfl;omega
 have ZN:=hid (show Cn.aH (fun b=>w.heap.size<b/\b<w7.heap.size) w7 (bX ps ⟨an,aop,av,asl,af,aon⟩ ps.length) (.slice zp (bX ps ⟨an,aop,av,asl,af,aon⟩ ps.length).length zc) from (Cn.aU.nums (show Cn.aU _ _ _ _ from ZV.out) (by have:=HML.out;omega)).mono (fun _ _=>rfl) (fun b hb=>⟨by have:=hb.1;omega,hb.2⟩))
 clear HS HSd HS2 hb31 hb3 D1 K1 ZV B1 HPK HPV hbl1 hwl1 hpl
 have hml:=HML.out
 obtain ⟨zs,hzs⟩ : ∃ zs,zs=bX ps ⟨an,aop,av,asl,af,aon⟩ ps.length:=⟨_,rfl⟩
 rw [← hzs] at ZN HASK HBJ HLITS hml ⊢
 have HZS:=hid hzs
 clear hzs HML
 obtain ⟨F,hF⟩ : ∃ F,F=aHd ps (aB ps wi) but ⟨an,aop,av,asl,af,aon⟩:=⟨_,rfl⟩
 rw [← hF] at HASK HBJ
 have HF:=hid hF
 clear hF
 go_wp2_with fail
 go_loopg [9,23] zs.length (fun gk lv iv wr=> ∃ (j:Nat) (v:Value) (k:Nat) (cc:Nat->Prop),j+gk=zs.length/\iv=.int .i64 j/\Cn.aU w7.heap.size lv ((zs.take j).foldl F (s,[])).2 wr/\(∀ g,lv.ownBlock=some g->¬ (x.to v k cc).own g)/\Cn.DM (x.to v k cc) L ((zs.take j).foldl F (s,[])).1 wr/\Cn.aF x.own (x.to v k cc).own w7 wr)
 case atStart=>exact ⟨0,x.cv,x.np,x.cs,by omega,rfl,World.ownsRow_nil _ _ _ _,by simp [Value.ownBlock],D7.out,Cn.aF.refl _ _⟩
 case round=>
  obtain ⟨j,v,k,cc,hj,rfl,hown,hap,hd,ht⟩:=hrel
  have OW:=hid hown
  have AP:=hid hap
  have D2:=hid hd
  have T2:=hid ht
  obtain ⟨lp,lc,hlv⟩:=hown.ints.len
  subst hlv
  clear hown hap hd ht D7
  by_cases hlt:j<zs.length
  ·obtain ⟨zb,zo,rfl,hzb,hzc⟩:=(ZN.out.turn T2.out (fun b hb=>⟨hb.2,HNO.out b (by omega)⟩)).nth hlt
   have hcj:=hzc j _ (List.getElem?_eq_getElem hlt)
   have HZJ:=hid (List.getElem?_eq_getElem hlt)
   have hzl:=HLITS.out zs[j] (List.getElem_mem hlt)
   have hzm : ∃ i:Nat,i<ps.length/\zs[j]=(i:Int)/\jI (ps.getD i PK.zero) ⟨an,aop,av,asl,af,aon⟩=true:=lE.1 (by rw [← HZS.out];exact List.getElem_mem hlt)
   have hzbl:=Nat.lt_of_lt_of_le hzb.2 T2.out.size
   have hjI:(j:Int)<(zs.length:Int):=by omega
   have HNX:=hid (aJl F (s,[]) HZJ.out)
   obtain ⟨hbd,hal⟩:=HBJ.out j
   generalize zs[j]=z at hcj hzl hzm HNX
   obtain ⟨i,hip,rfl,hmt⟩:=hzm
   generalize (zs.take j).foldl F (s,[])=st at OW D2 HNX hbd hal AP ⊢
   obtain ⟨s2,acc⟩:=st
   dsimp only at OW D2 hbd hal AP ⊢
   have HFE:=hid (show F (s2,acc) (i:Int)=if (i:Int)=but then (s2,acc) else if af.toList.isEmpty=true then (s2,acc ++ [(aB ps wi).tkL i]) else (s2.bothS ((aB ps wi).tkL i) (fgA ps (aB ps wi) ⟨an,aop,av,asl,af,aon⟩ (i:Int)),acc ++ [s2.bothL ((aB ps wi).tkL i) (fgA ps (aB ps wi) ⟨an,aop,av,asl,af,aon⟩ (i:Int))]) by rw [HF.out];rfl)
   clear hzc
   by_cases hbt:(i:Int)=but
   ·have hb1:((i:Int)==but)=true:=by simpa using hbt
    have HN:=hid (HNX.out.trans (HFE.out.trans (if_pos hbt)))
    clear hbt
    go_wp2_with fail
    go_roundg (zs.length-(j+1))
    case rel=>exact ⟨j+1,v,k,cc,by omega,by go_num,by rw [HN.out];exact OW.out,AP.out,by rw [HN.out];exact D2.out,T2.out⟩
    case measure=>omega
   ·have hb1:((i:Int)==but)=false:=by simpa using hbt
    have HFE2:=hid (HNX.out.trans (HFE.out.trans (if_neg hbt)))
    have B2:=hid (lC HD.out ((Cn.aF.keep KW.out).trans T2.out))
    have R2:=hid (HR.out.turn HD.out ((Cn.aF.keep KW.out).trans T2.out))
    have BX2:=hid (show ∀ o,wr.cell? ⟨w.heap.size,o,none⟩=(#[.string an,.int .i64 aop,.int .i64 av,.int .i64 asl,.string af,.bool aon]:Array Value)[o]? from fun o=>(T2.out.cell ⟨w.heap.size,o,none⟩ hw7 (HNO.out _ (Nat.le_refl _))).trans (BX.out o))
    have hwlr:w.heap.size<wr.heap.size:=Nat.lt_of_lt_of_le hw7 T2.out.size
    have ha4:wr.cell? ⟨w.heap.size,4,none⟩=some (.string af):=BX2.out 4
    have ha5:wr.cell? ⟨w.heap.size,5,none⟩=some (.bool aon):=BX2.out 5
    have hb1c:wr.cell? ⟨x.b,1,none⟩=some x.tv:=D2.out.cell 1
    have hbl2:x.b<wr.heap.size:=D2.out.box.facts.2.2
    have hnl:=cB ps wi
    have htl:=Cn.CT.tks_len (aB ps wi)
    obtain ⟨tp,tc,htv,-⟩:=R2.out.tk.shape
    have htv2:x.tv=.slice tp (aB ps wi).tks.length tc:=htv
    obtain ⟨tb,tof,htp,htb,htc⟩:=(htv ▸ R2.out.tk:Cn.aH _ wr (aB ps wi).tks (.slice tp (aB ps wi).tks.length tc)).nth (k:=i) (by omega)
    subst htp
    have htk:=htc i _ (Cn.CT.tks_get (aB ps wi) (i:=i) (by omega))
    rw [htv2,htl,hnl] at hb1c
    have htbw:tb<w.heap.size/\¬ x.own tb:=HR.out.ro tb htb
    have htbn : ¬ (x.to v k cc).own tb:=(R2.out.ro tb htb).2
    have htbl:tb<wr.heap.size:=(R2.out.ro tb htb).1
    have hiI:(i:Int)<(ps.length:Int):=by omega
    have htm:((aB ps wi).tkL i).natAbs<=(aB ps wi).many:=hzl.1.2
    have hm14:=hm
    have hw7r:=T2.out.size
    have HTL:=hid (And.intro hnl htl)
    clear htc hnl htl htv htv2 hbt
    cases hem:af.toList.isEmpty
    ·have h3:(af.toList == [])=false:=by simpa using hem
     have HN:=hid (HFE2.out.trans (if_neg (by rw [hem];decide)))
     have hfl:aO (ps.getD i PK.zero).fl af<(ps.getD i PK.zero).fl.length:=by
      unfold jI at hmt
      dsimp only at hmt
      rw [hem] at hmt
      simp only [Bool.and_eq_true,Bool.false_or] at hmt
      exact tB.1 hmt.2.2
     have hfl2:(ps.getD i PK.zero).fl.length<=2:=(nP (iY ((dN hT).2 _ (by rw [List.getD_eq_getElem?_getD,List.getElem?_eq_getElem hip];exact List.getElem_mem hip))).2.2.1).1
     have hfgl:(fgA ps (aB ps wi) ⟨an,aop,av,asl,af,aon⟩ (i:Int)).natAbs<=(aB ps wi).many:=(hzl.2 hem).1.2
     have HFG:=hid (show fgA ps (aB ps wi) ⟨an,aop,av,asl,af,aon⟩ (i:Int)=Cn.sg ((aB ps wi).fgL i (aO (ps.getD i PK.zero).fl af)) aon by unfold fgA;rw [Int.toNat_natCast])
     have hfg0:((aB ps wi).fgL i (aO (ps.getD i PK.zero).fl af)).natAbs<=900000:=by rw [HFG.out,Cn.nF] at hfgl;omega
     have HS:=hid (show wr.cell? ⟨x.b,1,none⟩=some (.slice (some ⟨tb,tof,none⟩) ps.length tc)/\wr.cell? ⟨tb,tof+i,none⟩=some (.int .i64 ((aB ps wi).tkL i))/\wr.cell? ⟨w.heap.size,4,none⟩=some (.string af)/\wr.cell? ⟨w.heap.size,5,none⟩=some (.bool aon) from ⟨hb1c,htk,ha4,ha5⟩)
     have HSd:=hid (show wr.drew.cell? ⟨x.b,1,none⟩=some (.slice (some ⟨tb,tof,none⟩) ps.length tc)/\wr.drew.cell? ⟨tb,tof+i,none⟩=some (.int .i64 ((aB ps wi).tkL i))/\wr.drew.cell? ⟨w.heap.size,4,none⟩=some (.string af)/\wr.drew.cell? ⟨w.heap.size,5,none⟩=some (.bool aon) from ⟨hb1c,htk,ha4,ha5⟩)
     have HBD:=hid hbd
     have hsn:s2.n<=500000:=by have:=hbd.1;omega
     have hscl:s2.cl.length<=500000:=by have:=hbd.2.1;omega
     generalize hfr:(aB ps wi).fgL i (aO (ps.getD i PK.zero).fl af)=fr at hfg0 HFG
     have HFR:=hid hfr
     generalize (aB ps wi).tkL i=tki at htk htm HN HS HSd
     clear hfr hbd
     have HCF:=hid (show ∀ W,aA wr W->Calls Tryz.prog 138 #[.pointer (some ⟨x.b,0,none⟩),.int .i64 i,.string af] W fun e w'=>e=.returned (.int .i64 fr)/\aA W w' from fun W kW=>by
      rw [← HFR.out]
      exact aBu ps wi (x.to v k cc) L s2 i af W (D2.out.keep kW) (R2.out.keep (by have:=HLL.out;omega) kW) h8 hip hfl hfl2)
     have HLV:=hid (show ∀ b,b<w7.heap.size->(Value.slice lp acc.length lc).ownBlock≠some b from fun b hb e=>by have:=(Cn.bQ OW.out e).1;omega)
     have hLw:L<=w.heap.size:=HLL.out
     have HNA:=hid (show ¬ (x.to v k cc).own w.heap.size from fun ho=>by
      rcases T2.out.new _ ho with h | h
      ·exact HNO.out _ (Nat.le_refl _) h
      ·omega)
     have HCB:=hid (show ∀ W,aA wr W->Calls Tryz.prog 137 #[.pointer (some ⟨x.b,0,none⟩),.int .i64 tki,.int .i64 (Cn.sg fr aon)] W fun e w'=>e=.returned (.int .i64 (s2.bothL tki (Cn.sg fr aon)))/\∃ v3 k3 c3,Cn.DM (x.to v3 k3 c3) L (s2.bothS tki (Cn.sg fr aon)) w'/\Cn.aF x.own (x.to v3 k3 c3).own w7 w'/\Cn.aU w7.heap.size (.slice lp acc.length lc) acc w'/\(∀ g,(Value.slice lp acc.length lc).ownBlock=some g->¬ (x.to v3 k3 c3).own g)/\wr.heap.size<=w'.heap.size/\(w'.cell? ⟨x.b,1,none⟩=some (.slice (some ⟨tb,tof,none⟩) ps.length tc)/\w'.cell? ⟨tb,tof+i,none⟩=some (.int .i64 tki)/\w'.cell? ⟨w.heap.size,4,none⟩=some (.string af)/\w'.cell? ⟨w.heap.size,5,none⟩=some (.bool aon)) from fun W kW=>by
      refine (Cn.aMf (x.to v k cc) L s2 tki (Cn.sg fr aon) W (D2.out.keep kW) (by omega) (by rw [Cn.nF];exact hfg0) hscl hsn).mono ?_
      rintro e w10 ⟨rfl,v3,k3,c3,d3,t3⟩
      have TR:Cn.aF (x.to v k cc).own (x.to v3 k3 c3).own wr w10:=(Cn.aF.keep kW).trans t3
      refine ⟨rfl,v3,k3,c3,d3,T2.out.trans TR,Cn.cM OW.out (fun g hg=>TR.block g (Cn.bQ OW.out hg).2 (AP.out g hg)),xQ (fun g hg=>⟨(Cn.bQ OW.out hg).2,AP.out g hg⟩) TR,TR.size,?_,(TR.cell ⟨tb,tof+i,none⟩ htbl htbn).trans HS.out.2.1,(TR.cell ⟨w.heap.size,4,none⟩ hwlr HNA.out).trans HS.out.2.2.1,(TR.cell ⟨w.heap.size,5,none⟩ hwlr HNA.out).trans HS.out.2.2.2⟩
      have e1:=d3.cell 1
      have e2:=D2.out.cell 1
      exact e1.trans (e2.symm.trans HS.out.1))
     have HAP:=hid (show ∀ (w10 w5:World) (v5:Value) (o:Obj) (v3:Value) (k3:Nat) (c3:Nat->Prop),Cn.DM (x.to v3 k3 c3) L (s2.bothS tki (Cn.sg fr aon)) w10->Cn.aF x.own (x.to v3 k3 c3).own w7 w10->Cn.aU w7.heap.size (.slice lp acc.length lc) acc w10->(∀ g,(Value.slice lp acc.length lc).ownBlock=some g->¬ (x.to v3 k3 c3).own g)->wr.heap.size<=w10.heap.size->(w10.cell? ⟨x.b,1,none⟩=some (.slice (some ⟨tb,tof,none⟩) ps.length tc)/\w10.cell? ⟨tb,tof+i,none⟩=some (.int .i64 tki)/\w10.cell? ⟨w.heap.size,4,none⟩=some (.string af)/\w10.cell? ⟨w.heap.size,5,none⟩=some (.bool aon))->w5.ownsRow w7.heap.size 3 1 v5 (acc.length+1) (acc.map (Value.int .i64) ++ [.int .i64 (s2.bothL tki (Cn.sg fr aon))])->(w10.alloc o).grownBy w5 (Value.slice lp acc.length lc).ownBlock->(v5.ownBlock=(Value.slice lp acc.length lc).ownBlock∨v5.ownBlock=some (w10.alloc o).heap.size)->(Cn.aU w7.heap.size v5 (acc ++ [s2.bothL tki (Cn.sg fr aon)]) w5/\(∀ g,v5.ownBlock=some g->¬ (x.to v3 k3 c3).own g)/\Cn.DM (x.to v3 k3 c3) L (s2.bothS tki (Cn.sg fr aon)) w5/\Cn.aF x.own (x.to v3 k3 c3).own w7 w5)/\(w5.cell? ⟨x.b,1,none⟩=some (.slice (some ⟨tb,tof,none⟩) ps.length tc)/\w5.cell? ⟨tb,tof+i,none⟩=some (.int .i64 tki)/\w5.cell? ⟨w.heap.size,4,none⟩=some (.string af)/\w5.cell? ⟨w.heap.size,5,none⟩=some (.bool aon)) from fun w10 w5 v5 o v3 k3 c3 d t ow ap hz hs h1 h2 h4=>by
      have P:=tO ow ap d t h1 h2 h4
      refine ⟨P,(P.2.2.1.cell 1).trans ((d.cell 1).symm.trans hs.1),(uB (Cn.bZ h2) (by omega) (HLV.out _ (by have:=htbw.1;omega))).trans hs.2.1,(uB (Cn.bZ h2) (by omega) (HLV.out _ (by omega))).trans hs.2.2.1,(uB (Cn.bZ h2) (by omega) (HLV.out _ (by omega))).trans hs.2.2.2⟩)
     go_wp2_with fail
     go_region_held3 (fun W'=>W'.cell? ⟨x.b,1,none⟩=some (.slice (some ⟨tb,tof,none⟩) ps.length tc)/\W'.cell? ⟨tb,tof+i,none⟩=some (.int .i64 tki)/\W'.cell? ⟨w.heap.size,4,none⟩=some (.string af)/\W'.cell? ⟨w.heap.size,5,none⟩=some (.bool aon))
      (first | with_reducible exact HS.out | with_reducible exact HSd.out | with_reducible exact HS8.out | with_reducible exact HS10.out | with_reducible exact HS11.out | with_reducible exact HS5.out | go_keep)
      (first
       | (go_at_call 138;refine (HCF.out _ (aA.drew (aA.refl _))).mono ?_;rintro e w8 ⟨rfl,k8⟩;have K8:=hid (hJ k8);have HS8:=hid (show w8.cell? ⟨x.b,1,none⟩=some (.slice (some ⟨tb,tof,none⟩) ps.length tc)/\w8.cell? ⟨tb,tof+i,none⟩=some (.int .i64 tki)/\w8.cell? ⟨w.heap.size,4,none⟩=some (.string af)/\w8.cell? ⟨w.heap.size,5,none⟩=some (.bool aon) from ⟨(K8.out.cell (p:=⟨x.b,1,none⟩) hbl2).trans HS.out.1,(K8.out.cell (p:=⟨tb,tof+i,none⟩) htbl).trans HS.out.2.1,(K8.out.cell (p:=⟨w.heap.size,4,none⟩) hwlr).trans HS.out.2.2.1,(K8.out.cell (p:=⟨w.heap.size,5,none⟩) hwlr).trans HS.out.2.2.2⟩);clear k8)
       | (go_at_call 84;refine (pG fr aon _ hfg0).mono ?_;rintro e w9 ⟨rfl,hw9⟩;rw [hw9];clear hw9)
       | (go_at_call 137;refine (HCB.out w8 K8.out).mono ?_;rintro e w10 ⟨rfl,v3,k3,c3,d3,t3,o3,a3,z3,s3⟩;have D10:=hid d3;have T10:=hid t3;have OW10:=hid o3;have AP10:=hid a3;have HS10:=hid s3;clear d3 t3 o3 a3 s3)
       | (refine Cn.aY rfl _ _ 37 rfl w7.heap.size 3 i0 (.int .i64 0) 1 8 Tryz.underlying37 hi hz0 hz1 hz2 rfl (by decide) (.slice lp acc.length lc) acc.length (acc.map (Value.int .i64)) rfl (World.ownsRow.alloc OW10.out _) ⟨w10.heap.size,0,none⟩ 1 1 [.int .i64 (s2.bothL tki (Cn.sg fr aon))] rfl rfl Cn.dC dB (by unfold maxLen;omega) (by omega) (by rw [aC];omega) ?_;intro v5 w5 h1 h2 h4;have PP:=hid (HAP.out w10 w5 v5 _ v3 k3 c3 D10.out T10.out OW10.out AP10.out z3 HS10.out h1 h2 h4);have P5:=hid PP.out.1;have HS5:=hid PP.out.2;clear h1 h2 h4 PP))
     obtain ⟨g5,cap5,hv5⟩:=Cn.aW P5.out.1 (by simp)
     rw [hv5] at P5 ⊢
     go_wp2_with fail
     go_roundg (zs.length-(j+1))
     case rel=>exact ⟨j+1,v3,k3,c3,by omega,by go_num,by rw [HN.out,HFG.out];exact P5.out.1,P5.out.2.1,by rw [HN.out,HFG.out];exact P5.out.2.2.1,P5.out.2.2.2⟩
     case measure=>omega
    ·have h3:(af.toList == [])=true:=by simpa using hem
     have HN:=hid (HFE2.out.trans (if_pos hem))
     go_wp2_with (at_builtin;refine wpList_append_own_at _ rfl _ _ 37 rfl w7.heap.size 3 i0 (.int .i64 0) 1 8 Tryz.underlying37 hi hz0 hz1 hz2 rfl (by decide) (.slice lp acc.length lc) acc.length (acc.map (Value.int .i64)) rfl (World.ownsRow.alloc OW.out _) ⟨wr.heap.size,0,none⟩ 1 1 [.int .i64 ((aB ps wi).tkL i)] rfl rfl Cn.dC dB (by unfold maxLen;omega) (by omega) (by rw [aC];omega) ?_;intro v5 w5 h1 h2 _ h4)
     have P5:=hid (tO OW.out AP.out D2.out T2.out h1 h2 h4)
     clear h1 h2 h4
     go_wp2_with fail
     go_roundg (zs.length-(j+1))
     case rel=>exact ⟨j+1,v,k,cc,by omega,by go_num,by rw [HN.out];exact P5.out.1,P5.out.2.1,by rw [HN.out];exact P5.out.2.2.1,P5.out.2.2.2⟩
     case measure=>omega
  ·obtain rfl:j=zs.length:=by omega
   have HFIN:=hid (show dK ps (aB ps wi) but s ⟨an,aop,av,asl,af,aon⟩=(zs.take zs.length).foldl F (s,[]) by rw [List.take_length];exact HASK.out)
   obtain ⟨-,hal⟩:=HBJ.out zs.length
   go_wp2_with fail
   go_ret
   rw [HFIN.out]
   exact ⟨lp,lc,v,k,cc,rfl,aIb OW.out,(aCx OW.out (by omega) AP.out).mono (fun _ _=>rfl) (fun b hb=>⟨by have:=hb.1;omega,hb.2⟩),D2.out,(Cn.aF.keep KW.out).trans T2.out⟩
end Go.Proofs.YthaaaecmeafofaaGreatDoor
namespace Go.Proofs.YthaaaecmeafofaaGreatDoor
open Go.RowKit
structure CM (b g:Nat) (pv tsv inv mav onv:Value) (n:Nat) (tk:List Int) (cnt:Int) (f:Int->Int->Int) (k:Nat) (w:World):Prop where
 tr:aE b 24 pv w
 wi:aD (b+1) 46 #[tsv,inv,mav,onv] w
 rs:aD (b+2) 134 #[.int .i64 0,.slice none 0 0,.map none] w
 row:aD (b+3) 3 (tk.map (Value.int .i64)).toArray w
 mp:Cn.gH g k f w
 bx:aD (g+1) 134 #[.int .i64 cnt,.slice (some ⟨b+3,0,none⟩) n n,.map (some g)] w
 far:b+4<=g
section
variable {b g:Nat} {pv tsv inv mav onv:Value} {n:Nat} {tk:List Int} {cnt:Int} {f:Int->Int->Int} {k:Nat} {w w':World}
theorem CM.lt (h:CM b g pv tsv inv mav onv n tk cnt f k w):b+4<=g/\g+1<w.heap.size:=⟨h.far,h.bx.facts.2.2⟩
theorem CM.keep (h:CM b g pv tsv inv mav onv n tk cnt f k w) (kp:aA w w'):CM b g pv tsv inv mav onv n tk cnt f k w':=
 ⟨h.tr.keep kp h.tr.facts.2.2,h.wi.keep kp h.wi.facts.2.2,h.rs.keep kp h.rs.facts.2.2,h.row.keep kp h.row.facts.2.2,h.mp.keep kp,h.bx.keep kp h.bx.facts.2.2,h.far⟩
theorem CM.next (h:CM b g pv tsv inv mav onv n tk cnt f k w):CM b g pv tsv inv mav onv n tk (cnt+1) f k (w.setCell ⟨g+1,0,none⟩ (.int .i64 (cnt+1))):=by
 have hso : ∀ c,c≠g+1->(w.setCell ⟨g+1,0,none⟩ (.int .i64 (cnt+1))).heap[c]? = w.heap[c]? :=fun c hc=>Below.heap_setCell _ _ _ _ (fun e=>hc e)
 have hfar:=h.far
 refine ⟨?_,?_,?_,?_,h.mp.at (hso _ (by omega)),h.bx.set 0 _,hfar⟩
 ·have:=h.tr;unfold aE at *;rw [hso _ (by omega)];exact this
 ·have:=h.wi;unfold aD at *;rw [hso _ (by omega)];exact this
 ·have:=h.rs;unfold aD at *;rw [hso _ (by omega)];exact this
 ·have:=h.row;unfold aD at *;rw [hso _ (by omega)];exact this
theorem CM.set (h:CM b g pv tsv inv mav onv n tk cnt f k w) (i:Nat) (v:Int):CM b g pv tsv inv mav onv n (tk.set i v) cnt f k (w.setCell ⟨b+3,i,none⟩ (.int .i64 v)):=by
 have hso : ∀ c,c≠b+3->(w.setCell ⟨b+3,i,none⟩ (.int .i64 v)).heap[c]? = w.heap[c]? :=fun c hc=>Below.heap_setCell _ _ _ _ (fun e=>hc e)
 have hfar:=h.far
 refine ⟨?_,?_,?_,?_,h.mp.at (hso _ (by omega)),?_,hfar⟩
 ·have:=h.tr;unfold aE at *;rw [hso _ (by omega)];exact this
 ·have:=h.wi;unfold aD at *;rw [hso _ (by omega)];exact this
 ·have:=h.rs;unfold aD at *;rw [hso _ (by omega)];exact this
 ·have:=h.row.set i (.int .i64 v)
  rwa [List.setIfInBounds_toArray,← List.map_set] at this
 ·have:=h.bx;unfold aD at *;rw [hso _ (by omega)];exact this
theorem CM.put {f':Int->Int->Int} {k':Nat} (h:CM b g pv tsv inv mav onv n tk cnt f k w) (hm:Cn.gH (g) k' f' w') (hg:w.grownBy w' (some (g))):CM b g pv tsv inv mav onv n tk cnt f' k' w':=by
 have hl:=h.lt
 have hso : ∀ c,c<w.heap.size->c≠g->w'.heap[c]? = w.heap[c]? :=fun c hc hn=>hg.block c hc fun e=>hn (Option.some.inj e)
 refine ⟨?_,?_,?_,?_,hm,?_,h.far⟩
 ·have:=h.tr;unfold aE at *;rw [hso _ (by omega) (by omega)];exact this
 ·have:=h.wi;unfold aD at *;rw [hso _ (by omega) (by omega)];exact this
 ·have:=h.rs;unfold aD at *;rw [hso _ (by omega) (by omega)];exact this
 ·have:=h.row;unfold aD at *;rw [hso _ (by omega) (by omega)];exact this
 ·have:=h.bx;unfold aD at *;rw [hso _ (by omega) (by omega)];exact this
theorem CM.more {k':Nat} (h:CM b g pv tsv inv mav onv n tk cnt f k w) (hk:k<=k'):CM b g pv tsv inv mav onv n tk cnt f k' w:=⟨h.tr,h.wi,h.rs,h.row,h.mp.mono hk,h.bx,h.far⟩
theorem CM.at (h:CM b g pv tsv inv mav onv n tk cnt f k w) {i:Nat} (hi:i<tk.length):w.cell? ⟨b+3,i,none⟩=some (.int .i64 (tk.getD i 0))/\w.frozen? ⟨b+3,i,none⟩=false:=by
 refine ⟨?_,h.row.facts.2.1 i⟩
 rw [h.row.facts.1,List.getElem?_toArray,List.getElem?_map,List.getElem?_eq_getElem hi,List.getD_eq_getElem?_getD,List.getElem?_eq_getElem hi]
 rfl
end
theorem aMh {b n:Nat} {zs:List Int} {w:World} (h:aD b 3 (zs.map (Value.int .i64)).toArray w) (hn:zs.length=n) (hl:n<=1000000):Cn.aH (fun c=>c=b) w zs (.slice (some ⟨b,0,none⟩) n n):=by
 refine ⟨_,n,by rw [hn],by omega,fun _=>⟨b,0,rfl,rfl,fun j x hx=> ?_⟩⟩
 rw [Nat.zero_add,h.facts.1,List.getElem?_toArray,List.getElem?_map,hx]
 rfl
theorem aIx (c:Cn.CT) {i:Nat} (hi:i<c.nf.length):c.base (i+1)=c.base i+c.nf.getD i 0:=by
 unfold Cn.CT.base
 rw [List.take_succ_eq_append_getElem hi,List.sum_append,List.getD_eq_getElem?_getD,List.getElem?_eq_getElem hi]
 simp
 omega
theorem aLz (c:Cn.CT):c.base c.nf.length=c.many:=by unfold Cn.CT.base Cn.CT.many;rw [List.take_length]
theorem aPq (c:Cn.CT) (i:Nat):c.base i<=c.many:=by
 have:=Cn.kR c.nf i (max i c.nf.length) (by omega)
 rw [List.take_of_length_le (l:=c.nf) (i:=max i c.nf.length) (by omega)] at this
 unfold Cn.CT.base Cn.CT.many
 omega
theorem cJ {z:Int} (h:z.natAbs<=1000000):IntKind.i64.wrap z=z:=by rw [IntKind.wrap_i64];omega
theorem aEw (args:Array Value) (w:World):(callFunc 132 args).run Tryz.prog w=.ok (.enter 132 args) w:=enters_of Tryz.func132 (by kernel_rfl) rfl args w
theorem rK (bc:Nat) (n:Int) (tv mv:Value) (w:World) (h:aD bc 134 #[.int .i64 n,tv,mv] w) (h0:0<=n) (h1:n<=1000000) :
  Calls Tryz.prog 132 #[.pointer (some ⟨bc,0,none⟩)] w fun e w'=>e=.returned (.int .i64 (n+1))/\w'=w.setCell ⟨bc,0,none⟩ (.int .i64 (n+1)):=by
 have hc0:w.cell? ⟨bc,0,none⟩=some (.int .i64 n):=h.facts.1 0
 have hf0:=h.facts.2.1 0
 have hl:=h.facts.2.2
 clear h
 go_enter Tryz.func132,Tryz.ntmps132
 go_wp2_with fail
 go_ret
 exact ⟨rfl,rfl⟩
theorem vC {ps:List PK} {on:List (Int × Int)} (h:aT (onE ps on) 0 on.length=0) (h8:ps.length<=8) (h2 : ∀ p∈ps,p.fl.length<=2):(∀ q∈on,0<=q.1/\q.1<ps.length/\0<=q.2/\q.2<(ps.getD q.1.toNat PK.zero).fl.length)/\on.Nodup/\on.length<=32:=by
 have hz:=(cK on.length 0).1 h
 have hk : ∀ k (hk:k<on.length),(0<=on[k].1/\on[k].1<ps.length/\0<=on[k].2/\on[k].2<(ps.getD on[k].1.toNat PK.zero).fl.length)/\(0<k->(on.getD (k-1) (0,0)).1<on[k].1∨(on.getD (k-1) (0,0)).1=on[k].1/\(on.getD (k-1) (0,0)).2<on[k].2):=fun k hk=>by
  have h1:=hz k hk
  have e:on.getD k (0,0)=on[k]:=by rw [List.getD_eq_getElem?_getD,List.getElem?_eq_getElem hk];rfl
  rw [Nat.zero_add] at h1
  unfold onE at h1
  rw [e] at h1
  split at h1
  ·omega
  ·split at h1
   ·omega
   ·split at h1
    ·omega
    ·rename_i g1 g2 g3
     refine ⟨by omega,fun h0=> ?_⟩
     exact Classical.byContradiction fun hn=>g3 ⟨h0,hn⟩
 have hin : ∀ q∈on,0<=q.1/\q.1<ps.length/\0<=q.2/\q.2<(ps.getD q.1.toNat PK.zero).fl.length:=fun q hq=>by
  obtain ⟨k,hkl,rfl⟩:=List.getElem_of_mem hq
  exact (hk k hkl).1
 have hfl : ∀ q∈on,q.2<2:=fun q hq=>by
  have h3:=hin q hq
  have h4:ps.getD q.1.toNat PK.zero∈ps:=by rw [List.getD_eq_getElem?_getD,List.getElem?_eq_getElem (show q.1.toNat<ps.length by omega)];exact List.getElem_mem _
  have:=h2 _ h4
  omega
 have hcl:(on.map fun q=>4*q.1+q.2).length=on.length:=by simp
 have hcg : ∀ k (hk:k<on.length),(on.map fun q=>4*q.1+q.2).getD k 0=4*on[k].1+on[k].2:=fun k hk=>by rw [List.getD_eq_getElem?_getD,List.getElem?_map,List.getElem?_eq_getElem hk];rfl
 have hup : ∀ k,0<k->k<(on.map fun q=>4*q.1+q.2).length->(on.map fun q=>4*q.1+q.2).getD (k-1) 0<(on.map fun q=>4*q.1+q.2).getD k 0:=fun k h0 hkl=>by
  rw [hcl] at hkl
  rw [hcg k hkl,hcg (k-1) (by omega)]
  have e:on.getD (k-1) (0,0)=on[k-1]:=by rw [List.getD_eq_getElem?_getD,List.getElem?_eq_getElem (show k-1<on.length by omega)];rfl
  have h3:=(hk k hkl).2 h0
  rw [e] at h3
  have h4:=hin _ (List.getElem_mem hkl)
  have h5:=hfl _ (List.getElem_mem (show k-1<on.length by omega))
  omega
 have hpw:=aAi hup
 refine ⟨hin,?_,?_⟩
 ·rw [List.pairwise_map] at hpw
  rw [List.nodup_iff_pairwise_ne]
  exact hpw.imp fun hab e=>by rw [e] at hab;omega
 ·by_cases h0:on.length=0
  ·omega
  ·have g1:=aIp hup (fun x hx=>by obtain ⟨q,hq,rfl⟩:=List.mem_map.1 hx;have:=hin q hq;omega) (on.length-1) (by omega)
   rw [hcg _ (by omega)] at g1
   have g2:=hin _ (List.getElem_mem (show on.length-1<on.length by omega))
   have g3:=hfl _ (List.getElem_mem (show on.length-1<on.length by omega))
   omega
end Go.Proofs.YthaaaecmeafofaaGreatDoor
