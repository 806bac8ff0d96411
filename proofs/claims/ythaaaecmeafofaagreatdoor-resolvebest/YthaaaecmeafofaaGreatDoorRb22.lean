/- Steps of the proof: EncAll, EncBound, SatMem, SatParts, SatBoth. -/
import Derived.Test.YthaaaecmeafofaaGreatDoorRb20
import Derived.BigQuiet
import Derived.Deep.RegionHeld3
import Derived.Test.YthaaaecmeafofaaGreatDoorRb18
import Derived.OwnWalk
set_option maxHeartbeats 16000000
set_option maxRecDepth 100000
namespace Go.Proofs.YthaaaecmeafofaaGreatDoor.Cn
open Go.RowKit Go.Lib
theorem aOo {s:DS} {l:List Int} (hn:s.n<=500000) (h : ∀ y∈l,y.natAbs<=900000):(s.someL l).natAbs<=900000:=by
 unfold DS.someL
 split
 ·rename_i h1
  obtain ⟨y,rfl⟩:=List.length_eq_one_iff.1 h1
  exact h y List.mem_cons_self
 ·omega
theorem dY.nums {f:Int->Int} {l:List Int} {b:Nat} {w:World} (h:dY (fun x=> .int .i64 (f x)) l l.length b 3 w) (hl:l.length<=1000000):aH (fun c=>c=b) w (l.map f) (.slice (some ⟨b,0,none⟩) l.length l.length):=by
 refine ⟨_,l.length,by rw [List.length_map],by rw [List.length_map];omega,fun _=>⟨b,0,rfl,rfl,fun i x hx=> ?_⟩⟩
 rw [Nat.zero_add]
 rw [List.getElem?_map] at hx
 cases e:l[i]? with
 | none=>rw [e] at hx;cases hx
 | some y=>
  rw [e] at hx
  cases hx
  exact h.all i y e
theorem aHb (x:DD) (L:Nat) (s:DS) (Q:Nat->Prop) (l:List Int) (p:Option Addr) (n cap:Nat) (w:World) (hln:l.length=n) (h:DM x L s w) (hQ : ∀ b,Q b->b<w.heap.size) (hl:aH Q w l (.slice p n cap)) (hlen:l.length<=900) (hc:s.cl.length<=500000) (hn:s.n<=500000) (hsm : ∀ y∈l,y.natAbs<=900000) :
  Calls Tryz.prog 141 #[.pointer (some ⟨x.b,0,none⟩),.slice p n cap] w fun e w'=>e=.returned (.int .i64 (s.allL l))/\∃ v c,DM (x.to v x.np c) L (s.allS l) w'/\aF x.own (x.to v x.np c).own w w':=by
 subst hln
 obtain ⟨i0,hi,hz0,hz1,hz2⟩:=info_parts dG
 have HD:=hid h
 have HL:=hid hl
 have HQ:=hid hQ
 have HSM:=hid hsm
 have hbl:=h.box.facts.2.2
 clear h hl hQ hsm
 go_enter Tryz.func141,Tryz.ntmps141
 go_wp2_with (at_make;refine wpList_make_full _ rfl _ _ 37 rfl w.heap.size 3 i0 (.int .i64 0) 1 Tryz.underlying37 hi hz0 hz1 .i64 .i64 (l.length:Int) (l.length:Int) l.length rfl rfl rfl rfl (by rw [hz2];omega) (by unfold maxLen;omega) (Nat.le_refl _) ?_;intro w1 h1 h2;have K1:=hid (nR h2);have F1:=hid (dY.start (f:=fun x=> .int .i64 (-x)) (A:=l) (gD (v:= .int .i64 0) rfl h1));clear h1 h2)
 go_loopg [13] l.length (fun gk iv wr=> ∃ j:Nat,j+gk=l.length/\iv=.int .i64 j/\aA w wr/\dY (fun x=> .int .i64 (-x)) l j w.heap.size 3 wr)
 case atStart=>exact ⟨0,by omega,rfl,K1.out,F1.out⟩
 case round=>
  obtain ⟨j,hj,rfl,hk,hf⟩:=hrel
  have K2:=hid hk
  have F2:=hid hf
  clear hk hf K1 F1
  by_cases hlt:j<l.length
  ·obtain ⟨cb,co,rfl,hcb,hcc⟩:=(HL.out.keep HQ.out K2.out).nth hlt
   have hc1:=hcc j _ (List.getElem?_eq_getElem hlt)
   have hx:=HSM.out l[j] (List.getElem_mem hlt)
   have HX:=hid (List.getElem?_eq_getElem hlt)
   have hcl:=Nat.lt_of_lt_of_le (HQ.out cb hcb) K2.out.size
   obtain ⟨⟨v0,hv0⟩,hfr,hbl2⟩:=F2.out.cell hlt
   generalize l[j]=z at hc1 hx HX
   have hz1' : -900000<=z:=by omega
   have hz2':z<=900000:=by omega
   have hjI:(j:Int)<(l.length:Int):=by omega
   clear hcc hx
   have F3:=hid (F2.out.next HX.out)
   have K3:=hid (show aA w (wr.setCell ⟨w.heap.size,j,none⟩ (.int .i64 (-z))) from Below.trans K2.out (aM wr w.heap.size j _))
   go_wp2_with fail
   go_roundg (l.length-(j+1))
   case rel=>exact ⟨j+1,by omega,by go_num,K3.out,F3.out⟩
   case measure=>omega
  ·obtain rfl:j=l.length:=by omega
   have HS:=hid (show ∀ y∈l.map (fun x=> -x),y.natAbs<=900000 by intro y hy;obtain ⟨z,hz,rfl⟩:=List.mem_map.1 hy;have:=HSM.out z hz;omega)
   go_wp2_with fail
   refine (aDm x L s (fun c=>c=w.heap.size) (l.map fun x=> -x) (some ⟨w.heap.size,0,none⟩) l.length l.length wr (by simp) (by intro hh;cases hh) (HD.out.keep K2.out) (fun b hb=>by subst hb;exact ⟨F2.out.lt,fun ho=>by have:=(HD.out.lt ho).2;omega⟩) (F2.out.nums (f:=fun x=> -x) (by omega)) (by simpa using hlen) hc hn HS.out).mono ?_
   rintro e w4 ⟨rfl,v4,c4,d4,t4⟩
   have D4:=hid d4
   have T4:=hid ((aF.keep K2.out).trans t4)
   have hr:=aOo hn HS.out
   have HR:Hid (s.allL l = -s.someL (l.map fun x=> -x)):=rfl
   have HSS:Hid (s.allS l=s.someS (l.map fun x=> -x)):=rfl
   generalize s.someL (l.map fun x=> -x)=r at hr HR ⊢
   have hr1 : -900000<=r:=by omega
   have hr2:r<=900000:=by omega
   clear d4 t4 hr
   go_wp2_with fail
   go_ret
   exact ⟨by rw [HR.out];rfl,v4,c4,HSS.out ▸ D4.out,T4.out⟩
theorem jC {w w':World} {g:Nat} (h:w.grownBy w' (some g)) {b o:Nat} (hb:b<w.heap.size) (hne:b≠g):w'.cell? ⟨b,o,none⟩=w.cell? ⟨b,o,none⟩:=World.cell?_of_block (w:=w) (h.block b hb (fun e=>hne (Option.some.inj e)))
theorem aLt (s:DS) (a b:Int):(s.allS [a,b]).n=s.n+1/\(s.allS [a,b]).pr=s.pr/\(s.allS [a,b]).cl.length=s.cl.length+3:=by simp [DS.allS,DS.someS]
theorem aLs (s:DS) (a b:Int):s.allL [a,b] = -((s.n:Int)+1):=by simp [DS.allL,DS.someL]
theorem aMf (x:DD) (L:Nat) (s:DS) (a b:Int) (w:World) (h:DM x L s w) (ha:a.natAbs<=900000) (hb:b.natAbs<=900000) (hc:s.cl.length<=500000) (hn:s.n<=500000) :
  Calls Tryz.prog 137 #[.pointer (some ⟨x.b,0,none⟩),.int .i64 a,.int .i64 b] w fun e w'=>e=.returned (.int .i64 (s.bothL a b))/\∃ v k c,DM (x.to v k c) L (s.bothS a b) w'/\aF x.own (x.to v k c).own w w':=by
 have HD:=hid h
 have hsa:SmP a:=by unfold SmP;omega
 have hsb:SmP b:=by unfold SmP;omega
 have und:Tryz.prog.underlying 132=some (.map 65 3):=Tryz.underlying132
 clear h
 go_enter Tryz.func137,Tryz.ntmps137
 go_upto_region 2 with fail
 refine bF (fun W'=>aA w W'/\aD w.heap.size 65 #[.int .i64 a,.int .i64 b] W') ⟨aA.alloc _ _,aD.new _ _ _⟩ ?_
 rintro W1 ⟨k1,b1⟩
 have K1:=hid k1
 have B1:=hid b1
 have D1:=hid (HD.out.keep k1)
 clear k1 b1
 have hb6:W1.cell? ⟨x.b,6,none⟩=some (.map (some x.g2)):=D1.out.cell 6
 have hbl:x.b<W1.heap.size:=D1.out.box.facts.2.2
 have hp0:W1.cell? ⟨w.heap.size,0,none⟩=some (.int .i64 a):=B1.out.facts.1 0
 have hp1:W1.cell? ⟨w.heap.size,1,none⟩=some (.int .i64 b):=B1.out.facts.1 1
 have hpl:=B1.out.facts.2.2
 have hlk : ∀ n,(Instr.lookup 132 (.map (some x.g2)) (.agg #[.int .i64 a,.int .i64 b]) false).run Tryz.prog (W1.drewN n)=.ok (.int .i64 (s.pr a b)) (W1.drewN n):=fun n=>(D1.out.keep ((aA.refl W1).drewN n)).pr.look und hsa hsb
 have HBS:Hid (s.bothS a b=if s.pr a b=0 then ⟨(s.allS [a,b]).n,(s.allS [a,b]).cl,fT s.pr a b (s.allL [a,b])⟩ else s):=rfl
 have HBL:Hid (s.bothL a b=if s.pr a b=0 then s.allL [a,b] else s.pr a b):=rfl
 generalize hpr:s.pr a b=pv at hlk HBS HBL
 by_cases h0:pv=0
 ·subst h0
  go_quiet (fail)
  have k2:aA W1 (W1.drewN nq):=(aA.refl W1).drewN nq
  generalize W1.drewN nq=W2 at k2 ⊢
  have D2:=hid (D1.out.keep k2)
  have K2:=hid (K1.out.trans k2)
  have hb6:W2.cell? ⟨x.b,6,none⟩=some (.map (some x.g2)):=(k2.cell (p:=⟨x.b,6,none⟩) hbl).trans hb6
  have hp0:W2.cell? ⟨w.heap.size,0,none⟩=some (.int .i64 a):=(k2.cell (p:=⟨w.heap.size,0,none⟩) hpl).trans hp0
  have hp1:W2.cell? ⟨w.heap.size,1,none⟩=some (.int .i64 b):=(k2.cell (p:=⟨w.heap.size,1,none⟩) hpl).trans hp1
  have hbl2:x.b<W2.heap.size:=D2.out.box.facts.2.2
  have hpl2:w.heap.size<W2.heap.size:=Nat.lt_of_lt_of_le hpl k2.size
  have HNO:=hid (show ¬ x.own w.heap.size from fun ho=>by have:=(HD.out.lt ho).2;omega)
  clear hlk k2 D1 B1 hbl hpl
  have HS:=hid (show W2.cell? ⟨x.b,6,none⟩=some (.map (some x.g2))/\W2.cell? ⟨w.heap.size,0,none⟩=some (.int .i64 a)/\W2.cell? ⟨w.heap.size,1,none⟩=some (.int .i64 b) from ⟨hb6,hp0,hp1⟩)
  have HSd:=hid (show W2.drew.cell? ⟨x.b,6,none⟩=some (.map (some x.g2))/\W2.drew.cell? ⟨w.heap.size,0,none⟩=some (.int .i64 a)/\W2.drew.cell? ⟨w.heap.size,1,none⟩=some (.int .i64 b) from ⟨hb6,hp0,hp1⟩)
  have HV:=hid (aLs s a b)
  have HAS:=hid (aLt s a b)
  go_upto_region 3 with fail
  go_region_held3 (fun W'=>W'.cell? ⟨x.b,6,none⟩=some (.map (some x.g2))/\W'.cell? ⟨w.heap.size,0,none⟩=some (.int .i64 a)/\W'.cell? ⟨w.heap.size,1,none⟩=some (.int .i64 b))
   (first | with_reducible exact HS.out | with_reducible exact HSd.out | with_reducible exact HS4.out | with_reducible exact HS5.out | go_keep)
   (first | (go_at_call 141;refine (aHb x L s (fun c=>c=W2.drew.heap.size) [a,b] _ 2 2 (W2.drew.alloc (.cells #[.int .i64 a,.int .i64 b] 3)) rfl (D2.out.keep ((aA.drew (aA.refl _)).alloc' _)) (fun c hc=>by rw [hc,aC];omega) (nI _ _ _) (by simp) hc hn (fun y hy=>by simp at hy;rcases hy with rfl | rfl<;>assumption)).mono ?_;rintro e w4 ⟨rfl,v4,c4,d4,t4⟩;have D4:=hid d4;have T4:=hid ((aF.keep ((aA.drew (aA.refl W2)).alloc' _)).trans t4);have HS4:=hid (show w4.cell? ⟨x.b,6,none⟩=some (.map (some x.g2))/\w4.cell? ⟨w.heap.size,0,none⟩=some (.int .i64 a)/\w4.cell? ⟨w.heap.size,1,none⟩=some (.int .i64 b) from ⟨d4.cell 6,(T4.out.cell ⟨w.heap.size,0,none⟩ hpl2 HNO.out).trans HS.out.2.1,(T4.out.cell ⟨w.heap.size,1,none⟩ hpl2 HNO.out).trans HS.out.2.2⟩);obtain ⟨w5,hrun5,hm5,hg5⟩:=d4.pr.put und hsa hsb (v:=s.allL [a,b]) (by rw [HV.out];unfold SmP;omega) (by have h1:=d4.np;rw [HAS.out.1] at h1;have:(x.to v4 x.np c4).np=x.np:=rfl;omega);have HS5:=hid (show w5.cell? ⟨x.b,6,none⟩=some (.map (some x.g2))/\w5.cell? ⟨w.heap.size,0,none⟩=some (.int .i64 a)/\w5.cell? ⟨w.heap.size,1,none⟩=some (.int .i64 b) from ⟨(jC hg5 (b:=x.b) (o:=6) d4.box.facts.2.2 d4.low.2.2).trans HS4.out.1,(jC hg5 (b:=w.heap.size) (o:=0) (Nat.lt_of_lt_of_le hpl2 T4.out.size) (fun e=>HNO.out (.inr (.inr (.inl e))))).trans HS4.out.2.1,(jC hg5 (b:=w.heap.size) (o:=1) (Nat.lt_of_lt_of_le hpl2 T4.out.size) (fun e=>HNO.out (.inr (.inr (.inl e))))).trans HS4.out.2.2⟩);have P5:=hid (d4.put hm5 (by have:=HD.out.np;rw [HAS.out.1];show x.np+1<=_;omega) hg5);have hrun6:(Instr.mapUpdate 132 (.map (some x.g2)) (.agg #[.int .i64 a,.int .i64 b]) (.int .i64 (s.allL [a,b]))).run Tryz.prog w4=.ok () w5:=hrun5;clear d4 t4 hm5 hg5 hrun5))
  have D5:Hid (DM (x.to v4 (x.np+1) c4) L ⟨(s.allS [a,b]).n,(s.allS [a,b]).cl,fT s.pr a b (s.allL [a,b])⟩ w5):=by
   have:=P5.out.1
   rw [HAS.out.2.1] at this
   exact this
  have T5:=hid ((aF.keep K2.out).trans (T4.out.trans P5.out.2))
  have hb6:w5.cell? ⟨x.b,6,none⟩=some (.map (some x.g2)):=HS5.out.1
  have hp0:w5.cell? ⟨w.heap.size,0,none⟩=some (.int .i64 a):=HS5.out.2.1
  have hp1:w5.cell? ⟨w.heap.size,1,none⟩=some (.int .i64 b):=HS5.out.2.2
  have hbl5:x.b<w5.heap.size:=D5.out.box.facts.2.2
  have hpl5:w.heap.size<w5.heap.size:=Nat.lt_of_lt_of_le hpl2 (T4.out.trans P5.out.2).size
  have hlk5 : ∀ n,(Instr.lookup 132 (.map (some x.g2)) (.agg #[.int .i64 a,.int .i64 b]) false).run Tryz.prog (w5.drewN n)=.ok (.int .i64 (s.allL [a,b])) (w5.drewN n):=fun n=>by
   have:=(D5.out.keep ((aA.refl w5).drewN n)).pr.look und hsa hsb
   have e:fT s.pr a b (s.allL [a,b]) a b=s.allL [a,b]:=by simp [fT]
   rw [← e];exact this
  clear hrun6 P5 HS5 HS4 HS HSd D4 T4 D2 hbl2 hpl2
  go_wp2_with fail
  go_quiet (fail)
  have k6:aA w5 (w5.drewN nq):=(aA.refl w5).drewN nq
  generalize w5.drewN nq=W6 at k6 ⊢
  have D6:=hid (D5.out.keep k6)
  have T6:=hid (T5.out.trans (aF.keep k6))
  clear k6
  go_wp2_with fail
  go_ret
  refine ⟨by rw [HBL.out];rfl,v4,x.np+1,c4,?_,T6.out⟩
  rw [HBS.out];exact D6.out
 ·have h0':(pv==0)=false:=by simpa using h0
  go_quiet (fail)
  have k2:aA W1 (W1.drewN nq):=(aA.refl W1).drewN nq
  generalize W1.drewN nq=W2 at k2 ⊢
  have K2:=hid (K1.out.trans k2)
  have hb6:W2.cell? ⟨x.b,6,none⟩=some (.map (some x.g2)):=(k2.cell (p:=⟨x.b,6,none⟩) hbl).trans hb6
  have hp0:W2.cell? ⟨w.heap.size,0,none⟩=some (.int .i64 a):=(k2.cell (p:=⟨w.heap.size,0,none⟩) hpl).trans hp0
  have hp1:W2.cell? ⟨w.heap.size,1,none⟩=some (.int .i64 b):=(k2.cell (p:=⟨w.heap.size,1,none⟩) hpl).trans hp1
  have hbl2:x.b<W2.heap.size:=Nat.lt_of_lt_of_le hbl k2.size
  have hpl2:w.heap.size<W2.heap.size:=Nat.lt_of_lt_of_le hpl k2.size
  have hlk2 : ∀ n,(Instr.lookup 132 (.map (some x.g2)) (.agg #[.int .i64 a,.int .i64 b]) false).run Tryz.prog (W2.drewN n)=.ok (.int .i64 pv) (W2.drewN n):=fun n=>by rw [← hpr];exact (D1.out.keep (k2.trans ((aA.refl W2).drewN n))).pr.look und hsa hsb
  clear hlk k2 hbl hpl
  go_wp2_with fail
  go_quiet (fail)
  have k3:aA W2 (W2.drewN nq):=(aA.refl W2).drewN nq
  generalize W2.drewN nq=W3 at k3 ⊢
  have K3:=hid (K2.out.trans k3)
  clear k3
  go_wp2_with fail
  go_ret
  refine ⟨by rw [HBL.out,if_neg h0];rfl,x.cv,x.np,x.cs,?_,aF.keep K3.out⟩
  rw [HBS.out,if_neg h0];exact HD.out.keep K3.out
end Go.Proofs.YthaaaecmeafofaaGreatDoor.Cn
namespace Go.Proofs.YthaaaecmeafofaaGreatDoor.Cn
def Bd (s:DS) (m c:Nat):Prop:=s.n<=m/\s.cl.length<=c/\∀ a b,(s.pr a b).natAbs<=m
theorem Bd.mono {s:DS} {m c m' c':Nat} (h:Bd s m c) (hm:m<=m') (hc:c<=c'):Bd s m' c':=⟨Nat.le_trans h.1 hm,Nat.le_trans h.2.1 hc,fun a b=>Nat.le_trans (h.2.2 a b) hm⟩
theorem Bd.clause {s:DS} {m c:Nat} (h:Bd s m c) (l:List Int):Bd (s.clause l) m (c+1):=⟨h.1,by have:=h.2.1;show (s.cl ++ [l]).length<=_;simp;omega,h.2.2⟩
theorem Bd.some {s:DS} {m c k:Nat} (h:Bd s m c) {l:List Int} (hl:l.length<=k):Bd (s.someS l) (m+1) (c+k+1):=by
 obtain ⟨h1,h2,h3⟩:=h
 unfold DS.someS
 split
 ·exact ⟨by omega,by omega,fun a b=>Nat.le_trans (h3 a b) (by omega)⟩
 ·exact ⟨by show s.n+1<=_;omega,by simp;omega,fun a b=>Nat.le_trans (h3 a b) (by omega)⟩
theorem Bd.someL {s:DS} {m c:Nat} (h:Bd s m c) {l:List Int} (hl : ∀ y∈l,y.natAbs<=m+1):(s.someL l).natAbs<=m+1:=by
 have:=h.1
 unfold DS.someL
 split
 ·rename_i h1
  obtain ⟨y,rfl⟩:=List.length_eq_one_iff.1 h1
  exact hl y List.mem_cons_self
 ·omega
theorem Bd.all {s:DS} {m c k:Nat} (h:Bd s m c) {l:List Int} (hl:l.length<=k):Bd (s.allS l) (m+1) (c+k+1):=h.some (by simpa using hl)
theorem Bd.allL {s:DS} {m c:Nat} (h:Bd s m c) {l:List Int} (hl : ∀ y∈l,y.natAbs<=m+1):(s.allL l).natAbs<=m+1:=by
 unfold DS.allL
 rw [Int.natAbs_neg]
 exact h.someL fun y hy=>by obtain ⟨z,hz,rfl⟩:=List.mem_map.1 hy;rw [Int.natAbs_neg];exact hl z hz
theorem Bd.both {s:DS} {m c:Nat} (h:Bd s m c) (a b:Int):Bd (s.bothS a b) (m+1) (c+3)/\(s.bothL a b).natAbs<=m+1:=by
 unfold DS.bothS DS.bothL
 by_cases h0:s.pr a b=0
 ·rw [if_pos h0,if_pos h0]
  have e:s.allL [a,b] = -((s.n:Int)+1):=by simp [DS.allL,DS.someL]
  have e2:(s.allS [a,b]).n=s.n+1/\(s.allS [a,b]).cl.length=s.cl.length+3:=by simp [DS.allS,DS.someS]
  have h1:=h.1
  have h2:=h.2.1
  refine ⟨⟨by show (s.allS [a,b]).n<=_;omega,by show (s.allS [a,b]).cl.length<=_;omega,fun p q=> ?_⟩,by rw [e];omega⟩
  show (fT s.pr a b (s.allL [a,b]) p q).natAbs<=_
  unfold fT
  split
  ·rw [e];omega
  ·exact Nat.le_trans (h.2.2 p q) (by omega)
 ·rw [if_neg h0,if_neg h0]
  exact ⟨h.mono (by omega) (by omega),Nat.le_trans (h.2.2 a b) (by omega)⟩
theorem aEf {but:Int} {nof:Bool} {tk fg:Int->Int} : ∀ (zs:List Int) (s:DS) (acc:List Int) (m c:Nat),Bd s m c->(∀ z∈zs,(tk z).natAbs<=m)->(∀ y∈acc,y.natAbs<=m)->
  Bd (zs.foldl (gY but nof tk fg) (s,acc)).1 (m+zs.length) (c+3*zs.length)/\(∀ y∈(zs.foldl (gY but nof tk fg) (s,acc)).2,y.natAbs<=m+zs.length)/\(zs.foldl (gY but nof tk fg) (s,acc)).2.length<=acc.length+zs.length
 | [],s,acc,m,c,h,_,ha=>⟨h,ha,by simp⟩
 | z :: zs,s,acc,m,c,h,ht,ha=>by
  rw [List.foldl_cons,List.length_cons]
  have hz:=ht z List.mem_cons_self
  have ht' : ∀ y∈zs,(tk y).natAbs<=m+1:=fun y hy=>Nat.le_trans (ht y (List.mem_cons_of_mem _ hy)) (by omega)
  have key : ∀ (s':DS) (acc':List Int),Bd s' (m+1) (c+3)->(∀ y∈acc',y.natAbs<=m+1)->acc'.length<=acc.length+1->Bd (zs.foldl (gY but nof tk fg) (s',acc')).1 (m+(zs.length+1)) (c+3*(zs.length+1))/\(∀ y∈(zs.foldl (gY but nof tk fg) (s',acc')).2,y.natAbs<=m+(zs.length+1))/\(zs.foldl (gY but nof tk fg) (s',acc')).2.length<=acc.length+(zs.length+1):=fun s' acc' h1 h2 h3=>by
   obtain ⟨i1,i2,i3⟩:=aEf zs s' acc' (m+1) (c+3) h1 ht' h2
   exact ⟨i1.mono (by omega) (by omega),fun y hy=>Nat.le_trans (i2 y hy) (by omega),by omega⟩
  have ha' : ∀ y∈acc,y.natAbs<=m+1:=fun y hy=>Nat.le_trans (ha y hy) (by omega)
  by_cases e:z=but
  ·have eF:gY but nof tk fg (s,acc) z=(s,acc):=by simp [gY,e]
   rw [eF];exact key s acc (h.mono (by omega) (by omega)) ha' (by omega)
  ·by_cases en:nof=true
   ·have eF:gY but nof tk fg (s,acc) z=(s,acc ++ [tk z]):=by simp [gY,e,en]
    rw [eF]
    refine key s (acc ++ [tk z]) (h.mono (by omega) (by omega)) (fun y hy=> ?_) (by simp)
    rcases List.mem_append.1 hy with hy | hy
    ·exact ha' y hy
    ·rw [List.mem_singleton.1 hy];omega
   ·have eF:gY but nof tk fg (s,acc) z=(s.bothS (tk z) (fg z),acc ++ [s.bothL (tk z) (fg z)]):=by simp [gY,e,en]
    rw [eF]
    obtain ⟨b1,b2⟩:=h.both (tk z) (fg z)
    refine key _ _ b1 (fun y hy=> ?_) (by simp)
    rcases List.mem_append.1 hy with hy | hy
    ·exact ha' y hy
    ·rw [List.mem_singleton.1 hy];exact b2
end Go.Proofs.YthaaaecmeafofaaGreatDoor.Cn
namespace Go.Proofs.YthaaaecmeafofaaGreatDoor.Cn
open Go.RowKit Go.Lib
theorem XF.other {x:XD} {B:Nat} {K:List Int} {F:List (List Int)} {w w':World} (h:XF x B K F w) (hs:w.heap.size<=w'.heap.size) (hb : ∀ b,x.all b->w'.heap[b]? = w.heap[b]?):XF x B K F w':=by
 refine ⟨h.xm.other hs fun b hb'=>hb b (.inl hb'),?_,h.xi,h.cl⟩
 have:=h.kb
 unfold aD at *
 rw [hb _ (.inr rfl)];exact this
structure SD where
 x:XD
 sb:Nat
 s:Nat
 mv:Value
 pv:Value
 P:List (List Int)
def SD.own (d:SD) (b:Nat):Prop:=d.x.all b∨b=d.sb∨d.pv.ownBlock=some b
def SD.box (d:SD):Array Value:=#[.int .i64 d.x.n,.pointer (some ⟨d.x.bx,0,none⟩),.int .i64 d.s,d.mv,d.pv]
def SD.far (d:SD) (N:Nat) (w:World) (b:Nat):Prop:=N<=b/\b<w.heap.size/\¬ d.own b
structure SrM (d:SD) (B N:Nat) (K:List Int) (F:List (List Int)) (w:World):Prop where
 box:aD d.sb 158 d.box w
 xf:XF d.x B K F w
 sx : ¬ d.x.all d.sb
 pr:oQ N (d.far N w) d.pv d.P w
 px : ∀ g,d.pv.ownBlock=some g->¬ d.x.all g/\g≠d.sb
 nw:N<=w.heap.size
theorem SrM.lt {d:SD} {B N:Nat} {K:List Int} {F:List (List Int)} {w:World} (h:SrM d B N K F w) {b:Nat} (hb:d.own b):b<w.heap.size:=by
 rcases hb with hb | rfl | hb
 ·exact h.xf.lt hb
 ·exact h.box.facts.2.2
 ·exact (h.pr.in hb).2
theorem SrM.keep {d:SD} {B N:Nat} {K:List Int} {F:List (List Int)} {w w':World} (h:SrM d B N K F w) (k:aA w w'):SrM d B N K F w':=
 ⟨h.box.keep k h.box.facts.2.2,h.xf.keep k,h.sx,h.pr.mono (fun g hg=>k.block g (h.pr.in hg).2) (fun b hb=>⟨k.block b hb.2.1,hb.1,Nat.lt_of_lt_of_le hb.2.1 k.size,hb.2.2⟩),h.px,Nat.le_trans h.nw k.size⟩
theorem SrM.from {d:SD} {B N:Nat} {K K':List Int} {F F':List (List Int)} {w w':World} {x':XD} (h:SrM d B N K F w) (hx:XF x' B K' F' w') (ht:aF d.x.all x'.all w w') (hn:x'.n=d.x.n) (hb:x'.bx=d.x.bx):SrM { d with x:=x' } B N K' F' w'/\aF d.own ({ d with x:=x' }:SD).own w w':=by
 have hsl:=h.box.facts.2.2
 have hne : ∀ b,b<w.heap.size->¬ d.x.all b->¬ x'.all b:=fun b hb hn e=>(ht.new b e).elim hn fun e=>by omega
 refine ⟨⟨?_,hx,hne _ hsl h.sx,?_,fun g hg=>⟨hne g (h.pr.in hg).2 (h.px g hg).1,(h.px g hg).2⟩,Nat.le_trans h.nw ht.size⟩,?_⟩
 ·have:=h.box.turn ht h.sx
  show aD d.sb _ #[.int .i64 x'.n,.pointer (some ⟨x'.bx,0,none⟩),.int .i64 d.s,d.mv,d.pv] w'
  rw [hn,hb];exact this
 ·exact h.pr.mono (fun g hg=>ht.block g (h.pr.in hg).2 (h.px g hg).1) fun b hb=>⟨ht.block b hb.2.1 fun e=>hb.2.2 (.inl e),hb.1,Nat.lt_of_lt_of_le hb.2.1 ht.size,fun e=>by
   rcases e with e | e | e
   ·exact hne b hb.2.1 (fun e=>hb.2.2 (.inl e)) e
   ·exact hb.2.2 (.inr (.inl e))
   ·exact hb.2.2 (.inr (.inr e))⟩
 ·refine ⟨ht.os,ht.tape,ht.output,ht.size,fun b hb hn=>ht.block b hb fun e=>hn (.inl e),fun b hb=> ?_⟩
  rcases hb with hb | hb | hb
  ·exact (ht.new b hb).imp .inl id
  ·exact .inl (.inr (.inl hb))
  ·exact .inl (.inr (.inr hb))
theorem SrM.put {d d':SD} {B N:Nat} {K:List Int} {F:List (List Int)} {w:World} (h:SrM d B N K F w) (o:Nat) (v:Value) (e:d.box.setIfInBounds o v=d'.box) (hx:d'.x=d.x) (hs:d'.sb=d.sb) (hp:d'.pv=d.pv) (hP:d'.P=d.P):SrM d' B N K F (w.setCell ⟨d.sb,o,none⟩ v)/\aF d.own d'.own w (w.setCell ⟨d.sb,o,none⟩ v):=by
 have hso : ∀ b,b≠d.sb->(w.setCell ⟨d.sb,o,none⟩ v).heap[b]? = w.heap[b]? :=fun b hb=>Below.heap_setCell _ _ _ _ (fun e=>hb e)
 have hsz:(w.setCell ⟨d.sb,o,none⟩ v).heap.size=w.heap.size:=by simp
 have hown:d'.own=d.own:=by unfold SD.own;rw [hx,hs,hp]
 refine ⟨⟨by rw [hs,← e];exact h.box.set o v,by rw [hx];exact h.xf.other (by rw [hsz];exact Nat.le_refl _) fun b hb=>hso b fun e=>h.sx (e ▸ hb),by rw [hx,hs];exact h.sx,?_,by rw [hx,hs,hp];exact h.px,by rw [hsz];exact h.nw⟩,by rw [hown];exact aF.set _ _ _ _ _ (.inr (.inl rfl))⟩
 rw [hp,hP]
 exact h.pr.mono (fun g hg=>hso g (h.px g hg).2) fun b hb=>⟨hso b fun e=>hb.2.2 (.inr (.inl e)),hb.1,by rw [hsz];exact hb.2.1,by rw [hown];exact hb.2.2⟩
theorem SrM.push {d:SD} {B N:Nat} {K:List Int} {F:List (List Int)} {w w5:World} (h:SrM d B N K F w) {vs:List Value} {u v':Value} {c:List Int} (hvl:vs.length=d.P.length) (hvn : ∀ (i:Nat) c x,d.P[i]? = some c->vs[i]? = some x->aH (d.far N w) w c x)
  (hu:aH (d.far N w) w c u) (hg:w.grownBy w5 d.pv.ownBlock) (ho:v'.ownBlock=d.pv.ownBlock∨∃ g,v'.ownBlock=some g/\w.heap.size<=g) (h5:w5.ownsRow N 153 1 v' (d.P.length+1) (vs ++ [u])) :
  SrM { d with pv:=v',P:=d.P ++ [c] } B N K F (w5.setCell ⟨d.sb,4,none⟩ v')/\aF d.own ({ d with pv:=v',P:=d.P ++ [c] }:SD).own w (w5.setCell ⟨d.sb,4,none⟩ v'):=by
 have hsl:=h.box.facts.2.2
 have hb : ∀ b,b<w.heap.size->d.pv.ownBlock≠some b->w5.heap[b]? = w.heap[b]? :=fun b hb hn=>hg.block b hb fun e=>hn e.symm
 have hso : ∀ b,b≠d.sb->(w5.setCell ⟨d.sb,4,none⟩ v').heap[b]? = w5.heap[b]? :=fun b hb=>Below.heap_setCell _ _ _ _ (fun e=>hb e)
 have hsz:(w5.setCell ⟨d.sb,4,none⟩ v').heap.size=w5.heap.size:=by simp
 have hown : ∀ b,({ d with pv:=v',P:=d.P ++ [c] }:SD).own b->d.own b∨w.heap.size<=b:=fun b e=>by
  rcases e with e | e | e
  ·exact .inl (.inl e)
  ·exact .inl (.inr (.inl e))
  ·rcases ho with ho | ⟨g,ho,hge⟩
   ·exact .inl (.inr (.inr (ho ▸ e)))
   ·have e2:v'.ownBlock=some b:=e
    rw [ho] at e2;have:=Option.some.inj e2;exact .inr (by omega)
 have hfar : ∀ b,d.far N w b->(w5.setCell ⟨d.sb,4,none⟩ v').heap[b]? = w.heap[b]? /\({ d with pv:=v',P:=d.P ++ [c] }:SD).far N (w5.setCell ⟨d.sb,4,none⟩ v') b:=fun b hf=>by
  refine ⟨?_,hf.1,?_,fun e=> ?_⟩
  ·rw [hso b fun e=>hf.2.2 (.inr (.inl e)),hb b hf.2.1 fun e=>hf.2.2 (.inr (.inr e))]
  ·rw [hsz];exact Nat.lt_of_lt_of_le hf.2.1 hg.size
  ·rcases hown b e with e | e
   ·exact hf.2.2 e
   ·have:=hf.2.1;omega
 have hpx : ∀ g,v'.ownBlock=some g->¬ d.x.all g/\g≠d.sb:=fun g hgv=>by
  rcases ho with ho | ⟨g',ho,hge⟩
  ·exact h.px g (ho ▸ hgv)
  ·rw [ho] at hgv
   have e:=Option.some.inj hgv
   exact ⟨fun e2=>by have:=h.xf.lt e2;omega,by omega⟩
 have hmn : ∀ c x,aH (d.far N w) w c x->aH (({ d with pv:=v',P:=d.P ++ [c] }:SD).far N (w5.setCell ⟨d.sb,4,none⟩ v')) (w5.setCell ⟨d.sb,4,none⟩ v') c x:=fun c x hx=>hx.mono (fun p hp=>World.cell?_of_block (w:=w) (hfar _ hp).1) fun b hb=>(hfar b hb).2
 refine ⟨⟨?_,?_,h.sx,?_,hpx,by rw [hsz];exact Nat.le_trans h.nw hg.size⟩,?_⟩
 ·have h6:aD d.sb 158 d.box w5:=by
   have:=h.box
   unfold aD at *
   rw [hb _ hsl fun e=>(h.px _ e).2 rfl];exact this
  exact h6.set 4 v'
 ·refine h.xf.other (by rw [hsz];exact hg.size) fun b hb'=> ?_
  rw [hso b fun e=>h.sx (e ▸ hb'),hb b (h.xf.lt hb') fun e=>(h.px b e).1 hb']
 ·refine ⟨vs ++ [u],by simp [hvl],?_,fun i c' x hc' hx=> ?_⟩
  ·have h6:=cM (w':=w5.setCell ⟨d.sb,4,none⟩ v') h5 fun g hgv=>hso g (hpx g hgv).2
   simpa using h6
  ·have hc'':(d.P ++ [c])[i]? = some c':=hc'
   by_cases hi:i<d.P.length
   ·rw [List.getElem?_append_left hi] at hc''
    rw [List.getElem?_append_left (by omega)] at hx
    exact hmn _ _ (hvn i c' x hc'' hx)
   ·have hi2:i=d.P.length:=by
     have:=(List.getElem?_eq_some_iff.1 hc'').1
     simp at this;omega
    subst hi2
    rw [List.getElem?_append_right (Nat.le_refl _),Nat.sub_self] at hc''
    rw [← hvl,List.getElem?_append_right (Nat.le_refl _),Nat.sub_self] at hx
    cases hc'';cases hx
    exact hmn _ _ hu
 ·refine ⟨hg.os,hg.tape,hg.output,by rw [hsz];exact hg.size,fun b hbl hn=> ?_,hown⟩
  rw [hso b fun e=>hn (.inr (.inl e)),hb b hbl fun e=>hn (.inr (.inr e))]
theorem mZ (S:Nat->Prop) (A:List Int) (av:Value) (w:World) (hS : ∀ b,S b->b<w.heap.size) (ha:aH S w A av) (hA:aL 1000 A) (hl:A.length<=60) :
  Calls Tryz.prog 151 #[av] w fun e w'=> ∃ v,e=.returned v/\aH (fun b=>w.heap.size<=b/\b<w'.heap.size) w' (bM A) v/\aA w w':=by
 obtain ⟨i0,hi,hz0,hz1,hz2⟩:=info_parts dG
 have HA:=hid ha
 have HL:=hid hA
 obtain ⟨ap,ac,rfl,hlen⟩:=ha.shape
 clear ha hA
 go_enter Tryz.func151,Tryz.ntmps151
 go_wp2_with (at_make;refine wpList_make_full _ rfl _ _ 153 rfl w.heap.size 3 i0 (.int .i64 0) 1 Tryz.underlying153 hi hz0 hz1 .i64 .i64 (A.length:Int) (A.length:Int) A.length rfl rfl rfl rfl (by rw [hz2];omega) (by unfold maxLen;omega) (Nat.le_refl _) ?_;intro w1 h1 h2;have K1:=hid (nR h2);have F1:=hid (dY.start (f:=fun x=> .int .i64 (-x)) (A:=A) (gD (v:= .int .i64 0) rfl h1));clear h1 h2)
 go_loopg [11] A.length (fun gk iv wr=> ∃ j:Nat,j+gk=A.length/\iv=.int .i64 j/\aA w wr/\dY (fun x=> .int .i64 (-x)) A j w.heap.size 3 wr)
 case atStart=>exact ⟨0,by omega,rfl,K1.out,F1.out⟩
 case round=>
  obtain ⟨j,hj,rfl,hk,hf⟩:=hrel
  have K2:=hid hk
  have F2:=hid hf
  clear hk hf
  by_cases hlt:j<A.length
  ·obtain ⟨cb,co,rfl,hcb,hcc⟩:=(HA.out.keep hS K2.out).nth hlt
   have hc1:=hcc j _ (List.getElem?_eq_getElem hlt)
   have hx:=HL.out A[j] (List.getElem_mem hlt)
   have HX:=hid (List.getElem?_eq_getElem hlt)
   have hbl:=Nat.lt_of_lt_of_le (hS cb hcb) K2.out.size
   obtain ⟨⟨v0,hv0⟩,hfr,hbl2⟩:=F2.out.cell hlt
   generalize A[j]=z at hc1 hx HX
   have hz1' : -1000<=z:=by have:=hx.2;omega
   have hz2':z<=1000:=by have:=hx.2;omega
   have hjI:(j:Int)<(A.length:Int):=by omega
   clear hcc hx
   have F3:=hid (F2.out.next HX.out)
   have K3:=hid (show aA w (wr.setCell ⟨w.heap.size,j,none⟩ (.int .i64 (-z))) from Below.trans K2.out (aM wr w.heap.size j _))
   go_wp2_with fail
   go_roundg (A.length-(j+1))
   case rel=>exact ⟨j+1,by omega,by go_num,K3.out,F3.out⟩
   case measure=>omega
  ·obtain rfl:j=A.length:=by omega
   go_wp2_with fail
   go_ret
   refine ⟨.slice (some ⟨w.heap.size,0,none⟩) A.length A.length,rfl,⟨_,A.length,by unfold bM;rw [List.length_map],by simp [bM];omega,fun _=>⟨w.heap.size,0,rfl,⟨Nat.le_refl _,F2.out.lt⟩,fun i x hx=> ?_⟩⟩,K2.out⟩
   rw [Nat.zero_add]
   unfold bM at hx
   rw [List.getElem?_map] at hx
   cases e:A[i]? with
   | none=>rw [e] at hx;cases hx
   | some y=>
    rw [e] at hx
    cases hx
    exact F2.out.all i y e
theorem aKa (S:Nat->Prop) (A:List Int) (av:Value) (w:World) (hS : ∀ b,S b->b<w.heap.size) (ha:aH S w A av) (hA:aL 1000 A) (hl:A.length<=1000) :
  Calls Tryz.prog 148 #[av] w fun e w'=> ∃ v,e=.returned v/\aZ (fun b=>w.heap.size<=b/\b<w'.heap.size) w' (A.map fun x=>decide (0<x)) v/\aA w w':=by
 obtain ⟨i0,hi,hz0,hz1,hz2⟩:=info_parts aMt
 have HA:=hid ha
 have HL:=hid hA
 obtain ⟨ap,ac,rfl,hlen⟩:=ha.shape
 clear ha hA
 go_enter Tryz.func148,Tryz.ntmps148
 go_wp2_with (at_make;refine wpList_make_full _ rfl _ _ 62 rfl w.heap.size 4 i0 (.bool false) 1 Tryz.underlying62 hi hz0 hz1 .i64 .i64 (A.length:Int) (A.length:Int) A.length rfl rfl rfl rfl (by rw [hz2];omega) (by unfold maxLen;omega) (Nat.le_refl _) ?_;intro w1 h1 h2;have K1:=hid (nR h2);have F1:=hid (dY.start (f:=fun x=> .bool (decide (0<x))) (A:=A) (gD (v:= .bool false) rfl h1));clear h1 h2)
 go_loopg [11] A.length (fun gk iv wr=> ∃ j:Nat,j+gk=A.length/\iv=.int .i64 j/\aA w wr/\dY (fun x=> .bool (decide (0<x))) A j w.heap.size 4 wr)
 case atStart=>exact ⟨0,by omega,rfl,K1.out,F1.out⟩
 case round=>
  obtain ⟨j,hj,rfl,hk,hf⟩:=hrel
  have K2:=hid hk
  have F2:=hid hf
  clear hk hf
  by_cases hlt:j<A.length
  ·obtain ⟨cb,co,rfl,hcb,hcc⟩:=(HA.out.keep hS K2.out).nth hlt
   have hc1:=hcc j _ (List.getElem?_eq_getElem hlt)
   have hx:=HL.out A[j] (List.getElem_mem hlt)
   have HX:=hid (List.getElem?_eq_getElem hlt)
   have hbl:=Nat.lt_of_lt_of_le (hS cb hcb) K2.out.size
   obtain ⟨⟨v0,hv0⟩,hfr,hbl2⟩:=F2.out.cell hlt
   generalize A[j]=z at hc1 hx HX
   have hjI:(j:Int)<(A.length:Int):=by omega
   clear hcc hx
   have F3:=hid (F2.out.next HX.out)
   have K3:=hid (show aA w (wr.setCell ⟨w.heap.size,j,none⟩ (.bool (decide (0<z)))) from Below.trans K2.out (aM wr w.heap.size j _))
   generalize hbz:decide (0<z)=bz at F3 K3
   have hbz':decide (z > 0)=bz:=hbz
   go_wp2_with fail
   go_roundg (A.length-(j+1))
   case rel=>exact ⟨j+1,by omega,by go_num,K3.out,F3.out⟩
   case measure=>omega
  ·obtain rfl:j=A.length:=by omega
   go_wp2_with fail
   go_ret
   refine ⟨.slice (some ⟨w.heap.size,0,none⟩) A.length A.length,rfl,⟨_,A.length,by rw [List.length_map],by simp;omega,fun _=>⟨w.heap.size,0,rfl,⟨Nat.le_refl _,F2.out.lt⟩,fun i x hx=> ?_⟩⟩,K2.out⟩
   rw [Nat.zero_add]
   rw [List.getElem?_map] at hx
   cases e:A[i]? with
   | none=>rw [e] at hx;cases hx
   | some y=>
    rw [e] at hx
    cases hx
    exact F2.out.all i y e
theorem qH (S:Nat->Prop) (l:List Int) (lv:Value) (k:Nat) (w:World) (hS : ∀ b,S b->b<w.heap.size) (hv:aH S w l lv) (hL:aL 1000 l) (hl:l.length<=1000) (hk:1<=k/\k<=1000) (h1 : ∀ (i:Nat) x,i<k-1->l[i]? = some x->x.natAbs=i+1) (h2:k-1<=l.length) (h3 : ∀ x,l[k-1]? = some x->x.natAbs≠k) :
  Calls Tryz.prog 150 #[lv] w fun e w'=>e=.returned (.int .i64 k)/\w'=w:=by
 have HA:=hid hv
 have HL:=hid hL
 have H1:=hid h1
 have H3:=hid h3
 obtain ⟨ap,ac,rfl,hlen⟩:=hv.shape
 clear hv hL h1 h3
 go_enter Tryz.func150,Tryz.ntmps150
 go_wp2_with fail
 go_loopg [2,7] l.length (fun gk rv iv wr=> ∃ j:Nat,j+gk=l.length/\j<=k-1/\rv=.int .i64 0/\iv=.int .i64 j/\wr=w)
 case atStart=>exact ⟨0,by omega,by omega,rfl,rfl,rfl⟩
 case round=>
  obtain ⟨j,hj,hjk,rfl,rfl,hw⟩:=hrel
  subst hw
  by_cases hlt:j<l.length
  ·obtain ⟨cb,co,rfl,hcb,hcc⟩:=HA.out.nth hlt
   have hc1:=hcc j _ (List.getElem?_eq_getElem hlt)
   have hx:=HL.out l[j] (List.getElem_mem hlt)
   have HX:=hid (List.getElem?_eq_getElem hlt)
   have hbl:=hS cb hcb
   generalize l[j]=z at hc1 hx HX
   have hz0:=hx.1
   have hz2:=hx.2
   have hjI:(j:Int)<(l.length:Int):=by omega
   have HG:=hid (show (j<k-1->z.natAbs=j+1)/\(j=k-1->z.natAbs≠k) from ⟨fun h=>H1.out j z h HX.out,fun h=>H3.out z (h ▸ HX.out)⟩)
   clear hcc hx
   by_cases hlk:j<k-1
   ·have hab:=HG.out.1 hlk
    have hm:max z (-z)=(j:Int)+1:=by omega
    go_wp2_with fail
    go_roundg (l.length-(j+1))
    case rel=>exact ⟨j+1,by omega,by omega,rfl,by go_num,rfl⟩
    case measure=>omega
   ·obtain rfl:j=k-1:=by omega
    have hab:=HG.out.2 rfl
    have hm:max z (-z)≠((k-1:Nat):Int)+1:=by omega
    go_wp2_with fail
    go_ret
    exact ⟨aJ (by omega),rfl⟩
  ·obtain rfl:j=l.length:=by omega
   have hk':(l.length:Int)+1=k:=by omega
   go_wp2_with fail
   go_ret
   exact ⟨aJ (by omega),rfl⟩
theorem lF {v v':Value} {w:World} (h:v'.ownBlock=v.ownBlock∨v'.ownBlock=some w.heap.size):v'.ownBlock=v.ownBlock∨∃ g,v'.ownBlock=some g/\w.heap.size<=g:=h.imp id fun h=>⟨_,h,Nat.le_refl _⟩
theorem nX {b:Nat} {T:TypeId} {v:Value} {w:World} (h:aE b T v w) : ∀ j u,[v][j]? = some u->w.cell? ((⟨b,0,none⟩:Addr).add j)=some u:=by
 intro j u hu
 cases j with
 | zero=>
  have:v=u:=by simpa using hu
  subst this
  have hadd:(⟨b,0,none⟩:Addr).add 0=⟨b,0,none⟩:=by unfold Addr.add;split<;>simp_all
  rw [hadd]
  exact h.facts.1
 | succ j=>simp at hu
theorem lK {P:Program} {md:Region.Mode} {ops:Array Oper} {Q:Exit->Act->World->Prop} {S:World->Prop} {fuel:Nat} {listed:Array Bool} {a:Act} {W:World} (R:World->Prop) (hR:R W) (h : ∀ W',R W'->wpAnyH P md ops Q S fuel listed a W'):wpAnyH P md ops Q S fuel listed a W:=h W hR
noncomputable def both (n:Nat) (F:List (List Int)) (g:Nat) (A:List Int) (k s:Nat) (P:List (List Int)):aLo:=
 match bY n F g (A ++ [-(k:Int)]) s P with
 | ⟨.closed,s1,P1⟩=>bY n F g (A ++ [(k:Int)]) s1 P1
 | r=>r
theorem lL {n:Nat} {F:List (List Int)} {g:Nat} {A:List Int} {k s:Nat} {P:List (List Int)} (h:(bY n F g (A ++ [-(k:Int)]) s P).o ≠ .closed):both n F g A k s P=bY n F g (A ++ [-(k:Int)]) s P:=by
 unfold both
 generalize bY n F g (A ++ [-(k:Int)]) s P=r at h ⊢
 obtain ⟨o,s1,P1⟩:=r
 cases o<;>first | rfl | exact absurd rfl h
theorem jW {n:Nat} {F:List (List Int)} {g:Nat} {A:List Int} {k s s1:Nat} {P P1:List (List Int)} (h:bY n F g (A ++ [-(k:Int)]) s P=⟨.closed,s1,P1⟩):both n F g A k s P=bY n F g (A ++ [(k:Int)]) s1 P1:=by
 unfold both;rw [h]
theorem aAb {n:Nat} {F:List (List Int)} {g:Nat} {A:List Int} {s:Nat} {P:List (List Int)} {k:Nat} (hs:s≠0) (h : ¬ bJ F A) (hl:iN n F A=some k) :
  ((both n F g A k (s-1) P).o ≠ .closed->bY n F (g+1) A s P=both n F g A k (s-1) P)/\((both n F g A k (s-1) P).o=.closed->bY n F (g+1) A s P=⟨.closed,(both n F g A k (s-1) P).s,(both n F g A k (s-1) P).P ++ [bM A]⟩):=by
 cases e1:bY n F g (A ++ [-(k:Int)]) (s-1) P with
 | mk o1 s1 P1=>
  cases o1 with
  | out=>rw [lL (by rw [e1];simp)];exact ⟨fun hc=>eD hs h hl hc,fun hc=>by rw [e1] at hc;cases hc⟩
  | model m=>rw [lL (by rw [e1];simp)];exact ⟨fun hc=>eD hs h hl hc,fun hc=>by rw [e1] at hc;cases hc⟩
  | closed=>
   rw [jW e1]
   refine ⟨fun hc=>dX hs h hl e1 hc,fun hc=> ?_⟩
   cases e2:bY n F g (A ++ [(k:Int)]) s1 P1 with
   | mk o2 s2 P2=>
    rw [e2] at hc
    cases hc
    exact oC hs h hl e1 e2
def aAs (d:SD) (B N:Nat) (K:List Int) (F:List (List Int)) (r:aLo) (w:World) (e:Ending) (w':World):Prop:=
 ∃ d':SD,d'.sb=d.sb/\d'.x.n=d.x.n/\d'.x.bx=d.x.bx/\aF d.own d'.own w w'/\
  ((r.o=.out/\e=.returned (.tuple #[.bool false,.int .i64 8]))∨(∃ m,r.o=.model m/\e=.returned (.tuple #[.bool false,.int .i64 0])/\SrM d' B N K F w'/\aZ (fun b=>N<=b/\b<w'.heap.size) w' m d'.mv)∨(r.o=.closed/\e=.returned (.tuple #[.bool true,.int .i64 0])/\SrM d' B N K F w'/\d'.s=r.s/\d'.P=r.P))
def tL (F:List (List Int)) (n g:Nat):Prop:= ∀ (d:SD) (B N:Nat) (K:List Int) (S:Nat->Prop) (A:List Int) (av:Value) (w:World),SrM d B N K F w->d.x.n=n->A.length+g=61->aH S w A av->(∀ b,S b->b<w.heap.size/\¬ d.own b)->aL n A->d.P.length+d.s<=40000->
 Calls Tryz.prog 103 #[.pointer (some ⟨d.sb,0,none⟩),av] w fun e w'=>aAs d B N K F (bY n F g A d.s d.P) w e w'
theorem aKt (F:List (List Int)) (n g:Nat) (hst:tL F n g) (d:SD) (B N:Nat) (K:List Int) (S:Nat->Prop) (A:List Int) (av:Value) (k:Nat) (w:World) (h:SrM d B N K F w) (hxn:d.x.n=n) (hg:A.length+1+g=61) (ha:aH S w A av) (hS : ∀ b,S b->b<w.heap.size/\¬ d.own b) (hA:aL n A) (hk:1<=k/\k<=n) (hn:n<=400) (hP:d.P.length+d.s<=40000) :
  Calls Tryz.prog 149 #[.pointer (some ⟨d.sb,0,none⟩),av,.int .i64 (k:Int)] w fun e w'=>aAs d B N K F (both n F g A k d.s d.P) w e w':=by
 obtain ⟨i0,hi,hz0,hz1,hz2⟩:=info_parts dG
 have ix0 : ∀ w:World,(Instr.index 65 (.agg #[.int .i64 (-1),.int .i64 1]) (.int .i64 0)).run Tryz.prog w=.ok (.int .i64 (-1)) w:=fun _=>by kernel_rfl
 have ix1 : ∀ w:World,(Instr.index 65 (.agg #[.int .i64 (-1),.int .i64 1]) (.int .i64 1)).run Tryz.prog w=.ok (.int .i64 1) w:=fun _=>by kernel_rfl
 have HST:=hid hst
 have HX:=hid h
 have HA:=hid ha
 have HLA:=hid hA
 have HS0:=hid hS
 have HPS:=hid hP
 have HXN:=hid hxn
 have hk1:=hk.1
 have hk2:=hk.2
 have hlit:Lit n (k:Int):=⟨by omega,by omega⟩
 have HLIT:=hid hlit
 obtain ⟨ap,ac,rfl,halen⟩:=ha.shape
 clear hst h ha hA hS hP hxn hk hlit
 go_enter Tryz.func149,Tryz.ntmps149
 go_wp2_with fail
 go_loopg [11] 2 (fun gk iv wr=> ∃ (i:Nat) (d1:SD),i+gk=2/\iv=.int .i64 (i:Int)/\SrM d1 B N K F wr/\aF d.own d1.own w wr/\(d1.sb=d.sb/\d1.x.n=d.x.n/\d1.x.bx=d.x.bx)/\((i=0/\d1=d)∨(i=1/\bY n F g (A ++ [-(k:Int)]) d.s d.P=⟨.closed,d1.s,d1.P⟩)∨(i=2/\both n F g A k d.s d.P=⟨.closed,d1.s,d1.P⟩)))
 case atStart=>exact ⟨0,d,rfl,rfl,HX.out,aF.refl _ _,⟨rfl,rfl,rfl⟩,.inl ⟨rfl,rfl⟩⟩
 case round=>
  obtain ⟨i,d1,hi',rfl,hx1,ht1,hid1,hcase⟩:=hrel
  have X1:=hid hx1
  have T1:=hid ht1
  have ID1:=hid hid1
  have hsb:d1.sb=d.sb:=hid1.1
  have HSB:=hid hsb
  clear hx1 ht1 hid1 hsb
  have N1:=hid (HA.out.turn T1.out HS0.out)
  have HS1:=hid (show ∀ b,S b->b<wr.heap.size/\¬ d1.own b from fun b hb=>⟨Nat.lt_of_lt_of_le (HS0.out b hb).1 T1.out.size,fun e=>(T1.out.new b e).elim (HS0.out b hb).2 fun e=>by have:=(HS0.out b hb).1;omega⟩)
  have HCL:=hid (lN S A ap ac wr (fun b hb=>(HS1.out b hb).1) N1.out (by omega))
  rcases hcase with ⟨rfl,hd⟩ | ⟨rfl,hs1⟩ | ⟨rfl,hb⟩
  ·have HD1:=hid hd
   clear hd
   have hgk:gk=2:=by omega
   clear hi'
   go_wp2_with fail
   refine HCL.out.mono ?_
   rintro e w2 ⟨v2,rfl,how2,k2⟩
   obtain ⟨p2,c2,hv2⟩:=how2.ints.len
   subst hv2
   have HOW2:=hid how2
   have K2:=hid k2
   clear how2 k2 HCL
   have hsz:=K2.out.size
   go_wp2_with (at_builtin;refine wpList_append_own_at _ rfl _ _ 37 rfl wr.heap.size 3 i0 (.int .i64 0) 1 8 Tryz.underlying37 hi hz0 hz1 hz2 rfl (by decide) (.slice p2 A.length c2) A.length (A.map (Value.int .i64)) rfl (HOW2.out.alloc _) ⟨w2.heap.size,0,none⟩ 1 1 [.int .i64 (-(k:Int))] rfl rfl dC dB (by unfold maxLen;omega) (by omega) (by have:=aC w2 (.cells #[.int .i64 (-(k:Int))] 3);omega) ?_;intro v5 w5 h1 h2 _ h4;have P5:=hid (gN K2.out.size HOW2.out h1 h2);obtain ⟨g5,cap5,rfl⟩:=aW h1 (Nat.succ_pos _);clear h1 h2 h4)
   have K5:=hid (Below.trans K2.out P5.out.2)
   have HL5:=hid (show aL n (A ++ [-(k:Int)]) from fun x hx=>by
    rcases List.mem_append.1 hx with hx | hx
    ·exact HLA.out x hx
    ·rw [List.mem_singleton.1 hx];exact HLIT.out.neg)
   have HN5:=hid (show aH (fun b=>(Value.slice (some ⟨g5,0,none⟩) (A.length+1) cap5).ownBlock=some b) w5 (A ++ [-(k:Int)]) (.slice (some ⟨g5,0,none⟩) (A.length+1) cap5) from P5.out.1.numsO)
   have HST5:=hid (HST.out d1 B N K (fun b=>(Value.slice (some ⟨g5,0,none⟩) (A.length+1) cap5).ownBlock=some b) (A ++ [-(k:Int)]) (.slice (some ⟨g5,0,none⟩) (A.length+1) cap5) w5 (X1.out.keep K5.out) (ID1.out.2.1.trans HXN.out) (by simp;omega) HN5.out (fun b hb=>by
    have h1:=bQ P5.out.1 hb
    exact ⟨h1.2,fun e=>by have:=X1.out.lt e;omega⟩) HL5.out (by rw [HD1.out];exact HPS.out))
   rw [HSB.out] at HST5
   go_wp2_with fail
   with_reducible refine HST5.out.mono ?_
   rintro e w6 ⟨d6,h61,h62,h63,ht6,hr6⟩
   have ID6:=hid (show d6.sb=d.sb/\d6.x.n=d.x.n/\d6.x.bx=d.x.bx from ⟨h61.trans HSB.out,h62.trans ID1.out.2.1,h63.trans ID1.out.2.2⟩)
   have T6:=hid (T1.out.trans ((aF.keep K5.out).trans ht6))
   clear h61 h62 h63 ht6 HST5
   rcases hr6 with ⟨h1,rfl⟩ | ⟨m,h1,rfl,h2,h3⟩ | ⟨h1,rfl,h2,h3,h4⟩
   ·have HB:=hid (lL (n:=n) (F:=F) (g:=g) (A:=A) (k:=k) (s:=d.s) (P:=d.P) (by rw [← HD1.out,h1];simp))
    have H1:=hid h1
    clear h1
    go_wp2_with fail
    refine bodyPost_ret (v:= .tuple #[.bool false,.int .i64 8]) ?_ rfl ?_
    ·simp [results,Tryz.results149,go_sem]
    ·exact ⟨d6,ID6.out.1,ID6.out.2.1,ID6.out.2.2,T6.out,.inl ⟨by rw [HB.out,← HD1.out];exact H1.out,rfl⟩⟩
   ·have HB:=hid (lL (n:=n) (F:=F) (g:=g) (A:=A) (k:=k) (s:=d.s) (P:=d.P) (by rw [← HD1.out,h1];simp))
    have H1:=hid (And.intro h1 (And.intro h2 h3))
    clear h1 h2 h3
    go_wp2_with fail
    refine bodyPost_ret (v:= .tuple #[.bool false,.int .i64 0]) ?_ rfl ?_
    ·simp [results,Tryz.results149,go_sem]
    ·exact ⟨d6,ID6.out.1,ID6.out.2.1,ID6.out.2.2,T6.out,.inr (.inl ⟨m,by rw [HB.out,← HD1.out];exact H1.out.1,rfl,H1.out.2.1,H1.out.2.2⟩)⟩
   ·have HCLO:=hid (show bY n F g (A ++ [-(k:Int)]) d.s d.P=⟨.closed,d6.s,d6.P⟩ by rw [h3,h4,← h1,HD1.out])
    have X6:=hid h2
    clear h1 h2 h3 h4
    go_wp2_with fail
    go_roundg 1
    case rel=>exact ⟨1,d6,by omega,by go_num,X6.out,T6.out,ID6.out,.inr (.inl ⟨rfl,HCLO.out⟩)⟩
    case measure=>omega
  ·have HS1E:=hid hs1
   have HP1:=hid (show d1.P.length+d1.s<=40000 from by
    have h1:=(hZ (n:=n) (F:=F) g _ _ _ _ _ (by simp;omega) (fun x hx=>by
     rcases List.mem_append.1 hx with hx | hx
     ·exact HLA.out x hx
     ·rw [List.mem_singleton.1 hx];exact HLIT.out.neg) hs1).few
    have:=HPS.out
    omega)
   clear hs1
   have hgk:gk=1:=by omega
   clear hi'
   go_wp2_with fail
   refine HCL.out.mono ?_
   rintro e w2 ⟨v2,rfl,how2,k2⟩
   obtain ⟨p2,c2,hv2⟩:=how2.ints.len
   subst hv2
   have HOW2:=hid how2
   have K2:=hid k2
   clear how2 k2 HCL
   have hsz:=K2.out.size
   go_wp2_with (at_builtin;refine wpList_append_own_at _ rfl _ _ 37 rfl wr.heap.size 3 i0 (.int .i64 0) 1 8 Tryz.underlying37 hi hz0 hz1 hz2 rfl (by decide) (.slice p2 A.length c2) A.length (A.map (Value.int .i64)) rfl (HOW2.out.alloc _) ⟨w2.heap.size,0,none⟩ 1 1 [.int .i64 ((k:Int))] rfl rfl dC dB (by unfold maxLen;omega) (by omega) (by have:=aC w2 (.cells #[.int .i64 ((k:Int))] 3);omega) ?_;intro v5 w5 h1 h2 _ h4;have P5:=hid (gN K2.out.size HOW2.out h1 h2);obtain ⟨g5,cap5,rfl⟩:=aW h1 (Nat.succ_pos _);clear h1 h2 h4)
   have K5:=hid (Below.trans K2.out P5.out.2)
   have HL5:=hid (show aL n (A ++ [(k:Int)]) from fun x hx=>by
    rcases List.mem_append.1 hx with hx | hx
    ·exact HLA.out x hx
    ·rw [List.mem_singleton.1 hx];exact HLIT.out)
   have HN5:=hid (show aH (fun b=>(Value.slice (some ⟨g5,0,none⟩) (A.length+1) cap5).ownBlock=some b) w5 (A ++ [(k:Int)]) (.slice (some ⟨g5,0,none⟩) (A.length+1) cap5) from P5.out.1.numsO)
   have HST5:=hid (HST.out d1 B N K (fun b=>(Value.slice (some ⟨g5,0,none⟩) (A.length+1) cap5).ownBlock=some b) (A ++ [(k:Int)]) (.slice (some ⟨g5,0,none⟩) (A.length+1) cap5) w5 (X1.out.keep K5.out) (ID1.out.2.1.trans HXN.out) (by simp;omega) HN5.out (fun b hb=>by
    have h1:=bQ P5.out.1 hb
    exact ⟨h1.2,fun e=>by have:=X1.out.lt e;omega⟩) HL5.out HP1.out)
   rw [HSB.out] at HST5
   go_wp2_with fail
   with_reducible refine HST5.out.mono ?_
   rintro e w6 ⟨d6,h61,h62,h63,ht6,hr6⟩
   have ID6:=hid (show d6.sb=d.sb/\d6.x.n=d.x.n/\d6.x.bx=d.x.bx from ⟨h61.trans HSB.out,h62.trans ID1.out.2.1,h63.trans ID1.out.2.2⟩)
   have T6:=hid (T1.out.trans ((aF.keep K5.out).trans ht6))
   clear h61 h62 h63 ht6 HST5
   rcases hr6 with ⟨h1,rfl⟩ | ⟨m,h1,rfl,h2,h3⟩ | ⟨h1,rfl,h2,h3,h4⟩
   ·have HB:=hid (jW HS1E.out)
    have H1:=hid h1
    clear h1
    go_wp2_with fail
    refine bodyPost_ret (v:= .tuple #[.bool false,.int .i64 8]) ?_ rfl ?_
    ·simp [results,Tryz.results149,go_sem]
    ·exact ⟨d6,ID6.out.1,ID6.out.2.1,ID6.out.2.2,T6.out,.inl ⟨by rw [HB.out];exact H1.out,rfl⟩⟩
   ·have HB:=hid (jW HS1E.out)
    have H1:=hid (And.intro h1 (And.intro h2 h3))
    clear h1 h2 h3
    go_wp2_with fail
    refine bodyPost_ret (v:= .tuple #[.bool false,.int .i64 0]) ?_ rfl ?_
    ·simp [results,Tryz.results149,go_sem]
    ·exact ⟨d6,ID6.out.1,ID6.out.2.1,ID6.out.2.2,T6.out,.inr (.inl ⟨m,by rw [HB.out];exact H1.out.1,rfl,H1.out.2.1,H1.out.2.2⟩)⟩
   ·have HCLO:=hid (show bY n F g (A ++ [(k:Int)]) d1.s d1.P=⟨.closed,d6.s,d6.P⟩ by rw [h3,h4,← h1])
    have X6:=hid h2
    clear h1 h2 h3 h4
    go_wp2_with fail
    go_roundg 0
    case rel=>exact ⟨2,d6,by omega,by go_num,X6.out,T6.out,ID6.out,.inr (.inr ⟨rfl,(jW HS1E.out).trans HCLO.out⟩)⟩
    case measure=>omega
  ·have HB:=hid hb
   have hgk:gk=0:=by omega
   clear hb hi' HCL
   go_wp2_with fail
   refine bodyPost_ret (v:= .tuple #[.bool true,.int .i64 0]) ?_ rfl ?_
   ·simp [results,Tryz.results149,go_sem]
   ·exact ⟨d1,ID1.out.1,ID1.out.2.1,ID1.out.2.2,T1.out,.inr (.inr ⟨by rw [HB.out],rfl,X1.out,by rw [HB.out],by rw [HB.out]⟩)⟩
end Go.Proofs.YthaaaecmeafofaaGreatDoor.Cn
