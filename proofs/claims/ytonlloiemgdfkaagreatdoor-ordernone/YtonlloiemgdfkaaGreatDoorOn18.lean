/- Steps of the proof: OrdNone. -/
import Derived.Test.YtonlloiemgdfkaaGreatDoorOn17
set_option maxHeartbeats 16000000
set_option maxRecDepth 100000
namespace Go.Proofs.YtonlloiemgdfkaaGreatDoor
open Go.RowKit Go.Sort
theorem nE {F:Nat} {cap:Array Value} (S:Nat->Prop) (ms:List AC) (g:AC->Bool) (lv:Value) (w:World) (hS : ∀ b,S b->b<w.heap.size)
  (hF : ∀ args w,(callFunc F args).run Tryz.prog w=.ok (.enter F args) w) (hm:cI S w ms lv)
  (hc : ∀ (j:Nat) (h:j<ms.length) (op:Option Addr) (oc:Nat) (W:World),aA w W->aK S W ms[j].m.on (.slice op ms[j].m.on.length oc)->Calls Tryz.prog F (#[.agg #[.bool ms[j].out,.int .i64 ms[j].m.pl,.slice op ms[j].m.on.length oc,.int .i64 ms[j].cy]]++cap) W fun e w'=>e=.returned (.bool (g ms[j]))/\aA W w') :
  Calls Tryz.prog 99 #[lv,.func (.func F) #[] cap] w fun e w'=> ∃ n:Int,e=.returned (.int .i64 n)/\decide (0<=n)=ms.any g/\aA w w':=by
 have HM:=hid hm
 have HC:=hid hc
 obtain ⟨lp,lc,rfl,hlen⟩:=hm.len
 clear hm hc
 go_enter Tryz.func99,Tryz.ntmps99
 go_wp2_with fail
 go_loopg [8] ms.length (fun gk i wr=> ∃ j:Nat,j+gk=ms.length/\i=.int .i64 j/\(ms.take j).any g=false/\aA w wr)
 case atStart=>exact ⟨0,by simp,rfl,by simp,aA.refl _⟩
 case round=>
  obtain ⟨j,hj,rfl,hno,hkp⟩:=hrel
  have HNO:=hid hno
  have HKP:=hid hkp
  clear hno hkp
  by_cases hlt:j<ms.length
  ·obtain ⟨mb,moff,mcap,hmv,hmS,-,hrow⟩:=(HM.out.keep hS HKP.out).get hlt
   cases hmv
   obtain ⟨op,oc,hc0,hc1,hc2,hc3,hon,hbl⟩:=hrow j _ (List.getElem?_eq_getElem hlt)
   have HCALL:=hid (HC.out j hlt op oc wr HKP.out hbl)
   clear hbl
   have HST:Hid ((ms.take (j+1)).any g=g ms[j]):=by
    show _=_
    rw [List.take_succ_eq_append_getElem hlt,List.any_append,HNO.out];simp
   have HUP:Hid (g ms[j]=true->ms.any g=true):=fun h=>List.any_eq_true.2 ⟨ms[j],List.getElem_mem hlt,h⟩
   generalize g ms[j]=β at HCALL HST HUP
   generalize ms[j]=m at hc0 hc1 hc2 hc3 hon HCALL
   clear hrow HNO
   go_wp2_with fail
   refine HCALL.out.mono ?_
   rintro e w1 ⟨rfl,k1⟩
   have K1:=hid (HKP.out.trans k1)
   clear k1 hc0 hc1 hc2 hc3 HCALL
   cases β
   ·go_wp2_with fail
    go_roundg (ms.length-(j+1))
    case rel=>exact ⟨j+1,by omega,by go_num,HST.out,K1.out⟩
    case measure=>omega
   ·go_wp2_with fail
    go_ret
    exact ⟨(j:Int),rfl,by rw [show ms.any g=true from HUP.out trivial];exact decide_eq_true (by omega),K1.out⟩
  ·obtain rfl:j=ms.length:=by omega
   go_wp2_with fail
   go_ret
   refine ⟨-1,rfl,?_,HKP.out⟩
   have:=HNO.out
   rw [List.take_length] at this
   rw [this];rfl
theorem jY {F:Nat} {cap:Array Value} (S:Nat->Prop) (ms:List AC) (g:AC->Bool) (lp:Option Addr) (k lc:Nat) (w:World) (hS : ∀ b,S b->b<w.heap.size)
  (hF : ∀ args w,(callFunc F args).run Tryz.prog w=.ok (.enter F args) w) (hm:cI S w ms (.slice lp k lc))
  (hc : ∀ (j:Nat) (h:j<ms.length) (op:Option Addr) (oc:Nat) (W:World),aA w W->aK S W ms[j].m.on (.slice op ms[j].m.on.length oc)->Calls Tryz.prog F (#[.agg #[.bool ms[j].out,.int .i64 ms[j].m.pl,.slice op ms[j].m.on.length oc,.int .i64 ms[j].cy]]++cap) W fun e w'=>e=.returned (.bool (g ms[j]))/\aA W w') :
  Calls Tryz.prog 41 #[.slice lp k lc,.func (.func F) #[] cap] w fun e w'=>e=.returned (.bool (ms.any g))/\aA w w':=by
 have HI:=hid (nE S ms g _ w hS hF hm hc)
 clear hm hc
 go_enter Tryz.func41,Tryz.ntmps41
 go_wp2_with fail
 refine HI.out.mono ?_
 rintro e w1 ⟨n,rfl,hn,k1⟩
 have HN:=hid hn
 have K1:=hid k1
 clear hn k1 HI
 go_wp2_with fail
 go_ret
 exact ⟨aF HN.out,K1.out⟩
theorem rS (args:Array Value) (w:World):(callFunc 42 args).run Tryz.prog w=.ok (.enter 42 args) w:=enters_of Tryz.func42 (by kernel_rfl) rfl args w
theorem xP (S:Nat->Prop) (x:AC) (m:MB) (p1 p2:Option Addr) (c1 c2 cm:Nat) (w:World) (hS : ∀ b,S b->b<w.heap.size) (h1:aK S w x.m.on (.slice p1 x.m.on.length c1)) (h2:aK S w m.on (.slice p2 m.on.length c2)) (hb:aH cm #[.int .i64 m.pl,.slice p2 m.on.length c2] w) :
  Calls Tryz.prog 42 #[.agg #[.bool x.out,.int .i64 x.m.pl,.slice p1 x.m.on.length c1,.int .i64 x.cy],.pointer (some ⟨cm,0,none⟩)] w fun e w'=>e=.returned (.bool (!x.out&&eqM x.m m))/\aA w w':=by
 have H1:=hid h1
 have H2:=hid h2
 have hbc:=hb.2
 have hbl:=hb.1
 clear h1 h2 hb
 rcases x with ⟨xo,⟨xp,xs⟩,xc⟩
 rcases m with ⟨mp,mo⟩
 simp only at H1 H2 hbc ⊢
 have HW:Hid (aA w (w.alloc (.cells #[.bool xo,.int .i64 xp,.slice p1 xs.length c1,.int .i64 xc] 81))):=aA.alloc _ _
 cases xo
 ·have HX:Hid ((!false&&eqM ⟨xp,xs⟩ ⟨mp,mo⟩)=eqM ⟨xp,xs⟩ ⟨mp,mo⟩):=rfl
  clear HW
  go_enter Tryz.func42,Tryz.ntmps42
  go_wp2_with fail
  refine bL (fun W'=>aA w W') (aA.alloc _ _) ?_
  intro W2 k2
  refine (jO S ⟨xp,xs⟩ ⟨mp,mo⟩ _ _ W2 (fun b hb=>Nat.lt_of_lt_of_le (hS b hb) k2.size) (H1.out.keep hS k2) (H2.out.keep hS k2)).mono ?_
  rintro e w3 ⟨β,rfl,hβ,k3⟩
  have K3:=hid (k2.trans k3)
  have HB:Hid (eqM ⟨xp,xs⟩ ⟨mp,mo⟩=β):=by
   show _=_
   rw [Bool.eq_iff_iff,hβ,qH]
  clear k2 k3 hβ hbc
  go_wp2_with fail
  go_ret
  exact ⟨aF (by rw [HX.out,HB.out]),K3.out⟩
 ·go_enter Tryz.func42,Tryz.ntmps42
  go_wp2_with fail
  go_ret
  exact ⟨rfl,HW.out⟩
theorem aAh (S:Nat->Prop) (w:World):bU S w [] (.slice none 0 0):=⟨_,_,rfl,by simp,fun h=>absurd h (by simp)⟩
theorem oX {ps:List PK} (h:dT ps=0):aZ ps []=0:=by
 unfold aZ;rw [if_neg (by simp [h])];rfl
theorem qS (S:Nat->Prop) (ps:List PK) (ms:List MB) (pv lv:Value) (w:World) (hS : ∀ b,S b->b<w.heap.size) (hp:aV S w ps pv) (hm:bU S w ms lv) (hE:Env w) (hM:eK w) :
  Calls Tryz.prog 7 #[.agg #[pv],lv] w fun e w'=>e=.returned (.bool true)/\aA w w':=by
 have HP:=hid hp
 have HM:=hid hm
 have HE:=hid hE
 have HMX:=hid hM
 obtain ⟨tp,tc,rfl,-⟩:=hp.len
 obtain ⟨lp,lc,rfl,hll⟩:=hm.len
 clear hp hm hE hM
 have hmf : ∀ (fn:Fn) (first cap:Array Value) (w:World),(Instr.makeFunc fn first cap).run Tryz.prog w=.ok (.func fn first cap) w:=fun _ _ _ _=>rfl
 go_enter Tryz.func7,Tryz.ntmps7
 go_upto_region 1 with fail
 refine bE (fun W'=>aA w W'/\aB w.heap.size 24 (.slice tp ps.length tc) W') ⟨aA.alloc _ _,aB.new _ _ _⟩ ?_
 rintro W1 ⟨k1,v1⟩
 have K1:=hid k1
 have V1:=hid v1
 generalize w.heap.size=b at V1 ⊢
 clear k1 v1
 obtain ⟨g0,-,l0⟩:=V1.out.facts
 go_wp2_with fail
 refine (kK S ps ms ms _ _ _ W1 (fun c hc=>Nat.lt_of_lt_of_le (hS c hc) K1.out.size) (HP.out.keep hS K1.out) (HM.out.keep hS K1.out) (HM.out.keep hS K1.out)).mono ?_
 rintro e W2 ⟨k2,hd⟩
 have hpe:eM ps ms ms=aZ ps ms:=by unfold eM;split<;>rfl
 rw [hpe,xU] at hd
 have K2:=hid (K1.out.trans k2)
 have V2:=hid (V1.out.keep k2 V1.out.facts.2.2)
 clear k2 g0 l0 V1 hpe
 have hd2 : ∃ (p:Option Addr) (c:Nat),e=.returned (.tuple #[.slice p 0 c,.int .i64 (aZ ps ms)]):=by
  rcases hd with ⟨-,rfl⟩ | ⟨hz,v,rfl,ha⟩
  ·exact ⟨_,_,rfl⟩
  ·obtain ⟨p,c,rfl,-⟩:=ha.len
   exact ⟨p,c,by rw [hz];rfl⟩
 obtain ⟨ap,ac,rfl⟩:=hd2
 clear hd
 obtain ⟨er,her⟩ : ∃ er,er=aZ ps ms:=⟨_,rfl⟩
 have HER:=hid her
 rw [← her]
 clear her
 go_wp2_with fail
 refine (eE W2 (HE.out.keep K2.out) (HMX.out.keep K2.out)).mono ?_
 rintro e W3 ⟨rfl,k3⟩
 have K3:=hid (K2.out.trans k3)
 have V3:=hid (V2.out.keep k3 V2.out.facts.2.2)
 clear k3 V2
 by_cases hz:er=0
 ·subst hz
  have HZ:Hid (aZ ps ms=0):=HER.out.symm
  have hct:=mM HZ.out
  have HPB:Hid (eM ps ms []=0):=by show _=_;unfold eM;rw [oX hct,HZ.out];rfl
  have HPC:Hid (eM ps [] ms=0):=by show _=_;unfold eM;rw [oX hct,HZ.out];rfl
  clear hct
  obtain ⟨g0,-,l0⟩:=V3.out.facts
  go_wp2_with fail
  refine (kK S ps ms [] _ _ _ W3 (fun c hc=>Nat.lt_of_lt_of_le (hS c hc) K3.out.size) (HP.out.keep hS K3.out) (HM.out.keep hS K3.out) (aAh _ _)).mono ?_
  rintro e W4 ⟨k4,hd4⟩
  rcases hd4 with ⟨h,-⟩ | ⟨-,bv,rfl,hb4⟩
  ·exact absurd HPB.out h
  rw [aAt] at hb4
  obtain ⟨bp,bc,hbv,-⟩:=hb4.len
  subst hbv
  rw [List.length_map] at hb4 ⊢
  have B4:=hid (hb4.mono (S':=fun c=>c<W4.heap.size) (fun _ _=>rfl) fun c hc=>hc.2)
  have K4:=hid (K3.out.trans k4)
  have V4:=hid (V3.out.keep k4 V3.out.facts.2.2)
  clear k4 hb4 g0 l0 V3
  obtain ⟨g0,-,l0⟩:=V4.out.facts
  go_wp2_with fail
  refine (kK S ps [] ms _ _ _ W4 (fun c hc=>Nat.lt_of_lt_of_le (hS c hc) K4.out.size) (HP.out.keep hS K4.out) (aAh _ _) (HM.out.keep hS K4.out)).mono ?_
  rintro e W5 ⟨k5,hd5⟩
  rcases hd5 with ⟨h,-⟩ | ⟨-,cv,rfl,hc5⟩
  ·exact absurd HPC.out h
  obtain ⟨hcl,hcin⟩:=aCd ps ms
  obtain ⟨cp,cc,hcv,-⟩:=hc5.len
  subst hcv
  rw [hcl] at hc5 ⊢
  have C5:=hid (hc5.mono (S':=fun c=>c<W5.heap.size) (fun _ _=>rfl) fun c hc=>hc.2)
  have B5:=hid (B4.out.mono (S':=fun c=>c<W5.heap.size) (fun p hp=>k5.cell (p:=p) hp) fun c hc=>Nat.lt_of_lt_of_le hc k5.size)
  have K5:=hid (K4.out.trans k5)
  have HCIN:=hid hcin
  have HCL:=hid hcl
  clear k5 hc5 g0 l0 V4 B4 hcin hcl
  generalize fU ps [] ms=cs at C5 HCIN HCL
  go_wp2_with fail
  go_loopg [66] ms.length (fun gk iv wr=> ∃ j:Nat,j+gk=ms.length/\iv=.int .i64 j/\aA W5 wr)
  case atStart=>exact ⟨0,by omega,rfl,aA.refl _⟩
  case round=>
   obtain ⟨j,hj,rfl,hk⟩:=hrel
   have HK:=hid hk
   clear hk
   by_cases hlt:j<ms.length
   ·have hSr : ∀ c,c<W5.heap.size->c<wr.heap.size:=fun c hc=>Nat.lt_of_lt_of_le hc HK.out.size
    have HMR:=hid ((HM.out.keep hS (K5.out.trans HK.out)).mono (S':=fun c=>c<W5.heap.size) (fun _ _=>rfl) fun c hc=>Nat.lt_of_lt_of_le (hS c hc) K5.out.size)
    have HBR:=hid (B5.out.mono (fun p hp=>HK.out.cell (p:=p) hp) fun _ h=>h)
    obtain ⟨mb,moff,mcap,hmv,hmS,-,hrow⟩:=HMR.out.get hlt
    cases hmv
    obtain ⟨op,oc,hc0,hc1,hol,hbl⟩:=hrow j _ (List.getElem?_eq_getElem hlt)
    have HBL:=hid hbl
    have hltm:j<(ms.map fun m=>(⟨true,m,0⟩:AC)).length:=by simpa using hlt
    obtain ⟨bb,boff,bcap,hbv,hbS,-,hrowb⟩:=HBR.out.get hltm
    rw [List.length_map] at hbv
    cases hbv
    obtain ⟨op2,oc2,d0,d1,d2,-,-,hbl2⟩:=hrowb j ⟨true,ms[j],0⟩ (by rw [List.getElem?_map,List.getElem?_eq_getElem hlt];rfl)
    have HBL2:=hid hbl2
    have HHAS:Hid ((cs.any fun x=> !x.out&&eqM x.m ms[j])=true):=by
     show _=_
     obtain ⟨x,hx,h1,h2⟩:=HCIN.out ms[j] (List.getElem_mem hlt)
     exact List.any_eq_true.2 ⟨x,hx,by rw [h1,h2,qH.2 rfl];rfl⟩
    simp only at d0 d1 d2 HBL2
    generalize ms[j]=m at hc0 hc1 hol HBL d1 d2 HBL2 HHAS
    have hmb:=hSr mb hmS
    have hbb:=hSr bb hbS
    clear hrow hrowb hbl hbl2
    go_upto_region 11 with fail
    refine bE (fun W'=>aA wr W'/\aH wr.heap.size #[.int .i64 m.pl,.slice op m.on.length oc] W') ⟨aA.alloc _ _,aH.new _ _ _⟩ ?_
    rintro W6 ⟨k6,b6⟩
    have K6:=hid k6
    have X6:=hid b6
    have K56:=hid (HK.out.trans k6)
    have hS6 : ∀ c,c<W5.heap.size->c<W6.heap.size:=fun c hc=>Nat.lt_of_lt_of_le (hSr c hc) k6.size
    clear k6 b6 hc0 hc1
    generalize wr.heap.size=cm at X6 ⊢
    have cb : ∀ (d:Nat) (os:Array Obj) (o:Nat) (x:Value),wr.cell? ⟨bb,o,none⟩=some x->(grow (redrawn W6 d) os).cell? ⟨bb,o,none⟩=some x:=fun d os o x hx=>((below_regrown W6 d os).cell (p:=⟨bb,o,none⟩) (hS6 bb hbS)).trans ((K6.out.cell (p:=⟨bb,o,none⟩) hbb).trans hx)
    have e0:=fun d os=>cb d os _ _ d0
    have e1:=fun d os=>cb d os _ _ d1
    have e2:=fun d os=>cb d os _ _ d2
    have em : ∀ o d os,(grow (redrawn W6 d) os).cell? ⟨cm,o,none⟩=(#[.int .i64 m.pl,.slice op m.on.length oc]:Array Value)[o]? :=fun o d os=>(X6.out.keep (below_regrown W6 d os) X6.out.1).2 o
    have cSame:=hid (show ∀ d os,Calls Tryz.prog 40 #[.agg #[.int .i64 m.pl,.slice op2 m.on.length oc2],.agg #[.int .i64 m.pl,.slice op m.on.length oc]] (grow (redrawn W6 d) os) fun e w''=>e=.returned (.bool true)/\∃ p:Regrown,w''=grow (redrawn W6 p.d) p.os from fun d os=>by
     refine Calls.regrown_of ((jO (fun c=>c<W5.heap.size) m m _ _ _ (fun c hc=>Nat.lt_of_lt_of_le (hS6 c hc) (below_regrown W6 d os).size) (HBL2.out.keep hSr (K6.out.trans (below_regrown W6 d os))) (HBL.out.keep hSr (K6.out.trans (below_regrown W6 d os)))).mono ?_)
     rintro e w' ⟨β,rfl,hβ,k⟩
     exact ⟨by rw [hβ.2 rfl],k⟩)
    have cHas:=hid (show ∀ d os,Calls Tryz.prog 41 #[.slice cp ms.length cc,.func (.func 42) #[] #[.pointer (some ⟨cm,0,none⟩)]] (grow (redrawn W6 d) os) fun e w''=>e=.returned (.bool true)/\∃ p:Regrown,w''=grow (redrawn W6 p.d) p.os from fun d os=>by
     have kk:=K56.out.trans (below_regrown W6 d os)
     have:=jY (fun c=>c<W5.heap.size) cs (fun x=> !x.out&&eqM x.m m) cp ms.length cc (grow (redrawn W6 d) os) (fun c hc=>Nat.lt_of_lt_of_le (hS6 c hc) (below_regrown W6 d os).size) rS (C5.out.mono (fun p hp=>kk.cell (p:=p) hp) fun _ h=>h) (cap:=#[.pointer (some ⟨cm,0,none⟩)]) (fun i hi op' oc' W kW hbW=>xP (fun c=>c<W5.heap.size) cs[i] m op' op oc' oc cm W (fun c hc=>Nat.lt_of_lt_of_le (Nat.lt_of_lt_of_le (hS6 c hc) (below_regrown W6 d os).size) kW.size) hbW (HBL.out.keep hSr (K6.out.trans (aA.trans (show aA W6 _ from below_regrown W6 d os) kW))) (X6.out.keep (aA.trans (show aA W6 _ from below_regrown W6 d os) kW) X6.out.1))
     rw [HHAS.out] at this
     exact Calls.regrown_of this)
    clear d0 d1 d2 cb
    refine wp_region_quiet_below (by kernel_rfl) (by kernel_rfl) ?_
    repeat (first | go_big_quiet_step (first | exact cSame.out _ _ | exact cHas.out _ _) | quiet_step (first | exact cSame.out _ _ | exact cHas.out _ _))
    refine wpQuiet_nil ?_
    intro _ hw'
    obtain ⟨⟨dq,osq⟩,hw''⟩:=hw'
    subst hw''
    have k7:=below_regrown W6 dq osq
    generalize grow (redrawn W6 dq) osq=W7 at k7 ⊢
    have K7:=hid (K56.out.trans k7)
    clear e0 e1 e2 em cSame cHas k7
    go_wp2_with fail
    go_roundg (ms.length-(j+1))
    case rel=>exact ⟨j+1,by omega,by go_num,K7.out⟩
    case measure=>omega
   ·have KF:=hid (K5.out.trans HK.out)
    go_wp2_with fail
    go_ret
    exact ⟨rfl,KF.out⟩
 ·have ha1:(er==0)=false:=by simpa using hz
  have ha2:(er != 0)=true:=by simp [bne,ha1]
  clear hz
  go_wp2_with fail
  refine (eE W3 (HE.out.keep K3.out) (HMX.out.keep K3.out)).mono ?_
  rintro e W4 ⟨rfl,k4⟩
  have K4:=hid (K3.out.trans k4)
  clear k4
  go_wp2_with fail
  go_ret
  exact ⟨rfl,K4.out⟩
end Go.Proofs.YtonlloiemgdfkaaGreatDoor
