/- Steps of the proof. -/
import Derived.Test.YthjlcjdlelkkdaaGreatDoorRs05
set_option maxHeartbeats 16000000
set_option maxRecDepth 100000
namespace Go.Proofs.YthjlcjdlelkkdaaGreatDoor
open Go.RowKit Go.Sort
theorem kK.len{S:Nat->Prop}{w:World}{ts:List At}{v:Value}(h:kK S w ts v):∃p cap,v=.slice p ts.length cap/\ts.length<=9223372036854775807:=by
 obtain⟨p,cap,h1,h2,-⟩:=h;exact⟨p,cap,h1,h2⟩
theorem kK.get{S:Nat->Prop}{w:World}{ts:List At}{p:Option Addr}{n cap:Nat}(h:kK S w ts (.slice p n cap)){k:Nat}(hk:k<ts.length):∃b off,p=some ⟨b,off,none⟩/\S b/\
  w.cell? ⟨b,off+k*6,none⟩=some (.string ts[k].n)/\w.cell? ⟨b,off+k*6+1,none⟩=some (.int .i64 ts[k].op)/\w.cell? ⟨b,off+k*6+2,none⟩=some (.int .i64 ts[k].v)/\w.cell? ⟨b,off+k*6+3,none⟩=some (.int .i64 ts[k].sl)/\w.cell? ⟨b,off+k*6+4,none⟩=some (.string ts[k].f)/\w.cell? ⟨b,off+k*6+5,none⟩=some (.bool ts[k].on):=by
 obtain⟨p',a0,e,-,h3⟩:=h;cases e;obtain⟨b,off,rfl,h5,h6⟩:=h3 (by omega);exact⟨b,off,rfl,h5,h6 k _ (Q9 hk)⟩
theorem aI.len{S:Nat->Prop}{w:World}{zs:List Int}{v:Value}(h:aI S w zs v):∃p cap,v=.slice p zs.length cap/\zs.length<=9223372036854775807:=by
 obtain⟨p,cap,h1,h2,-⟩:=h;exact⟨p,cap,h1,h2⟩
theorem aI.get{S:Nat->Prop}{w:World}{zs:List Int}{p:Option Addr}{n cap:Nat}(h:aI S w zs (.slice p n cap))(hk:0<zs.length):∃b off,p=some ⟨b,off,none⟩/\S b/\∀j,j<zs.length->w.cell? ⟨b,off+j,none⟩=some (.int .i64 (zs.getD j 0)):=by
 obtain⟨p',a0,e,-,h3⟩:=h;cases e;obtain⟨b,off,rfl,h5,h6⟩:=h3 (by omega);refine⟨b,off,rfl,h5,fun j hj=>?_⟩;rw[R0,Q9 hj,Q7];exact h6 j _ (Q9 hj)
theorem gT.len{S:Nat->Prop}{w:World}{zs:List (Int × Int)}{v:Value}(h:gT S w zs v):∃p cap,v=.slice p zs.length cap/\zs.length<=9223372036854775807:=by
 obtain⟨p,cap,h1,h2,-⟩:=h;exact⟨p,cap,h1,h2⟩
theorem gT.get{S:Nat->Prop}{w:World}{zs:List (Int × Int)}{p:Option Addr}{n cap:Nat}(h:gT S w zs (.slice p n cap))(hk:0<zs.length):∃b off,p=some ⟨b,off,none⟩/\S b/\∀j,j<zs.length->w.cell? ⟨b,off+j*2,none⟩=some (.int .i64 (zs.getD j (0,0)).1)/\w.cell? ⟨b,off+j*2+1,none⟩=some (.int .i64 (zs.getD j (0,0)).2):=by
 obtain⟨p',a0,e,-,h3⟩:=h;cases e;obtain⟨b,off,rfl,h5,h6⟩:=h3 (by omega);refine⟨b,off,rfl,h5,fun j hj=>?_⟩;rw[R0,Q9 hj,Q7];exact h6 j _ (Q9 hj)
theorem aFy(S:Nat->Prop)(ts:List At)(v:Value)(w:World)(hS:∀b,S b->b<w.heap.size)(h:kK S w ts v):
  Calls Tryz.prog 38 #[v] w fun e w'=>e=.returned (.int .i64 (taE ts))/\aA w w':=by
 have H:=hid h;obtain⟨p,cap,rfl,a7⟩:=h.len;clear h;by_cases h6:6<ts.length
 ·have a6:(6:Int)<(ts.length:Int):=by omega
  have HX:Hid (taE ts=2):=by show _=_;unfold taE;rw[if_pos h6]
  go_enter Tryz.func38,Tryz.ntmps38;go_wp2_with fail;go_ret;exact⟨aD HX.out.symm,aA.refl _⟩
 ·have a6:¬(6:Int)<(ts.length:Int):=by omega
  have HX:Hid (taE ts=aM (fun k=>fQ (ts.getD k At.zero)) 0 ts.length):=by show _=_;unfold taE;rw[if_neg h6]
  generalize hg:(fun k=>fQ (ts.getD k At.zero))=g at HX;have HG:=hid hg;clear hg;go_enter Tryz.func38,Tryz.ntmps38;go_wp2_with fail;go_loopg [11] ts.length (fun gk i wr=> ∃j:Nat,j+gk=ts.length/\i=.int .i64 j/\aM g 0 ts.length=aM g j (ts.length-j)/\aA w wr);case atStart=>exact⟨0,by simp,rfl,rfl,aA.refl _⟩
  case round=>
   obtain⟨j,hj,rfl,he,a3⟩:=hrel;have a0:=hid he;have HK:=hid a3;clear he a3;by_cases hlt:j<ts.length
   ·obtain⟨b,off,hp,a8,c0,c1,c2,c3,c4,c5⟩:=(H.out.keep hS HK.out).get hlt;subst hp;have a1:=hid (dO (f:=g) hlt);have a2:Hid (g j=fQ ts[j]):=by show _=_;rw[<-HG.out];show fQ (ts.getD j At.zero)=_;rw[R0,Q9 hlt,Q7]
    generalize ts[j]=a at c0 c1 c2 c3 c4 c5 a2;go_wp2_with fail;refine bK (fun W'=>aA w W') (HK.out.alloc' _) ?_;intro W0 k0;refine (oQ a.n a.f a.op a.v a.sl a.on W0).mono ?_;rintro e w1 ⟨rfl,k1⟩;have K1:=hid (k0.trans k1);rw[show chk a.n.data.toList a.op a.v a.sl a.f.data.toList a.on=g j from a2.out.symm];clear k0 k1 c0 c1 c2 c3 c4 c5;by_cases hz:g j=0
    ·have HZ:=hid hz;have a4:(g j==0)=true:=by simp[hz]
     have a5:(g j != 0)=false:=by simp[hz]
     clear hz;go_wp2_with fail;go_roundg (ts.length-(j+1));case rel=>exact⟨j+1,by omega,by go_num,by rw[a0.out,a1.out,if_pos HZ.out],K1.out⟩
     case measure=>omega
    ·have HZ:=hid hz;have a4:(g j==0)=false:=by simp[hz]
     have a5:(g j != 0)=true:=by simp[hz]
     clear hz;go_wp2_with fail;go_ret;exact⟨aD (by rw[HX.out,a0.out,a1.out,if_neg HZ.out]),K1.out⟩
   ·go_wp2_with fail;go_ret;exact⟨aD (by rw[HX.out,a0.out,show ts.length-j=0 by omega];rfl),HK.out⟩
theorem aHs(S:Nat->Prop)(ps:List PK)(ma:List Int)(tv v:Value)(w:World)(hS:∀b,S b->b<w.heap.size)(hp:aZ S w ps tv)(h:aI S w ma v):
  Calls Tryz.prog 39 #[.agg #[tv],v] w fun e w'=>e=.returned (.int .i64 (aM (maE ps ma) 0 ma.length))/\aA w w':=by
 have H:=hid h;obtain⟨tp,tc,rfl,a6⟩:=hp.len;obtain⟨p,cap,rfl,b0⟩:=h.len;clear h hp;go_enter Tryz.func39,Tryz.ntmps39;go_wp2_with fail;go_loopg [9] ma.length (fun gk i wr=> ∃j:Nat,j+gk=ma.length/\i=.int .i64 j/\aM (maE ps ma) 0 ma.length=aM (maE ps ma) j (ma.length-j)/\aA w wr/\aE w.heap.size 24 (.slice tp ps.length tc) wr);case atStart=>exact⟨0,by simp,rfl,rfl,aA.alloc _ _,aE.new _ _ _⟩
 case round=>
  obtain⟨j,hj,rfl,he,a9,a5⟩:=hrel;have a3:=hid he;have HK:=hid a9;have HV:=hid a5;obtain⟨b3,-,b5⟩:=a5.facts;clear he a9 a5;by_cases hlt:j<ma.length
  ·obtain⟨b,off,hp,b4,hc⟩:=(H.out.keep hS HK.out).get (by omega);subst hp;have a7:=hc j hlt;have a4:=hid (dO (f:=maE ps ma) hlt);have a1:Hid (maE ps ma j=if ma.getD j 0<0\/(ps.length:Int)<=ma.getD j 0 then 5 else if 0<j/\ma.getD j 0<=ma.getD (j-1) 0 then 6 else 0):=rfl;have a0:0<j->wr.cell? ⟨b,off+(j-1),none⟩=some (.int .i64 (ma.getD (j-1) 0)):=fun h0=>hc (j-1) (by omega);generalize ma.getD j 0=x at a7 a1;generalize ma.getD (j-1) 0=y at a0 a1;clear hc;by_cases h0:x<0
   ·have HY:Hid (maE ps ma j=5):=by show _=_;rw[a1.out,if_pos (Or.inl h0)]
    clear a1 a0;go_wp2_with fail;go_ret;exact⟨aD (by rw[a3.out,a4.out,HY.out];rfl),HK.out⟩
   by_cases h1:(ps.length:Int)<=x
   ·have HY:Hid (maE ps ma j=5):=by show _=_;rw[a1.out,if_pos (Or.inr h1)]
    clear a1 a0;go_wp2_with fail;go_ret;exact⟨aD (by rw[a3.out,a4.out,HY.out];rfl),HK.out⟩
   have a2:Hid (maE ps ma j=if 0<j/\x<=y then 6 else 0):=by show _=_;rw[a1.out,if_neg (by omega)]
   clear a1;by_cases hj0:0<j
   ·have a8:=a0 hj0;obtain⟨m,rfl⟩:∃m,j=m+1:=⟨j-1,by omega⟩;have b1:wr.cell? ⟨b,off+m,none⟩=some (.int .i64 y):=a8;have b2:(0:Int)<((m+1:Nat):Int):=by omega
    have hd:decide ((0:Int)<((m+1:Nat):Int))=true:=Y7 b2;have e1:((m+1:Nat):Int)-1=(m:Int):=by omega
    have hm:m<ma.length:=by omega
    clear a0 a8;by_cases hle:x<=y
    ·have HY:Hid (maE ps ma (m+1)=6):=by show _=_;rw[a2.out,if_pos ⟨by omega,hle⟩]
     clear a2;go_wp2_with fail;go_ret;exact⟨aD (by rw[a3.out,a4.out,HY.out];rfl),HK.out⟩
    ·have HY:Hid (maE ps ma (m+1)=0):=by show _=_;rw[a2.out,if_neg (fun h=>hle h.2)]
     clear a2;go_wp2_with fail;go_roundg (ma.length-(m+1+1));case rel=>exact⟨m+1+1,by omega,by go_num,by rw[a3.out,a4.out,HY.out];rfl,HK.out,HV.out⟩
     case measure=>omega
   ·have HY:Hid (maE ps ma j=0):=by show _=_;rw[a2.out,if_neg (fun h=>hj0 h.1)]
    obtain rfl:j=0:=by omega
    rw[Nat.add_zero] at a7;clear a2 a0;go_wp2_with fail;go_roundg (ma.length-(0+1));case rel=>exact⟨0+1,by omega,by go_num,by rw[a3.out,a4.out,HY.out];rfl,HK.out,HV.out⟩
    case measure=>omega
  ·go_wp2_with fail;go_ret;exact⟨aD (by rw[a3.out,show ma.length-j=0 by omega];rfl),HK.out⟩
def xQ(x y:Int × Int):Bool:=if x.1=y.1 then decide (y.2<x.2) else decide (y.1<x.1)
theorem aCs(x0 x1 y0 y1:Int)(w:World):
  Calls Tryz.prog 78 #[.agg #[.int .i64 x0,.int .i64 x1],.agg #[.int .i64 y0,.int .i64 y1]] w fun e w'=>e=.returned (.bool (xQ (x0,x1) (y0,y1)))/\aA w w':=by
 have HX:Hid (xQ (x0,x1) (y0,y1)=if x0=y0 then decide (y1<x1) else decide (y0<x0)):=rfl;have KW:=hid ((aA.alloc w (.cells #[.int .i64 x0,.int .i64 x1] 99)).alloc' (.cells #[.int .i64 y0,.int .i64 y1] 99));by_cases h:x0=y0
 ·subst h;have h1:(x0==x0)=true:=by simp
  have h2:(x0 != x0)=false:=by simp
  go_enter Tryz.func78,Tryz.ntmps78;go_wp2_with fail;go_ret;exact⟨aK (by rw[HX.out];simp),KW.out⟩
 ·have h1:(x0==y0)=false:=by simp[h]
  have h2:(x0 != y0)=true:=by simp[h]
  have HY:Hid (xQ (x0,x1) (y0,y1)=decide (y0<x0)):=by show _=_;rw[HX.out,if_neg h]
  clear h HX;go_enter Tryz.func78,Tryz.ntmps78;go_wp2_with fail;go_ret;exact⟨aK HY.out.symm,KW.out⟩
theorem aCr(x y:Int × Int):xQ x y=true↔(y.1<x.1\/y.1=x.1/\y.2<x.2):=by
 unfold xQ;split
 ·rename_i h;simp only[decide_eq_true_eq];omega
 ·rename_i h;simp only[decide_eq_true_eq];omega
theorem aIw(S:Nat->Prop)(ps:List PK)(on:List (Int × Int))(tv v:Value)(w:World)(hS:∀b,S b->b<w.heap.size)(hp:aZ S w ps tv)(h:gT S w on v):
  Calls Tryz.prog 40 #[.agg #[tv],v] w fun e w'=>e=.returned (.int .i64 (aM (onE ps on) 0 on.length))/\aA w w':=by
 have H:=hid h;have HP:=hid hp;obtain⟨tp,tc,rfl,c7⟩:=hp.len;obtain⟨p,cap,rfl,d4⟩:=h.len;clear h hp;go_enter Tryz.func40,Tryz.ntmps40;go_wp2_with fail;go_loopg [11] on.length (fun gk i wr=> ∃j:Nat,j+gk=on.length/\i=.int .i64 j/\aM (onE ps on) 0 on.length=aM (onE ps on) j (on.length-j)/\aA w wr/\aE w.heap.size 24 (.slice tp ps.length tc) wr);case atStart=>exact⟨0,by simp,rfl,rfl,aA.alloc _ _,aE.new _ _ _⟩
 case round=>
  obtain⟨j,hj,rfl,he,c2,c6⟩:=hrel;have a6:=hid he;have HK:=hid c2;have HV:=hid c6;clear he c2 c6;by_cases hlt:j<on.length
  ·have a7:=hid (dO (f:=onE ps on) hlt);have d2:∀b,S b->b<wr.heap.size:=fun b hb=>R8 (hS b hb) HK.out.size;obtain⟨b,off,hp,e3,hc⟩:=(H.out.keep hS HK.out).get (by omega);subst hp;obtain⟨b6,c1⟩:=hc j hlt;have a1:Hid (onE ps on j=if (on.getD j (0,0)).1<0\/(ps.length:Int)<=(on.getD j (0,0)).1 then 5 else if (on.getD j (0,0)).2<0\/((ps.getD (on.getD j (0,0)).1.toNat PK.zero).fl.length:Int)<=(on.getD j (0,0)).2 then 5
    else if 0<j/\xQ (on.getD j (0,0)) (on.getD (j-1) (0,0))=false then 6 else 0):=by
    show _=_;unfold onE;by_cases hb:xQ (on.getD j (0,0)) (on.getD (j-1) (0,0))=true
    ·have:=(aCr _ _).1 hb;simp only[hb,this,not_true_eq_false,and_false,Bool.true_eq_false]
    ·have h2:¬_:=fun h=>hb ((aCr _ _).2 h);rw[Bool.not_eq_true] at hb;simp only[hb,h2,not_false_eq_true,and_true]
   have a0:0<j->wr.cell? ⟨b,off+(j-1)*2,none⟩=some (.int .i64 (on.getD (j-1) (0,0)).1)/\wr.cell? ⟨b,off+(j-1)*2+1,none⟩=some (.int .i64 (on.getD (j-1) (0,0)).2):=fun h0=>hc (j-1) (by omega);generalize on.getD j (0,0)=xx at b6 c1 a1;generalize on.getD (j-1) (0,0)=yy at a0 a1;obtain⟨x0,x1⟩:=xx;obtain⟨y0,y1⟩:=yy;simp only at b6 c1 a1 a0;have b1:=d2 b e3;clear hc;go_upto_region 4 with fail;refine bE (fun W'=>aA wr W'/\aL wr.heap.size #[.int .i64 x0,.int .i64 x1] W') ⟨aA.alloc _ _,aL.new _ _ _⟩ ?_;rintro W2 ⟨k2,b2⟩;have b9:=b2.2;have b7:=b2.1;go_quiet (fail)
   have k3:aA wr (W2.drewN nq):=aA.drewN k2 _;have b3:=b2.keep (aA.drewN (aA.refl W2) nq) b2.1;generalize W2.drewN nq=W3 at k3 b3 |-
   have c5:=hid k3;have K3:=hid (HK.out.trans k3);have V3:=hid (HV.out.keep k3 HV.out.facts.2.2);have B3:=hid b3;obtain⟨d3,-,e5⟩:=V3.out.facts;clear k2 b2 b9 b7 k3 b3 b6 c1;by_cases h0:x0<0
   ·have HY:Hid (onE ps on j=5):=by show _=_;rw[a1.out,if_pos (Or.inl h0)]
    clear a1 a0;go_wp2_with fail;go_ret;exact⟨aD (by rw[a6.out,a7.out,HY.out];rfl),K3.out⟩
   by_cases h1:(ps.length:Int)<=x0
   ·have HY:Hid (onE ps on j=5):=by show _=_;rw[a1.out,if_pos (Or.inr h1)]
    clear a1 a0;go_wp2_with fail;go_ret;exact⟨aD (by rw[a6.out,a7.out,HY.out];rfl),K3.out⟩
   obtain⟨q,rfl⟩:∃q:Nat,x0=q:=⟨x0.toNat,by omega⟩;have b5:q<ps.length:=by omega
   obtain⟨tb,e0,d7,d6,e4,-,a5⟩:=(HP.out.keep hS K3.out).get b5;cases d6;obtain⟨cs,c8,c0⟩:=a5 q b5;have a2:Hid (onE ps on j=if x1<0\/(ps[q].fl.length:Int)<=x1 then 5 else if 0<j/\xQ ((q:Int),x1) (y0,y1)=false then 6 else 0):=by
    show _=_;rw[a1.out,if_neg (by omega),Y3,fC ps q b5]
   generalize ps[q]=p at c0 a2;obtain⟨kk,a,fl,nt,kids,kp,fp,kc,fc,e2,d5,rfl,hf,hn⟩:=c0.spelt;obtain⟨-,-,-,c3,-⟩:=dK c8;clear c8 c0 a5 hf hn e2 a1;rcases p with ⟨pn,pv,psl,fs,nd⟩;simp only at d5 c3 a2;by_cases h2:x1<0
   ·have HY:Hid (onE ps on j=5):=by show _=_;rw[a2.out,if_pos (Or.inl h2)]
    clear a2 a0;go_wp2_with fail;go_ret;exact⟨aD (by rw[a6.out,a7.out,HY.out];rfl),K3.out⟩
   by_cases h3:(fs.length:Int)<=x1
   ·have HY:Hid (onE ps on j=5):=by show _=_;rw[a2.out,if_pos (Or.inr h3)]
    clear a2 a0;go_wp2_with fail;go_ret;exact⟨aD (by rw[a6.out,a7.out,HY.out];rfl),K3.out⟩
   have a9:Hid (onE ps on j=if 0<j/\xQ ((q:Int),x1) (y0,y1)=false then 6 else 0):=by show _=_;rw[a2.out,if_neg (by omega)]
   clear a2;by_cases hj0:0<j
   ·obtain⟨b4,b0⟩:=a0 hj0;obtain⟨m,rfl⟩:∃m,j=m+1:=⟨j-1,by omega⟩;have a4:wr.cell? ⟨b,off+m*2,none⟩=some (.int .i64 y0):=b4;have a3:wr.cell? ⟨b,off+m*2+1,none⟩=some (.int .i64 y1):=b0;have d9:(0:Int)<((m+1:Nat):Int):=by omega
    have hd:decide ((0:Int)<((m+1:Nat):Int))=true:=Y7 d9;have e1:((m+1:Nat):Int)-1=(m:Int):=by omega
    have hm:m<on.length:=by omega
    clear a0 b4 b0;go_upto_region 11 with fail;clear d3 c3;have cb:∀(d:Nat) (os:Array Obj) (o:Nat) (x:Value),wr.cell? ⟨b,o,none⟩=some x->(grow (redrawn W3 d) os).cell? ⟨b,o,none⟩=some x:=fun d os o x hx=>((below_regrown W3 d os).cell (p:=⟨b,o,none⟩) (R8 b1 c5.out.size)).trans ((c5.out.cell (p:=⟨b,o,none⟩) b1).trans hx);have d0:=fun d os=>cb d os _ _ a4;have d1:=fun d os=>cb d os _ _ a3;have db:∀o d os,(grow (redrawn W3 d) os).cell? ⟨wr.heap.size,o,none⟩=(#[.int .i64 (q:Int),.int .i64 x1]:Array Value)[o]? :=fun o d os=>(B3.out.keep (below_regrown W3 d os) B3.out.1).2 o;generalize c9:xQ ((q:Int),x1) (y0,y1)=β at a9;have a8:=hid (show ∀d os,Calls Tryz.prog 78 #[.agg #[.int .i64 (q:Int),.int .i64 x1],.agg #[.int .i64 y0,.int .i64 y1]] (grow (redrawn W3 d) os) fun e w''=>e=.returned (.bool β)/\∃p:Regrown,w''=grow (redrawn W3 p.d) p.os from fun d os=>by
     rw[<-c9];exact Calls.regrown_of (aCs (q:Int) x1 y0 y1 _))
    clear cb c9 a4 a3;refine wp_region_quiet_below (by kernel_rfl) (by kernel_rfl) ?_
    repeat (first | go_big_quiet_step (exact a8.out _ _) | quiet_step (exact a8.out _ _))
    refine wpQuiet_nil ?_;intro _ d8;obtain⟨⟨dq,c4⟩,b8⟩:=d8;subst b8;have k4:=below_regrown W3 dq c4;generalize grow (redrawn W3 dq) c4=W4 at k4 |-
    have K4:=hid (K3.out.trans k4);have V4:=hid (V3.out.keep k4 V3.out.facts.2.2);clear d0 d1 db a8 k4;cases β
    ·have HY:Hid (onE ps on (m+1)=6):=by show _=_;rw[a9.out,if_pos ⟨by omega,rfl⟩]
     go_wp2_with fail;go_ret;exact⟨aD (by rw[a6.out,a7.out,HY.out];rfl),K4.out⟩
    ·have HY:Hid (onE ps on (m+1)=0):=by show _=_;rw[a9.out,if_neg (fun h=>by cases h.2)]
     go_wp2_with fail;go_roundg (on.length-(m+1+1));case rel=>exact⟨m+1+1,by omega,by go_num,by rw[a6.out,a7.out,HY.out];rfl,K4.out,V4.out⟩
     case measure=>omega
   ·have HY:Hid (onE ps on j=0):=by show _=_;rw[a9.out,if_neg (fun h=>hj0 h.1)]
    obtain rfl:j=0:=by omega
    have hd:decide ((0:Int)<((0:Nat):Int))=false:=by decide
    clear a9 a0;go_upto_region 11 with fail;go_quiet (fail)
    have k4:aA W3 (W3.drewN nq):=aA.drewN (aA.refl _) _;generalize W3.drewN nq=W4 at k4 |-
    have K4:=hid (K3.out.trans k4);have V4:=hid (V3.out.keep k4 V3.out.facts.2.2);clear k4;go_wp2_with fail;go_roundg (on.length-(0+1));case rel=>exact⟨0+1,by omega,by go_num,by rw[a6.out,a7.out,HY.out];rfl,K4.out,V4.out⟩
    case measure=>omega
  ·go_wp2_with fail;go_ret;exact⟨aD (by rw[a6.out,show on.length-j=0 by omega];rfl),HK.out⟩
structure dA (S:Nat->Prop) (w:World) (wi:WI) (tsv inv mav onv:Value):Prop where
 ts:kK S w wi.ts tsv
 ins:cD S w wi.ins inv
 ma:aI S w wi.ma mav
 on:gT S w wi.on onv
theorem dA.keep{S:Nat->Prop}{w w':World}{B:Nat}{wi:WI}{tsv inv mav onv:Value}(h:dA S w wi tsv inv mav onv)(hS:∀b,S b->b<B)(k:Below B w w'):dA S w' wi tsv inv mav onv:=
 ⟨h.ts.keep hS k,h.ins.keep hS k,h.ma.keep hS k,h.on.keep hS k⟩
theorem dA.mono{S S':Nat->Prop}{w:World}{wi:WI}{tsv inv mav onv:Value}(h:dA S w wi tsv inv mav onv)(hS:∀b,S b->S' b):dA S' w wi tsv inv mav onv:=
 ⟨h.ts.mono (fun _ _=>rfl) hS,h.ins.mono (fun _ _=>rfl) hS,h.ma.mono (fun _ _=>rfl) hS,h.on.mono (fun _ _=>rfl) hS⟩
theorem lB(S:Nat->Prop)(ps:List PK)(wi:WI)(tv tsv inv mav onv:Value)(w:World)(hS:∀b,S b->b<w.heap.size)(hp:aZ S w ps tv)(h:dA S w wi tsv inv mav onv):
  Calls Tryz.prog 15 #[.agg #[tv],.agg #[tsv,inv,mav,onv]] w fun e w'=>e=.returned (.int .i64 (bB ps wi))/\aA w w':=by
 have HP:=hid hp;have HW:=hid h;obtain⟨tp,tc,rfl,a7⟩:=hp.len;obtain⟨p0,c0,rfl,b1⟩:=h.ts.len;obtain⟨p1,c1,rfl,b4⟩:=h.ins.len;obtain⟨p2,c2,rfl,b2⟩:=h.ma.len;obtain⟨p3,c3,rfl,b3⟩:=h.on.len;have HX:Hid (bB ps wi=if dZ ps wi.ins≠0 then dZ ps wi.ins else if taE wi.ts≠0 then taE wi.ts else if aM (maE ps wi.ma) 0 wi.ma.length≠0 then aM (maE ps wi.ma) 0 wi.ma.length else aM (onE ps wi.on) 0 wi.on.length):=rfl;clear hp h;go_enter Tryz.func15,Tryz.ntmps15;go_wp2_with fail;refine bK (fun W'=>aA w W'/\aE w.heap.size 24 (.slice tp ps.length tc) W'/\aL (w.heap.size+1) #[.slice p0 wi.ts.length c0,.slice p1 wi.ins.length c1,.slice p2 wi.ma.length c2,.slice p3 wi.on.length c3] W') ⟨(aA.alloc _ _).alloc' _,(aE.new _ _ _).keep (aA.alloc _ _) (by simp),?_⟩ ?_
 ·have:=aL.new (w.alloc (.cells #[.slice tp ps.length tc] 24)) #[.slice p0 wi.ts.length c0,.slice p1 wi.ins.length c1,.slice p2 wi.ma.length c2,.slice p3 wi.on.length c3] 30;rw[aC] at this;exact this
 rintro W0 ⟨k0,v0,b0⟩;refine (aAm S ps wi.ins _ _ W0 (fun b hb=>R8 (hS b hb) k0.size) (HP.out.keep hS k0) (HW.out.keep hS k0).ins).mono ?_;rintro e w1 ⟨rfl,k1⟩;have K1:=hid (k0.trans k1);have V1:=hid (v0.keep k1 v0.facts.2.2);have B1:=hid (b0.keep k1 b0.1);clear k0 v0 b0 k1;generalize dZ ps wi.ins=e1 at HX |-
 by_cases hz:e1=0
 ·subst hz;have a2:Hid (bB ps wi=if taE wi.ts≠0 then taE wi.ts else if aM (maE ps wi.ma) 0 wi.ma.length≠0 then aM (maE ps wi.ma) 0 wi.ma.length else aM (onE ps wi.on) 0 wi.on.length):=HX.out;have a0:=B1.out.2;have a1:=B1.out.1;clear HX;go_wp2_with fail;refine (aFy S wi.ts _ w1 (fun b hb=>R8 (hS b hb) K1.out.size) (HW.out.keep hS K1.out).ts).mono ?_;rintro e w2 ⟨rfl,k2⟩;have K2:=hid (K1.out.trans k2);have V2:=hid (V1.out.keep k2 V1.out.facts.2.2);have B2:=hid (B1.out.keep k2 B1.out.1);clear k2 V1 B1 a0 a1;generalize taE wi.ts=e2 at a2 |-
  by_cases hz:e2=0
  ·subst hz;have a3:Hid (bB ps wi=if aM (maE ps wi.ma) 0 wi.ma.length≠0 then aM (maE ps wi.ma) 0 wi.ma.length else aM (onE ps wi.on) 0 wi.on.length):=a2.out;have a0:=B2.out.2;have a1:=B2.out.1;obtain⟨a4,-,a5⟩:=V2.out.facts;clear a2;go_wp2_with fail;refine (aHs S ps wi.ma _ _ w2 (fun b hb=>R8 (hS b hb) K2.out.size) (HP.out.keep hS K2.out) (HW.out.keep hS K2.out).ma).mono ?_;rintro e w3 ⟨rfl,k3⟩;have K3:=hid (K2.out.trans k3);have V3:=hid (V2.out.keep k3 V2.out.facts.2.2);have B3:=hid (B2.out.keep k3 B2.out.1);clear k3 V2 B2 a0 a1 a4 a5;generalize aM (maE ps wi.ma) 0 wi.ma.length=e3 at a3 |-
   by_cases hz:e3=0
   ·subst hz;have a9:Hid (bB ps wi=aM (onE ps wi.on) 0 wi.on.length):=a3.out;have a0:=B3.out.2;have a1:=B3.out.1;obtain⟨a4,-,a5⟩:=V3.out.facts;clear a3;go_wp2_with fail;refine (aIw S ps wi.on _ _ w3 (fun b hb=>R8 (hS b hb) K3.out.size) (HP.out.keep hS K3.out) (HW.out.keep hS K3.out).on).mono ?_;rintro e w4 ⟨rfl,k4⟩;have K4:=hid (K3.out.trans k4);clear k4 a0 a1 a4 a5;go_wp2_with fail;go_ret;exact⟨aD a9.out.symm,K4.out⟩
   ·have HY:Hid (bB ps wi=e3):=by show _=_;rw[a3.out,if_pos hz]
    have a6:(e3==0)=false:=by simp[hz]
    have a8:(e3 != 0)=true:=by simp[hz]
    clear hz a3;go_wp2_with fail;go_ret;exact⟨aD HY.out.symm,K3.out⟩
  ·have HY:Hid (bB ps wi=e2):=by show _=_;rw[a2.out,if_pos hz]
   have a6:(e2==0)=false:=by simp[hz]
   have a8:(e2 != 0)=true:=by simp[hz]
   clear hz a2;go_wp2_with fail;go_ret;exact⟨aD HY.out.symm,K2.out⟩
 ·have HY:Hid (bB ps wi=e1):=by show _=_;rw[HX.out,if_pos hz]
  have a6:(e1==0)=false:=by simp[hz]
  have a8:(e1 != 0)=true:=by simp[hz]
  clear hz HX;go_wp2_with fail;go_ret;exact⟨aD HY.out.symm,K1.out⟩
end Go.Proofs.YthjlcjdlelkkdaaGreatDoor
