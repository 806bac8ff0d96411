/- Steps of the proof: OrdLeansB, OrdLeansL. -/
import Derived.Test.YtonlloiemgdfkaaGreatDoorOn17
import Derived.Test.YtonlloiemgdfkaaGreatDoorOn21
set_option maxHeartbeats 16000000
set_option maxRecDepth 100000
namespace Go.Proofs.YtonlloiemgdfkaaGreatDoor
open Go.RowKit Go.Sort Go.Lib
theorem uL (x:Int) (w:World):Calls Tryz.prog 157 #[.int .i64 x] w fun e w'=>e=.returned (.bool false)/\w'=w:=by
 have h1:(x==x)=true:=by simp
 have h2:(x != x)=false:=by simp
 go_enter Tryz.func157,Tryz.ntmps157
 go_wp2_with fail
 go_ret
 exact ⟨rfl,rfl⟩
theorem xC (x y:Int) (w:World):Calls Tryz.prog 100 #[.int .i64 x,.int .i64 y] w fun e w'=>e=.returned (.bool (decide (x<y)))/\w'=w:=by
 go_enter Tryz.func100,Tryz.ntmps100
 go_wp2_with fail
 refine (uL x w).mono ?_
 rintro e w1 ⟨rfl,hw⟩
 rw [hw]
 clear hw
 go_wp2_with fail
 go_ret
 exact ⟨aF (by simp),rfl⟩
theorem oL (S:Nat->Prop) (v:Value) (zs:List Int) (w:World) (hS : ∀ b,S b->b<w.heap.size) (h:bP S w zs v) (hl:zs.length<=1000) (hr:zs.Pairwise (· < ·)) :
  Calls Tryz.prog 43 #[v] w fun e w'=>e=.returned (.bool true)/\aA w w':=by
 have H:=hid h
 have HR:=hid hr
 obtain ⟨p,cap,rfl,-⟩:=h.len
 clear h hr
 go_enter Tryz.func43,Tryz.ntmps43
 go_wp2_with fail
 go_loopg [3] zs.length (fun gk i wr=> ∃ j:Int,j=(gk:Int)-1/\(gk:Int)<=zs.length/\i=.int .i64 j/\aA w wr)
 case atStart=>exact ⟨_,rfl,by omega,rfl,aA.refl _⟩
 case round=>
  obtain ⟨j,hj,hgl,rfl,hkp⟩:=hrel
  have HK:=hid hkp
  clear hkp
  by_cases hgt:0<j
  ·obtain ⟨m,rfl⟩ : ∃ m:Nat,j=(m+1:Nat):=⟨(j-1).toNat,by omega⟩
   have hm1:m+1<zs.length:=by omega
   have hlt:zs[m]<zs[m+1]:=List.pairwise_iff_getElem.1 HR.out m (m+1) (by omega) hm1 (by omega)
   obtain ⟨p',cap2,hv,-,hc⟩:=H.out.keep hS HK.out
   cases hv
   obtain ⟨g,off,rfl,hgS,hc⟩:=hc (by omega)
   have hgl2:g<wr.heap.size:=Nat.lt_of_lt_of_le (hS g hgS) HK.out.size
   have c1:wr.cell? ⟨g,off+(m+1),none⟩=some (.int .i64 zs[m+1]):=hc (m+1) _ (List.getElem?_eq_getElem hm1)
   have c0:wr.cell? ⟨g,off+m,none⟩=some (.int .i64 zs[m]):=hc m _ (List.getElem?_eq_getElem (by omega))
   have hnl:decide (zs[m+1]<zs[m])=false:=decide_eq_false (by omega)
   generalize zs[m+1]=a at c1 hnl
   generalize zs[m]=b at c0 hnl
   have e1:((m+1:Nat):Int)-1=(m:Int):=by omega
   have hls:=hid (show ∀ n,Calls Tryz.prog 100 #[.int .i64 a,.int .i64 b] (wr.drewN n) fun e w''=>e=.returned (.bool false)/\∃ n',w''=wr.drewN n' from fun n=>by
    refine (xC a b (wr.drewN n)).mono ?_
    rintro e w' ⟨rfl,rfl⟩
    exact ⟨aF hnl,n,rfl⟩)
   have HJ:=hid hj
   clear hc hlt hnl hj
   go_wp2_with fail
   go_quiet ((go_at_call 100;exact hls.out _))
   have k3:aA wr (wr.drewN nq):=aA.drewN (aA.refl _) _
   have K3:=hid (HK.out.trans k3)
   generalize wr.drewN nq=W3 at K3
   clear k3
   go_wp2_with fail
   go_roundg (gk-1)
   case rel=>exact ⟨(m:Int),by have:=HJ.out;omega,by omega,by go_num,K3.out⟩
   case measure=>have:=HJ.out;omega
  ·have hg' : ¬ (0:Int)<j:=hgt
   go_wp2_with fail
   go_ret
   exact ⟨rfl,HK.out⟩
theorem sZ {ps:List PK} {ms:List MB} {k:Int} {a:At} : ∀ {n:Nat},fH ps ms k a n=true->∃ j,j<n/\isB (bO ps (ms.getD j MB.zero)) (ms.getD j MB.zero) a=true
 | 0,h=>by simp [fH] at h
 | n+1,h=>by
  rw [fH,Bool.or_eq_true] at h
  rcases h with h | h
  ·obtain ⟨j,h1,h2⟩:=sZ h
   exact ⟨j,by omega,h2⟩
  ·rw [Bool.and_eq_true] at h
   exact ⟨n,Nat.lt_succ_self _,h.2⟩
theorem pT (p:PK) (m:MB) {a:At} : ∀ {kids:List NT} {t:NT},t∈kids->a∈bV p m t->a∈cN p m kids
 | [],_,h,_=>by simp at h
 | t' :: ts,t,h,ha=>by
  rw [cN,List.mem_append]
  rcases List.mem_cons.1 h with rfl | h
  ·exact .inl ha
  ·exact .inr (pT p m h ha)
def pD (t:NT):Bool:=t.kind==1
theorem uQ {ps:List PK} {ms:List MB} {i:Nat} (hi:i<ms.length) {k:Int} {a:At} {fl:ByteArray} {nt:Bool} {kids:List NT} (hnd:(bO ps (ms.getD i MB.zero)).nd=.node k a fl nt kids) (hk:k=3) (hh:jD ps ms i=true) (hw:kids.any pD=true):(bQ ps ms i).length≠0:=by
 subst hk
 unfold jD at hh
 rw [hnd,aW,if_neg (by decide),if_neg (by decide),if_neg (by decide),if_neg (by simp),jU] at hh
 obtain ⟨t,ht,hk1⟩:=List.any_eq_true.1 hw
 have hht:aW ps ms i t=true:=by
  cases hc:aW ps ms i t with
  | true=>rfl
  | false=>
   have:(kids.any fun t=> !aW ps ms i t)=true:=List.any_eq_true.2 ⟨t,ht,by rw [hc];rfl⟩
   rw [this] at hh;cases hh
 rcases t with ⟨k',a',fl',nt',kids'⟩
 have hk':k'=1:=by simpa [pD,NT.kind] using hk1
 subst hk'
 rw [aW,if_pos rfl] at hht
 obtain ⟨j,hj,hjb⟩:=sZ hht
 have hmem:j∈bQ ps ms i:=by
  refine iV.2 ⟨hi,hj,?_⟩
  unfold gD
  refine List.any_eq_true.2 ⟨a',?_,hjb⟩
  unfold kQ
  rw [hnd,bV,if_neg (by decide),if_neg (by simp)]
  exact pT _ _ ht (by rw [bV,if_pos rfl];exact List.mem_cons_self ..)
 have:=List.length_pos_of_mem hmem
 omega
theorem sH (ps:List PK) (ms:List MB) (k:Nat):(bM (bQ ps ms k)).Pairwise (· < ·):=by
 unfold bM bQ
 split
 ·rw [List.pairwise_map]
  refine List.Pairwise.imp (fun h=>by omega) ((List.pairwise_lt_range).sublist List.filter_sublist)
 ·simp
theorem vT {ps:List PK} {ms:List MB} {k:Nat} {x:Int} (h:x∈bM (bQ ps ms k)):0<=x/\x<ms.length:=by
 unfold bM at h
 obtain ⟨j,hj,rfl⟩:=List.mem_map.1 h
 have:=(iV.1 hj).2.1
 omega
theorem wM (args:Array Value) (w:World):(callFunc 45 args).run Tryz.prog w=.ok (.enter 45 args) w:=enters_of Tryz.func45 (by kernel_rfl) rfl args w
theorem wN (args:Array Value) (w:World):(callFunc 48 args).run Tryz.prog w=.ok (.enter 48 args) w:=enters_of Tryz.func48 (by kernel_rfl) rfl args w
theorem aCa (x:Int) (n cl:Nat) (lp:Option Addr) (lc:Nat) (w:World) (hl:aB cl 26 (.slice lp n lc) w) (_hn:n<=1000) (h0:0<=x) (h1:x<n) :
  Calls Tryz.prog 45 #[.int .i64 x,.pointer (some ⟨cl,0,none⟩)] w fun e w'=>e=.returned (.bool false)/\w'=w:=by
 obtain ⟨g0,-,l0⟩:=hl.facts
 have hx1 : ¬ x<0:=by omega
 have hx2 : ¬ ((n:Int)<=x):=by omega
 clear hl
 go_enter Tryz.func45,Tryz.ntmps45
 go_wp2_with fail
 go_ret
 exact ⟨by simp,rfl⟩
theorem aCb (S:Nat->Prop) (t:NT) (cs:List Value) (w:World) (hn:aC S w t cs) :
  Calls Tryz.prog 48 (#[.agg cs.toArray]++#[]) w fun e w'=>e=.returned (.bool (pD t))/\aA w w':=by
 rcases t with ⟨k,a,fl,nt,kids⟩
 rw [aC] at hn
 obtain ⟨kp,kc,rfl,-,-,-⟩:=hn
 have HW:Hid (aA w (w.alloc (.cells #[.int .i64 k,.string a.n,.int .i64 a.op,.int .i64 a.v,.int .i64 a.sl,.string a.f,.bool a.on,.string fl,.bool nt,.slice kp kids.length kc] 73))):=aA.alloc _ _
 have HX:Hid (pD (.node k a fl nt kids)=(k==1)):=rfl
 go_enter Tryz.func48,Tryz.ntmps48
 go_wp2_with fail
 go_ret
 exact ⟨aF HX.out.symm,HW.out⟩
theorem oR (S:Nat->Prop) (ps:List PK) (ms:List MB) (pv lv:Value) (w:World) (hS : ∀ b,S b->b<w.heap.size) (hp:aV S w ps pv) (hm:bU S w ms lv) (hE:Env w) (hM:eK w) :
  Calls Tryz.prog 8 #[.agg #[pv],lv] w fun e w'=>e=.returned (.bool true)/\aA w w':=by
 have HP:=hid hp
 have HM:=hid hm
 have HE:=hid hE
 have HMX:=hid hM
 obtain ⟨tp,tc,rfl,hpl⟩:=hp.len
 obtain ⟨lp,lc,rfl,hll⟩:=hm.len
 clear hp hm hE hM
 have hmf : ∀ (fn:Fn) (first cap:Array Value) (w:World),(Instr.makeFunc fn first cap).run Tryz.prog w=.ok (.func fn first cap) w:=fun _ _ _ _=>rfl
 go_enter Tryz.func8,Tryz.ntmps8
 go_upto_region 1 with fail
 refine bE (fun W'=>aA w W'/\aB w.heap.size 24 (.slice tp ps.length tc) W'/\aB (w.heap.size+1) 26 (.slice lp ms.length lc) W') ⟨(aA.alloc _ _).alloc' _,(aB.new _ _ _).keep (aA.alloc _ _) (by simp),?_⟩ ?_
 ·have:=aB.new (w.alloc (.cells #[.slice tp ps.length tc] 24)) 26 (.slice lp ms.length lc)
  rw [aE] at this;exact this
 rintro W1 ⟨k1,v1,u1⟩
 have K1:=hid k1
 have V1:=hid v1
 have U1:=hid u1
 generalize w.heap.size=b at V1 U1 ⊢
 clear k1 v1 u1
 obtain ⟨g0,-,l0⟩:=V1.out.facts
 obtain ⟨g1,-,l1⟩:=U1.out.facts
 go_wp2_with fail
 refine (pF S ps ms _ _ W1 (fun c hc=>Nat.lt_of_lt_of_le (hS c hc) K1.out.size) (HP.out.keep hS K1.out) (HM.out.keep hS K1.out)).mono ?_
 rintro e W2 ⟨k2,hd⟩
 have K2:=hid (K1.out.trans k2)
 have V2:=hid (V1.out.keep k2 V1.out.facts.2.2)
 have U2:=hid (U1.out.keep k2 U1.out.facts.2.2)
 clear k2 g0 l0 g1 l1 V1 U1
 rcases hd with ⟨hz,rfl⟩ | ⟨hz,v2,rfl,hr2⟩
 ·have ha1:(aZ ps ms==0)=false:=by simpa using hz
  have ha2:(aZ ps ms != 0)=true:=by simp [bne,ha1]
  generalize aZ ps ms=er at ha1 ha2 ⊢
  clear hz
  go_wp2_with fail
  refine (eE W2 (HE.out.keep K2.out) (HMX.out.keep K2.out)).mono ?_
  rintro e W3 ⟨rfl,k3⟩
  have K3:=hid (K2.out.trans k3)
  clear k3
  go_wp2_with fail
  refine (eE W3 (HE.out.keep K3.out) (HMX.out.keep K3.out)).mono ?_
  rintro e W4 ⟨rfl,k4⟩
  have K4:=hid (K3.out.trans k4)
  clear k4
  go_wp2_with fail
  go_ret
  exact ⟨rfl,K4.out⟩
 ·obtain ⟨rp,rc,hrv,-⟩:=hr2.len
  subst hrv
  rw [dH] at hr2 ⊢
  have R2:=hid (hr2.mono (S':=fun c=>c<W2.heap.size) (fun _ _=>rfl) fun c hc=>hc.2)
  obtain ⟨-,-,-,-,h8,hok⟩:=iZ hz
  have HOK:=hid hok
  have HZ:=hid hz
  clear hr2 hz hok
  go_wp2_with fail
  refine (eE W2 (HE.out.keep K2.out) (HMX.out.keep K2.out)).mono ?_
  rintro e W3 ⟨rfl,k3⟩
  have K3:=hid (K2.out.trans k3)
  have V3:=hid (V2.out.keep k3 V2.out.facts.2.2)
  have U3:=hid (U2.out.keep k3 U2.out.facts.2.2)
  have R3:=hid (R2.out.mono (S':=fun c=>c<W3.heap.size) (fun p hp=>k3.cell (p:=p) hp) fun c hc=>Nat.lt_of_lt_of_le hc k3.size)
  clear k3 V2 U2 R2
  obtain ⟨g1,-,l1⟩:=U3.out.facts
  go_wp2_with fail
  clear g1 l1
  go_loopg [32] ms.length (fun gk iv wr=> ∃ j:Nat,j+gk=ms.length/\iv=.int .i64 j/\aA W3 wr)
  case atStart=>exact ⟨0,by omega,rfl,aA.refl _⟩
  case round=>
   obtain ⟨j,hj,rfl,hk⟩:=hrel
   have HK:=hid hk
   have KR:=hid (K3.out.trans hk)
   clear hk
   by_cases hlt:j<ms.length
   ·have hSr : ∀ c,S c->c<wr.heap.size:=fun c hc=>Nat.lt_of_lt_of_le (hS c hc) KR.out.size
    have hWr : ∀ c,c<W3.heap.size->c<wr.heap.size:=fun c hc=>Nat.lt_of_lt_of_le hc HK.out.size
    obtain ⟨mb,moff,mcap,hmv,hmS,-,hrow⟩:=(HM.out.keep hS KR.out).get hlt
    cases hmv
    obtain ⟨op,oc,hc0,hc1,hol,-⟩:=hrow j _ (List.getElem?_eq_getElem hlt)
    obtain ⟨x0,x1,-⟩:=HOK.out j _ (List.getElem?_eq_getElem hlt)
    obtain ⟨q,hq⟩ : ∃ q:Nat,ms[j].pl=q:=⟨ms[j].pl.toNat,by omega⟩
    have hqp:q<ps.length:=by omega
    have hpk:bO ps (ms.getD j MB.zero)=ps[q]:=by unfold bO;rw [dP ms j hlt,hq,Int.toNat_natCast,eB ps q hqp]
    have hkd:=(jW ((hI (mM HZ.out)).2 ps[q] (List.getElem_mem hqp))).2.2.2.1
    have HHE:Hid (fA ps ms (j:Int)=0):=by
     show _=_
     unfold fA
     rw [if_neg (by simp [HZ.out]),if_neg (by omega)]
    have HHR:Hid (hQ ps ms (j:Int)=jD ps ms j):=by
     show _=_
     unfold hQ
     rw [HHE.out,Int.toNat_natCast];simp
    obtain ⟨tb,toff,tcap,htv,htb,-,htrow⟩:=(HP.out.keep hS KR.out).get hqp
    cases htv
    obtain ⟨cs,hcs,hpj⟩:=htrow q hqp
    have HNE:=hid (fun (k:Int) (a:At) (fl:ByteArray) (nt:Bool) (kids:List NT) (hnd:ps[q].nd=.node k a fl nt kids) (hk:k=3)=>uQ hlt (hpk ▸ hnd:(bO ps (ms.getD j MB.zero)).nd=_) hk)
    generalize ms[j]=m at hc0 hc1 hol hq
    generalize ps[q]=p at hpj hkd HNE
    obtain ⟨kk,a,fl,nt,kids,kp,fp,kc,fc,hnd,hfl,rfl,-,hn⟩:=hpj.spelt
    have HLS:=hid (HNE.out kk a fl nt kids hnd (by rw [hnd] at hkd;simpa [NT.kind] using hkd))
    rw [hnd,aC] at hn
    obtain ⟨kp',kc',hkv,-,hkm,hkids⟩:=hn
    cases hkv
    have HKI:=hid hkids
    obtain ⟨c0,c1,c2,c3,c4,c5,c6,c7,c8,c9,c10,c11,c12,c13⟩:=eA hcs
    have htl:=hSr tb htb
    have hml:=hSr mb hmS
    clear hcs hpj htrow hrow hkids HNE hnd hkd hpk x0 x1 c0 c1 c2 c3 c4 c5 c6 c7 c8 c9 c10 c11 c12
    rcases m with ⟨pl,on⟩
    simp only at hc0 hc1 hol hq
    subst hq
    go_upto_region 9 with fail
    refine bE (fun W'=>aA wr W'/\aH wr.heap.size #[.int .i64 q,.slice op on.length oc] W') ⟨aA.alloc _ _,aH.new _ _ _⟩ ?_
    rintro W4 ⟨k4,b4⟩
    have K34:=hid (HK.out.trans k4)
    have B4:=hid b4
    have hc13:=(k4.cell (p:=⟨tb,toff+q*14+13,none⟩) htl).trans c13
    have KIDS:=hid (aQ.mono (aT hSr k4) (fun _ h=>h) kids kp 0 HKI.out)
    have htl4:tb<W4.heap.size:=Nat.lt_of_lt_of_le htl k4.size
    have KR4:=hid (KR.out.trans k4)
    clear k4 b4 hc0 hc1 c13 HKI
    generalize wr.heap.size=cm at B4 ⊢
    have RW:=hid (R3.out.mono (S':=fun c=>c<W3.heap.size) (fun p hp=>K34.out.cell (p:=p) hp) fun _ h=>h)
    have HZJ:Hid ((lQ ps ms)[j]? = some (bM (bQ ps ms j))):=lC hlt
    obtain ⟨rb,roff,rcap,np,nc,hrv,hrb,-,hrc,hnr⟩:=RW.out.get HZJ.out
    rw [dH] at hrv
    cases hrv
    rw [bH] at hrc hnr
    have HNR:=hid hnr
    have hrbl:rb<W4.heap.size:=Nat.lt_of_lt_of_le hrb K34.out.size
    have hS4 : ∀ c,c<W3.heap.size->c<W4.heap.size:=fun c hc=>Nat.lt_of_lt_of_le hc K34.out.size
    have hlen8:(bQ ps ms j).length<=1000:=by
     unfold bQ
     rw [if_pos hlt]
     exact Nat.le_trans (List.length_filter_le _ _) (by rw [List.length_range];omega)
    clear hnr
    go_wp2_with fail
    refine (oL (fun c=>c<W3.heap.size) _ (bM (bQ ps ms j)) W4 hS4 HNR.out (by rw [bH];exact hlen8) (sH ps ms j)).mono ?_
    rintro e W5 ⟨rfl,k5⟩
    have hrc5:=(k5.cell (p:=⟨rb,roff+j,none⟩) hrbl).trans hrc
    have hrbl5:rb<W5.heap.size:=Nat.lt_of_lt_of_le hrbl k5.size
    have N5:=hid (HNR.out.keep hS4 k5)
    have B5:=hid (B4.out.keep k5 B4.out.1)
    have K35:=hid (K34.out.trans k5)
    have KR5:=hid (KR4.out.trans k5)
    have hc135:=(k5.cell (p:=⟨tb,toff+q*14+13,none⟩) htl4).trans hc13
    have KIDS5:=hid (aQ.mono (aT (fun c hc=>Nat.lt_of_lt_of_le (hS c hc) KR4.out.size) k5) (fun _ h=>h) kids kp 0 KIDS.out)
    have V5:=hid (V3.out.keep K35.out V3.out.facts.2.2)
    have U5:=hid (U3.out.keep K35.out U3.out.facts.2.2)
    clear k5 hrc hrbl hc13 KIDS B4
    go_wp2_with fail
    have hS5 : ∀ c,c<W3.heap.size->c<W5.heap.size:=fun c hc=>Nat.lt_of_lt_of_le hc K35.out.size
    have eZ:=Cn.zU (fun c=>c<W3.heap.size) (bM (bQ ps ms j)) (fun _=>false) np nc W5 hS5 wM (by have:=N5.out;rw [← bH (bQ ps ms j)] at this;exact this) (cap:=#[.pointer (some ⟨b+1,0,none⟩)]) (fun x hx=>aCa x ms.length (b+1) _ lc W5 U5.out (by omega) (vT hx).1 (vT hx).2)
    rw [bH,show (bM (bQ ps ms j)).any (fun _=>false)=false by simp] at eZ
    refine eZ.mono ?_
    rintro e w6 ⟨rfl,hw6⟩
    rw [hw6]
    clear hw6 eZ
    obtain ⟨g0,-,l0⟩:=V5.out.facts
    obtain ⟨g1,-,l1⟩:=U5.out.facts
    go_wp2_with fail
    refine (qM S ps ms _ _ (j:Int) W5 (fun c hc=>Nat.lt_of_lt_of_le (hS c hc) KR5.out.size) (HP.out.keep hS KR5.out) (HM.out.keep hS KR5.out)).mono ?_
    rintro e W6 ⟨rfl,k6⟩
    rw [HHE.out,HHR.out]
    have hrc6:=(k6.cell (p:=⟨rb,roff+j,none⟩) hrbl5).trans hrc5
    have hrbl6:rb<W6.heap.size:=Nat.lt_of_lt_of_le hrbl5 k6.size
    have K36:=hid (K35.out.trans k6)
    have KR6:=hid (KR5.out.trans k6)
    have V6:=hid (V5.out.keep k6 V5.out.facts.2.2)
    have B6:=hid (B5.out.keep k6 B5.out.1)
    have hc136:=(k6.cell (p:=⟨tb,toff+q*14+13,none⟩) (Nat.lt_of_lt_of_le (hS tb htb) KR5.out.size)).trans hc135
    have htl6:tb<W6.heap.size:=Nat.lt_of_lt_of_le (hS tb htb) KR6.out.size
    have KIDS6:=hid (aQ.mono (aT (fun c hc=>Nat.lt_of_lt_of_le (hS c hc) KR5.out.size) k6) (fun _ h=>h) kids kp 0 KIDS5.out)
    clear k6 g0 l0 g1 l1 hrc5 hrbl5 hc135 KIDS5 U5 V5 B5
    obtain ⟨g0,-,l0⟩:=V6.out.facts
    have gm:=B6.out.2
    have gl:=B6.out.1
    go_wp2_with fail
    refine (dO S kids pD kp kc W6 (fun c hc=>Nat.lt_of_lt_of_le (hS c hc) KR6.out.size) wN hkm KIDS6.out (cap:=#[]) (fun i hi cs W kW hnd=>aCb S kids[i] cs W hnd)).mono ?_
    rintro e W7 ⟨rfl,k7⟩
    have hrc7:=(k7.cell (p:=⟨rb,roff+j,none⟩) hrbl6).trans hrc6
    have hrbl7:rb<W7.heap.size:=Nat.lt_of_lt_of_le hrbl6 k7.size
    have K37:=hid (K36.out.trans k7)
    clear k7 g0 l0 gm gl hrc6 hrbl6 hc136 KIDS6 V6 B6
    generalize jD ps ms j=β1 at HLS HHR ⊢
    generalize kids.any pD=β2 at HLS ⊢
    have HLN:=hid (fun (h1:β1=true) (h2:β2=true)=>HLS.out h1 h2)
    generalize (bQ ps ms j).length=nl at hrc7 HLN
    cases β1
    ·go_wp2_with fail
     go_roundg (ms.length-(j+1))
     case rel=>exact ⟨j+1,by omega,by go_num,K37.out⟩
     case measure=>omega
    ·cases β2
     ·go_wp2_with fail
      go_roundg (ms.length-(j+1))
      case rel=>exact ⟨j+1,by omega,by go_num,K37.out⟩
      case measure=>omega
     ·have hnl:=HLN.out rfl rfl
      have hnI:((nl:Int)==0)=false:=by simpa using hnl
      clear hnl
      go_wp2_with fail
      go_roundg (ms.length-(j+1))
      case rel=>exact ⟨j+1,by omega,by go_num,K37.out⟩
      case measure=>omega
   ·have KF:=hid KR.out
    go_wp2_with fail
    go_ret
    exact ⟨rfl,KF.out⟩
end Go.Proofs.YtonlloiemgdfkaaGreatDoor
