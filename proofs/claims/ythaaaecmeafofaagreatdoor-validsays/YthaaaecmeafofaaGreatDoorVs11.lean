/- Steps of the proof: ValidHold, ValidShare, ValidWish. -/
import Derived.Test.YthaaaecmeafofaaGreatDoorVs10
import Derived.BigRegion
import Derived.Laws.EntriesVeiled
set_option maxHeartbeats 16000000
set_option maxRecDepth 100000
namespace Go.Proofs.YthaaaecmeafofaaGreatDoor
open Go.RowKit Go.Sort
theorem gU (w:World):aA w w.drew:=⟨rfl,rfl,rfl,Nat.le_refl _,fun _ _=>rfl⟩
theorem kT {α:Type} [Inhabited α] [DecidableEq α] (d:Array α) : ∀ (m:Nat) (j:Nat),j<m->d[j]! ∈ Lib.compactUpTo d m
 | 0,j,h=>absurd h (Nat.not_lt_zero _)
 | m+1,j,h=>by
  rw [Lib.compactUpTo_succ,List.mem_append]
  by_cases hjm:j<m
  ·exact Or.inl (kT d m j hjm)
  ·obtain rfl:j=m:=by omega
   by_cases h0:j=0
   ·subst h0
    rw [if_pos (Lib.keeps_lt_one d 0 (by omega))]
    exact Or.inr (List.mem_singleton.2 rfl)
   ·by_cases hk:d[j]! = d[j-1]!
    ·rw [hk];exact Or.inl (kT d j (j-1) (by omega))
    ·rw [if_pos (Lib.keeps_pos hk)]
     exact Or.inr (List.mem_singleton.2 rfl)
theorem rU {t:NT} {f:ByteArray} (h:f∈t.flags):f.data.toList∈t.sorted:=by
 unfold NT.sorted Lib.compact
 have h1:f.data.toList∈(t.flags.map (·.data.toList)).mergeSort fun x y=>decide (x<=y):=(List.mergeSort_perm _ _).mem_iff.2 (List.mem_map.2 ⟨f,h,rfl⟩)
 generalize (t.flags.map (·.data.toList)).mergeSort (fun x y=>decide (x<=y))=M at h1 ⊢
 obtain ⟨j,hj,e⟩:=List.mem_iff_getElem.1 h1
 have:=kT M.toArray M.toArray.size j (by simpa using hj)
 rw [← e]
 simpa [hj] using this
theorem kG {p:PK} (h:cU p=0) : ∀ f∈p.nd.flags,aQ p.fl f<p.fl.length:=by
 intro f hf
 have hn:dE p.nd p.fl=0:=by
  unfold cU at h
  split at h
  ·cases h
  ·split at h
   ·cases h
   ·split at h
    ·rename_i hne;exact absurd h hne
    ·exact h
 unfold dE at hn
 split at hn
 ·cases hn
 ·split at hn
  ·rename_i hne;exact absurd hn hne
  ·split at hn
   ·rename_i hall
    have:=List.all_eq_true.1 hall _ (rU hf)
    unfold dU at this
    rw [bU,Lib.containsS_iff] at this
    unfold aQ
    exact List.findIdx_lt_length_of_exists ⟨f,this,by simp⟩
   ·cases hn
theorem oV (S:Nat->Prop) (ps:List PK) (ms:List MB) (tv lv:Value) (k:Nat) (w:World) (hS : ∀ b,S b->b<w.heap.size) (hp:aT S w ps tv) (hm:bS S w ms lv) (hk:k<ms.length) (hok:jX ps ms) (hct:cG ps=0) :
  Calls Tryz.prog 79 #[.agg #[tv],lv,.int .i64 k] w fun e w'=>e=.returned (.bool (dY ps ms k))/\aA w w':=by
 have HP:=hid hp
 have HMS:=hid hm
 have HOK:=hid hok
 obtain ⟨tp,tc,rfl,hlen⟩:=hp.len
 obtain ⟨lp,lc,rfl,hllen⟩:=hm.len
 obtain ⟨mb,moff,mcap,hmv,hmS,-,hrow⟩:=hm.get hk
 cases hmv
 obtain ⟨op,oc,hc0,-,-,-⟩:=hrow k _ (List.getElem?_eq_getElem hk)
 obtain ⟨h0,h1,h2⟩:=hok k _ (List.getElem?_eq_getElem hk)
 obtain ⟨q,hq⟩ : ∃ q:Nat,ms[k].pl=q:=⟨ms[k].pl.toNat,by omega⟩
 have hqp:q<ps.length:=by omega
 have hpk:aV ps ms[k]=ps[q]:=by unfold aV;rw [hq,Int.toNat_natCast,dF ps q hqp]
 have HPK:=hid hpk
 have HFL:Hid (∀ f∈(aV ps ms[k]).nd.flags,aQ (aV ps ms[k]).fl f<(aV ps ms[k]).fl.length):=kG ((dJ hct).2 _ (by rw [hpk];exact List.getElem_mem hqp))
 have HX:Hid (dY ps ms k=aK ps ms k ps[q].nd):=by
  show _=_
  unfold dY
  rw [cJ ms k hk,hpk]
 rw [hq] at hc0
 obtain ⟨tb,toff,tcap,htv,htb,-,htrow⟩:=hp.get hqp
 cases htv
 obtain ⟨cs,hcs,hpj⟩:=htrow q hqp
 have HFS:Hid ((aV ps ms[k]).fl=ps[q].fl):=by show _=_;rw [hpk]
 rw [hpk] at HFL
 have HFL':=HFL
 clear HFL
 generalize ps[q]=p at hpj HX HFS HFL'
 obtain ⟨kk,a,fl,nt,kids,kp,fp,kc,fc,hnd,hfl,rfl,hf,hn⟩:=hpj.spelt
 have HF:=hid hf
 have HN:=hid hn
 obtain ⟨c0,c1,c2,c3,c4,c5,c6,c7,c8,c9,c10,c11,c12,c13⟩:=cM hcs
 have hmlt:=hS mb hmS
 have htlt:=hS tb htb
 clear hcs hpj htrow hrow hp hm hok hct h0 h1 h2 hq hpk HPK hf hn
 rcases p with ⟨n,v,sl,fs,nd⟩
 simp only at hnd hfl c0 c1 c2 c3 HX HFS HFL' HF HN
 have HND:=hid hnd
 clear hnd
 go_enter Tryz.func79,Tryz.ntmps79
 go_upto_region 1 with fail
 have e1:=aJ w (.cells #[.slice (some ⟨tb,toff,none⟩) ps.length tc] 24)
 refine bW (fun W'=>aA w W'/\aD w.heap.size 24 (.slice (some ⟨tb,toff,none⟩) ps.length tc) W'/\aD (w.heap.size+1) 25 (.slice (some ⟨mb,moff,none⟩) ms.length lc) W'/\aD (w.heap.size+1+1) 3 (.int .i64 k) W'/\W'.heap.size=w.heap.size+3) ⟨((aA.alloc _ _).alloc' _).alloc' _,(aD.new _ _ _).keep ((aA.alloc _ _).alloc' _) (by simp),?_,?_,by simp⟩ ?_
 ·have:=aD.new (w.alloc (.cells #[.slice (some ⟨tb,toff,none⟩) ps.length tc] 24)) 25 (.slice (some ⟨mb,moff,none⟩) ms.length lc)
  rw [e1] at this;exact this.keep (aA.alloc _ _) this.facts.2.2
 ·have:=aD.new ((w.alloc (.cells #[.slice (some ⟨tb,toff,none⟩) ps.length tc] 24)).alloc (.cells #[.slice (some ⟨mb,moff,none⟩) ms.length lc] 25)) 3 (.int .i64 k)
  rw [aJ,e1] at this;exact this
 clear e1
 rintro W0 ⟨k0,v0,v1,v2,hz0⟩
 have K0:=hid k0
 have V0:=hid v0
 have V1:=hid v1
 have V2:=hid v2
 have HZ0:=hid hz0
 obtain ⟨g0,-,l0⟩:=v0.facts
 obtain ⟨g1,-,l1⟩:=v1.facts
 obtain ⟨g2,-,l2⟩:=v2.facts
 have gm:=(k0.cell (p:=⟨mb,moff+k*2,none⟩) hmlt).trans hc0
 have gt : ∀ (o:Nat) (x:Value),w.cell? ⟨tb,o,none⟩=some x->W0.cell? ⟨tb,o,none⟩=some x:=fun o x h=>(k0.cell (p:=⟨tb,o,none⟩) htlt).trans h
 have d0:=gt _ _ c0
 have d1:=gt _ _ c1
 have d2:=gt _ _ c2
 have d3:=gt _ _ c3
 have d4:=gt _ _ c4
 have d5:=gt _ _ c5
 have d6:=gt _ _ c6
 have d7:=gt _ _ c7
 have d8:=gt _ _ c8
 have d9:=gt _ _ c9
 have d10:=gt _ _ c10
 have d11:=gt _ _ c11
 have d12:=gt _ _ c12
 have d13:=gt _ _ c13
 have hm0:mb<W0.heap.size:=Nat.lt_of_lt_of_le hmlt k0.size
 have ht0:tb<W0.heap.size:=Nat.lt_of_lt_of_le htlt k0.size
 clear c0 c1 c2 c3 c4 c5 c6 c7 c8 c9 c10 c11 c12 c13 gt k0 v0 v1 v2 hz0 hc0
 go_region
 clear d0 d1 d2 d3 d4 d5 d6 d7 d8 d9 d10 d11 d12 d13 g0 g1 g2 gm
 go_upto_region 2 with fail
 refine bW (fun W'=>aA W0 W'/\aG W0.heap.size #[.string n,.int .i64 v,.int .i64 sl,.slice fp fs.length fc,.int .i64 kk,.string a.n,.int .i64 a.op,.int .i64 a.v,.int .i64 a.sl,.string a.f,.bool a.on,.string fl,.bool nt,.slice kp kids.length kc] W'/\W'.heap.size=W0.heap.size+1) ⟨(aA.alloc _ _).trans (gU _),(aG.new _ _ _).keep (gU _) (by rw [aJ];omega),by rw [← aJ W0 (.cells #[.string n,.int .i64 v,.int .i64 sl,.slice fp fs.length fc,.int .i64 kk,.string a.n,.int .i64 a.op,.int .i64 a.v,.int .i64 a.sl,.string a.f,.bool a.on,.string fl,.bool nt,.slice kp kids.length kc] 76)];rfl⟩ ?_
 rintro W1 ⟨k1,b1,hz1⟩
 have K1:=hid k1
 have B1:=hid b1
 have HZ1:=hid hz1
 clear k1 b1 hz1
 go_upto_region 3 with fail
 refine bW (fun W'=>aA W1 W'/\aD W1.heap.size 111 .nilFunc W'/\W'.heap.size=W1.heap.size+1) ⟨aA.alloc _ _,aD.new _ _ _,aJ _ _⟩ ?_
 rintro W2 ⟨k2,f2,hz2⟩
 have K2:=hid k2
 have F2:=hid f2
 have HZ2:=hid hz2
 clear k2 f2 hz2
 have hmf : ∀ (fn:Fn) (first cap:Array Value) (w:World),(Instr.makeFunc fn first cap).run Tryz.prog w=.ok (.func fn first cap) w:=fun _ _ _ _=>rfl
 go_upto_region 4 with fail
 refine bW (fun W'=>aA W2 W'/\aD W2.heap.size 111 (.func (.func 129) #[] #[.pointer (some ⟨W1.heap.size,0,none⟩)]) W') ⟨aA.alloc _ _,aD.new _ _ _⟩ ?_
 rintro W3 ⟨k3,f3⟩
 have hb0:W0.heap.size=w.heap.size+3:=HZ0.out
 have hb1:W1.heap.size=W0.heap.size+1:=HZ1.out
 have hb2:W2.heap.size=W1.heap.size+1:=HZ2.out
 have k13:aA W1 W3:=K2.out.trans k3
 have k03:aA W0 W3:=K1.out.trans k13
 have kw3:aA w W3:=K0.out.trans k03
 have f23:=F2.out.keep k3 F2.out.facts.2.2
 have HFN:Hid (hG S ps ms k (some ⟨tb,toff,none⟩) (some ⟨mb,moff,none⟩) tc lc w.heap.size (w.heap.size+1) (w.heap.size+1+1) W1.heap.size W0.heap.size W2.heap.size #[.string n,.int .i64 v,.int .i64 sl,.slice fp fs.length fc,.int .i64 kk,.string a.n,.int .i64 a.op,.int .i64 a.v,.int .i64 a.sl,.string a.f,.bool a.on,.string fl,.bool nt,.slice kp kids.length kc] (W3.setCell ⟨W1.heap.size,0,none⟩ (.func (.func 130) #[] #[.pointer (some ⟨w.heap.size,0,none⟩),.pointer (some ⟨w.heap.size+1,0,none⟩),.pointer (some ⟨w.heap.size+1+1,0,none⟩),.pointer (some ⟨W1.heap.size,0,none⟩),.pointer (some ⟨W0.heap.size,0,none⟩),.pointer (some ⟨W2.heap.size,0,none⟩)]))):=by
  have ap:=eJ W1.heap.size W3 (.func (.func 130) #[] #[.pointer (some ⟨w.heap.size,0,none⟩),.pointer (some ⟨w.heap.size+1,0,none⟩),.pointer (some ⟨w.heap.size+1+1,0,none⟩),.pointer (some ⟨W1.heap.size,0,none⟩),.pointer (some ⟨W0.heap.size,0,none⟩),.pointer (some ⟨W2.heap.size,0,none⟩)])
  have hlow : ∀ p:Addr,S p.block->(W3.setCell ⟨W1.heap.size,0,none⟩ (.func (.func 130) #[] #[.pointer (some ⟨w.heap.size,0,none⟩),.pointer (some ⟨w.heap.size+1,0,none⟩),.pointer (some ⟨w.heap.size+1+1,0,none⟩),.pointer (some ⟨W1.heap.size,0,none⟩),.pointer (some ⟨W0.heap.size,0,none⟩),.pointer (some ⟨W2.heap.size,0,none⟩)])).cell? p=W3.cell? p:=fun p hp=>ap.cell p (Nat.lt_of_lt_of_le (hS _ hp) kw3.size) (fun e=>by have e':p.block=W1.heap.size:=e;have:=hS _ hp;omega)
  exact ⟨((V0.out.keep k03 V0.out.facts.2.2)).apart ap (by omega),((V1.out.keep k03 V1.out.facts.2.2)).apart ap (by omega),((V2.out.keep k03 V2.out.facts.2.2)).apart ap (by omega),f23.set _,(B1.out.keep k13 B1.out.1).apart ap (by omega),f3.apart ap (by omega),(HP.out.keep hS kw3).mono hlow (fun _ h=>h),(HMS.out.keep hS kw3).mono hlow (fun _ h=>h),fun b hb=>Nat.lt_of_lt_of_le (Nat.lt_of_lt_of_le (hS b hb) kw3.size) ap.size⟩
 have KFN:Hid (aA w (W3.setCell ⟨W1.heap.size,0,none⟩ (.func (.func 130) #[] #[.pointer (some ⟨w.heap.size,0,none⟩),.pointer (some ⟨w.heap.size+1,0,none⟩),.pointer (some ⟨w.heap.size+1+1,0,none⟩),.pointer (some ⟨W1.heap.size,0,none⟩),.pointer (some ⟨W0.heap.size,0,none⟩),.pointer (some ⟨W2.heap.size,0,none⟩)]))):=Below.trans kw3 ((eJ W1.heap.size W3 _).below kw3.size fun b hb e=>by have:b=W1.heap.size:=e;omega)
 obtain ⟨g3,z3,l3⟩:=f23.facts
 have hent:=fX
 clear k3 f3 k13 k03 kw3 f23 K0 K1 K2 V0 V1 V2 F2 B1 hb0 hb1 hb2
 go_upto_region 5 with fail
 refine bW (fun W'=>hG S ps ms k (some ⟨tb,toff,none⟩) (some ⟨mb,moff,none⟩) tc lc w.heap.size (w.heap.size+1) (w.heap.size+1+1) W1.heap.size W0.heap.size W2.heap.size #[.string n,.int .i64 v,.int .i64 sl,.slice fp fs.length fc,.int .i64 kk,.string a.n,.int .i64 a.op,.int .i64 a.v,.int .i64 a.sl,.string a.f,.bool a.on,.string fl,.bool nt,.slice kp kids.length kc] W'/\aA w W') ?_ ?_
 exact ⟨HFN.out,KFN.out⟩
 rintro W4 ⟨h4,k4⟩
 have H4:=hid h4
 have K4:=hid k4
 obtain ⟨g4,-,l4⟩:=h4.self.facts
 have g5:=h4.pack.2
 have l5:=h4.pack.1
 clear h4 k4 HFN KFN g3 z3 l3
 go_wp2_with fail
 have hfs:=HFS.out
 have hcall:=tT (S:=S) (fp:=fp) (fc:=fc) hk HOK.out (pcs:=#[.string n,.int .i64 v,.int .i64 sl,.slice fp fs.length fc,.int .i64 kk,.string a.n,.int .i64 a.op,.int .i64 a.v,.int .i64 a.sl,.string a.f,.bool a.on,.string fl,.bool nt,.slice kp kids.length kc]) (by rw [hfs];rfl) nd.size nd (Nat.le_refl _) (by rw [hfs];exact HFL'.out) _ W4 H4.out (by rw [hfs];exact HF.out.keep hS K4.out) (HN.out.keep hS K4.out)
 refine Calls.mono hcall ?_
 rintro e w5 ⟨rfl,k5⟩
 have K5:=hid (K4.out.trans k5)
 clear k5 g4 g5 hcall hfs
 go_wp2_with fail
 go_ret
 exact ⟨aE HX.out.symm,K5.out⟩
theorem mS {F:Nat} {cap:Array Value} (S:Nat->Prop) (ms:List MB) (g:MB->Bool) (lv:Value) (w:World) (hS : ∀ b,S b->b<w.heap.size)
  (hF : ∀ args w,(callFunc F args).run Tryz.prog w=.ok (.enter F args) w) (hm:bS S w ms lv)
  (hc : ∀ (j:Nat) (h:j<ms.length) (op:Option Addr) (oc:Nat) (W:World),aA w W->cL S W ms[j].on (.slice op ms[j].on.length oc)->Calls Tryz.prog F (#[.agg #[.int .i64 ms[j].pl,.slice op ms[j].on.length oc]]++cap) W fun e w'=>e=.returned (.bool (g ms[j]))/\aA W w') :
  Calls Tryz.prog 126 #[lv,.func (.func F) #[] cap] w fun e w'=> ∃ n:Int,e=.returned (.int .i64 n)/\decide (0<=n)=ms.any g/\aA w w':=by
 have HM:=hid hm
 have HC:=hid hc
 obtain ⟨lp,lc,rfl,hlen⟩:=hm.len
 clear hm hc
 go_enter Tryz.func126,Tryz.ntmps126
 go_wp2_with fail
 go_loopg [8] ms.length (fun gk i wr=> ∃ j:Nat,j+gk=ms.length/\i=.int .i64 j/\(ms.take j).any g=false/\aA w wr)
 case atStart=>exact ⟨0,by simp,rfl,by simp,aA.refl _⟩
 case round=>
  obtain ⟨j,hj,rfl,hno,hkp⟩:=hrel
  have HNO:=hid hno
  have HKP:=hid hkp
  clear hno hkp
  by_cases hlt:j<ms.length
  ·obtain ⟨mb,moff,mcap,hmv,hmS,-,hrow⟩:=(HM.out.keep hS HKP.out).get hlt
   cases hmv
   obtain ⟨op,oc,hc0,hc1,hon,hbl⟩:=hrow j _ (List.getElem?_eq_getElem hlt)
   have HCALL:=hid (HC.out j hlt op oc wr HKP.out hbl)
   clear hbl
   have HST:Hid ((ms.take (j+1)).any g=g ms[j]):=by
    show _=_
    rw [List.take_succ_eq_append_getElem hlt,List.any_append,HNO.out];simp
   have HUP:Hid (g ms[j]=true->ms.any g=true):=fun h=>List.any_eq_true.2 ⟨ms[j],List.getElem_mem hlt,h⟩
   generalize g ms[j]=β at HCALL HST HUP
   generalize ms[j]=m at hc0 hc1 hon HCALL
   clear hrow HNO
   go_wp2_with fail
   refine HCALL.out.mono ?_
   rintro e w1 ⟨rfl,k1⟩
   have K1:=hid (HKP.out.trans k1)
   clear k1 hc0 hc1 HCALL
   cases β
   ·go_wp2_with fail
    go_roundg (ms.length-(j+1))
    case rel=>exact ⟨j+1,by omega,by go_num,HST.out,K1.out⟩
    case measure=>omega
   ·go_wp2_with fail
    go_ret
    exact ⟨(j:Int),rfl,by rw [show ms.any g=true from HUP.out trivial];exact decide_eq_true (by omega),K1.out⟩
  ·obtain rfl:j=ms.length:=by omega
   go_wp2_with fail
   go_ret
   refine ⟨-1,rfl,?_,HKP.out⟩
   have:=HNO.out
   rw [List.take_length] at this
   rw [this];rfl
theorem fV {F:Nat} {cap:Array Value} (S:Nat->Prop) (ms:List MB) (g:MB->Bool) (lp:Option Addr) (k lc:Nat) (w:World) (hS : ∀ b,S b->b<w.heap.size)
  (hF : ∀ args w,(callFunc F args).run Tryz.prog w=.ok (.enter F args) w) (hm:bS S w ms (.slice lp k lc))
  (hc : ∀ (j:Nat) (h:j<ms.length) (op:Option Addr) (oc:Nat) (W:World),aA w W->cL S W ms[j].on (.slice op ms[j].on.length oc)->Calls Tryz.prog F (#[.agg #[.int .i64 ms[j].pl,.slice op ms[j].on.length oc]]++cap) W fun e w'=>e=.returned (.bool (g ms[j]))/\aA W w') :
  Calls Tryz.prog 66 #[.slice lp k lc,.func (.func F) #[] cap] w fun e w'=>e=.returned (.bool (ms.any g))/\aA w w':=by
 have HI:=hid (mS S ms g _ w hS hF hm hc)
 clear hm hc
 go_enter Tryz.func66,Tryz.ntmps66
 go_wp2_with fail
 refine HI.out.mono ?_
 rintro e w1 ⟨n,rfl,hn,k1⟩
 have HN:=hid hn
 have K1:=hid k1
 clear hn k1 HI
 go_wp2_with fail
 go_ret
 exact ⟨aE HN.out,K1.out⟩
def shB (ps:List PK) (p:PK) (m:MB):Bool:=((aV ps m).n.toList==p.n.toList)&&((aV ps m).sl==p.sl)
theorem jQ (ps:List PK) (ms:List MB) (k:Nat) : ∀ n,n<=ms.length->dI ps ms k n=(ms.take n).any (shB ps (aV ps (ms.getD k MB.zero)))
 | 0,_=>by simp [dI]
 | n+1,h=>by
  rw [dI,jQ ps ms k n (by omega),List.take_succ_eq_append_getElem (by omega),List.any_append,cJ ms n (by omega)]
  simp [shB]
theorem uH (S:Nat->Prop) (ps:List PK) (m:MB) (op:Option Addr) (oc ct cp:Nat) (tp:Option Addr) (tc:Nat) (p:PK) (pcs:Array Value) (w:World) (hS : ∀ b,S b->b<w.heap.size) (hp:aT S w ps (.slice tp ps.length tc)) (ht:aD ct 24 (.slice tp ps.length tc) w)
  (hb:aG cp pcs w) (hp0:pcs[0]? = some (.string p.n)) (hp2:pcs[2]? = some (.int .i64 p.sl)) (h0:0<=m.pl) (h1:m.pl<ps.length) (hon:m.on.length<=9223372036854775807) :
  Calls Tryz.prog 131 #[.agg #[.int .i64 m.pl,.slice op m.on.length oc],.pointer (some ⟨ct,0,none⟩),.pointer (some ⟨cp,0,none⟩)] w fun e w'=>e=.returned (.bool (shB ps p m))/\aA w w':=by
 obtain ⟨q,hq⟩ : ∃ q:Nat,m.pl=q:=⟨m.pl.toNat,by omega⟩
 have hqp:q<ps.length:=by omega
 have HX:Hid (shB ps p m=((ps[q].n.toList==p.n.toList)&&(ps[q].sl==p.sl))):=by show _=_;unfold shB aV;rw [hq,Int.toNat_natCast,dF ps q hqp]
 obtain ⟨tb,toff,tcap,htv,htb,hlen,htrow⟩:=hp.get hqp
 cases htv
 obtain ⟨cs,hcs,hpj⟩:=htrow q hqp
 generalize ps[q]=p' at hpj HX
 obtain ⟨kk',a',fl',nt',kids',kp',fp',kc',fc',hnd,hfl,rfl,-,-⟩:=hpj.spelt
 obtain ⟨c0,c1,c2,c3,c4,c5,c6,c7,c8,c9,c10,c11,c12,c13⟩:=cM hcs
 have htl:=hS tb htb
 obtain ⟨ht0,-,htlt⟩:=ht.facts
 have hpn:w.cell? ⟨cp,0,none⟩=some (.string p.n):=(hb.2 0).trans hp0
 have hps:w.cell? ⟨cp,2,none⟩=some (.int .i64 p.sl):=(hb.2 2).trans hp2
 have hlp:=hb.1
 generalize p.n=pn at HX hpn
 generalize p.sl=psl at HX hps
 rcases p' with ⟨n',v',sl',fs',nd'⟩
 rcases m with ⟨pl,on⟩
 simp only at hq hon HX c0 c1 c2 c3 hfl ⊢
 subst hq
 have KW:=hid ((aA.alloc w (.cells #[.int .i64 (q:Int),.slice op on.length oc] 64)).alloc' (.cells #[.string n',.int .i64 v',.int .i64 sl',.slice fp' fs'.length fc',.int .i64 kk',.string a'.n,.int .i64 a'.op,.int .i64 a'.v,.int .i64 a'.sl,.string a'.f,.bool a'.on,.string fl',.bool nt',.slice kp' kids'.length kc'] 76))
 clear hcs hpj htrow hnd hp ht hb hp0 hp2 h0 h1
 cases hne:(n'.toList==pn.toList)
 ·rw [hne] at HX
  go_enter Tryz.func131,Tryz.ntmps131
  go_wp2_with fail
  go_ret
  exact ⟨aE (by rw [HX.out];rfl),KW.out⟩
 ·rw [hne] at HX
  go_enter Tryz.func131,Tryz.ntmps131
  go_wp2_with fail
  go_ret
  exact ⟨aE (by rw [HX.out];simp),KW.out⟩
theorem pY (args:Array Value) (w:World):(callFunc 131 args).run Tryz.prog w=.ok (.enter 131 args) w:=enters_of Tryz.func131 (by kernel_rfl) rfl args w
theorem uI (S:Nat->Prop) (ps:List PK) (ms:List MB) (tv lv:Value) (k:Nat) (w:World) (hS : ∀ b,S b->b<w.heap.size) (hp:aT S w ps tv) (hm:bS S w ms lv) (hk:k<ms.length) (hok:jX ps ms) :
  Calls Tryz.prog 80 #[.agg #[tv],lv,.int .i64 k] w fun e w'=>e=.returned (.bool (dI ps ms k k))/\aA w w':=by
 have HP:=hid hp
 have HMS:=hid hm
 have HOK:=hid hok
 obtain ⟨tp,tc,rfl,hlen⟩:=hp.len
 obtain ⟨lp,lc,rfl,hllen⟩:=hm.len
 have hcap:=hm.cap
 obtain ⟨mb,moff,mcap,hmv,hmS,-,hrow⟩:=hm.get hk
 cases hmv
 obtain ⟨op,oc,hc0,-,-,-⟩:=hrow k _ (List.getElem?_eq_getElem hk)
 obtain ⟨h0,h1,h2⟩:=hok k _ (List.getElem?_eq_getElem hk)
 obtain ⟨q,hq⟩ : ∃ q:Nat,ms[k].pl=q:=⟨ms[k].pl.toNat,by omega⟩
 have hqp:q<ps.length:=by omega
 have hpk:aV ps ms[k]=ps[q]:=by unfold aV;rw [hq,Int.toNat_natCast,dF ps q hqp]
 have HX:Hid (dI ps ms k k=(ms.take k).any (shB ps ps[q])):=by
  show _=_
  rw [jQ ps ms k k (by omega),cJ ms k hk,hpk]
 have HIN:Hid (∀ (j:Nat) (h:j<(ms.take k).length),0<=(ms.take k)[j].pl/\(ms.take k)[j].pl<ps.length/\(ms.take k)[j].on.length<=9223372036854775807):=fun j h=>by
  have hj:j<ms.length:=by simp at h;omega
  have e:(ms.take k)[j]=ms[j]:=List.getElem_take
  rw [e]
  obtain ⟨x1,x2,-⟩:=hok j _ (List.getElem?_eq_getElem hj)
  obtain ⟨_,_,-,-,x3,-⟩:=hrow j _ (List.getElem?_eq_getElem hj)
  exact ⟨x1,x2,x3⟩
 rw [hq] at hc0
 obtain ⟨tb,toff,tcap,htv,htb,-,htrow⟩:=hp.get hqp
 cases htv
 obtain ⟨cs,hcs,hpj⟩:=htrow q hqp
 generalize ps[q]=p at hpj HX
 obtain ⟨kk,a,fl,nt,kids,kp,fp,kc,fc,hnd,hfl,rfl,-,-⟩:=hpj.spelt
 obtain ⟨c0,c1,c2,c3,c4,c5,c6,c7,c8,c9,c10,c11,c12,c13⟩:=cM hcs
 have hmlt:=hS mb hmS
 have htlt:=hS tb htb
 clear hcs hpj htrow hrow hp hm hok h0 h1 h2 hq hpk hnd
 rcases p with ⟨n,v,sl,fs,nd⟩
 simp only at hfl c0 c1 c2 c3 HX
 have hmf : ∀ (fn:Fn) (first cap:Array Value) (w:World),(Instr.makeFunc fn first cap).run Tryz.prog w=.ok (.func fn first cap) w:=fun _ _ _ _=>rfl
 go_enter Tryz.func80,Tryz.ntmps80
 go_upto_region 1 with fail
 refine bW (fun W'=>aA w W'/\aD w.heap.size 24 (.slice (some ⟨tb,toff,none⟩) ps.length tc) W') ⟨aA.alloc _ _,aD.new _ _ _⟩ ?_
 rintro W0 ⟨k0,v0⟩
 have K0:=hid k0
 have V0:=hid v0
 obtain ⟨g0,-,l0⟩:=v0.facts
 have gm:=(k0.cell (p:=⟨mb,moff+k*2,none⟩) hmlt).trans hc0
 have gt : ∀ (o:Nat) (x:Value),w.cell? ⟨tb,o,none⟩=some x->W0.cell? ⟨tb,o,none⟩=some x:=fun o x h=>(k0.cell (p:=⟨tb,o,none⟩) htlt).trans h
 have d0:=gt _ _ c0
 have d1:=gt _ _ c1
 have d2:=gt _ _ c2
 have d3:=gt _ _ c3
 have d4:=gt _ _ c4
 have d5:=gt _ _ c5
 have d6:=gt _ _ c6
 have d7:=gt _ _ c7
 have d8:=gt _ _ c8
 have d9:=gt _ _ c9
 have d10:=gt _ _ c10
 have d11:=gt _ _ c11
 have d12:=gt _ _ c12
 have d13:=gt _ _ c13
 have hm0:mb<W0.heap.size:=Nat.lt_of_lt_of_le hmlt k0.size
 have ht0:tb<W0.heap.size:=Nat.lt_of_lt_of_le htlt k0.size
 clear c0 c1 c2 c3 c4 c5 c6 c7 c8 c9 c10 c11 c12 c13 gt k0 v0 hc0
 go_region
 clear d0 d1 d2 d3 d4 d5 d6 d7 d8 d9 d10 d11 d12 d13 g0 gm
 go_upto_region 2 with fail
 refine bW (fun W'=>aA W0 W'/\aG W0.heap.size #[.string n,.int .i64 v,.int .i64 sl,.slice fp fs.length fc,.int .i64 kk,.string a.n,.int .i64 a.op,.int .i64 a.v,.int .i64 a.sl,.string a.f,.bool a.on,.string fl,.bool nt,.slice kp kids.length kc] W') ⟨(aA.alloc _ _).trans (gU _),(aG.new _ _ _).keep (gU _) (by rw [aJ];omega)⟩ ?_
 rintro W1 ⟨k1,b1⟩
 have K1:=hid (K0.out.trans k1)
 have B1:=hid b1
 have V1:=hid (V0.out.keep k1 V0.out.facts.2.2)
 clear k1 b1
 go_wp2_with fail
 refine (fV S (ms.take k) (shB ps ⟨n,v,sl,fs,nd⟩) _ k lc W1 (fun b hb=>Nat.lt_of_lt_of_le (hS b hb) K1.out.size) pY ((HMS.out.keep hS K1.out).take (by omega)) ?_).mono ?_
 ·intro j h op oc W kW _
  obtain ⟨x1,x2,x3⟩:=HIN.out j h
  exact uH S ps (ms.take k)[j] op oc _ _ _ tc ⟨n,v,sl,fs,nd⟩ _ W (fun b hb=>Nat.lt_of_lt_of_le (Nat.lt_of_lt_of_le (hS b hb) K1.out.size) kW.size) (HP.out.keep hS (K1.out.trans kW)) (V1.out.keep kW V1.out.facts.2.2) (B1.out.keep kW B1.out.1) rfl rfl x1 x2 x3
 rintro e w2 ⟨rfl,k2⟩
 have K2:=hid (K1.out.trans k2)
 clear k2
 go_wp2_with fail
 go_ret
 exact ⟨aE HX.out.symm,K2.out⟩
theorem gO.len {S:Nat->Prop} {w:World} {ts:List At} {v:Value} (h:gO S w ts v) : ∃ p cap,v=.slice p ts.length cap/\ts.length<=9223372036854775807:=by
 obtain ⟨p,cap,h1,h2,-⟩:=h;exact ⟨p,cap,h1,h2⟩
theorem gO.get {S:Nat->Prop} {w:World} {ts:List At} {p:Option Addr} {n cap:Nat} (h:gO S w ts (.slice p n cap)) {k:Nat} (hk:k<ts.length) : ∃ b off,p=some ⟨b,off,none⟩/\S b/\
  w.cell? ⟨b,off+k*6,none⟩=some (.string ts[k].n)/\w.cell? ⟨b,off+k*6+1,none⟩=some (.int .i64 ts[k].op)/\w.cell? ⟨b,off+k*6+2,none⟩=some (.int .i64 ts[k].v)/\w.cell? ⟨b,off+k*6+3,none⟩=some (.int .i64 ts[k].sl)/\w.cell? ⟨b,off+k*6+4,none⟩=some (.string ts[k].f)/\w.cell? ⟨b,off+k*6+5,none⟩=some (.bool ts[k].on):=by
 obtain ⟨p',cap',e,-,h3⟩:=h
 cases e
 obtain ⟨b,off,rfl,h5,h6⟩:=h3 (by omega)
 exact ⟨b,off,rfl,h5,h6 k _ (List.getElem?_eq_getElem hk)⟩
theorem dW.len {S:Nat->Prop} {w:World} {zs:List Int} {v:Value} (h:dW S w zs v) : ∃ p cap,v=.slice p zs.length cap/\zs.length<=9223372036854775807:=by
 obtain ⟨p,cap,h1,h2,-⟩:=h;exact ⟨p,cap,h1,h2⟩
theorem dW.get {S:Nat->Prop} {w:World} {zs:List Int} {p:Option Addr} {n cap:Nat} (h:dW S w zs (.slice p n cap)) (hk:0<zs.length) : ∃ b off,p=some ⟨b,off,none⟩/\S b/\∀ j,j<zs.length->w.cell? ⟨b,off+j,none⟩=some (.int .i64 (zs.getD j 0)):=by
 obtain ⟨p',cap',e,-,h3⟩:=h
 cases e
 obtain ⟨b,off,rfl,h5,h6⟩:=h3 (by omega)
 refine ⟨b,off,rfl,h5,fun j hj=> ?_⟩
 rw [List.getD_eq_getElem?_getD,List.getElem?_eq_getElem hj,Option.getD_some]
 exact h6 j _ (List.getElem?_eq_getElem hj)
theorem gP.len {S:Nat->Prop} {w:World} {zs:List (Int × Int)} {v:Value} (h:gP S w zs v) : ∃ p cap,v=.slice p zs.length cap/\zs.length<=9223372036854775807:=by
 obtain ⟨p,cap,h1,h2,-⟩:=h;exact ⟨p,cap,h1,h2⟩
theorem gP.get {S:Nat->Prop} {w:World} {zs:List (Int × Int)} {p:Option Addr} {n cap:Nat} (h:gP S w zs (.slice p n cap)) (hk:0<zs.length) : ∃ b off,p=some ⟨b,off,none⟩/\S b/\∀ j,j<zs.length->w.cell? ⟨b,off+j*2,none⟩=some (.int .i64 (zs.getD j (0,0)).1)/\w.cell? ⟨b,off+j*2+1,none⟩=some (.int .i64 (zs.getD j (0,0)).2):=by
 obtain ⟨p',cap',e,-,h3⟩:=h
 cases e
 obtain ⟨b,off,rfl,h5,h6⟩:=h3 (by omega)
 refine ⟨b,off,rfl,h5,fun j hj=> ?_⟩
 rw [List.getD_eq_getElem?_getD,List.getElem?_eq_getElem hj,Option.getD_some]
 exact h6 j _ (List.getElem?_eq_getElem hj)
theorem sP (S:Nat->Prop) (ts:List At) (v:Value) (w:World) (hS : ∀ b,S b->b<w.heap.size) (h:gO S w ts v) :
  Calls Tryz.prog 87 #[v] w fun e w'=>e=.returned (.int .i64 (taE ts))/\aA w w':=by
 have H:=hid h
 obtain ⟨p,cap,rfl,hlen⟩:=h.len
 clear h
 by_cases h6:6<ts.length
 ·have h6':(6:Int)<(ts.length:Int):=by omega
  have HX:Hid (taE ts=2):=by show _=_;unfold taE;rw [if_pos h6]
  go_enter Tryz.func87,Tryz.ntmps87
  go_wp2_with fail
  go_ret
  exact ⟨aB HX.out.symm,aA.refl _⟩
 ·have h6' : ¬ (6:Int)<(ts.length:Int):=by omega
  have HX:Hid (taE ts=aI (fun k=>eT (ts.getD k At.zero)) 0 ts.length):=by show _=_;unfold taE;rw [if_neg h6]
  generalize hg:(fun k=>eT (ts.getD k At.zero))=g at HX
  have HG:=hid hg
  clear hg
  go_enter Tryz.func87,Tryz.ntmps87
  go_wp2_with fail
  go_loopg [11] ts.length (fun gk i wr=> ∃ j:Nat,j+gk=ts.length/\i=.int .i64 j/\aI g 0 ts.length=aI g j (ts.length-j)/\aA w wr)
  case atStart=>exact ⟨0,by simp,rfl,rfl,aA.refl _⟩
  case round=>
   obtain ⟨j,hj,rfl,he,hkp⟩:=hrel
   have HEQ:=hid he
   have HK:=hid hkp
   clear he hkp
   by_cases hlt:j<ts.length
   ·obtain ⟨b,off,hp,hSb,c0,c1,c2,c3,c4,c5⟩:=(H.out.keep hS HK.out).get hlt
    subst hp
    have HST:=hid (cE (f:=g) hlt)
    have HGJ:Hid (g j=eT ts[j]):=by show _=_;rw [← HG.out];show eT (ts.getD j At.zero)=_;rw [List.getD_eq_getElem?_getD,List.getElem?_eq_getElem hlt,Option.getD_some]
    generalize ts[j]=a at c0 c1 c2 c3 c4 c5 HGJ
    go_wp2_with fail
    refine bE (fun W'=>aA w W') (HK.out.alloc' _) ?_
    intro W0 k0
    refine (kP a.n a.f a.op a.v a.sl a.on W0).mono ?_
    rintro e w1 ⟨rfl,k1⟩
    have K1:=hid (k0.trans k1)
    rw [show chk a.n.data.toList a.op a.v a.sl a.f.data.toList a.on=g j from HGJ.out.symm]
    clear k0 k1 c0 c1 c2 c3 c4 c5
    by_cases hz:g j=0
    ·have HZ:=hid hz
     have hz1:(g j==0)=true:=by simp [hz]
     have hz2:(g j != 0)=false:=by simp [hz]
     clear hz
     go_wp2_with fail
     go_roundg (ts.length-(j+1))
     case rel=>exact ⟨j+1,by omega,by go_num,by rw [HEQ.out,HST.out,if_pos HZ.out],K1.out⟩
     case measure=>omega
    ·have HZ:=hid hz
     have hz1:(g j==0)=false:=by simp [hz]
     have hz2:(g j != 0)=true:=by simp [hz]
     clear hz
     go_wp2_with fail
     go_ret
     exact ⟨aB (by rw [HX.out,HEQ.out,HST.out,if_neg HZ.out]),K1.out⟩
   ·go_wp2_with fail
    go_ret
    exact ⟨aB (by rw [HX.out,HEQ.out,show ts.length-j=0 by omega];rfl),HK.out⟩
theorem tX (S:Nat->Prop) (ps:List PK) (ma:List Int) (tv v:Value) (w:World) (hS : ∀ b,S b->b<w.heap.size) (hp:aT S w ps tv) (h:dW S w ma v) :
  Calls Tryz.prog 88 #[.agg #[tv],v] w fun e w'=>e=.returned (.int .i64 (aI (maE ps ma) 0 ma.length))/\aA w w':=by
 have H:=hid h
 obtain ⟨tp,tc,rfl,htlen⟩:=hp.len
 obtain ⟨p,cap,rfl,hlen⟩:=h.len
 clear h hp
 go_enter Tryz.func88,Tryz.ntmps88
 go_wp2_with fail
 go_loopg [9] ma.length (fun gk i wr=> ∃ j:Nat,j+gk=ma.length/\i=.int .i64 j/\aI (maE ps ma) 0 ma.length=aI (maE ps ma) j (ma.length-j)/\aA w wr/\aD w.heap.size 24 (.slice tp ps.length tc) wr)
 case atStart=>exact ⟨0,by simp,rfl,rfl,aA.alloc _ _,aD.new _ _ _⟩
 case round=>
  obtain ⟨j,hj,rfl,he,hkp,hvt⟩:=hrel
  have HEQ:=hid he
  have HK:=hid hkp
  have HV:=hid hvt
  obtain ⟨ht0,-,htl⟩:=hvt.facts
  clear he hkp hvt
  by_cases hlt:j<ma.length
  ·obtain ⟨b,off,hp,hSb,hc⟩:=(H.out.keep hS HK.out).get (by omega)
   subst hp
   have hcj:=hc j hlt
   have HST:=hid (cE (f:=maE ps ma) hlt)
   have HMA:Hid (maE ps ma j=if ma.getD j 0<0∨(ps.length:Int)<=ma.getD j 0 then 5 else if 0<j/\ma.getD j 0<=ma.getD (j-1) 0 then 6 else 0):=rfl
   have hprev:0<j->wr.cell? ⟨b,off+(j-1),none⟩=some (.int .i64 (ma.getD (j-1) 0)):=fun h0=>hc (j-1) (by omega)
   generalize ma.getD j 0=x at hcj HMA
   generalize ma.getD (j-1) 0=y at hprev HMA
   clear hc
   by_cases h0:x<0
   ·have HY:Hid (maE ps ma j=5):=by show _=_;rw [HMA.out,if_pos (Or.inl h0)]
    clear HMA hprev
    go_wp2_with fail
    go_ret
    exact ⟨aB (by rw [HEQ.out,HST.out,HY.out];rfl),HK.out⟩
   by_cases h1:(ps.length:Int)<=x
   ·have HY:Hid (maE ps ma j=5):=by show _=_;rw [HMA.out,if_pos (Or.inr h1)]
    clear HMA hprev
    go_wp2_with fail
    go_ret
    exact ⟨aB (by rw [HEQ.out,HST.out,HY.out];rfl),HK.out⟩
   have HM2:Hid (maE ps ma j=if 0<j/\x<=y then 6 else 0):=by show _=_;rw [HMA.out,if_neg (by omega)]
   clear HMA
   by_cases hj0:0<j
   ·have hcy:=hprev hj0
    obtain ⟨m,rfl⟩ : ∃ m,j=m+1:=⟨j-1,by omega⟩
    have hcy':wr.cell? ⟨b,off+m,none⟩=some (.int .i64 y):=hcy
    have h0':(0:Int)<((m+1:Nat):Int):=by omega
    have hd:decide ((0:Int)<((m+1:Nat):Int))=true:=decide_eq_true h0'
    have e1:((m+1:Nat):Int)-1=(m:Int):=by omega
    have hm:m<ma.length:=by omega
    clear hprev hcy
    by_cases hle:x<=y
    ·have HY:Hid (maE ps ma (m+1)=6):=by show _=_;rw [HM2.out,if_pos ⟨by omega,hle⟩]
     clear HM2
     go_wp2_with fail
     go_ret
     exact ⟨aB (by rw [HEQ.out,HST.out,HY.out];rfl),HK.out⟩
    ·have HY:Hid (maE ps ma (m+1)=0):=by show _=_;rw [HM2.out,if_neg (fun h=>hle h.2)]
     clear HM2
     go_wp2_with fail
     go_roundg (ma.length-(m+1+1))
     case rel=>exact ⟨m+1+1,by omega,by go_num,by rw [HEQ.out,HST.out,HY.out];rfl,HK.out,HV.out⟩
     case measure=>omega
   ·have HY:Hid (maE ps ma j=0):=by show _=_;rw [HM2.out,if_neg (fun h=>hj0 h.1)]
    obtain rfl:j=0:=by omega
    rw [Nat.add_zero] at hcj
    clear HM2 hprev
    go_wp2_with fail
    go_roundg (ma.length-(0+1))
    case rel=>exact ⟨0+1,by omega,by go_num,by rw [HEQ.out,HST.out,HY.out];rfl,HK.out,HV.out⟩
    case measure=>omega
  ·go_wp2_with fail
   go_ret
   exact ⟨aB (by rw [HEQ.out,show ma.length-j=0 by omega];rfl),HK.out⟩
def oD (x y:Int × Int):Bool:=if x.1=y.1 then decide (y.2<x.2) else decide (y.1<x.1)
theorem qX (x0 x1 y0 y1:Int) (w:World) :
  Calls Tryz.prog 134 #[.agg #[.int .i64 x0,.int .i64 x1],.agg #[.int .i64 y0,.int .i64 y1]] w fun e w'=>e=.returned (.bool (oD (x0,x1) (y0,y1)))/\aA w w':=by
 have HX:Hid (oD (x0,x1) (y0,y1)=if x0=y0 then decide (y1<x1) else decide (y0<x0)):=rfl
 have KW:=hid ((aA.alloc w (.cells #[.int .i64 x0,.int .i64 x1] 65)).alloc' (.cells #[.int .i64 y0,.int .i64 y1] 65))
 by_cases h:x0=y0
 ·subst h
  have h1:(x0==x0)=true:=by simp
  have h2:(x0 != x0)=false:=by simp
  go_enter Tryz.func134,Tryz.ntmps134
  go_wp2_with fail
  go_ret
  exact ⟨aE (by rw [HX.out];simp),KW.out⟩
 ·have h1:(x0==y0)=false:=by simp [h]
  have h2:(x0 != y0)=true:=by simp [h]
  have HY:Hid (oD (x0,x1) (y0,y1)=decide (y0<x0)):=by show _=_;rw [HX.out,if_neg h]
  clear h HX
  go_enter Tryz.func134,Tryz.ntmps134
  go_wp2_with fail
  go_ret
  exact ⟨aE HY.out.symm,KW.out⟩
theorem qW (x y:Int × Int):oD x y=true↔(y.1<x.1∨y.1=x.1/\y.2<x.2):=by
 unfold oD
 split
 ·rename_i h;simp only [decide_eq_true_eq];omega
 ·rename_i h;simp only [decide_eq_true_eq];omega
theorem uQ (S:Nat->Prop) (ps:List PK) (on:List (Int × Int)) (tv v:Value) (w:World) (hS : ∀ b,S b->b<w.heap.size) (hp:aT S w ps tv) (h:gP S w on v) :
  Calls Tryz.prog 89 #[.agg #[tv],v] w fun e w'=>e=.returned (.int .i64 (aI (onE ps on) 0 on.length))/\aA w w':=by
 have H:=hid h
 have HP:=hid hp
 obtain ⟨tp,tc,rfl,htlen⟩:=hp.len
 obtain ⟨p,cap,rfl,hlen⟩:=h.len
 clear h hp
 go_enter Tryz.func89,Tryz.ntmps89
 go_wp2_with fail
 go_loopg [11] on.length (fun gk i wr=> ∃ j:Nat,j+gk=on.length/\i=.int .i64 j/\aI (onE ps on) 0 on.length=aI (onE ps on) j (on.length-j)/\aA w wr/\aD w.heap.size 24 (.slice tp ps.length tc) wr)
 case atStart=>exact ⟨0,by simp,rfl,rfl,aA.alloc _ _,aD.new _ _ _⟩
 case round=>
  obtain ⟨j,hj,rfl,he,hkp,hvt⟩:=hrel
  have HEQ:=hid he
  have HK:=hid hkp
  have HV:=hid hvt
  clear he hkp hvt
  by_cases hlt:j<on.length
  ·have HST:=hid (cE (f:=onE ps on) hlt)
   have hSr : ∀ b,S b->b<wr.heap.size:=fun b hb=>Nat.lt_of_lt_of_le (hS b hb) HK.out.size
   obtain ⟨b,off,hp,hSb,hc⟩:=(H.out.keep hS HK.out).get (by omega)
   subst hp
   obtain ⟨hc0,hc1⟩:=hc j hlt
   have HON:Hid (onE ps on j=if (on.getD j (0,0)).1<0∨(ps.length:Int)<=(on.getD j (0,0)).1 then 5 else if (on.getD j (0,0)).2<0∨((ps.getD (on.getD j (0,0)).1.toNat PK.zero).fl.length:Int)<=(on.getD j (0,0)).2 then 5
    else if 0<j/\oD (on.getD j (0,0)) (on.getD (j-1) (0,0))=false then 6 else 0):=by
    show _=_
    unfold onE
    by_cases hb:oD (on.getD j (0,0)) (on.getD (j-1) (0,0))=true
    ·have:=(qW _ _).1 hb
     simp only [hb,this,not_true_eq_false,and_false,Bool.true_eq_false]
    ·have h2 : ¬ _:=fun h=>hb ((qW _ _).2 h)
     rw [Bool.not_eq_true] at hb
     simp only [hb,h2,not_false_eq_true,and_true]
   have hprev:0<j->wr.cell? ⟨b,off+(j-1)*2,none⟩=some (.int .i64 (on.getD (j-1) (0,0)).1)/\wr.cell? ⟨b,off+(j-1)*2+1,none⟩=some (.int .i64 (on.getD (j-1) (0,0)).2):=fun h0=>hc (j-1) (by omega)
   generalize on.getD j (0,0)=xx at hc0 hc1 HON
   generalize on.getD (j-1) (0,0)=yy at hprev HON
   obtain ⟨x0,x1⟩:=xx
   obtain ⟨y0,y1⟩:=yy
   simp only at hc0 hc1 HON hprev
   have hblt:=hSr b hSb
   clear hc
   go_upto_region 4 with fail
   refine bW (fun W'=>aA wr W'/\aG wr.heap.size #[.int .i64 x0,.int .i64 x1] W') ⟨aA.alloc _ _,aG.new _ _ _⟩ ?_
   rintro W2 ⟨k2,b2⟩
   have hb2c:=b2.2
   have hb2l:=b2.1
   go_quiet (fail)
   have k3:aA wr (W2.drewN nq):=aA.drewN k2 _
   have b3:=b2.keep (aA.drewN (aA.refl W2) nq) b2.1
   generalize W2.drewN nq=W3 at k3 b3 ⊢
   have K3':=hid k3
   have K3:=hid (HK.out.trans k3)
   have V3:=hid (HV.out.keep k3 HV.out.facts.2.2)
   have B3:=hid b3
   obtain ⟨ht0,-,htl⟩:=V3.out.facts
   clear k2 b2 hb2c hb2l k3 b3 hc0 hc1
   by_cases h0:x0<0
   ·have HY:Hid (onE ps on j=5):=by show _=_;rw [HON.out,if_pos (Or.inl h0)]
    clear HON hprev
    go_wp2_with fail
    go_ret
    exact ⟨aB (by rw [HEQ.out,HST.out,HY.out];rfl),K3.out⟩
   by_cases h1:(ps.length:Int)<=x0
   ·have HY:Hid (onE ps on j=5):=by show _=_;rw [HON.out,if_pos (Or.inr h1)]
    clear HON hprev
    go_wp2_with fail
    go_ret
    exact ⟨aB (by rw [HEQ.out,HST.out,HY.out];rfl),K3.out⟩
   obtain ⟨q,rfl⟩ : ∃ q:Nat,x0=q:=⟨x0.toNat,by omega⟩
   have hqp:q<ps.length:=by omega
   obtain ⟨tb,toff,tcap,htv,htb,-,htrow⟩:=(HP.out.keep hS K3.out).get hqp
   cases htv
   obtain ⟨cs,hcs,hpk⟩:=htrow q hqp
   have HO2:Hid (onE ps on j=if x1<0∨(ps[q].fl.length:Int)<=x1 then 5 else if 0<j/\oD ((q:Int),x1) (y0,y1)=false then 6 else 0):=by
    show _=_
    rw [HON.out,if_neg (by omega),Int.toNat_natCast,dF ps q hqp]
   generalize ps[q]=p at hpk HO2
   obtain ⟨kk,a,fl,nt,kids,kp,fp,kc,fc,hnd,hfl,rfl,hf,hn⟩:=hpk.spelt
   obtain ⟨-,-,-,c3,-⟩:=cM hcs
   clear hcs hpk htrow hf hn hnd HON
   rcases p with ⟨pn,pv,psl,fs,nd⟩
   simp only at hfl c3 HO2
   by_cases h2:x1<0
   ·have HY:Hid (onE ps on j=5):=by show _=_;rw [HO2.out,if_pos (Or.inl h2)]
    clear HO2 hprev
    go_wp2_with fail
    go_ret
    exact ⟨aB (by rw [HEQ.out,HST.out,HY.out];rfl),K3.out⟩
   by_cases h3:(fs.length:Int)<=x1
   ·have HY:Hid (onE ps on j=5):=by show _=_;rw [HO2.out,if_pos (Or.inr h3)]
    clear HO2 hprev
    go_wp2_with fail
    go_ret
    exact ⟨aB (by rw [HEQ.out,HST.out,HY.out];rfl),K3.out⟩
   have HO3:Hid (onE ps on j=if 0<j/\oD ((q:Int),x1) (y0,y1)=false then 6 else 0):=by show _=_;rw [HO2.out,if_neg (by omega)]
   clear HO2
   by_cases hj0:0<j
   ·obtain ⟨hcy0,hcy1⟩:=hprev hj0
    obtain ⟨m,rfl⟩ : ∃ m,j=m+1:=⟨j-1,by omega⟩
    have hcy0':wr.cell? ⟨b,off+m*2,none⟩=some (.int .i64 y0):=hcy0
    have hcy1':wr.cell? ⟨b,off+m*2+1,none⟩=some (.int .i64 y1):=hcy1
    have h0':(0:Int)<((m+1:Nat):Int):=by omega
    have hd:decide ((0:Int)<((m+1:Nat):Int))=true:=decide_eq_true h0'
    have e1:((m+1:Nat):Int)-1=(m:Int):=by omega
    have hm:m<on.length:=by omega
    clear hprev hcy0 hcy1
    go_upto_region 11 with fail
    clear ht0 c3
    have cb : ∀ (d:Nat) (os:Array Obj) (o:Nat) (x:Value),wr.cell? ⟨b,o,none⟩=some x->(grow (redrawn W3 d) os).cell? ⟨b,o,none⟩=some x:=fun d os o x hx=>((below_regrown W3 d os).cell (p:=⟨b,o,none⟩) (Nat.lt_of_lt_of_le hblt K3'.out.size)).trans ((K3'.out.cell (p:=⟨b,o,none⟩) hblt).trans hx)
    have d0:=fun d os=>cb d os _ _ hcy0'
    have d1:=fun d os=>cb d os _ _ hcy1'
    have db : ∀ o d os,(grow (redrawn W3 d) os).cell? ⟨wr.heap.size,o,none⟩=(#[.int .i64 (q:Int),.int .i64 x1]:Array Value)[o]? :=fun o d os=>(B3.out.keep (below_regrown W3 d os) B3.out.1).2 o
    generalize hbe:oD ((q:Int),x1) (y0,y1)=β at HO3
    have cBeh:=hid (show ∀ d os,Calls Tryz.prog 134 #[.agg #[.int .i64 (q:Int),.int .i64 x1],.agg #[.int .i64 y0,.int .i64 y1]] (grow (redrawn W3 d) os) fun e w''=>e=.returned (.bool β)/\∃ p:Regrown,w''=grow (redrawn W3 p.d) p.os from fun d os=>by
     rw [← hbe]
     exact Calls.regrown_of (qX (q:Int) x1 y0 y1 _))
    clear cb hbe hcy0' hcy1'
    refine wp_region_quiet_below (by kernel_rfl) (by kernel_rfl) ?_
    repeat (first | go_big_quiet_step (exact cBeh.out _ _) | quiet_step (exact cBeh.out _ _))
    refine wpQuiet_nil ?_
    intro _ hw'
    obtain ⟨⟨dq,osq⟩,hw''⟩:=hw'
    subst hw''
    have k4:=below_regrown W3 dq osq
    generalize grow (redrawn W3 dq) osq=W4 at k4 ⊢
    have K4:=hid (K3.out.trans k4)
    have V4:=hid (V3.out.keep k4 V3.out.facts.2.2)
    clear d0 d1 db cBeh k4
    cases β
    ·have HY:Hid (onE ps on (m+1)=6):=by show _=_;rw [HO3.out,if_pos ⟨by omega,rfl⟩]
     go_wp2_with fail
     go_ret
     exact ⟨aB (by rw [HEQ.out,HST.out,HY.out];rfl),K4.out⟩
    ·have HY:Hid (onE ps on (m+1)=0):=by show _=_;rw [HO3.out,if_neg (fun h=>by cases h.2)]
     go_wp2_with fail
     go_roundg (on.length-(m+1+1))
     case rel=>exact ⟨m+1+1,by omega,by go_num,by rw [HEQ.out,HST.out,HY.out];rfl,K4.out,V4.out⟩
     case measure=>omega
   ·have HY:Hid (onE ps on j=0):=by show _=_;rw [HO3.out,if_neg (fun h=>hj0 h.1)]
    obtain rfl:j=0:=by omega
    have hd:decide ((0:Int)<((0:Nat):Int))=false:=by decide
    clear HO3 hprev
    go_upto_region 11 with fail
    go_quiet (fail)
    have k4:aA W3 (W3.drewN nq):=aA.drewN (aA.refl _) _
    generalize W3.drewN nq=W4 at k4 ⊢
    have K4:=hid (K3.out.trans k4)
    have V4:=hid (V3.out.keep k4 V3.out.facts.2.2)
    clear k4
    go_wp2_with fail
    go_roundg (on.length-(0+1))
    case rel=>exact ⟨0+1,by omega,by go_num,by rw [HEQ.out,HST.out,HY.out];rfl,K4.out,V4.out⟩
    case measure=>omega
  ·go_wp2_with fail
   go_ret
   exact ⟨aB (by rw [HEQ.out,show on.length-j=0 by omega];rfl),HK.out⟩
structure gD (S:Nat->Prop) (w:World) (wi:WI) (tsv inv mav onv:Value):Prop where
 ts:gO S w wi.ts tsv
 ins:bS S w wi.ins inv
 ma:dW S w wi.ma mav
 on:gP S w wi.on onv
theorem gD.keep {S:Nat->Prop} {w w':World} {B:Nat} {wi:WI} {tsv inv mav onv:Value} (h:gD S w wi tsv inv mav onv) (hS : ∀ b,S b->b<B) (k:Below B w w'):gD S w' wi tsv inv mav onv:=
 ⟨h.ts.keep hS k,h.ins.keep hS k,h.ma.keep hS k,h.on.keep hS k⟩
theorem gF (S:Nat->Prop) (ps:List PK) (wi:WI) (tv tsv inv mav onv:Value) (w:World) (hS : ∀ b,S b->b<w.heap.size) (hp:aT S w ps tv) (h:gD S w wi tsv inv mav onv) :
  Calls Tryz.prog 34 #[.agg #[tv],.agg #[tsv,inv,mav,onv]] w fun e w'=>e=.returned (.int .i64 (dN ps wi))/\aA w w':=by
 have HP:=hid hp
 have HW:=hid h
 obtain ⟨tp,tc,rfl,htlen⟩:=hp.len
 obtain ⟨p0,c0,rfl,hl0⟩:=h.ts.len
 obtain ⟨p1,c1,rfl,hl1⟩:=h.ins.len
 obtain ⟨p2,c2,rfl,hl2⟩:=h.ma.len
 obtain ⟨p3,c3,rfl,hl3⟩:=h.on.len
 have HX:Hid (dN ps wi=if bK ps wi.ins≠0 then bK ps wi.ins else if taE wi.ts≠0 then taE wi.ts else if aI (maE ps wi.ma) 0 wi.ma.length≠0 then aI (maE ps wi.ma) 0 wi.ma.length else aI (onE ps wi.on) 0 wi.on.length):=rfl
 clear hp h
 go_enter Tryz.func34,Tryz.ntmps34
 go_wp2_with fail
 refine bE (fun W'=>aA w W'/\aD w.heap.size 24 (.slice tp ps.length tc) W'/\aG (w.heap.size+1) #[.slice p0 wi.ts.length c0,.slice p1 wi.ins.length c1,.slice p2 wi.ma.length c2,.slice p3 wi.on.length c3] W') ⟨(aA.alloc _ _).alloc' _,(aD.new _ _ _).keep (aA.alloc _ _) (by simp),?_⟩ ?_
 ·have:=aG.new (w.alloc (.cells #[.slice tp ps.length tc] 24)) #[.slice p0 wi.ts.length c0,.slice p1 wi.ins.length c1,.slice p2 wi.ma.length c2,.slice p3 wi.on.length c3] 46
  rw [aJ] at this;exact this
 rintro W0 ⟨k0,v0,b0⟩
 refine (hJ S ps wi.ins _ _ W0 (fun b hb=>Nat.lt_of_lt_of_le (hS b hb) k0.size) (HP.out.keep hS k0) (HW.out.keep hS k0).ins).mono ?_
 rintro e w1 ⟨rfl,k1⟩
 have K1:=hid (k0.trans k1)
 have V1:=hid (v0.keep k1 v0.facts.2.2)
 have B1:=hid (b0.keep k1 b0.1)
 clear k0 v0 b0 k1
 generalize bK ps wi.ins=e1 at HX ⊢
 by_cases hz:e1=0
 ·subst hz
  have HX1:Hid (dN ps wi=if taE wi.ts≠0 then taE wi.ts else if aI (maE ps wi.ma) 0 wi.ma.length≠0 then aI (maE ps wi.ma) 0 wi.ma.length else aI (onE ps wi.on) 0 wi.on.length):=HX.out
  have hcb:=B1.out.2
  have hlb:=B1.out.1
  clear HX
  go_wp2_with fail
  refine (sP S wi.ts _ w1 (fun b hb=>Nat.lt_of_lt_of_le (hS b hb) K1.out.size) (HW.out.keep hS K1.out).ts).mono ?_
  rintro e w2 ⟨rfl,k2⟩
  have K2:=hid (K1.out.trans k2)
  have V2:=hid (V1.out.keep k2 V1.out.facts.2.2)
  have B2:=hid (B1.out.keep k2 B1.out.1)
  clear k2 V1 B1 hcb hlb
  generalize taE wi.ts=e2 at HX1 ⊢
  by_cases hz:e2=0
  ·subst hz
   have HX2:Hid (dN ps wi=if aI (maE ps wi.ma) 0 wi.ma.length≠0 then aI (maE ps wi.ma) 0 wi.ma.length else aI (onE ps wi.on) 0 wi.on.length):=HX1.out
   have hcb:=B2.out.2
   have hlb:=B2.out.1
   obtain ⟨hct,-,hlt⟩:=V2.out.facts
   clear HX1
   go_wp2_with fail
   refine (tX S ps wi.ma _ _ w2 (fun b hb=>Nat.lt_of_lt_of_le (hS b hb) K2.out.size) (HP.out.keep hS K2.out) (HW.out.keep hS K2.out).ma).mono ?_
   rintro e w3 ⟨rfl,k3⟩
   have K3:=hid (K2.out.trans k3)
   have V3:=hid (V2.out.keep k3 V2.out.facts.2.2)
   have B3:=hid (B2.out.keep k3 B2.out.1)
   clear k3 V2 B2 hcb hlb hct hlt
   generalize aI (maE ps wi.ma) 0 wi.ma.length=e3 at HX2 ⊢
   by_cases hz:e3=0
   ·subst hz
    have HX3:Hid (dN ps wi=aI (onE ps wi.on) 0 wi.on.length):=HX2.out
    have hcb:=B3.out.2
    have hlb:=B3.out.1
    obtain ⟨hct,-,hlt⟩:=V3.out.facts
    clear HX2
    go_wp2_with fail
    refine (uQ S ps wi.on _ _ w3 (fun b hb=>Nat.lt_of_lt_of_le (hS b hb) K3.out.size) (HP.out.keep hS K3.out) (HW.out.keep hS K3.out).on).mono ?_
    rintro e w4 ⟨rfl,k4⟩
    have K4:=hid (K3.out.trans k4)
    clear k4 hcb hlb hct hlt
    go_wp2_with fail
    go_ret
    exact ⟨aB HX3.out.symm,K4.out⟩
   ·have HY:Hid (dN ps wi=e3):=by show _=_;rw [HX2.out,if_pos hz]
    have hz1:(e3==0)=false:=by simp [hz]
    have hz2:(e3 != 0)=true:=by simp [hz]
    clear hz HX2
    go_wp2_with fail
    go_ret
    exact ⟨aB HY.out.symm,K3.out⟩
  ·have HY:Hid (dN ps wi=e2):=by show _=_;rw [HX1.out,if_pos hz]
   have hz1:(e2==0)=false:=by simp [hz]
   have hz2:(e2 != 0)=true:=by simp [hz]
   clear hz HX1
   go_wp2_with fail
   go_ret
   exact ⟨aB HY.out.symm,K2.out⟩
 ·have HY:Hid (dN ps wi=e1):=by show _=_;rw [HX.out,if_pos hz]
  have hz1:(e1==0)=false:=by simp [hz]
  have hz2:(e1 != 0)=true:=by simp [hz]
  clear hz HX
  go_wp2_with fail
  go_ret
  exact ⟨aB HY.out.symm,K1.out⟩
end Go.Proofs.YthaaaecmeafofaaGreatDoor
