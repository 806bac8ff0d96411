/- Steps of the proof: ValidHold, ValidShare, OrdSpec, NeedNeeded, TreeForest, RefSame, TreeSame, TreeSet, ValidWish, EncMbRow. -/
import Derived.Test.YtonlloiemgdfkaaGreatDoorOn10
import Derived.BigRegion
import Derived.Laws.EntriesVeiled
import Derived.Test.YtonlloiemgdfkaaGreatDoorOn07
import Derived.Test.YtonlloiemgdfkaaGreatDoorOn09
set_option maxHeartbeats 16000000
set_option maxRecDepth 100000
namespace Go.Proofs.YtonlloiemgdfkaaGreatDoor
open Go.RowKit Go.Sort
theorem kC (w:World):aA w w.drew:=⟨rfl,rfl,rfl,Nat.le_refl _,fun _ _=>rfl⟩
theorem lE {α:Type} [Inhabited α] [DecidableEq α] (d:Array α) : ∀ (m:Nat) (j:Nat),j<m->d[j]! ∈ Lib.compactUpTo d m
 | 0,j,h=>absurd h (Nat.not_lt_zero _)
 | m+1,j,h=>by
  rw [Lib.compactUpTo_succ,List.mem_append]
  by_cases hjm:j<m
  ·exact Or.inl (lE d m j hjm)
  ·obtain rfl:j=m:=by omega
   by_cases h0:j=0
   ·subst h0
    rw [if_pos (Lib.keeps_lt_one d 0 (by omega))]
    exact Or.inr (List.mem_singleton.2 rfl)
   ·by_cases hk:d[j]! = d[j-1]!
    ·rw [hk];exact Or.inl (lE d j (j-1) (by omega))
    ·rw [if_pos (Lib.keeps_pos hk)]
     exact Or.inr (List.mem_singleton.2 rfl)
theorem sJ {t:NT} {f:ByteArray} (h:f∈t.flags):f.data.toList∈t.sorted:=by
 unfold NT.sorted Lib.compact
 have h1:f.data.toList∈(t.flags.map (·.data.toList)).mergeSort fun x y=>decide (x<=y):=(List.mergeSort_perm _ _).mem_iff.2 (List.mem_map.2 ⟨f,h,rfl⟩)
 generalize (t.flags.map (·.data.toList)).mergeSort (fun x y=>decide (x<=y))=M at h1 ⊢
 obtain ⟨j,hj,e⟩:=List.mem_iff_getElem.1 h1
 have:=lE M.toArray M.toArray.size j (by simpa using hj)
 rw [← e]
 simpa [hj] using this
theorem sT {p:PK} (h:cY p=0) : ∀ f∈p.nd.flags,bD p.fl f<p.fl.length:=by
 intro f hf
 have hn:eL p.nd p.fl=0:=by
  unfold cY at h
  split at h
  ·cases h
  ·split at h
   ·cases h
   ·split at h
    ·rename_i hne;exact absurd h hne
    ·exact h
 unfold eL at hn
 split at hn
 ·cases hn
 ·split at hn
  ·rename_i hne;exact absurd hn hne
  ·split at hn
   ·rename_i hall
    have:=List.all_eq_true.1 hall _ (sJ hf)
    unfold eZ at this
    rw [bR,Lib.containsS_iff] at this
    unfold bD
    exact List.findIdx_lt_length_of_exists ⟨f,this,by simp⟩
   ·cases hn
theorem wX (S:Nat->Prop) (ps:List PK) (ms:List MB) (tv lv:Value) (k:Nat) (w:World) (hS : ∀ b,S b->b<w.heap.size) (hp:aV S w ps tv) (hm:bU S w ms lv) (hk:k<ms.length) (hok:mN ps ms) (hct:dT ps=0) :
  Calls Tryz.prog 101 #[.agg #[tv],lv,.int .i64 k] w fun e w'=>e=.returned (.bool (jD ps ms k))/\aA w w':=by
 have HP:=hid hp
 have HMS:=hid hm
 have HOK:=hid hok
 obtain ⟨tp,tc,rfl,hlen⟩:=hp.len
 obtain ⟨lp,lc,rfl,hllen⟩:=hm.len
 obtain ⟨mb,moff,mcap,hmv,hmS,-,hrow⟩:=hm.get hk
 cases hmv
 obtain ⟨op,oc,hc0,-,-,-⟩:=hrow k _ (List.getElem?_eq_getElem hk)
 obtain ⟨h0,h1,h2⟩:=hok k _ (List.getElem?_eq_getElem hk)
 obtain ⟨q,hq⟩ : ∃ q:Nat,ms[k].pl=q:=⟨ms[k].pl.toNat,by omega⟩
 have hqp:q<ps.length:=by omega
 have hpk:bO ps ms[k]=ps[q]:=by unfold bO;rw [hq,Int.toNat_natCast,eB ps q hqp]
 have HPK:=hid hpk
 have HFL:Hid (∀ f∈(bO ps ms[k]).nd.flags,bD (bO ps ms[k]).fl f<(bO ps ms[k]).fl.length):=sT ((hI hct).2 _ (by rw [hpk];exact List.getElem_mem hqp))
 have HX:Hid (jD ps ms k=aW ps ms k ps[q].nd):=by
  show _=_
  unfold jD
  rw [dP ms k hk,hpk]
 rw [hq] at hc0
 obtain ⟨tb,toff,tcap,htv,htb,-,htrow⟩:=hp.get hqp
 cases htv
 obtain ⟨cs,hcs,hpj⟩:=htrow q hqp
 have HFS:Hid ((bO ps ms[k]).fl=ps[q].fl):=by show _=_;rw [hpk]
 rw [hpk] at HFL
 have HFL':=HFL
 clear HFL
 generalize ps[q]=p at hpj HX HFS HFL'
 obtain ⟨kk,a,fl,nt,kids,kp,fp,kc,fc,hnd,hfl,rfl,hf,hn⟩:=hpj.spelt
 have HF:=hid hf
 have HN:=hid hn
 obtain ⟨c0,c1,c2,c3,c4,c5,c6,c7,c8,c9,c10,c11,c12,c13⟩:=eA hcs
 have hmlt:=hS mb hmS
 have htlt:=hS tb htb
 clear hcs hpj htrow hrow hp hm hok hct h0 h1 h2 hq hpk HPK hf hn
 rcases p with ⟨n,v,sl,fs,nd⟩
 simp only at hnd hfl c0 c1 c2 c3 HX HFS HFL' HF HN
 have HND:=hid hnd
 clear hnd
 go_enter Tryz.func101,Tryz.ntmps101
 go_upto_region 1 with fail
 have e1:=aE w (.cells #[.slice (some ⟨tb,toff,none⟩) ps.length tc] 24)
 refine bE (fun W'=>aA w W'/\aB w.heap.size 24 (.slice (some ⟨tb,toff,none⟩) ps.length tc) W'/\aB (w.heap.size+1) 26 (.slice (some ⟨mb,moff,none⟩) ms.length lc) W'/\aB (w.heap.size+1+1) 3 (.int .i64 k) W'/\W'.heap.size=w.heap.size+3) ⟨((aA.alloc _ _).alloc' _).alloc' _,(aB.new _ _ _).keep ((aA.alloc _ _).alloc' _) (by simp),?_,?_,by simp⟩ ?_
 ·have:=aB.new (w.alloc (.cells #[.slice (some ⟨tb,toff,none⟩) ps.length tc] 24)) 26 (.slice (some ⟨mb,moff,none⟩) ms.length lc)
  rw [e1] at this;exact this.keep (aA.alloc _ _) this.facts.2.2
 ·have:=aB.new ((w.alloc (.cells #[.slice (some ⟨tb,toff,none⟩) ps.length tc] 24)).alloc (.cells #[.slice (some ⟨mb,moff,none⟩) ms.length lc] 26)) 3 (.int .i64 k)
  rw [aE,e1] at this;exact this
 clear e1
 rintro W0 ⟨k0,v0,v1,v2,hz0⟩
 have K0:=hid k0
 have V0:=hid v0
 have V1:=hid v1
 have V2:=hid v2
 have HZ0:=hid hz0
 obtain ⟨g0,-,l0⟩:=v0.facts
 obtain ⟨g1,-,l1⟩:=v1.facts
 obtain ⟨g2,-,l2⟩:=v2.facts
 have gm:=(k0.cell (p:=⟨mb,moff+k*2,none⟩) hmlt).trans hc0
 have gt : ∀ (o:Nat) (x:Value),w.cell? ⟨tb,o,none⟩=some x->W0.cell? ⟨tb,o,none⟩=some x:=fun o x h=>(k0.cell (p:=⟨tb,o,none⟩) htlt).trans h
 have d0:=gt _ _ c0
 have d1:=gt _ _ c1
 have d2:=gt _ _ c2
 have d3:=gt _ _ c3
 have d4:=gt _ _ c4
 have d5:=gt _ _ c5
 have d6:=gt _ _ c6
 have d7:=gt _ _ c7
 have d8:=gt _ _ c8
 have d9:=gt _ _ c9
 have d10:=gt _ _ c10
 have d11:=gt _ _ c11
 have d12:=gt _ _ c12
 have d13:=gt _ _ c13
 have hm0:mb<W0.heap.size:=Nat.lt_of_lt_of_le hmlt k0.size
 have ht0:tb<W0.heap.size:=Nat.lt_of_lt_of_le htlt k0.size
 clear c0 c1 c2 c3 c4 c5 c6 c7 c8 c9 c10 c11 c12 c13 gt k0 v0 v1 v2 hz0 hc0
 go_region
 clear d0 d1 d2 d3 d4 d5 d6 d7 d8 d9 d10 d11 d12 d13 g0 g1 g2 gm
 go_upto_region 2 with fail
 refine bE (fun W'=>aA W0 W'/\aH W0.heap.size #[.string n,.int .i64 v,.int .i64 sl,.slice fp fs.length fc,.int .i64 kk,.string a.n,.int .i64 a.op,.int .i64 a.v,.int .i64 a.sl,.string a.f,.bool a.on,.string fl,.bool nt,.slice kp kids.length kc] W'/\W'.heap.size=W0.heap.size+1) ⟨(aA.alloc _ _).trans (kC _),(aH.new _ _ _).keep (kC _) (by rw [aE];omega),by rw [← aE W0 (.cells #[.string n,.int .i64 v,.int .i64 sl,.slice fp fs.length fc,.int .i64 kk,.string a.n,.int .i64 a.op,.int .i64 a.v,.int .i64 a.sl,.string a.f,.bool a.on,.string fl,.bool nt,.slice kp kids.length kc] 75)];rfl⟩ ?_
 rintro W1 ⟨k1,b1,hz1⟩
 have K1:=hid k1
 have B1:=hid b1
 have HZ1:=hid hz1
 clear k1 b1 hz1
 go_upto_region 3 with fail
 refine bE (fun W'=>aA W1 W'/\aB W1.heap.size 93 .nilFunc W'/\W'.heap.size=W1.heap.size+1) ⟨aA.alloc _ _,aB.new _ _ _,aE _ _⟩ ?_
 rintro W2 ⟨k2,f2,hz2⟩
 have K2:=hid k2
 have F2:=hid f2
 have HZ2:=hid hz2
 clear k2 f2 hz2
 have hmf : ∀ (fn:Fn) (first cap:Array Value) (w:World),(Instr.makeFunc fn first cap).run Tryz.prog w=.ok (.func fn first cap) w:=fun _ _ _ _=>rfl
 go_upto_region 4 with fail
 refine bE (fun W'=>aA W2 W'/\aB W2.heap.size 93 (.func (.func 158) #[] #[.pointer (some ⟨W1.heap.size,0,none⟩)]) W') ⟨aA.alloc _ _,aB.new _ _ _⟩ ?_
 rintro W3 ⟨k3,f3⟩
 have hb0:W0.heap.size=w.heap.size+3:=HZ0.out
 have hb1:W1.heap.size=W0.heap.size+1:=HZ1.out
 have hb2:W2.heap.size=W1.heap.size+1:=HZ2.out
 have k13:aA W1 W3:=K2.out.trans k3
 have k03:aA W0 W3:=K1.out.trans k13
 have kw3:aA w W3:=K0.out.trans k03
 have f23:=F2.out.keep k3 F2.out.facts.2.2
 have HFN:Hid (gH S ps ms k (some ⟨tb,toff,none⟩) (some ⟨mb,moff,none⟩) tc lc w.heap.size (w.heap.size+1) (w.heap.size+1+1) W1.heap.size W0.heap.size W2.heap.size #[.string n,.int .i64 v,.int .i64 sl,.slice fp fs.length fc,.int .i64 kk,.string a.n,.int .i64 a.op,.int .i64 a.v,.int .i64 a.sl,.string a.f,.bool a.on,.string fl,.bool nt,.slice kp kids.length kc] (W3.setCell ⟨W1.heap.size,0,none⟩ (.func (.func 159) #[] #[.pointer (some ⟨w.heap.size,0,none⟩),.pointer (some ⟨w.heap.size+1,0,none⟩),.pointer (some ⟨w.heap.size+1+1,0,none⟩),.pointer (some ⟨W1.heap.size,0,none⟩),.pointer (some ⟨W0.heap.size,0,none⟩),.pointer (some ⟨W2.heap.size,0,none⟩)]))):=by
  have ap:=cX W1.heap.size W3 (.func (.func 159) #[] #[.pointer (some ⟨w.heap.size,0,none⟩),.pointer (some ⟨w.heap.size+1,0,none⟩),.pointer (some ⟨w.heap.size+1+1,0,none⟩),.pointer (some ⟨W1.heap.size,0,none⟩),.pointer (some ⟨W0.heap.size,0,none⟩),.pointer (some ⟨W2.heap.size,0,none⟩)])
  have hlow : ∀ p:Addr,S p.block->(W3.setCell ⟨W1.heap.size,0,none⟩ (.func (.func 159) #[] #[.pointer (some ⟨w.heap.size,0,none⟩),.pointer (some ⟨w.heap.size+1,0,none⟩),.pointer (some ⟨w.heap.size+1+1,0,none⟩),.pointer (some ⟨W1.heap.size,0,none⟩),.pointer (some ⟨W0.heap.size,0,none⟩),.pointer (some ⟨W2.heap.size,0,none⟩)])).cell? p=W3.cell? p:=fun p hp=>ap.cell p (Nat.lt_of_lt_of_le (hS _ hp) kw3.size) (fun e=>by have e':p.block=W1.heap.size:=e;have:=hS _ hp;omega)
  exact ⟨((V0.out.keep k03 V0.out.facts.2.2)).apart ap (by omega),((V1.out.keep k03 V1.out.facts.2.2)).apart ap (by omega),((V2.out.keep k03 V2.out.facts.2.2)).apart ap (by omega),f23.set _,(B1.out.keep k13 B1.out.1).apart ap (by omega),f3.apart ap (by omega),(HP.out.keep hS kw3).mono hlow (fun _ h=>h),(HMS.out.keep hS kw3).mono hlow (fun _ h=>h),fun b hb=>Nat.lt_of_lt_of_le (Nat.lt_of_lt_of_le (hS b hb) kw3.size) ap.size⟩
 have KFN:Hid (aA w (W3.setCell ⟨W1.heap.size,0,none⟩ (.func (.func 159) #[] #[.pointer (some ⟨w.heap.size,0,none⟩),.pointer (some ⟨w.heap.size+1,0,none⟩),.pointer (some ⟨w.heap.size+1+1,0,none⟩),.pointer (some ⟨W1.heap.size,0,none⟩),.pointer (some ⟨W0.heap.size,0,none⟩),.pointer (some ⟨W2.heap.size,0,none⟩)]))):=Below.trans kw3 ((cX W1.heap.size W3 _).below kw3.size fun b hb e=>by have:b=W1.heap.size:=e;omega)
 obtain ⟨g3,z3,l3⟩:=f23.facts
 have hent:=fP
 clear k3 f3 k13 k03 kw3 f23 K0 K1 K2 V0 V1 V2 F2 B1 hb0 hb1 hb2
 go_upto_region 5 with fail
 refine bE (fun W'=>gH S ps ms k (some ⟨tb,toff,none⟩) (some ⟨mb,moff,none⟩) tc lc w.heap.size (w.heap.size+1) (w.heap.size+1+1) W1.heap.size W0.heap.size W2.heap.size #[.string n,.int .i64 v,.int .i64 sl,.slice fp fs.length fc,.int .i64 kk,.string a.n,.int .i64 a.op,.int .i64 a.v,.int .i64 a.sl,.string a.f,.bool a.on,.string fl,.bool nt,.slice kp kids.length kc] W'/\aA w W') ?_ ?_
 exact ⟨HFN.out,KFN.out⟩
 rintro W4 ⟨h4,k4⟩
 have H4:=hid h4
 have K4:=hid k4
 obtain ⟨g4,-,l4⟩:=h4.self.facts
 have g5:=h4.pack.2
 have l5:=h4.pack.1
 clear h4 k4 HFN KFN g3 z3 l3
 go_wp2_with fail
 have hfs:=HFS.out
 have hcall:=uH (S:=S) (fp:=fp) (fc:=fc) hk HOK.out (pcs:=#[.string n,.int .i64 v,.int .i64 sl,.slice fp fs.length fc,.int .i64 kk,.string a.n,.int .i64 a.op,.int .i64 a.v,.int .i64 a.sl,.string a.f,.bool a.on,.string fl,.bool nt,.slice kp kids.length kc]) (by rw [hfs];rfl) nd.size nd (Nat.le_refl _) (by rw [hfs];exact HFL'.out) _ W4 H4.out (by rw [hfs];exact HF.out.keep hS K4.out) (HN.out.keep hS K4.out)
 refine Calls.mono hcall ?_
 rintro e w5 ⟨rfl,k5⟩
 have K5:=hid (K4.out.trans k5)
 clear k5 g4 g5 hcall hfs
 go_wp2_with fail
 go_ret
 exact ⟨aF HX.out.symm,K5.out⟩
theorem nC {F:Nat} {cap:Array Value} (S:Nat->Prop) (ms:List MB) (g:MB->Bool) (lv:Value) (w:World) (hS : ∀ b,S b->b<w.heap.size)
  (hF : ∀ args w,(callFunc F args).run Tryz.prog w=.ok (.enter F args) w) (hm:bU S w ms lv)
  (hc : ∀ (j:Nat) (h:j<ms.length) (op:Option Addr) (oc:Nat) (W:World),aA w W->aK S W ms[j].on (.slice op ms[j].on.length oc)->Calls Tryz.prog F (#[.agg #[.int .i64 ms[j].pl,.slice op ms[j].on.length oc]]++cap) W fun e w'=>e=.returned (.bool (g ms[j]))/\aA W w') :
  Calls Tryz.prog 155 #[lv,.func (.func F) #[] cap] w fun e w'=> ∃ n:Int,e=.returned (.int .i64 n)/\decide (0<=n)=ms.any g/\aA w w':=by
 have HM:=hid hm
 have HC:=hid hc
 obtain ⟨lp,lc,rfl,hlen⟩:=hm.len
 clear hm hc
 go_enter Tryz.func155,Tryz.ntmps155
 go_wp2_with fail
 go_loopg [8] ms.length (fun gk i wr=> ∃ j:Nat,j+gk=ms.length/\i=.int .i64 j/\(ms.take j).any g=false/\aA w wr)
 case atStart=>exact ⟨0,by simp,rfl,by simp,aA.refl _⟩
 case round=>
  obtain ⟨j,hj,rfl,hno,hkp⟩:=hrel
  have HNO:=hid hno
  have HKP:=hid hkp
  clear hno hkp
  by_cases hlt:j<ms.length
  ·obtain ⟨mb,moff,mcap,hmv,hmS,-,hrow⟩:=(HM.out.keep hS HKP.out).get hlt
   cases hmv
   obtain ⟨op,oc,hc0,hc1,hon,hbl⟩:=hrow j _ (List.getElem?_eq_getElem hlt)
   have HCALL:=hid (HC.out j hlt op oc wr HKP.out hbl)
   clear hbl
   have HST:Hid ((ms.take (j+1)).any g=g ms[j]):=by
    show _=_
    rw [List.take_succ_eq_append_getElem hlt,List.any_append,HNO.out];simp
   have HUP:Hid (g ms[j]=true->ms.any g=true):=fun h=>List.any_eq_true.2 ⟨ms[j],List.getElem_mem hlt,h⟩
   generalize g ms[j]=β at HCALL HST HUP
   generalize ms[j]=m at hc0 hc1 hon HCALL
   clear hrow HNO
   go_wp2_with fail
   refine HCALL.out.mono ?_
   rintro e w1 ⟨rfl,k1⟩
   have K1:=hid (HKP.out.trans k1)
   clear k1 hc0 hc1 HCALL
   cases β
   ·go_wp2_with fail
    go_roundg (ms.length-(j+1))
    case rel=>exact ⟨j+1,by omega,by go_num,HST.out,K1.out⟩
    case measure=>omega
   ·go_wp2_with fail
    go_ret
    exact ⟨(j:Int),rfl,by rw [show ms.any g=true from HUP.out trivial];exact decide_eq_true (by omega),K1.out⟩
  ·obtain rfl:j=ms.length:=by omega
   go_wp2_with fail
   go_ret
   refine ⟨-1,rfl,?_,HKP.out⟩
   have:=HNO.out
   rw [List.take_length] at this
   rw [this];rfl
theorem fO {F:Nat} {cap:Array Value} (S:Nat->Prop) (ms:List MB) (g:MB->Bool) (lp:Option Addr) (k lc:Nat) (w:World) (hS : ∀ b,S b->b<w.heap.size)
  (hF : ∀ args w,(callFunc F args).run Tryz.prog w=.ok (.enter F args) w) (hm:bU S w ms (.slice lp k lc))
  (hc : ∀ (j:Nat) (h:j<ms.length) (op:Option Addr) (oc:Nat) (W:World),aA w W->aK S W ms[j].on (.slice op ms[j].on.length oc)->Calls Tryz.prog F (#[.agg #[.int .i64 ms[j].pl,.slice op ms[j].on.length oc]]++cap) W fun e w'=>e=.returned (.bool (g ms[j]))/\aA W w') :
  Calls Tryz.prog 92 #[.slice lp k lc,.func (.func F) #[] cap] w fun e w'=>e=.returned (.bool (ms.any g))/\aA w w':=by
 have HI:=hid (nC S ms g _ w hS hF hm hc)
 clear hm hc
 go_enter Tryz.func92,Tryz.ntmps92
 go_wp2_with fail
 refine HI.out.mono ?_
 rintro e w1 ⟨n,rfl,hn,k1⟩
 have HN:=hid hn
 have K1:=hid k1
 clear hn k1 HI
 go_wp2_with fail
 go_ret
 exact ⟨aF HN.out,K1.out⟩
def shB (ps:List PK) (p:PK) (m:MB):Bool:=((bO ps m).n.toList==p.n.toList)&&((bO ps m).sl==p.sl)
end Go.Proofs.YtonlloiemgdfkaaGreatDoor
namespace Go.Proofs.YtonlloiemgdfkaaGreatDoor
mutual
def bV (p:PK) (m:MB):NT->List At
 | .node kd a fl nt kids=>if kd=1 then a :: cN p m kids else if kd=5/\(m.on.getD (bD p.fl fl) false==nt)=true then [] else cN p m kids
def cN (p:PK) (m:MB):List NT->List At
 | []=> []
 | t :: ts=>bV p m t++cN p m ts
end
def kQ (p:PK) (m:MB):List At:=bV p m p.nd
def gD (ps:List PK) (ms:List MB) (k i:Nat):Bool:=(kQ (bO ps (ms.getD k MB.zero)) (ms.getD k MB.zero)).any fun a=>isB (bO ps (ms.getD i MB.zero)) (ms.getD i MB.zero) a
def bQ (ps:List PK) (ms:List MB) (k:Nat):List Nat:=if k<ms.length then (List.range ms.length).filter (gD ps ms k) else []
def aAe (ps:List PK) (ms:List MB):List (List Nat):=(List.range ms.length).map (bQ ps ms)
theorem iV {ps:List PK} {ms:List MB} {k i:Nat}:i∈bQ ps ms k↔k<ms.length/\i<ms.length/\gD ps ms k i=true:=by
 unfold bQ
 split
 ·rename_i h;rw [List.mem_filter,List.mem_range];simp [h]
 ·rename_i h;simp [h]
open Classical in
noncomputable def mT (ps:List PK) (ms:List MB) (k i:Nat):Bool:=decide (Rch (bQ ps ms) k i)
open Classical in
theorem iS {ps:List PK} {ms:List MB} {k i:Nat}:mT ps ms k i=true↔Rch (bQ ps ms) k i:=by unfold mT;exact @decide_eq_true_iff _ (propDecidable _)
theorem kX (ps:List PK) (ms:List MB) (i j k:Nat) (h1:mT ps ms i j=true) (h2:mT ps ms j k=true):mT ps ms i k=true:=iS.2 ((iS.1 h1).trans (iS.1 h2))
def eqM (a b:MB):Bool:=decide (a.pl=b.pl)&&(a.on==b.on)
theorem qH {a b:MB}:eqM a b=true↔a=b:=by
 cases a;cases b;unfold eqM;simp
def mF (th ms:List MB) (k:Nat):Bool:= !(th.any fun o=>eqM o (ms.getD k MB.zero))
def nS (th ms:List MB):List Bool:=(List.range ms.length).map (mF th ms)
def qT (ps:List PK) (ms:List MB) (m:MB):Bool:= !(ms.any (shB ps (bO ps m)))
structure AC where
 out:Bool
 m:MB
 cy:Int
noncomputable def goP (ps:List PK) (th ms:List MB):List Nat:=inL (mT ps ms) (nS th ms)
noncomputable def tV (ps:List PK) (th ms:List MB):List Int:=aAq (mT ps ms) ms.length (goP ps th ms)
noncomputable def fU (ps:List PK) (th ms:List MB):List AC:=(th.filter (qT ps ms)).map (fun m=>⟨true,m,0⟩)++(goP ps th ms).map (fun k=>⟨false,ms.getD k MB.zero,(tV ps th ms).getD k 0⟩)
theorem aAo {th ms:List MB} {k:Nat}:(nS th ms).getD k false=true↔k<ms.length/\mF th ms k=true:=by
 unfold nS
 rw [List.getD_eq_getElem?_getD,List.getElem?_map]
 by_cases h:k<ms.length
 ·rw [List.getElem?_range h];simp [h]
 ·rw [List.getElem?_eq_none (by simpa using h)];simp [h]
theorem kI (th ms:List MB):(nS th ms).length=ms.length:=by simp [nS]
theorem kE {ps:List PK} {th ms:List MB} {k:Nat}:k∈goP ps th ms↔k<ms.length/\mF th ms k=true:=by
 unfold goP inL
 rw [(lD (kX ps ms) _ _ (Nat.le_refl _)).2,aAo]
theorem wW (ps:List PK) (th ms:List MB):(goP ps th ms).Nodup:=(lD (kX ps ms) _ _ (Nat.le_refl _)).1
theorem zT {ms:List MB} {k:Nat} (h:k<ms.length):ms.getD k MB.zero∈ms:=by
 rw [List.getD_eq_getElem?_getD,List.getElem?_eq_getElem h];exact List.getElem_mem h
theorem rX {ps:List PK} {th ms:List MB} (h : ∀ m∈ms,m∈th):goP ps th ms = []:=by
 cases hl:goP ps th ms with
 | nil=>rfl
 | cons k r=>
  have hk:k∈goP ps th ms:=by rw [hl];exact List.mem_cons_self ..
  obtain ⟨h1,h2⟩:=kE.1 hk
  unfold mF at h2
  rw [List.any_eq_true (p:=fun o=>eqM o (ms.getD k MB.zero)) |>.2 ⟨_,h _ (zT h1),qH.2 rfl⟩] at h2
  cases h2
theorem xU (ps:List PK) (ms:List MB):fU ps ms ms = []:=by
 unfold fU
 rw [rX fun _ h=>h,List.map_nil,List.append_nil,List.map_eq_nil_iff,List.filter_eq_nil_iff]
 intro m hm
 unfold qT
 rw [List.any_eq_true.2 ⟨m,hm,by unfold shB;simp⟩]
 simp
theorem aAt (ps:List PK) (ms:List MB):fU ps ms []=ms.map fun m=>⟨true,m,0⟩:=by
 unfold fU
 rw [rX fun _ h=>by simp at h,List.map_nil,List.append_nil]
 congr 1
 rw [List.filter_eq_self]
 intro m _;rfl
theorem aCd (ps:List PK) (ms:List MB):(fU ps [] ms).length=ms.length/\∀ m∈ms,∃ x∈fU ps [] ms,x.out=false/\x.m=m:=by
 unfold fU
 rw [List.filter_nil,List.map_nil,List.nil_append,List.length_map]
 refine ⟨?_,fun m hm=> ?_⟩
 ·unfold goP inL
  rw [pG (kX ps ms) _ _ (Nat.le_refl _)]
  unfold cnt
  rw [List.countP_eq_length.2,kI]
  intro b hb
  unfold nS at hb
  obtain ⟨k,-,rfl⟩:=List.mem_map.1 hb
  rfl
 ·obtain ⟨k,hk,rfl⟩:=List.getElem_of_mem hm
  refine ⟨_,List.mem_map.2 ⟨k,kE.2 ⟨hk,rfl⟩,rfl⟩,rfl,?_⟩
  show ms.getD k MB.zero=ms[k]
  rw [List.getD_eq_getElem?_getD,List.getElem?_eq_getElem hk];rfl
end Go.Proofs.YtonlloiemgdfkaaGreatDoor
namespace Go.Proofs.YtonlloiemgdfkaaGreatDoor
open Go.RowKit
def oM (c:UInt8):NT:= .node 1 ⟨⟨#[c]⟩,0,0,0,⟨#[]⟩,false⟩ ⟨#[]⟩ false []
end Go.Proofs.YtonlloiemgdfkaaGreatDoor
namespace Go.Proofs.YtonlloiemgdfkaaGreatDoor
def nIf:NT:= .node 5 At.zero ⟨#[120]⟩ false [oM 98]
def nP:NT:= .node 3 At.zero ⟨#[]⟩ false [nIf]
def iE:NT:= .node 3 At.zero ⟨#[]⟩ false []
def F2:List UInt8:= [97,32,49,32,49,32,120,44,121,32,40,32,120,63,32,40,32,98,32,41,32,41,10,98,32,50,32,49,32,32,40,32,41,10]
theorem vS {c:UInt8} (h:aJ [c]=true):(oM c).ok:=by
 unfold oM
 rw [NT.ok]
 exact ⟨gM 1 _ (Or.inl rfl) (by show chk [c] 0 0 0 [] false=0;unfold chk;rw [if_neg (by simp [h]),if_neg (by decide),if_neg (by decide)]),trivial⟩
theorem aDd:nIf.ok:=by
 unfold nIf
 rw [NT.ok,okL,okL]
 exact ⟨sL _ _ _ (by decide),vS (by decide),trivial⟩
theorem aBx:nP.ok:=by
 unfold nP
 rw [NT.ok,okL,okL]
 exact ⟨dI 3 _ (Or.inl rfl),aDd,trivial⟩
theorem aAk:iE.ok:=by
 unfold iE
 rw [NT.ok,okL]
 exact ⟨dI 3 _ (Or.inl rfl),trivial⟩
theorem lU:dD nIf=false/\dD nP=false/\dD iE=false:=by
 have i1:aI 1=2:=fQ (by decide) (by decide)
 have i2:aI 2=3:=fQ (by decide) (by decide)
 refine ⟨?_,?_,?_⟩<;>simp [dD,nIf,nP,iE,oM,bI,bG,fN,i1,i2]
theorem aAj:cT nP=0:=cQ.2 ⟨lU.2.1,aBx⟩
theorem xH:cT iE=0:=cQ.2 ⟨lU.2.2,aAk⟩
theorem aDs:Lib.itoa 1 = [49]:=sE (k:=1) (by decide)
theorem aDt:Lib.itoa 2 = [50]:=sE (k:=2) (by decide)
theorem tB:nP.sorted = [[120]]:=by
 have:nP.flags = [⟨#[120]⟩]:=by simp [nP,nIf,oM,NT.flags,dU]
 unfold NT.sorted
 rw [this,List.map_cons,List.map_nil,List.mergeSort_singleton]
 rfl
theorem qY:iE.sorted = []:=by
 have:iE.flags = []:=by simp [iE,NT.flags,dU]
 unfold NT.sorted
 rw [this,List.map_nil,List.mergeSort_nil];exact fM
theorem aAm:aJ [97]=true:=by decide
theorem aDe:aJ [98]=true:=by decide
end Go.Proofs.YtonlloiemgdfkaaGreatDoor
namespace Go.Proofs.YtonlloiemgdfkaaGreatDoor
open Go.RowKit
end Go.Proofs.YtonlloiemgdfkaaGreatDoor
namespace Go.Proofs.YtonlloiemgdfkaaGreatDoor
open Go.RowKit
end Go.Proofs.YtonlloiemgdfkaaGreatDoor
namespace Go.Proofs.YtonlloiemgdfkaaGreatDoor
open Go.RowKit
end Go.Proofs.YtonlloiemgdfkaaGreatDoor
namespace Go.Proofs.YtonlloiemgdfkaaGreatDoor
open Go.RowKit
theorem mV {α:Type} {xs ys:List α} (hl:xs.length=ys.length) (h : ∀ i,i<xs.length->xs[i]? = ys[i]?):xs=ys:=by
 refine List.ext_getElem? fun i=> ?_
 by_cases hi:i<xs.length
 ·exact h i hi
 ·rw [List.getElem?_eq_none (by omega),List.getElem?_eq_none (by omega)]
theorem vN (S:Nat->Prop) (xs ys:List Bool) (v1 v2:Value) (w:World) (hS : ∀ b,S b->b<w.heap.size) (h1:aK S w xs v1) (h2:aK S w ys v2) :
  Calls Tryz.prog 98 #[v1,v2] w fun e w'=> ∃ β:Bool,e=.returned (.bool β)/\(β=true↔xs=ys)/\aA w w':=by
 have H1:=hid h1
 have H2:=hid h2
 obtain ⟨p1,c1,rfl,hl1,-⟩:=h1
 obtain ⟨p2,c2,rfl,hl2,-⟩:=h2
 by_cases hl:xs.length=ys.length
 ·have HL:=hid hl
  have HW:Hid (aA w w):=aA.refl _
  rw [← hl]
  clear hl
  go_enter Tryz.func98,Tryz.ntmps98
  go_wp2_with fail
  go_loopg [13] xs.length (fun gk i wr=> ∃ j:Nat,j+gk=xs.length/\i=.int .i64 j/\(∀ i,i<j->xs[i]? = ys[i]?)/\aA w wr)
  case atStart=>exact ⟨0,by simp,rfl,fun i hi=>absurd hi (Nat.not_lt_zero _),HW.out⟩
  case round=>
   obtain ⟨j,hj,rfl,hal,hkp⟩:=hrel
   have HKP:=hid hkp
   have HAL:=hid hal
   clear hkp hal
   by_cases hlt:j<xs.length
   ·obtain ⟨q1,d1,hv1,-,hr1⟩:=H1.out.keep hS HKP.out
    obtain ⟨q2,d2,hv2,-,hr2⟩:=H2.out.keep hS HKP.out
    rw [← HL.out] at hv2 hr2
    cases hv1
    cases hv2
    obtain ⟨b1,o1,rfl,hb1,hc1⟩:=hr1 (by omega)
    obtain ⟨b2,o2,rfl,hb2,hc2⟩:=hr2 (by omega)
    have hlt2:j<ys.length:=by rw [← HL.out];exact hlt
    have e1:xs[j]? = some xs[j]:=List.getElem?_eq_getElem hlt
    have e2:ys[j]? = some ys[j]:=List.getElem?_eq_getElem hlt2
    have g1:=hc1 j _ e1
    have g2:=hc2 j _ e2
    have E1:=hid e1
    have E2:=hid e2
    clear hc1 hc2 hr1 hr2 e1 e2
    generalize xs[j]=x at g1 E1
    generalize ys[j]=y at g2 E2
    by_cases hxy:x=y
    ·subst hxy
     have HN:Hid (∀ i,i<j+1->xs[i]? = ys[i]?):=fun i hi=>by
      by_cases e:i=j
      ·subst e;rw [E1.out,E2.out]
      ·exact HAL.out i (by omega)
     go_wp2_with fail
     go_quiet (fail)
     go_wp2_with fail
     go_roundg (xs.length-(j+1))
     case rel=>exact ⟨j+1,by omega,by go_num,HN.out,aA.drewN HKP.out _⟩
     case measure=>omega
    ·have hxy1:(x==y)=false:=by simp [hxy]
     have hxy2:(x != y)=true:=by simp [hxy]
     have HF:Hid (¬ xs=ys):=fun e=>hxy (by have h1:=E1.out;rw [e,E2.out] at h1;exact (Option.some.inj h1).symm)
     clear hxy
     go_wp2_with fail
     go_quiet (fail)
     go_wp2_with fail
     go_ret
     exact ⟨false,rfl,⟨fun h=>Bool.noConfusion h,fun h=>absurd h HF.out⟩,aA.drewN HKP.out _⟩
   ·have HF:Hid (xs=ys):=mV HL.out fun i hi=>HAL.out i (by omega)
    go_wp2_with fail
    go_ret
    exact ⟨true,rfl,⟨fun _=>HF.out,fun _=>rfl⟩,HKP.out⟩
 ·have hz1:((xs.length:Int)==(ys.length:Int))=false:=beq_eq_false_iff_ne.2 fun e=>hl (by omega)
  have hz2:((xs.length:Int) != (ys.length:Int))=true:=bne_iff_ne.2 fun e=>hl (by omega)
  have HF:Hid (¬ xs=ys):=fun e=>hl (by rw [e])
  clear hl
  go_enter Tryz.func98,Tryz.ntmps98
  go_wp2_with fail
  go_ret
  exact ⟨false,rfl,⟨fun h=>Bool.noConfusion h,fun h=>absurd h HF.out⟩,aA.refl _⟩
theorem jO (S:Nat->Prop) (x y:MB) (v1 v2:Value) (w:World) (hS : ∀ b,S b->b<w.heap.size) (h1:aK S w x.on v1) (h2:aK S w y.on v2) :
  Calls Tryz.prog 40 #[.agg #[.int .i64 x.pl,v1],.agg #[.int .i64 y.pl,v2]] w fun e w'=> ∃ β:Bool,e=.returned (.bool β)/\(β=true↔x=y)/\aA w w':=by
 have H1:=hid h1
 have H2:=hid h2
 obtain ⟨p1,c1,rfl,-,-⟩:=h1
 obtain ⟨p2,c2,rfl,-,-⟩:=h2
 rcases x with ⟨xp,xs⟩
 rcases y with ⟨yp,ys⟩
 simp only at H1 H2 ⊢
 by_cases hp:xp=yp
 ·subst hp
  go_enter Tryz.func40,Tryz.ntmps40
  go_wp2_with fail
  refine bL (fun W'=>aA w W') ((aA.alloc _ _).alloc' _) ?_
  intro W2 k2
  refine (vN S xs ys _ _ W2 (fun b hb=>Nat.lt_of_lt_of_le (hS b hb) k2.size) (H1.out.keep hS k2) (H2.out.keep hS k2)).mono ?_
  rintro e w3 ⟨β,rfl,hβ,k3⟩
  have K3:=hid (k2.trans k3)
  have HB:=hid hβ
  clear k2 k3 hβ
  go_wp2_with fail
  go_ret
  exact ⟨β,rfl,⟨fun h=>by rw [HB.out.1 h],fun h=>HB.out.2 (by cases h;rfl)⟩,K3.out⟩
 ·have hz1:(xp==yp)=false:=by simp [hp]
  have HF:Hid (¬ (⟨xp,xs⟩:MB)=⟨yp,ys⟩):=fun e=>hp (by cases e;rfl)
  have HW:Hid (aA w ((w.alloc (.cells #[.int .i64 xp,.slice p1 xs.length c1] 68)).alloc (.cells #[.int .i64 yp,.slice p2 ys.length c2] 68))):=(aA.alloc _ _).alloc' _
  clear hp
  go_enter Tryz.func40,Tryz.ntmps40
  go_wp2_with fail
  go_ret
  exact ⟨false,rfl,⟨fun h=>Bool.noConfusion h,fun h=>absurd h HF.out⟩,HW.out⟩
end Go.Proofs.YtonlloiemgdfkaaGreatDoor
namespace Go.Proofs.YtonlloiemgdfkaaGreatDoor
open Go.RowKit Go.Sort
theorem bP.len {S:Nat->Prop} {w:World} {zs:List Int} {v:Value} (h:bP S w zs v) : ∃ p cap,v=.slice p zs.length cap/\zs.length<=9223372036854775807:=by
 obtain ⟨p,cap,h1,h2,-⟩:=h;exact ⟨p,cap,h1,h2⟩
end Go.Proofs.YtonlloiemgdfkaaGreatDoor
namespace Go.Proofs.YtonlloiemgdfkaaGreatDoor
open Go.RowKit
theorem uK:(Tryz.prog.info? 4).map (fun i=>(i.zero,i.size,i.bytes))=some (some (.bool false),1,1):=by kernel_rfl
end Go.Proofs.YtonlloiemgdfkaaGreatDoor
