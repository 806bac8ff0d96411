/- Steps of the proof: ValidHold, EncNeed. -/
import Derived.Test.YthaaaecmeafofaaGreatDoorSt14
import Derived.BigRegion
import Derived.Laws.EntriesVeiled
import Derived.Test.YthaaaecmeafofaaGreatDoorSt18
set_option maxHeartbeats 16000000
set_option maxRecDepth 100000
namespace Go.Proofs.YthaaaecmeafofaaGreatDoor
open Go.RowKit Go.Sort
theorem jW (w:World):aA w w.drew:=⟨rfl,rfl,rfl,Nat.le_refl _,fun _ _=>rfl⟩
theorem pV {α:Type} [Inhabited α] [DecidableEq α] (d:Array α) : ∀ (m:Nat) (j:Nat),j<m->d[j]! ∈ Lib.compactUpTo d m
 | 0,j,h=>absurd h (Nat.not_lt_zero _)
 | m+1,j,h=>by
  rw [Lib.compactUpTo_succ,List.mem_append]
  by_cases hjm:j<m
  ·exact Or.inl (pV d m j hjm)
  ·obtain rfl:j=m:=by omega
   by_cases h0:j=0
   ·subst h0
    rw [if_pos (Lib.keeps_lt_one d 0 (by omega))]
    exact Or.inr (List.mem_singleton.2 rfl)
   ·by_cases hk:d[j]! = d[j-1]!
    ·rw [hk];exact Or.inl (pV d j (j-1) (by omega))
    ·rw [if_pos (Lib.keeps_pos hk)]
     exact Or.inr (List.mem_singleton.2 rfl)
theorem aAo {t:NT} {f:ByteArray} (h:f∈t.flags):f.data.toList∈t.sorted:=by
 unfold NT.sorted Lib.compact
 have h1:f.data.toList∈(t.flags.map (·.data.toList)).mergeSort fun x y=>decide (x<=y):=(List.mergeSort_perm _ _).mem_iff.2 (List.mem_map.2 ⟨f,h,rfl⟩)
 generalize (t.flags.map (·.data.toList)).mergeSort (fun x y=>decide (x<=y))=M at h1 ⊢
 obtain ⟨j,hj,e⟩:=List.mem_iff_getElem.1 h1
 have:=pV M.toArray M.toArray.size j (by simpa using hj)
 rw [← e]
 simpa [hj] using this
theorem lX {p:PK} (h:eE p=0) : ∀ f∈p.nd.flags,aM p.fl f<p.fl.length:=by
 intro f hf
 have hn:gK p.nd p.fl=0:=by
  unfold eE at h
  split at h
  ·cases h
  ·split at h
   ·cases h
   ·split at h
    ·rename_i hne;exact absurd h hne
    ·exact h
 unfold gK at hn
 split at hn
 ·cases hn
 ·split at hn
  ·rename_i hne;exact absurd hn hne
  ·split at hn
   ·rename_i hall
    have:=List.all_eq_true.1 hall _ (aAo hf)
    unfold gE at this
    rw [cF,Lib.containsS_iff] at this
    unfold aM
    exact List.findIdx_lt_length_of_exists ⟨f,this,by simp⟩
   ·cases hn
theorem aHd (S:Nat->Prop) (ps:List PK) (ms:List MB) (tv lv:Value) (k:Nat) (w:World) (hS : ∀ b,S b->b<w.heap.size) (hp:bD S w ps tv) (hm:bX S w ms lv) (hk:k<ms.length) (hok:vF ps ms) (hct:cY ps=0) :
  Calls Tryz.prog 79 #[.agg #[tv],lv,.int .i64 k] w fun e w'=>e=.returned (.bool (qO ps ms k))/\aA w w':=by
 have HP:=hid hp
 have HMS:=hid hm
 have HOK:=hid hok
 obtain ⟨tp,tc,rfl,hlen⟩:=hp.len
 obtain ⟨lp,lc,rfl,hllen⟩:=hm.len
 obtain ⟨mb,moff,mcap,hmv,hmS,-,hrow⟩:=hm.get hk
 cases hmv
 obtain ⟨op,oc,hc0,-,-,-⟩:=hrow k _ (List.getElem?_eq_getElem hk)
 obtain ⟨h0,h1,h2⟩:=hok k _ (List.getElem?_eq_getElem hk)
 obtain ⟨q,hq⟩ : ∃ q:Nat,ms[k].pl=q:=⟨ms[k].pl.toNat,by omega⟩
 have hqp:q<ps.length:=by omega
 have hpk:dA ps ms[k]=ps[q]:=by unfold dA;rw [hq,Int.toNat_natCast,eN ps q hqp]
 have HPK:=hid hpk
 have HFL:Hid (∀ f∈(dA ps ms[k]).nd.flags,aM (dA ps ms[k]).fl f<(dA ps ms[k]).fl.length):=lX ((dD hct).2 _ (by rw [hpk];exact List.getElem_mem hqp))
 have HX:Hid (qO ps ms k=bQ ps ms k ps[q].nd):=by
  show _=_
  unfold qO
  rw [gO ms k hk,hpk]
 rw [hq] at hc0
 obtain ⟨tb,toff,tcap,htv,htb,-,htrow⟩:=hp.get hqp
 cases htv
 obtain ⟨cs,hcs,hpj⟩:=htrow q hqp
 have HFS:Hid ((dA ps ms[k]).fl=ps[q].fl):=by show _=_;rw [hpk]
 rw [hpk] at HFL
 have HFL':=HFL
 clear HFL
 generalize ps[q]=p at hpj HX HFS HFL'
 obtain ⟨kk,a,fl,nt,kids,kp,fp,kc,fc,hnd,hfl,rfl,hf,hn⟩:=hpj.spelt
 have HF:=hid hf
 have HN:=hid hn
 obtain ⟨c0,c1,c2,c3,c4,c5,c6,c7,c8,c9,c10,c11,c12,c13⟩:=dQ hcs
 have hmlt:=hS mb hmS
 have htlt:=hS tb htb
 clear hcs hpj htrow hrow hp hm hok hct h0 h1 h2 hq hpk HPK hf hn
 rcases p with ⟨n,v,sl,fs,nd⟩
 simp only at hnd hfl c0 c1 c2 c3 HX HFS HFL' HF HN
 have HND:=hid hnd
 clear hnd
 go_enter Tryz.func79,Tryz.ntmps79
 go_upto_region 1 with fail
 have e1:=aC w (.cells #[.slice (some ⟨tb,toff,none⟩) ps.length tc] 24)
 refine bJ (fun W'=>aA w W'/\aE w.heap.size 24 (.slice (some ⟨tb,toff,none⟩) ps.length tc) W'/\aE (w.heap.size+1) 25 (.slice (some ⟨mb,moff,none⟩) ms.length lc) W'/\aE (w.heap.size+1+1) 3 (.int .i64 k) W'/\W'.heap.size=w.heap.size+3) ⟨((aA.alloc _ _).alloc' _).alloc' _,(aE.new _ _ _).keep ((aA.alloc _ _).alloc' _) (by simp),?_,?_,by simp⟩ ?_
 ·have:=aE.new (w.alloc (.cells #[.slice (some ⟨tb,toff,none⟩) ps.length tc] 24)) 25 (.slice (some ⟨mb,moff,none⟩) ms.length lc)
  rw [e1] at this;exact this.keep (aA.alloc _ _) this.facts.2.2
 ·have:=aE.new ((w.alloc (.cells #[.slice (some ⟨tb,toff,none⟩) ps.length tc] 24)).alloc (.cells #[.slice (some ⟨mb,moff,none⟩) ms.length lc] 25)) 3 (.int .i64 k)
  rw [aC,e1] at this;exact this
 clear e1
 rintro W0 ⟨k0,v0,v1,v2,hz0⟩
 have K0:=hid k0
 have V0:=hid v0
 have V1:=hid v1
 have V2:=hid v2
 have HZ0:=hid hz0
 obtain ⟨g0,-,l0⟩:=v0.facts
 obtain ⟨g1,-,l1⟩:=v1.facts
 obtain ⟨g2,-,l2⟩:=v2.facts
 have gm:=(k0.cell (p:=⟨mb,moff+k*2,none⟩) hmlt).trans hc0
 have gt : ∀ (o:Nat) (x:Value),w.cell? ⟨tb,o,none⟩=some x->W0.cell? ⟨tb,o,none⟩=some x:=fun o x h=>(k0.cell (p:=⟨tb,o,none⟩) htlt).trans h
 have d0:=gt _ _ c0
 have d1:=gt _ _ c1
 have d2:=gt _ _ c2
 have d3:=gt _ _ c3
 have d4:=gt _ _ c4
 have d5:=gt _ _ c5
 have d6:=gt _ _ c6
 have d7:=gt _ _ c7
 have d8:=gt _ _ c8
 have d9:=gt _ _ c9
 have d10:=gt _ _ c10
 have d11:=gt _ _ c11
 have d12:=gt _ _ c12
 have d13:=gt _ _ c13
 have hm0:mb<W0.heap.size:=Nat.lt_of_lt_of_le hmlt k0.size
 have ht0:tb<W0.heap.size:=Nat.lt_of_lt_of_le htlt k0.size
 clear c0 c1 c2 c3 c4 c5 c6 c7 c8 c9 c10 c11 c12 c13 gt k0 v0 v1 v2 hz0 hc0
 go_region
 clear d0 d1 d2 d3 d4 d5 d6 d7 d8 d9 d10 d11 d12 d13 g0 g1 g2 gm
 go_upto_region 2 with fail
 refine bJ (fun W'=>aA W0 W'/\aL W0.heap.size #[.string n,.int .i64 v,.int .i64 sl,.slice fp fs.length fc,.int .i64 kk,.string a.n,.int .i64 a.op,.int .i64 a.v,.int .i64 a.sl,.string a.f,.bool a.on,.string fl,.bool nt,.slice kp kids.length kc] W'/\W'.heap.size=W0.heap.size+1) ⟨(aA.alloc _ _).trans (jW _),(aL.new _ _ _).keep (jW _) (by rw [aC];omega),by rw [← aC W0 (.cells #[.string n,.int .i64 v,.int .i64 sl,.slice fp fs.length fc,.int .i64 kk,.string a.n,.int .i64 a.op,.int .i64 a.v,.int .i64 a.sl,.string a.f,.bool a.on,.string fl,.bool nt,.slice kp kids.length kc] 76)];rfl⟩ ?_
 rintro W1 ⟨k1,b1,hz1⟩
 have K1:=hid k1
 have B1:=hid b1
 have HZ1:=hid hz1
 clear k1 b1 hz1
 go_upto_region 3 with fail
 refine bJ (fun W'=>aA W1 W'/\aE W1.heap.size 111 .nilFunc W'/\W'.heap.size=W1.heap.size+1) ⟨aA.alloc _ _,aE.new _ _ _,aC _ _⟩ ?_
 rintro W2 ⟨k2,f2,hz2⟩
 have K2:=hid k2
 have F2:=hid f2
 have HZ2:=hid hz2
 clear k2 f2 hz2
 have hmf : ∀ (fn:Fn) (first cap:Array Value) (w:World),(Instr.makeFunc fn first cap).run Tryz.prog w=.ok (.func fn first cap) w:=fun _ _ _ _=>rfl
 go_upto_region 4 with fail
 refine bJ (fun W'=>aA W2 W'/\aE W2.heap.size 111 (.func (.func 129) #[] #[.pointer (some ⟨W1.heap.size,0,none⟩)]) W') ⟨aA.alloc _ _,aE.new _ _ _⟩ ?_
 rintro W3 ⟨k3,f3⟩
 have hb0:W0.heap.size=w.heap.size+3:=HZ0.out
 have hb1:W1.heap.size=W0.heap.size+1:=HZ1.out
 have hb2:W2.heap.size=W1.heap.size+1:=HZ2.out
 have k13:aA W1 W3:=K2.out.trans k3
 have k03:aA W0 W3:=K1.out.trans k13
 have kw3:aA w W3:=K0.out.trans k03
 have f23:=F2.out.keep k3 F2.out.facts.2.2
 have HFN:Hid (kG S ps ms k (some ⟨tb,toff,none⟩) (some ⟨mb,moff,none⟩) tc lc w.heap.size (w.heap.size+1) (w.heap.size+1+1) W1.heap.size W0.heap.size W2.heap.size #[.string n,.int .i64 v,.int .i64 sl,.slice fp fs.length fc,.int .i64 kk,.string a.n,.int .i64 a.op,.int .i64 a.v,.int .i64 a.sl,.string a.f,.bool a.on,.string fl,.bool nt,.slice kp kids.length kc] (W3.setCell ⟨W1.heap.size,0,none⟩ (.func (.func 130) #[] #[.pointer (some ⟨w.heap.size,0,none⟩),.pointer (some ⟨w.heap.size+1,0,none⟩),.pointer (some ⟨w.heap.size+1+1,0,none⟩),.pointer (some ⟨W1.heap.size,0,none⟩),.pointer (some ⟨W0.heap.size,0,none⟩),.pointer (some ⟨W2.heap.size,0,none⟩)]))):=by
  have ap:=gB W1.heap.size W3 (.func (.func 130) #[] #[.pointer (some ⟨w.heap.size,0,none⟩),.pointer (some ⟨w.heap.size+1,0,none⟩),.pointer (some ⟨w.heap.size+1+1,0,none⟩),.pointer (some ⟨W1.heap.size,0,none⟩),.pointer (some ⟨W0.heap.size,0,none⟩),.pointer (some ⟨W2.heap.size,0,none⟩)])
  have hlow : ∀ p:Addr,S p.block->(W3.setCell ⟨W1.heap.size,0,none⟩ (.func (.func 130) #[] #[.pointer (some ⟨w.heap.size,0,none⟩),.pointer (some ⟨w.heap.size+1,0,none⟩),.pointer (some ⟨w.heap.size+1+1,0,none⟩),.pointer (some ⟨W1.heap.size,0,none⟩),.pointer (some ⟨W0.heap.size,0,none⟩),.pointer (some ⟨W2.heap.size,0,none⟩)])).cell? p=W3.cell? p:=fun p hp=>ap.cell p (Nat.lt_of_lt_of_le (hS _ hp) kw3.size) (fun e=>by have e':p.block=W1.heap.size:=e;have:=hS _ hp;omega)
  exact ⟨((V0.out.keep k03 V0.out.facts.2.2)).apart ap (by omega),((V1.out.keep k03 V1.out.facts.2.2)).apart ap (by omega),((V2.out.keep k03 V2.out.facts.2.2)).apart ap (by omega),f23.set _,(B1.out.keep k13 B1.out.1).apart ap (by omega),f3.apart ap (by omega),(HP.out.keep hS kw3).mono hlow (fun _ h=>h),(HMS.out.keep hS kw3).mono hlow (fun _ h=>h),fun b hb=>Nat.lt_of_lt_of_le (Nat.lt_of_lt_of_le (hS b hb) kw3.size) ap.size⟩
 have KFN:Hid (aA w (W3.setCell ⟨W1.heap.size,0,none⟩ (.func (.func 130) #[] #[.pointer (some ⟨w.heap.size,0,none⟩),.pointer (some ⟨w.heap.size+1,0,none⟩),.pointer (some ⟨w.heap.size+1+1,0,none⟩),.pointer (some ⟨W1.heap.size,0,none⟩),.pointer (some ⟨W0.heap.size,0,none⟩),.pointer (some ⟨W2.heap.size,0,none⟩)]))):=Below.trans kw3 ((gB W1.heap.size W3 _).below kw3.size fun b hb e=>by have:b=W1.heap.size:=e;omega)
 obtain ⟨g3,z3,l3⟩:=f23.facts
 have hent:=iU
 clear k3 f3 k13 k03 kw3 f23 K0 K1 K2 V0 V1 V2 F2 B1 hb0 hb1 hb2
 go_upto_region 5 with fail
 refine bJ (fun W'=>kG S ps ms k (some ⟨tb,toff,none⟩) (some ⟨mb,moff,none⟩) tc lc w.heap.size (w.heap.size+1) (w.heap.size+1+1) W1.heap.size W0.heap.size W2.heap.size #[.string n,.int .i64 v,.int .i64 sl,.slice fp fs.length fc,.int .i64 kk,.string a.n,.int .i64 a.op,.int .i64 a.v,.int .i64 a.sl,.string a.f,.bool a.on,.string fl,.bool nt,.slice kp kids.length kc] W'/\aA w W') ?_ ?_
 exact ⟨HFN.out,KFN.out⟩
 rintro W4 ⟨h4,k4⟩
 have H4:=hid h4
 have K4:=hid k4
 obtain ⟨g4,-,l4⟩:=h4.self.facts
 have g5:=h4.pack.2
 have l5:=h4.pack.1
 clear h4 k4 HFN KFN g3 z3 l3
 go_wp2_with fail
 have hfs:=HFS.out
 have hcall:=aDb (S:=S) (fp:=fp) (fc:=fc) hk HOK.out (pcs:=#[.string n,.int .i64 v,.int .i64 sl,.slice fp fs.length fc,.int .i64 kk,.string a.n,.int .i64 a.op,.int .i64 a.v,.int .i64 a.sl,.string a.f,.bool a.on,.string fl,.bool nt,.slice kp kids.length kc]) (by rw [hfs];rfl) nd.size nd (Nat.le_refl _) (by rw [hfs];exact HFL'.out) _ W4 H4.out (by rw [hfs];exact HF.out.keep hS K4.out) (HN.out.keep hS K4.out)
 refine Calls.mono hcall ?_
 rintro e w5 ⟨rfl,k5⟩
 have K5:=hid (K4.out.trans k5)
 clear k5 g4 g5 hcall hfs
 go_wp2_with fail
 go_ret
 exact ⟨aJ HX.out.symm,K5.out⟩
end Go.Proofs.YthaaaecmeafofaaGreatDoor
namespace Go.Proofs.YthaaaecmeafofaaGreatDoor
def fgA (ps:List PK) (c:Cn.CT) (a:At) (z:Int):Int:=Cn.sg (c.fgL z.toNat (aM (ps.getD z.toNat PK.zero).fl a.f)) a.on
def cX (ps:List PK) (c:Cn.CT) (but:Int) (s:Cn.DS) (a:At):Cn.DS × List Int:=
 (bT ps a ps.length).foldl (Cn.gD but a.f.toList.isEmpty (fun z=>c.tkL z.toNat) (fgA ps c a)) (s,[])
def nJ (ps:List PK) (c:Cn.CT) (but:Int) (m:List Bool) (a:At):Bool:=Cn.aCa but a.f.toList.isEmpty (fun z=>c.tkL z.toNat) (fgA ps c a) m (bT ps a ps.length)
def nE (q:Cn.DS × List Int):Cn.DS × Int:=(q.1.someS q.2,q.1.someL q.2)
def qI (q:Cn.DS × List Int):Cn.DS × Int:=(q.1.allS q.2,q.1.allL q.2)
def aPf (r:Cn.DS × Int):Cn.DS × Int:=(r.1,-r.2)
def ifS (f:Int) (r:Cn.DS × Int):Cn.DS × Int:=nE (r.1,[f,r.2])
mutual
def ndS (ps:List PK) (c:Cn.CT) (i:Nat):NT->Cn.DS->Cn.DS × Int
 | .node kd a fl nt kids,s=>
  if kd=1 then nE (cX ps c (-1) (kdS ps c i kids s).1 a)
  else if kd=2 then aPf (nE (cX ps c i (kdS ps c i kids s).1 a))
  else if kd=4 then nE (kdS ps c i kids s)
  else if kd=5 then ifS (Cn.sg (c.fgL i (aM (ps.getD i PK.zero).fl fl)) nt) (qI (kdS ps c i kids s))
  else qI (kdS ps c i kids s)
def kdS (ps:List PK) (c:Cn.CT) (i:Nat):List NT->Cn.DS->Cn.DS × List Int
 | [],s=>(s,[])
 | t :: ts,s=>((kdS ps c i ts (ndS ps c i t s).1).1,(ndS ps c i t s).2 :: (kdS ps c i ts (ndS ps c i t s).1).2)
end
theorem aAk (ps:List PK) (c:Cn.CT) (i:Nat) (t:NT) : ∀ (ts:List NT) (s:Cn.DS),kdS ps c i (ts ++ [t]) s=((ndS ps c i t (kdS ps c i ts s).1).1,(kdS ps c i ts s).2 ++ [(ndS ps c i t (kdS ps c i ts s).1).2])
 | [],s=>by simp [kdS]
 | u :: ts,s=>by rw [List.cons_append,kdS,aAk ps c i t ts,kdS,List.cons_append]
theorem rR (ps:List PK) (c:Cn.CT) (i:Nat) : ∀ (ts:List NT) (s:Cn.DS),(kdS ps c i ts s).2.length=ts.length
 | [],s=>by simp [kdS]
 | u :: ts,s=>by rw [kdS,List.length_cons,rR ps c i ts,List.length_cons]
def vL (ps:List PK) (c:Cn.CT) (i:Nat) (m:List Bool) (fl:ByteArray):Bool:=m.getD (c.base i+aM (ps.getD i PK.zero).fl fl) false != c.on i (aM (ps.getD i PK.zero).fl fl)
mutual
def evN (ps:List PK) (c:Cn.CT) (i:Nat) (m:List Bool):NT->Bool
 | .node kd a fl nt kids=>
  if kd=1 then nJ ps c (-1) m a
  else if kd=2 then !nJ ps c i m a
  else if kd=4 then qM ps c i m kids
  else if kd=5 then (vL ps c i m fl==nt)||oP ps c i m kids
  else oP ps c i m kids
def qM (ps:List PK) (c:Cn.CT) (i:Nat) (m:List Bool):List NT->Bool
 | []=>false
 | t :: ts=>evN ps c i m t||qM ps c i m ts
def oP (ps:List PK) (c:Cn.CT) (i:Nat) (m:List Bool):List NT->Bool
 | []=>true
 | t :: ts=>evN ps c i m t&&oP ps c i m ts
end
def tgS (ps:List PK) (c:Cn.CT) (s:Cn.DS) (a:At):Cn.DS:=(cX ps c (-1) s a).1.clause (cX ps c (-1) s a).2
def maS (c:Cn.CT) (s:Cn.DS) (z:Int):Cn.DS:=s.clause [-c.tkL z.toNat]
def oD (ps:List PK) (j i:Nat):Bool:=((ps.getD j PK.zero).n.toList==(ps.getD i PK.zero).n.toList)&&((ps.getD j PK.zero).sl==(ps.getD i PK.zero).sl)
def slS (ps:List PK) (c:Cn.CT) (i:Nat) (s:Cn.DS) (j:Nat):Cn.DS:=if oD ps j i=true then s.clause [-c.tkL j,-c.tkL i] else s
def ndC (ps:List PK) (c:Cn.CT) (i:Nat) (s:Cn.DS):Cn.DS:=(ndS ps c i (ps.getD i PK.zero).nd s).1.clause [-c.tkL i,(ndS ps c i (ps.getD i PK.zero).nd s).2]
def pkS (ps:List PK) (c:Cn.CT) (s:Cn.DS) (i:Nat):Cn.DS:=(List.range i).foldl (slS ps c i) (ndC ps c i s)
def rD (c:Cn.CT):Cn.DS:=⟨c.many,[],fun _ _=>0⟩
def cG (ps:List PK) (wi:WI):Cn.DS:=(List.range ps.length).foldl (pkS ps (aB ps wi)) (wi.ma.foldl (maS (aB ps wi)) (wi.ts.foldl (tgS ps (aB ps wi)) (rD (aB ps wi))))
theorem jZ {ps:List PK} {a:At} {z:Int} : ∀ {k:Nat},z∈bT ps a k ↔ ∃ i:Nat,i<k/\z=(i:Int)/\iG (ps.getD i PK.zero) a=true
 | 0=>by simp [bT]
 | k+1=>by
  rw [bT,List.mem_append,jZ (k:=k)]
  constructor
  ·rintro (⟨i,h1,h2,h3⟩ | h)
   ·exact ⟨i,by omega,h2,h3⟩
   ·split at h
    ·rename_i hm;exact ⟨k,by omega,by simpa using h,hm⟩
    ·simp at h
  ·rintro ⟨i,h1,h2,h3⟩
   by_cases e:i=k
   ·subst e;right;rw [if_pos h3];simpa using h2
   ·exact .inl ⟨i,by omega,h2,h3⟩
theorem rO {fs:List ByteArray} {x:ByteArray}:gE fs x.data.toList=true↔aM fs x<fs.length:=by
 unfold gE aM
 rw [Lib.containsS_iff,List.findIdx_lt_length]
 constructor
 ·intro h;exact ⟨x,by simpa using h,by simp⟩
 ·rintro ⟨y,hy,e⟩
  have:y=x:=by simpa using e
  subst this;simpa using hy
theorem bV (ps:List PK) (wi:WI):(aB ps wi).nf.length=ps.length:=by simp [aB]
theorem kR {ps:List PK} (wi:WI) {i:Nat} (h:i<ps.length):(aB ps wi).nf.getD i 0=(ps.getD i PK.zero).fl.length:=by
 simp [aB,List.getD_eq_getElem?_getD,List.getElem?_eq_getElem h]
theorem oF {ps:List PK} {wi:WI} (hok:(aB ps wi).Ok) (a:At) : ∀ z∈bT ps a ps.length,Cn.Lit (aB ps wi).many ((fun z:Int=>(aB ps wi).tkL z.toNat) z)/\(a.f.toList.isEmpty=false->Cn.Lit (aB ps wi).many (fgA ps (aB ps wi) a z)/\((fun z:Int=>(aB ps wi).tkL z.toNat) z,fgA ps (aB ps wi) a z)∈(aB ps wi).keys):=by
 intro z hz
 obtain ⟨i,hi,rfl,hm⟩:=jZ.1 hz
 have hi':i<(aB ps wi).nf.length:=by rw [bV];exact hi
 refine ⟨Cn.CT.tk_lit hok hi',fun he=> ?_⟩
 have hf:aM (ps.getD i PK.zero).fl a.f<(ps.getD i PK.zero).fl.length:=by
  unfold iG at hm
  rw [he] at hm
  simp only [Bool.and_eq_true,Bool.false_or] at hm
  exact rO.1 hm.2.2
 have hf':aM (ps.getD i PK.zero).fl a.f<(aB ps wi).nf.getD i 0:=by rw [kR wi hi];exact hf
 exact ⟨Cn.nU (Cn.CT.fg_lit _ hi' hf') _,Cn.CT.keys_mem _ hi' hf' _⟩
theorem wT {ps:List PK} {wi:WI} {s:Cn.DS} {V:List Bool->List Bool} {P:List Bool->Bool} {v q:Nat} (hok:(aB ps wi).Ok) (h8:ps.length<=8) (h:Cn.Sem (aB ps wi).many (aB ps wi).keys s V P v q) (but:Int) (a:At) :
  ∃ V',Cn.Sem (aB ps wi).many (aB ps wi).keys (cX ps (aB ps wi) but s a).1 V' P v q/\Cn.Gr (aB ps wi).many s (cX ps (aB ps wi) but s a).1 V V'/\Cn.aN (cX ps (aB ps wi) but s a).1.n (cX ps (aB ps wi) but s a).2/\(cX ps (aB ps wi) but s a).2.length<=8/\
   ∀ m,m.length=(aB ps wi).many->(cX ps (aB ps wi) but s a).2.any (Cn.inM (V' m))=nJ ps (aB ps wi) but m a:=by
 obtain ⟨V',h1,h2,h3,h4,h5⟩:=Cn.rU (but:=but) (nof:=a.f.toList.isEmpty) (tk:=fun z=>(aB ps wi).tkL z.toNat) (fg:=fgA ps (aB ps wi) a) h (acc:= []) (fun x hx=>by simp at hx) (oF hok a)
 have:=fT ps a ps.length
 exact ⟨V',h1,h2,h3,by simp at h4;unfold cX;omega,fun m hm=>by have:=h5 m hm;unfold cX nJ;simpa using this⟩
theorem aLm {ps:List PK} {wi:WI} {s:Cn.DS} {V:List Bool->List Bool} {P:List Bool->Bool} {v q:Nat} (h:Cn.Sem (aB ps wi).many (aB ps wi).keys s V P v q) {i:Nat} (hi:i<ps.length) {fl:ByteArray} (hf:aM (ps.getD i PK.zero).fl fl<(ps.getD i PK.zero).fl.length) (nt:Bool) :
  Cn.Lit s.n (Cn.sg ((aB ps wi).fgL i (aM (ps.getD i PK.zero).fl fl)) nt)/\∀ m,m.length=(aB ps wi).many->Cn.inM (V m) (Cn.sg ((aB ps wi).fgL i (aM (ps.getD i PK.zero).fl fl)) nt)=(vL ps (aB ps wi) i m fl==nt):=by
 have hl:=Cn.CT.fg_lit (aB ps wi) (i:=i) (k:=aM (ps.getD i PK.zero).fl fl) (by rw [bV];exact hi) (by rw [kR wi hi];exact hf)
 exact ⟨(Cn.nU hl nt).le h.le,fun m hm=>by rw [h.ch hm (Cn.nU hl nt),Cn.xE hl.1,Cn.CT.fg_in];rfl⟩
theorem uB {n:Nat} {x y:Int} (hx:Cn.Lit n x) (hy:Cn.Lit n y):Cn.aN n [x,y]:=fun z hz=>by
 rcases List.mem_cons.1 hz with rfl | hz
 ·exact hx
 ·rw [List.mem_singleton.1 hz];exact hy
theorem rS : ∀ ts:List NT,ts.length<=bL ts
 | []=>Nat.zero_le _
 | t :: ts=>by
  have:=rS ts
  cases t with
  | node k a fl nt kids=>rw [bL,NT.size,List.length_cons];omega
mutual
theorem aLc {ps:List PK} {wi:WI} {P:List Bool->Bool} {i:Nat} (hok:(aB ps wi).Ok) (h8:ps.length<=8) (hi:i<ps.length) : ∀ (t:NT) (s:Cn.DS) (V:List Bool->List Bool) (v q:Nat),Cn.Sem (aB ps wi).many (aB ps wi).keys s V P v q->t.size<=50->(∀ f∈t.flags,aM (ps.getD i PK.zero).fl f<(ps.getD i PK.zero).fl.length)->
  ∃ V' e,e+1<=11*t.size/\Cn.Sem (aB ps wi).many (aB ps wi).keys (ndS ps (aB ps wi) i t s).1 V' P (v+2*t.size) (q+e)/\Cn.Gr (aB ps wi).many s (ndS ps (aB ps wi) i t s).1 V V'/\Cn.Lit (ndS ps (aB ps wi) i t s).1.n (ndS ps (aB ps wi) i t s).2/\∀ m,m.length=(aB ps wi).many->Cn.inM (V' m) (ndS ps (aB ps wi) i t s).2=evN ps (aB ps wi) i m t
 | .node kd a fl nt kids,s,V,v,q,h,hsz,hfl=>by
  rw [NT.size] at hsz
  rw [NT.flags] at hfl
  obtain ⟨V1,e1,g1,g2,g3,g4,g5⟩:=aKk hok h8 hi kids s V v q h (by omega) fun f hf=>hfl f (List.mem_append_right _ hf)
  have hkl:=rS kids
  have hlen:=rR ps (aB ps wi) i kids s
  rw [NT.size,ndS]
  simp only [evN]
  generalize kdS ps (aB ps wi) i kids s=Q at g2 g3 g4 g5 hlen ⊢
  by_cases k1:kd=1
  ·rw [if_pos k1];simp only [if_pos k1]
   obtain ⟨V2,j1,j2,j3,j4,j5⟩:=wT hok h8 g2 (-1) a
   obtain ⟨V3,l1,l2,l3,l4⟩:=Cn.mA j1 j3 (by omega)
   exact ⟨V3,e1+9,by omega,l1.mono (by omega) (by omega),(g3.trans j2).trans l2,l3,fun m hm=>by rw [← j5 m hm];exact l4 m hm⟩
  rw [if_neg k1];simp only [if_neg k1]
  by_cases k2:kd=2
  ·rw [if_pos k2];simp only [if_pos k2]
   obtain ⟨V2,j1,j2,j3,j4,j5⟩:=wT hok h8 g2 i a
   obtain ⟨V3,l1,l2,l3,l4⟩:=Cn.mA j1 j3 (by omega)
   exact ⟨V3,e1+9,by omega,l1.mono (by omega) (by omega),(g3.trans j2).trans l2,l3.neg,fun m hm=>by rw [← j5 m hm,← l4 m hm];exact Cn.eA _ l3.1⟩
  rw [if_neg k2];simp only [if_neg k2]
  by_cases k4:kd=4
  ·rw [if_pos k4];simp only [if_pos k4]
   obtain ⟨V3,l1,l2,l3,l4⟩:=Cn.mA g2 g4 (by omega)
   exact ⟨V3,e1+kids.length+1,by omega,l1.mono (by omega) (by omega),g3.trans l2,l3,fun m hm=>by rw [← (g5 m hm).1];exact l4 m hm⟩
  rw [if_neg k4];simp only [if_neg k4]
  obtain ⟨V3,l1,l2,l3,l4⟩:=Cn.aFv g2 g4 (by omega)
  by_cases k5:kd=5
  ·rw [if_pos k5];simp only [if_pos k5]
   obtain ⟨f1,f2⟩:=aLm l1 hi (fl:=fl) (hfl fl (by simp [k5])) nt
   obtain ⟨V4,o1,o2,o3,o4⟩:=Cn.mA l1 (uB f1 l3) (by simp)
   refine ⟨V4,e1+kids.length+4,by omega,o1.mono (by omega) (by simp;omega),(g3.trans l2).trans o2,o3,fun m hm=> ?_⟩
   rw [← (g5 m hm).2,← l4 m hm,← f2 m hm]
   have:=o4 m hm
   rw [List.any_cons,List.any_cons,List.any_nil,Bool.or_false] at this
   exact this
  ·rw [if_neg k5];simp only [if_neg k5]
   exact ⟨V3,e1+kids.length+1,by omega,l1.mono (by omega) (by omega),g3.trans l2,l3,fun m hm=>by rw [← (g5 m hm).2];exact l4 m hm⟩
theorem aKk {ps:List PK} {wi:WI} {P:List Bool->Bool} {i:Nat} (hok:(aB ps wi).Ok) (h8:ps.length<=8) (hi:i<ps.length) : ∀ (ts:List NT) (s:Cn.DS) (V:List Bool->List Bool) (v q:Nat),Cn.Sem (aB ps wi).many (aB ps wi).keys s V P v q->bL ts<=49->(∀ f∈cR ts,aM (ps.getD i PK.zero).fl f<(ps.getD i PK.zero).fl.length)->
  ∃ V' e,e+ts.length<=11*bL ts/\Cn.Sem (aB ps wi).many (aB ps wi).keys (kdS ps (aB ps wi) i ts s).1 V' P (v+2*bL ts) (q+e)/\Cn.Gr (aB ps wi).many s (kdS ps (aB ps wi) i ts s).1 V V'/\Cn.aN (kdS ps (aB ps wi) i ts s).1.n (kdS ps (aB ps wi) i ts s).2/\∀ m,m.length=(aB ps wi).many->(kdS ps (aB ps wi) i ts s).2.any (Cn.inM (V' m))=qM ps (aB ps wi) i m ts/\(kdS ps (aB ps wi) i ts s).2.all (Cn.inM (V' m))=oP ps (aB ps wi) i m ts
 | [],s,V,v,q,h,_,_=>⟨V,0,by simp,by rw [kdS];exact h,Cn.Gr.refl ..,fun x hx=>by rw [kdS] at hx;simp at hx,fun m _=>by rw [kdS,qM,oP];simp⟩
 | t :: ts,s,V,v,q,h,hsz,hfl=>by
  rw [bL] at hsz
  rw [cR] at hfl
  obtain ⟨V1,e1,g1,g2,g3,g4,g5⟩:=aLc hok h8 hi t s V v q h (by omega) fun f hf=>hfl f (List.mem_append_left _ hf)
  obtain ⟨V2,e2,j1,j2,j3,j4,j5⟩:=aKk hok h8 hi ts _ V1 _ _ g2 (by omega) fun f hf=>hfl f (List.mem_append_right _ hf)
  rw [kdS,bL]
  refine ⟨V2,e1+e2,by simp;omega,by rw [Nat.mul_add,← Nat.add_assoc,← Nat.add_assoc];exact j2,g3.trans j3,fun x hx=> ?_,fun m hm=> ?_⟩
  ·rcases List.mem_cons.1 hx with rfl | hx
   ·exact g4.le j3.n
   ·exact j4 x hx
  ·rw [List.any_cons,List.all_cons,qM,oP,(j5 m hm).1,(j5 m hm).2,j3.v m hm _ g4,g5 m hm]
   exact ⟨rfl,rfl⟩
end
end Go.Proofs.YthaaaecmeafofaaGreatDoor
