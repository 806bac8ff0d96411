/- Steps of the proof: ResP. -/
import Derived.Test.YthaaaecmeafofaaGreatDoorRb19
import Derived.Test.YthaaaecmeafofaaGreatDoorRb20
set_option maxHeartbeats 16000000
set_option maxRecDepth 100000
namespace Go.Proofs.YthaaaecmeafofaaGreatDoor
open Go.RowKit
theorem eX {m:List Bool} {c i:Nat} (h:i<c):(m.take c).getD i false=m.getD i false:=by
 rw [List.getD_eq_getElem?_getD,List.getD_eq_getElem?_getD,List.getElem?_take,if_pos h]
theorem aNc {m o:List Bool} (c:Nat) (hl:m.length=o.length) (h:Cn.jT m o):Cn.jT (m.take c) (o.take c):=by
 rcases h with rfl | ⟨j,hj,h1,h2,h3⟩
 ·exact .inl rfl
 ·by_cases hc:j<c
  ·exact .inr ⟨j,by rw [List.length_take];omega,fun i hi=>by rw [eX (by omega),eX (by omega)];exact h1 i hi,by rw [eX hc];exact h2,by rw [eX hc];exact h3⟩
  ·refine .inl (Cn.lA (by rw [List.length_take,List.length_take,hl]) fun i hi=> ?_)
   rw [List.length_take] at hi
   rw [eX (by omega),eX (by omega),h1 i (by omega)]
theorem aFi : ∀ {m o:List Bool},m.length=o.length->(∀ v,v<m.length->m.getD v false=true->o.getD v false=true)->Cn.jT m o
 | [],[],_,_=> .inl rfl
 | a :: m,b :: o,hl,h=>by
  have h0:=h 0 (by simp)
  simp only [List.getD_cons_zero] at h0
  have ih:=aFi (m:=m) (o:=o) (by simpa using hl) fun v hv hm=>by
   have:=h (v+1) (by simpa using hv)
   simp only [List.getD_cons_succ] at this
   exact this hm
  have hab:a=b∨a=false/\b=true:=by revert h0;cases a<;>cases b<;>simp
  rcases hab with rfl | ⟨rfl,rfl⟩
  ·rcases ih with rfl | ⟨j,hj,h1,h2,h3⟩
   ·exact .inl rfl
   ·refine .inr ⟨j+1,by simpa using hj,fun i hi=> ?_,by simpa using h2,by simpa using h3⟩
    cases i with
    | zero=>rfl
    | succ i=>simpa using h1 i (by omega)
  ·exact .inr ⟨0,by simp,fun i hi=>by omega,rfl,rfl⟩
theorem aTb {m:List Bool} {c:Nat} (hc:c<=m.length):Cn.mH (Cn.chL (m.take c)) m:=by
 intro x hx
 obtain ⟨v,hv,rfl⟩:=List.mem_map.1 hx
 have hv:=List.mem_range.1 hv
 rw [List.length_take] at hv
 rw [eX (by omega)]
 unfold Cn.inM
 cases hm:m.getD v false with
 | true=>rw [if_pos rfl,show ((v:Int)+1).natAbs-1=v by omega,hm,decide_eq_true (by omega)];rfl
 | false=>rw [if_neg (by simp),show (-(v:Int)-1).natAbs-1=v by omega,hm,decide_eq_false (by omega)];rfl
theorem aQh {n c:Nat} {F:List (List Int)} {may:List Bool->Bool} (hE:Cn.tJ n c F may) (hF : ∀ x∈F,Cn.aL n x) (hc:c<=n) {m:List Bool} (hm:Cn.Mod n F m):may (m.take c)=true:=by
 have hl:(m.take c).length=c:=by rw [List.length_take,hm.1];omega
 cases h:may (m.take c) with
 | true=>rfl
 | false=>exact absurd ((hE _ hl).2 h) (Cn.lQ hF (fun x hx=>⟨(Cn.mK _ x hx).1,by have:=(Cn.mK _ x hx).2;omega⟩) hm.2 (aTb (by rw [hm.1];exact hc)))
theorem aHy {n c:Nat} {F:List (List Int)} {may:List Bool->Bool} (hE:Cn.tJ n c F may) (hF : ∀ x∈F,Cn.aL n x) (hc:c<=n) {d:List Bool} (hd:d.length=c) (h:may d=true) : ∃ o,Cn.Mod n F o/\o.take c=d:=by
 obtain ⟨h1,h2⟩:=(hE d hd).1 h
 obtain ⟨h3,h4⟩:=Cn.aCo hF (fun x hx=>⟨(Cn.mK d x hx).1,by have:=(Cn.mK d x hx).2;omega⟩) h1 h2
 refine ⟨_,h3,Cn.lA (by rw [List.length_take,h3.1];omega) fun i hi=> ?_⟩
 rw [List.length_take,h3.1] at hi
 rw [eX (by omega)]
 have h5:=h4 _ (List.mem_of_getElem? (Cn.nN (m:=d) (v:=i) (by omega)))
 unfold Cn.inM at h5
 revert h5
 cases hm:d.getD i false with
 | true=>rw [if_pos rfl,show ((i:Int)+1).natAbs-1=i by omega,decide_eq_true (by omega)];intro h5;simpa using h5
 | false=>rw [if_neg (by simp),show (-(i:Int)-1).natAbs-1=i by omega,decide_eq_false (by omega)];intro h5;simpa using h5
theorem aBx {α β:Type} {f g:α->Option β} : ∀ {l:List α},(∀ x∈l,f x=g x)->l.filterMap f=l.filterMap g
 | [],_=>rfl
 | a :: l,h=>by rw [List.filterMap_cons,List.filterMap_cons,h a (by simp),aBx fun x hx=>h x (by simp [hx])]
theorem aOi {c:Cn.CT} (h:c.Ok) {m m':List Bool} (e : ∀ v,v<c.many->m.getD v false=m'.getD v false):c.set m=c.set m':=by
 have hN:c.nf.length<=c.many:=by unfold Cn.CT.many;omega
 unfold Cn.CT.set
 refine aBx fun i hi=> ?_
 have hi:=List.mem_range.1 hi
 have e1:c.takes m i=c.takes m' i:=by
  unfold Cn.CT.takes
  rw [e _ (by have:=Cn.CT.idx_lt h hi;omega)]
 have e2:c.flags m i=c.flags m' i:=by
  unfold Cn.CT.flags
  refine List.map_congr_left fun k hk=> ?_
  rw [e _ (Cn.CT.base_lt_many c hi (List.mem_range.1 hk))]
 rw [e1,e2]
theorem xX {ps:List PK} {wi:WI} (h:(aB ps wi).Ok) (m:List Bool):bN ps wi (m.take (aB ps wi).many)=bN ps wi m:=by
 unfold bN
 rw [aOi h fun v hv=>eX hv]
theorem aQv (ms:List (Nat × List Bool)):eW (ms.map aCm)=ms:=by
 unfold eW aCm
 rw [List.map_map]
 conv=>rhs;rw [← List.map_id ms]
 exact List.map_congr_left fun a _=>rfl
def mG (ps:List PK) (wi:WI) (c:List Bool):Prop:=c.length=(aB ps wi).many/\fM ps wi (bN ps wi c)=true/\∀ d:List Bool,d.length=(aB ps wi).many->fM ps wi (bN ps wi d)=true->Cn.jT c d
def rT (ps:List PK) (wi:WI):Prop:= ∀ d:List Bool,d.length=(aB ps wi).many->fM ps wi (bN ps wi d)=false
theorem mG.one {ps:List PK} {wi:WI} {c d:List Bool} (h:mG ps wi c) (h':mG ps wi d):c=d:=(h.2.2 d h'.1 h'.2.1).anti (h'.2.2 c h.1 h.2.1)
theorem mG.some {ps:List PK} {wi:WI} {c:List Bool} (h:mG ps wi c) (h':rT ps wi):False:=by have:=h' c h.1;rw [h.2.1] at this;cases this
theorem set_mod {ps:List PK} {wi:WI} (hok:(aB ps wi).Ok) {ms:List MB} (h:bV ps ms=0):bN ps wi ((aB ps wi).mod (eW ms))=ms:=by
 unfold bN
 rw [Cn.CT.set_mod hok (vL wi h),aTs fun x hx=>((dD h).2.2.2.1 x hx).1]
theorem aSe {c:Cn.CT} (h:c.Ok) (m:List Bool) (hm:m.length=c.many):Cn.jT (c.mod (c.set m)) m:=by
 refine aFi (by rw [Cn.CT.mod_len h,hm]) fun v hv ht=> ?_
 rw [Cn.CT.mod_len h] at hv
 obtain ⟨h1,h2⟩:=Cn.CT.set_inj h (Cn.CT.set_mod h (c.set_is m))
 by_cases hvN:v<c.nf.length
 ·rw [← h1 v hvN];exact ht
 ·obtain ⟨i,k,hi,hk,hvk⟩:=Cn.oF (nf:=c.nf) (v:=v-c.nf.length) (by unfold Cn.CT.many at hv;omega)
  have hve:v=c.base i+k:=by unfold Cn.CT.base;omega
  subst hve
  have hfl:=Cn.CT.mod_flag h (c.set m) hi hk
  rw [ht] at hfl
  have hhas:Cn.uC (c.set m) i=true:=by
   unfold Cn.oK at hfl
   cases hf:(c.set m).find? fun a=>a.1==i with
   | none=>rw [hf] at hfl;cases hfl
   | some a=>exact Cn.qA.2 ⟨a,List.mem_of_find?_eq_some hf,by simpa using List.find?_some hf⟩
  rw [← h2 i hi (by rw [Cn.CT.mod_takes h hi];exact hhas) k hk]
  exact ht
theorem mG.mod {ps:List PK} {wi:WI} {c:List Bool} (h:mG ps wi c) (hok:(aB ps wi).Ok):(aB ps wi).mod (eW (bN ps wi c))=c:=by
 have e:eW (bN ps wi c)=(aB ps wi).set c:=aQv _
 rw [e]
 refine (aSe hok c h.1).anti (h.2.2 _ (Cn.CT.mod_len hok _) ?_)
 have:bN ps wi ((aB ps wi).mod ((aB ps wi).set c))=bN ps wi c:=by
  unfold bN
  rw [Cn.CT.set_mod hok (Cn.CT.set_is _ c)]
 rw [this]
 exact h.2.1
noncomputable def cO (ps:List PK) (wi:WI) (steps:Int):Cn.Ans:=Cn.oJ ((dQ ps wi).n:Nat) (dQ ps wi).cl steps
theorem aHl {ps:List PK} {wi:WI} (h:bE ps wi=0):Cn.gZ ((dQ ps wi).n:Nat) (dQ ps wi).cl=0:=by
 obtain ⟨-,h2,h3,h4,-⟩:=tA h
 exact Cn.aFf h2 h3 fun c hc=>⟨(h4 c hc).2,(h4 c hc).1⟩
theorem aSr {ps:List PK} {wi:WI} (h:bE ps wi=0) {s:Int} (h1:1<=s) (h2:s<=40000):(cO ps wi s).er=0∨(cO ps wi s).er=8:=Cn.aRk (aHl h) h1 h2
theorem qP {ps:List PK} {wi:WI} (h:bE ps wi=0):(cO ps wi 40000).er=0:=by
 have h14:=(nT wi (cI h).1).1
 have hp:(2 ^ ((aB ps wi).many+1):Nat)<=2 ^ 15:=Nat.pow_le_pow_right (by omega) (by omega)
 unfold cO
 rw [Cn.pH (aHl h) (by omega) (by omega)]
 have hne:=Cn.aOn (n:=(dQ ps wi).n) (c:=(aB ps wi).many) (s:=(40000:Int).toNat) (xB h).decides (by omega) (by show _<=40000;omega)
 unfold Cn.fA
 generalize (Cn.fX (dQ ps wi).n (dQ ps wi).cl (40000:Int).toNat)=r at hne ⊢
 cases hr:r.o with
 | out=>exact absurd hr hne
 | model m=>rfl
 | closed=>rfl
theorem zT {ps:List PK} {wi:WI} (h:bE ps wi=0) {s:Int} (he:(cO ps wi s).er=0):((cO ps wi s).P = []/\(aB ps wi).many<=(cO ps wi s).m.length/\(cO ps wi s).m.length<=400/\mG ps wi ((cO ps wi s).m.take (aB ps wi).many))∨((cO ps wi s).P ≠ []/\rT ps wi/\Cn.aGx (dQ ps wi).cl (cO ps wi s).P/\(cO ps wi s).P.length<=40000/\∀ c∈(cO ps wi s).P,c.length<=60/\Cn.aL (dQ ps wi).n c):=by
 obtain ⟨g1,g2,g3,g4,-⟩:=tA h
 have hE:=xB h
 obtain ⟨n,hn,-,-,-,-,ha⟩:=Cn.aQw he
 obtain rfl:(dQ ps wi).n=n:=by omega
 have hF : ∀ x∈(dQ ps wi).cl,Cn.aL (dQ ps wi).n x:=fun x hx=>(g4 x hx).1
 rcases ha with ⟨h1,h2,h3⟩ | ⟨h1,-,h3,h4,h5,h6⟩
 ·refine .inl ⟨h1,?_,?_,?_,aQh hE hF g1 h2,fun d hd hv=> ?_⟩
  ·show _<=(Cn.oJ _ _ s).m.length
   rw [h2.1];exact g1
  ·show (Cn.oJ _ _ s).m.length<=_
   rw [h2.1];exact g2
  ·show ((Cn.oJ _ _ s).m.take _).length=_
   rw [List.length_take,h2.1];omega
  ·obtain ⟨o,ho,rfl⟩:=aHy hE hF g1 hd hv
   exact aNc _ (h2.1.trans ho.1.symm) (h3 o ho)
 ·refine .inr ⟨h1,fun d hd=> ?_,h3,h4,h5⟩
  cases hv:fM ps wi (bN ps wi d) with
  | false=>rfl
  | true=>
   obtain ⟨o,ho,-⟩:=aHy hE hF g1 hd hv
   exact absurd ho (h6 o)
theorem aDe {ps:List PK} {wi:WI} {c:List Bool} {s:Int} (h:bE ps wi=0) (he:(cO ps wi s).er=0) (hb:mG ps wi c):(cO ps wi s).P = []/\bN ps wi (cO ps wi s).m=bN ps wi c:=by
 rcases zT h he with ⟨h1,-,-,h4⟩ | ⟨-,h2,-⟩
 ·refine ⟨h1,?_⟩
  rw [← xX (gB (cI h).2.1),h4.one hb]
 ·exact (hb.some h2).elim
theorem aDf {ps:List PK} {wi:WI} {s:Int} (h:bE ps wi=0) (he:(cO ps wi s).er=0) (hn:rT ps wi):(cO ps wi s).P ≠ []:=by
 rcases zT h he with ⟨-,-,-,h4⟩ | ⟨h1,-⟩
 ·exact (h4.some hn).elim
 ·exact h1
end Go.Proofs.YthaaaecmeafofaaGreatDoor
