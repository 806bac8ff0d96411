/- Steps of the proof: ValidSet, ValidOther, ValidHolds. -/
import Derived.Test.YthaaaecmeafofaaGreatDoorVs09
import Derived.Test.YthaaaecmeafofaaGreatDoorVs08
set_option maxHeartbeats 16000000
set_option maxRecDepth 100000
namespace Go.Proofs.YthaaaecmeafofaaGreatDoor
open Go.RowKit
structure MB where
 pl:Int
 on:List Bool
def MB.zero:MB:=⟨0,[]⟩
def aV (ps:List PK) (m:MB):PK:=ps.getD m.pl.toNat PK.zero
def mbE (ps:List PK) (ms:List MB) (k:Nat):Int:=
 if (ms.getD k MB.zero).pl<0∨(ps.length:Int)<=(ms.getD k MB.zero).pl then 5
 else if 0<k/\(ms.getD k MB.zero).pl<=(ms.getD (k-1) MB.zero).pl then 6
 else if (ms.getD k MB.zero).on.length≠(aV ps (ms.getD k MB.zero)).fl.length then 4 else 0
def jZ (ps:List PK) (ms:List MB):Int:=aI (mbE ps ms) 0 ms.length
def bK (ps:List PK) (ms:List MB):Int:=if cG ps≠0 then cG ps else jZ ps ms
def aQ (fs:List ByteArray) (x:ByteArray):Nat:=fs.findIdx fun f=>decide (f=x)
def isB (p:PK) (m:MB) (a:At):Bool:=
 (p.n.toList==a.n.toList)&&dT a.op a.v a.sl p.v p.sl&&(a.f.toList.isEmpty||(decide (aQ p.fl a.f<p.fl.length)&&(m.on.getD (aQ p.fl a.f) false==a.on)))
def dK (ps:List PK) (ms:List MB) (k:Int) (a:At):Nat->Bool
 | 0=>false
 | n+1=>dK ps ms k a n||(!decide ((n:Int)=k)&&isB (aV ps (ms.getD n MB.zero)) (ms.getD n MB.zero) a)
def bY (ps:List PK) (ms:List MB) (k:Int) (a:At):Bool:=dK ps ms k a ms.length
mutual
def aK (ps:List PK) (ms:List MB) (k:Nat):NT->Bool
 | .node kd a fl nt kids=>
  if kd=1 then bY ps ms (-1) a
  else if kd=2 then !bY ps ms k a
  else if kd=4 then xV ps ms k kids
  else if kd=5/\((ms.getD k MB.zero).on.getD (aQ (aV ps (ms.getD k MB.zero)).fl fl) false==nt)=true then true
  else qT ps ms k kids
def xV (ps:List PK) (ms:List MB) (k:Nat):List NT->Bool
 | []=>false
 | t :: ts=>aK ps ms k t||xV ps ms k ts
def qT (ps:List PK) (ms:List MB) (k:Nat):List NT->Bool
 | []=>true
 | t :: ts=>aK ps ms k t&&qT ps ms k ts
end
def dY (ps:List PK) (ms:List MB) (k:Nat):Bool:=aK ps ms k (aV ps (ms.getD k MB.zero)).nd
def dI (ps:List PK) (ms:List MB) (k:Nat):Nat->Bool
 | 0=>false
 | n+1=>dI ps ms k n||(((aV ps (ms.getD n MB.zero)).n.toList==(aV ps (ms.getD k MB.zero)).n.toList)&&((aV ps (ms.getD n MB.zero)).sl==(aV ps (ms.getD k MB.zero)).sl))
structure WI where
 ts:List At
 ins:List MB
 ma:List Int
 on:List (Int × Int)
def maE (ps:List PK) (ma:List Int) (k:Nat):Int:=
 if ma.getD k 0<0∨(ps.length:Int)<=ma.getD k 0 then 5 else if 0<k/\ma.getD k 0<=ma.getD (k-1) 0 then 6 else 0
def onE (ps:List PK) (on:List (Int × Int)) (k:Nat):Int:=
 if (on.getD k (0,0)).1<0∨(ps.length:Int)<=(on.getD k (0,0)).1 then 5
 else if (on.getD k (0,0)).2<0∨((ps.getD (on.getD k (0,0)).1.toNat PK.zero).fl.length:Int)<=(on.getD k (0,0)).2 then 5
 else if 0<k/\¬ ((on.getD (k-1) (0,0)).1<(on.getD k (0,0)).1∨(on.getD (k-1) (0,0)).1=(on.getD k (0,0)).1/\(on.getD (k-1) (0,0)).2<(on.getD k (0,0)).2) then 6 else 0
def taE (ts:List At):Int:=if 6<ts.length then 2 else aI (fun k=>eT (ts.getD k At.zero)) 0 ts.length
def dN (ps:List PK) (w:WI):Int:=
 if bK ps w.ins≠0 then bK ps w.ins else if taE w.ts≠0 then taE w.ts else if aI (maE ps w.ma) 0 w.ma.length≠0 then aI (maE ps w.ma) 0 w.ma.length else aI (onE ps w.on) 0 w.on.length
def gX (ps:List PK) (ms:List MB) (ts:List At):Bool:=ts.all fun a=>bY ps ms (-1) a
def wL (ps:List PK) (ma:List Int) (ms:List MB) (k:Nat):Bool:= !ma.contains (ms.getD k MB.zero).pl&&dY ps ms k && !dI ps ms k k
def gE (ps:List PK) (ma:List Int) (ms:List MB):Nat->Bool
 | 0=>true
 | n+1=>gE ps ma ms n&&wL ps ma ms n
def fP (ps:List PK) (w:WI) (ms:List MB):Bool:=gX ps ms w.ts&&gE ps w.ma ms ms.length
def cB (ps:List PK) (w:WI) (ms:List MB):Int:=if dN ps w≠0 then dN ps w else bK ps ms
def cA (ps:List PK) (ms:List MB) (k:Int):Int:=if bK ps ms≠0 then bK ps ms else if k<0∨(ms.length:Int)<=k then 5 else 0
def cL (S:Nat->Prop) (w:World) (bs:List Bool) (v:Value):Prop:=
 ∃ (p:Option Addr) (cap:Nat),v=.slice p bs.length cap/\bs.length<=9223372036854775807/\(0<bs.length->∃ b off,p=some ⟨b,off,none⟩/\S b/\∀ (j:Nat) (x:Bool),bs[j]? = some x->w.cell? ⟨b,off+j,none⟩=some (.bool x))
def bS (S:Nat->Prop) (w:World) (ms:List MB) (v:Value):Prop:=
 ∃ (p:Option Addr) (cap:Nat),v=.slice p ms.length cap/\(ms.length<=cap/\ms.length<=9223372036854775807)/\(0<ms.length->∃ b off,p=some ⟨b,off,none⟩/\S b/\
  ∀ (j:Nat) (m:MB),ms[j]? = some m->∃ ov:Value,w.cell? ⟨b,off+j*2,none⟩=some (.int .i64 m.pl)/\w.cell? ⟨b,off+j*2+1,none⟩=some ov/\cL S w m.on ov)
def dW (S:Nat->Prop) (w:World) (zs:List Int) (v:Value):Prop:=
 ∃ (p:Option Addr) (cap:Nat),v=.slice p zs.length cap/\zs.length<=9223372036854775807/\(0<zs.length->∃ b off,p=some ⟨b,off,none⟩/\S b/\∀ (j:Nat) (x:Int),zs[j]? = some x->w.cell? ⟨b,off+j,none⟩=some (.int .i64 x))
def gP (S:Nat->Prop) (w:World) (zs:List (Int × Int)) (v:Value):Prop:=
 ∃ (p:Option Addr) (cap:Nat),v=.slice p zs.length cap/\zs.length<=9223372036854775807/\(0<zs.length->∃ b off,p=some ⟨b,off,none⟩/\S b/\∀ (j:Nat) (x:Int × Int),zs[j]? = some x->w.cell? ⟨b,off+j*2,none⟩=some (.int .i64 x.1)/\w.cell? ⟨b,off+j*2+1,none⟩=some (.int .i64 x.2))
def gO (S:Nat->Prop) (w:World) (ts:List At) (v:Value):Prop:=
 ∃ (p:Option Addr) (cap:Nat),v=.slice p ts.length cap/\ts.length<=9223372036854775807/\(0<ts.length->∃ b off,p=some ⟨b,off,none⟩/\S b/\
  ∀ (j:Nat) (a:At),ts[j]? = some a->w.cell? ⟨b,off+j*6,none⟩=some (.string a.n)/\w.cell? ⟨b,off+j*6+1,none⟩=some (.int .i64 a.op)/\w.cell? ⟨b,off+j*6+2,none⟩=some (.int .i64 a.v)/\w.cell? ⟨b,off+j*6+3,none⟩=some (.int .i64 a.sl)/\w.cell? ⟨b,off+j*6+4,none⟩=some (.string a.f)/\w.cell? ⟨b,off+j*6+5,none⟩=some (.bool a.on))
section
variable {S S':Nat->Prop} {w w':World}
theorem cL.mono (hw : ∀ p:Addr,S p.block->w'.cell? p=w.cell? p) (hS : ∀ b,S b->S' b) {bs:List Bool} {v:Value} (h:cL S w bs v):cL S' w' bs v:=by
 obtain ⟨p,cap,h1,h2,h3⟩:=h
 refine ⟨p,cap,h1,h2,fun h=> ?_⟩
 obtain ⟨b,off,h4,h5,h6⟩:=h3 h
 exact ⟨b,off,h4,hS _ h5,fun j x hx=>(hw ⟨b,off+j,none⟩ h5).trans (h6 j x hx)⟩
theorem bS.mono (hw : ∀ p:Addr,S p.block->w'.cell? p=w.cell? p) (hS : ∀ b,S b->S' b) {ms:List MB} {v:Value} (h:bS S w ms v):bS S' w' ms v:=by
 obtain ⟨p,cap,h1,h2,h3⟩:=h
 refine ⟨p,cap,h1,h2,fun h=> ?_⟩
 obtain ⟨b,off,h4,h5,h6⟩:=h3 h
 refine ⟨b,off,h4,hS _ h5,fun j m hm=> ?_⟩
 obtain ⟨ov,h7,h8,h9⟩:=h6 j m hm
 exact ⟨ov,(hw ⟨b,_,none⟩ h5).trans h7,(hw ⟨b,_,none⟩ h5).trans h8,h9.mono hw hS⟩
theorem dW.mono (hw : ∀ p:Addr,S p.block->w'.cell? p=w.cell? p) (hS : ∀ b,S b->S' b) {zs:List Int} {v:Value} (h:dW S w zs v):dW S' w' zs v:=by
 obtain ⟨p,cap,h1,h2,h3⟩:=h
 refine ⟨p,cap,h1,h2,fun h=> ?_⟩
 obtain ⟨b,off,h4,h5,h6⟩:=h3 h
 exact ⟨b,off,h4,hS _ h5,fun j x hx=>(hw ⟨b,off+j,none⟩ h5).trans (h6 j x hx)⟩
theorem gP.mono (hw : ∀ p:Addr,S p.block->w'.cell? p=w.cell? p) (hS : ∀ b,S b->S' b) {zs:List (Int × Int)} {v:Value} (h:gP S w zs v):gP S' w' zs v:=by
 obtain ⟨p,cap,h1,h2,h3⟩:=h
 refine ⟨p,cap,h1,h2,fun h=> ?_⟩
 obtain ⟨b,off,h4,h5,h6⟩:=h3 h
 exact ⟨b,off,h4,hS _ h5,fun j x hx=>⟨(hw ⟨b,_,none⟩ h5).trans (h6 j x hx).1,(hw ⟨b,_,none⟩ h5).trans (h6 j x hx).2⟩⟩
theorem gO.mono (hw : ∀ p:Addr,S p.block->w'.cell? p=w.cell? p) (hS : ∀ b,S b->S' b) {ts:List At} {v:Value} (h:gO S w ts v):gO S' w' ts v:=by
 obtain ⟨p,cap,h1,h2,h3⟩:=h
 refine ⟨p,cap,h1,h2,fun h=> ?_⟩
 obtain ⟨b,off,h4,h5,h6⟩:=h3 h
 refine ⟨b,off,h4,hS _ h5,fun j x hx=> ?_⟩
 obtain ⟨g1,g2,g3,g4,g5,g6⟩:=h6 j x hx
 exact ⟨(hw ⟨b,_,none⟩ h5).trans g1,(hw ⟨b,_,none⟩ h5).trans g2,(hw ⟨b,_,none⟩ h5).trans g3,(hw ⟨b,_,none⟩ h5).trans g4,(hw ⟨b,_,none⟩ h5).trans g5,(hw ⟨b,_,none⟩ h5).trans g6⟩
theorem cL.keep {B:Nat} (hS : ∀ b,S b->b<B) (k:Below B w w') {bs:List Bool} {v:Value} (h:cL S w bs v):cL S w' bs v:=h.mono (bJ hS k) fun _ h=>h
theorem bS.keep {B:Nat} (hS : ∀ b,S b->b<B) (k:Below B w w') {ms:List MB} {v:Value} (h:bS S w ms v):bS S w' ms v:=h.mono (bJ hS k) fun _ h=>h
theorem dW.keep {B:Nat} (hS : ∀ b,S b->b<B) (k:Below B w w') {zs:List Int} {v:Value} (h:dW S w zs v):dW S w' zs v:=h.mono (bJ hS k) fun _ h=>h
theorem gP.keep {B:Nat} (hS : ∀ b,S b->b<B) (k:Below B w w') {zs:List (Int × Int)} {v:Value} (h:gP S w zs v):gP S w' zs v:=h.mono (bJ hS k) fun _ h=>h
theorem gO.keep {B:Nat} (hS : ∀ b,S b->b<B) (k:Below B w w') {ts:List At} {v:Value} (h:gO S w ts v):gO S w' ts v:=h.mono (bJ hS k) fun _ h=>h
end
end Go.Proofs.YthaaaecmeafofaaGreatDoor
namespace Go.Proofs.YthaaaecmeafofaaGreatDoor
open Go.RowKit
theorem bS.len {S:Nat->Prop} {w:World} {ms:List MB} {v:Value} (h:bS S w ms v) : ∃ p cap,v=.slice p ms.length cap/\ms.length<=9223372036854775807:=by
 obtain ⟨p,cap,h1,h2,-⟩:=h;exact ⟨p,cap,h1,h2.2⟩
theorem bS.cap {S:Nat->Prop} {w:World} {ms:List MB} {p:Option Addr} {n cap:Nat} (h:bS S w ms (.slice p n cap)):ms.length<=cap:=by
 obtain ⟨p',cap',h1,h2,-⟩:=h;cases h1;exact h2.1
theorem bS.take {S:Nat->Prop} {w:World} {ms:List MB} {p:Option Addr} {n cap:Nat} (h:bS S w ms (.slice p n cap)) {k:Nat} (hk:k<=ms.length):bS S w (ms.take k) (.slice p k cap):=by
 obtain ⟨p',cap',h1,h2,h3⟩:=h
 cases h1
 have hl:(ms.take k).length=k:=by simp;omega
 refine ⟨p,cap,by rw [hl],by rw [hl];omega,fun h0=> ?_⟩
 obtain ⟨b,off,rfl,h5,h6⟩:=h3 (by omega)
 refine ⟨b,off,rfl,h5,fun j m hm=>h6 j m ?_⟩
 rw [List.getElem?_take] at hm
 split at hm
 ·exact hm
 ·cases hm
theorem bS.get {S:Nat->Prop} {w:World} {ms:List MB} {v:Value} (h:bS S w ms v) {k:Nat} (hk:k<ms.length) : ∃ b off cap,v=.slice (some ⟨b,off,none⟩) ms.length cap/\S b/\ms.length<=9223372036854775807/\
  ∀ (j:Nat) (m:MB),ms[j]? = some m->∃ (op:Option Addr) (oc:Nat),w.cell? ⟨b,off+j*2,none⟩=some (.int .i64 m.pl)/\w.cell? ⟨b,off+j*2+1,none⟩=some (.slice op m.on.length oc)/\m.on.length<=9223372036854775807/\cL S w m.on (.slice op m.on.length oc):=by
 obtain ⟨p,cap,h1,h2,h3⟩:=h
 obtain ⟨b,off,rfl,h5,h6⟩:=h3 (by omega)
 refine ⟨b,off,cap,h1,h5,h2.2,fun j m hm=> ?_⟩
 obtain ⟨ov,h7,h8,h9⟩:=h6 j m hm
 obtain ⟨op,oc,rfl,h10,-⟩:=id h9
 exact ⟨op,oc,h7,h8,h10,h9⟩
theorem cJ (ms:List MB) (j:Nat) (h:j<ms.length):ms.getD j MB.zero=ms[j]:=by
 rw [List.getD_eq_getElem?_getD,List.getElem?_eq_getElem h,Option.getD_some]
theorem dF (ps:List PK) (j:Nat) (h:j<ps.length):ps.getD j PK.zero=ps[j]:=by
 rw [List.getD_eq_getElem?_getD,List.getElem?_eq_getElem h,Option.getD_some]
theorem zE (S:Nat->Prop) (ps:List PK) (ms:List MB) (ct cl k:Nat) (tv lv:Value) (w:World) (hk:k<ms.length) (hp:aT S w ps tv) (hm:bS S w ms lv) (ht:aD ct 24 tv w) (hl:aD cl 25 lv w) :
  Calls Tryz.prog 106 #[.int .i64 k,.pointer (some ⟨cl,0,none⟩),.pointer (some ⟨ct,0,none⟩)] w fun e w'=>e=.returned (.int .i64 (mbE ps ms k))/\aA w w':=by
 have HP:=hid hp
 obtain ⟨b,off,cap,rfl,hb,hlen,hrow⟩:=hm.get hk
 obtain ⟨tp,tc,rfl,htlen⟩:=hp.len
 obtain ⟨ht0,-,htl⟩:=ht.facts
 obtain ⟨hl0,-,hll⟩:=hl.facts
 obtain ⟨op,oc,hc0,hc1,hon,-⟩:=hrow k _ (List.getElem?_eq_getElem hk)
 have HX:Hid (mbE ps ms k=if ms[k].pl<0∨(ps.length:Int)<=ms[k].pl then 5 else if 0<k/\ms[k].pl<=(ms.getD (k-1) MB.zero).pl then 6 else if ms[k].on.length≠(ps.getD ms[k].pl.toNat PK.zero).fl.length then 4 else 0):=by
  show _=_
  unfold mbE aV
  rw [cJ ms k hk]
 have hprev:0<k->∃ x:Int,Hid ((ms.getD (k-1) MB.zero).pl=x)/\w.cell? ⟨b,off+(k-1)*2,none⟩=some (.int .i64 x):=fun h0=>by
  obtain ⟨_,_,h1,-⟩:=hrow (k-1) _ (List.getElem?_eq_getElem (by omega))
  exact ⟨ms[k-1].pl,by show _=_;rw [cJ ms (k-1) (by omega)],h1⟩
 generalize ms[k]=m at HX hc0 hc1 hon
 obtain ⟨pl,on⟩:=m
 simp only at HX hc0 hc1 hon
 clear hrow hm hp ht hl
 by_cases h0:pl<0
 ·have HY:Hid (mbE ps ms k=5):=by show _=_;rw [HX.out,if_pos (Or.inl h0)]
  clear HX hprev
  go_enter Tryz.func106,Tryz.ntmps106
  go_wp2_with fail
  go_ret
  exact ⟨aB HY.out.symm,aA.refl _⟩
 ·by_cases h1:(ps.length:Int)<=pl
  ·have HY:Hid (mbE ps ms k=5):=by show _=_;rw [HX.out,if_pos (Or.inr h1)]
   clear HX hprev
   go_enter Tryz.func106,Tryz.ntmps106
   go_wp2_with fail
   go_ret
   exact ⟨aB HY.out.symm,aA.refl _⟩
  ·obtain ⟨q,rfl⟩ : ∃ q:Nat,pl=q:=⟨pl.toNat,by omega⟩
   have hq:q<ps.length:=by omega
   have HX2:Hid (mbE ps ms k=if 0<k/\(q:Int)<=(ms.getD (k-1) MB.zero).pl then 6 else if on.length≠(ps.getD q PK.zero).fl.length then 4 else 0):=by
    show _=_
    rw [HX.out,if_neg (by omega)];rfl
   clear HX
   obtain ⟨tb,toff,tcap,htv,htb,-,htrow⟩:=HP.out.get hq
   cases htv
   obtain ⟨cs,hcs,hpk⟩:=htrow q hq
   rw [dF ps q hq] at HX2
   generalize ps[q]=p at hpk HX2
   obtain ⟨kk,a,fl,nt,kids,kp,fp,kc,fc,hnd,hfl,rfl,hf,hn⟩:=hpk.spelt
   obtain ⟨-,-,-,c3,-⟩:=cM hcs
   clear hcs hpk htrow hf hn hnd
   rcases p with ⟨pn,pv,psl,fs,nd⟩
   simp only at hfl c3 HX2
   have tail : ∀ (W:World),mbE ps ms k=(if on.length≠fs.length then 4 else 0)->True:=fun _ _=>trivial
   clear tail
   by_cases hk0:0<k
   ·obtain ⟨x,HPX,hcx⟩:=hprev hk0
    rw [HPX.out] at HX2
    obtain ⟨m,rfl⟩ : ∃ m,k=m+1:=⟨k-1,by omega⟩
    have hcx':w.cell? ⟨b,off+m*2,none⟩=some (.int .i64 x):=hcx
    have h0':(0:Int)<((m+1:Nat):Int):=by omega
    have hd:decide ((0:Int)<((m+1:Nat):Int))=true:=decide_eq_true h0'
    have e1:((m+1:Nat):Int)-1=(m:Int):=by omega
    have hm:m<ms.length:=by omega
    clear hprev HPX hcx
    by_cases hle:(q:Int)<=x
    ·have HY:Hid (mbE ps ms (m+1)=6):=by show _=_;rw [HX2.out,if_pos ⟨by omega,hle⟩]
     clear HX2
     go_enter Tryz.func106,Tryz.ntmps106
     go_wp2_with fail
     go_ret
     exact ⟨aB HY.out.symm,aA.refl _⟩
    ·have HX3:Hid (mbE ps ms (m+1)=if on.length≠fs.length then 4 else 0):=by show _=_;rw [HX2.out,if_neg (fun h=>hle h.2)]
     clear HX2
     by_cases hne:on.length=fs.length
     ·have HY:Hid (mbE ps ms (m+1)=0):=by show _=_;rw [HX3.out,if_neg (fun h=>h hne)]
      have hne1:((on.length:Int)==(fs.length:Int))=true:=by simp [hne]
      have hne2:((on.length:Int) != (fs.length:Int))=false:=by simp [hne]
      clear HX3 hne
      go_enter Tryz.func106,Tryz.ntmps106
      go_wp2_with fail
      go_quiet (fail)
      go_wp2_with fail
      go_ret
      exact ⟨aB HY.out.symm,aA.drewN (aA.refl _) _⟩
     ·have HY:Hid (mbE ps ms (m+1)=4):=by show _=_;rw [HX3.out,if_pos hne]
      have hne0 : ¬ (on.length:Int)=(fs.length:Int):=by omega
      have hne1:((on.length:Int)==(fs.length:Int))=false:=by simp [hne0]
      have hne2:((on.length:Int) != (fs.length:Int))=true:=by simp [hne0]
      clear HX3 hne
      go_enter Tryz.func106,Tryz.ntmps106
      go_wp2_with fail
      go_quiet (fail)
      go_wp2_with fail
      go_ret
      exact ⟨aB HY.out.symm,aA.drewN (aA.refl _) _⟩
   ·have HX3:Hid (mbE ps ms k=if on.length≠fs.length then 4 else 0):=by show _=_;rw [HX2.out,if_neg (fun h=>hk0 h.1)]
    obtain rfl:k=0:=by omega
    rw [Nat.zero_mul,Nat.add_zero] at hc0 hc1
    clear HX2 hprev
    by_cases hne:on.length=fs.length
    ·have HY:Hid (mbE ps ms 0=0):=by show _=_;rw [HX3.out,if_neg (fun h=>h hne)]
     have hne1:((on.length:Int)==(fs.length:Int))=true:=by simp [hne]
     have hne2:((on.length:Int) != (fs.length:Int))=false:=by simp [hne]
     clear HX3 hne
     go_enter Tryz.func106,Tryz.ntmps106
     go_wp2_with fail
     go_quiet (fail)
     go_wp2_with fail
     go_ret
     exact ⟨aB HY.out.symm,aA.drewN (aA.refl _) _⟩
    ·have HY:Hid (mbE ps ms 0=4):=by show _=_;rw [HX3.out,if_pos hne]
     have hne0 : ¬ (on.length:Int)=(fs.length:Int):=by omega
     have hne1:((on.length:Int)==(fs.length:Int))=false:=by simp [hne0]
     have hne2:((on.length:Int) != (fs.length:Int))=true:=by simp [hne0]
     clear HX3 hne
     go_enter Tryz.func106,Tryz.ntmps106
     go_wp2_with fail
     go_quiet (fail)
     go_wp2_with fail
     go_ret
     exact ⟨aB HY.out.symm,aA.drewN (aA.refl _) _⟩
theorem mK (args:Array Value) (w:World):(callFunc 106 args).run Tryz.prog w=.ok (.enter 106 args) w:=enters_of Tryz.func106 (by kernel_rfl) rfl args w
theorem hJ (S:Nat->Prop) (ps:List PK) (ms:List MB) (tv lv:Value) (w:World) (hS : ∀ b,S b->b<w.heap.size) (hp:aT S w ps tv) (hm:bS S w ms lv) :
  Calls Tryz.prog 43 #[.agg #[tv],lv] w fun e w'=>e=.returned (.int .i64 (bK ps ms))/\aA w w':=by
 have HP:=hid hp
 have HM:=hid hm
 obtain ⟨tp,tc,rfl,htlen⟩:=hp.len
 obtain ⟨lp,lc,rfl,hllen⟩:=hm.len
 have hmf : ∀ (fn:Fn) (first cap:Array Value) (w:World),(Instr.makeFunc fn first cap).run Tryz.prog w=.ok (.func fn first cap) w:=fun _ _ _ _=>rfl
 have hent:=mK
 have HX:Hid (bK ps ms=if cG ps≠0 then cG ps else aI (mbE ps ms) 0 ms.length):=rfl
 clear hp hm
 go_enter Tryz.func43,Tryz.ntmps43
 go_wp2_with fail
 refine bE (fun W'=>aA w W'/\aD w.heap.size 24 (.slice tp ps.length tc) W'/\aD (w.heap.size+1) 25 (.slice lp ms.length lc) W') ⟨(aA.alloc _ _).alloc' _,(aD.new _ _ _).keep (aA.alloc _ _) (by simp),?_⟩ ?_
 ·have:=aD.new (w.alloc (.cells #[.slice tp ps.length tc] 24)) 25 (.slice lp ms.length lc)
  rw [aJ] at this;exact this
 rintro W0 ⟨k0,v0,l0⟩
 refine (jK S ps _ W0 (fun b hb=>Nat.lt_of_lt_of_le (hS b hb) k0.size) (HP.out.keep hS k0)).mono ?_
 rintro e w1 ⟨rfl,k1⟩
 have K1:=hid (k0.trans k1)
 have V1:=hid (v0.keep k1 v0.facts.2.2)
 have L1:=hid (l0.keep k1 l0.facts.2.2)
 clear k0 v0 l0 k1
 generalize cG ps=ct at HX ⊢
 by_cases hz:ct=0
 ·subst hz
  have HX2:Hid (bK ps ms=aI (mbE ps ms) 0 ms.length):=by show _=_;rw [HX.out];simp
  obtain ⟨hl0,-,hll⟩:=L1.out.facts
  have hcall : ∀ (k:Nat) (W':World),k<ms.length->aA w1 W'->Calls Tryz.prog 106 (#[.int .i64 k]++#[.pointer (some ⟨w.heap.size+1,0,none⟩),.pointer (some ⟨w.heap.size,0,none⟩)]) W' fun e w'=>e=.returned (.int .i64 (mbE ps ms k))/\(mbE ps ms k=0->aA w1 w')/\aR (One w1.heap.size) W' w':=by
   intro k W' hk h1
   have c:=zE S ps ms w.heap.size (w.heap.size+1) k _ _ W' hk (HP.out.keep hS (K1.out.trans h1)) (HM.out.keep hS (K1.out.trans h1)) (V1.out.keep h1 V1.out.facts.2.2) (L1.out.keep h1 L1.out.facts.2.2)
   refine Calls.mono c ?_
   rintro e w' ⟨rfl,h4⟩
   exact ⟨rfl,fun _=>h1.trans h4,bN h4⟩
  have hone:=hid (hQ ms.length (mbE ps ms) (fun _ W'=>aA w1 W') w1.heap.size hllen mK hcall w1 (aA.refl _))
  clear hcall HX
  go_wp2_with fail
  refine hone.out.mono ?_
  rintro e w2 ⟨rfl,ha2⟩
  have K2:Hid (aA w w2):=Below.trans K1.out (ha2.below K1.out.size fun b hb e=>by have:b=w1.heap.size:=e;have:=K1.out.size;omega)
  clear ha2 hone
  go_wp2_with fail
  go_ret
  exact ⟨aB HX2.out.symm,K2.out⟩
 ·have HX2:Hid (bK ps ms=ct):=by show _=_;rw [HX.out,if_pos hz]
  have hz1:(ct==0)=false:=by simp [hz]
  have hz2:(ct != 0)=true:=by simp [hz]
  clear hz HX
  go_wp2_with fail
  go_ret
  exact ⟨aB HX2.out.symm,K1.out⟩
end Go.Proofs.YthaaaecmeafofaaGreatDoor
namespace Go.Proofs.YthaaaecmeafofaaGreatDoor
open Go.RowKit Go.Sort
theorem rM (x:ByteArray) : ∀ (fs:List ByteArray) (i:Nat),Lib.idxFromS fs x i=if aQ fs x<fs.length then ((i+aQ fs x:Nat):Int) else -1
 | [],i=>by simp [Lib.idxFromS,aQ]
 | f :: fs,i=>by
  have ih:=rM x fs (i+1)
  unfold aQ at ih ⊢
  rw [Lib.idxFromS,List.findIdx_cons]
  by_cases h:f=x
  ·simp [h]
  ·rw [if_neg h,ih]
   simp only [h,decide_false,cond_false,List.length_cons]
   by_cases h2:List.findIdx (fun f=>decide (f=x)) fs<fs.length
   ·rw [if_pos h2,if_pos (by omega)];omega
   ·rw [if_neg h2,if_neg (by omega)]
theorem yJ (fs:List ByteArray) (x:ByteArray):Lib.idxOfS fs x=if aQ fs x<fs.length then (aQ fs x:Int) else -1:=by
 unfold Lib.idxOfS
 rw [rM,Nat.zero_add]
theorem oW (S:Nat->Prop) (fs:List ByteArray) (v:Value) (x:ByteArray) (w:World) (h:bO S w fs v) :
  Calls Tryz.prog 61 #[v,.string x] w fun e w'=>e=.returned (.int .i64 (if aQ fs x<fs.length then (aQ fs x:Int) else -1))/\w'=w:=by
 rw [← yJ]
 by_cases h0:fs = []
 ·obtain ⟨p,c,rfl,-⟩:=h.len
  subst h0
  refine (Tryz.slices_Index_string_empty p c x w).mono ?_
  rintro e w' ⟨rfl,rfl⟩
  exact ⟨rfl,rfl⟩
 ·obtain ⟨b,off,cap,rfl,-,hl,hc⟩:=h.get (j:=0) (List.length_pos_iff.2 h0)
  refine (Tryz.slices_Index_string b off fs.length cap fs x w (Nat.le_refl _) hl (bO.getD hc)).mono ?_
  rintro e w' ⟨rfl,rfl⟩
  exact ⟨by rw [List.take_length],rfl⟩
theorem cL.cell {S:Nat->Prop} {w:World} {bs:List Bool} {p:Option Addr} {n cap:Nat} (h:cL S w bs (.slice p n cap)) {q:Nat} (hq:q<bs.length) : ∃ b off,p=some ⟨b,off,none⟩/\S b/\w.cell? ⟨b,off+q,none⟩=some (.bool (bs.getD q false)):=by
 obtain ⟨p',cap',e,-,h3⟩:=h
 cases e
 obtain ⟨b,off,rfl,h5,h6⟩:=h3 (by omega)
 refine ⟨b,off,rfl,h5,?_⟩
 rw [List.getD_eq_getElem?_getD,List.getElem?_eq_getElem hq,Option.getD_some]
 exact h6 q _ (List.getElem?_eq_getElem hq)
theorem rO (S:Nat->Prop) (p:PK) (cs:List Value) (m:MB) (op:Option Addr) (oc:Nat) (an af:ByteArray) (aop av asl:Int) (aon:Bool) (w:World) (hS : ∀ b,S b->b<w.heap.size) (hp:cQ S w p cs) (hb:cL S w m.on (.slice op m.on.length oc)) (hon:m.on.length=p.fl.length) (hom:m.on.length<=9223372036854775807) :
  Calls Tryz.prog 46 #[.agg cs.toArray,.agg #[.int .i64 m.pl,.slice op m.on.length oc],.agg #[.string an,.int .i64 aop,.int .i64 av,.int .i64 asl,.string af,.bool aon]] w fun e w'=>e=.returned (.bool (isB p m ⟨an,aop,av,asl,af,aon⟩))/\aA w w':=by
 obtain ⟨k,a,fl,nt,kids,kp,fp,kc,fc,-,hfl,rfl,hf,-⟩:=hp.spelt
 have HF:=hid hf
 have HB:=hid hb
 clear hp hf hb
 rcases p with ⟨n,v,sl,fs,nd⟩
 rcases m with ⟨pl,on⟩
 simp only at hon HB HF hom hfl ⊢
 have HM:Hid (isB ⟨n,v,sl,fs,nd⟩ ⟨pl,on⟩ ⟨an,aop,av,asl,af,aon⟩=((n.toList==an.toList)&&dT aop av asl v sl&&(af.toList.isEmpty||(decide (aQ fs af<fs.length)&&(on.getD (aQ fs af) false==aon))))):=rfl
 have HON:=hid hon
 clear hon
 have KW:=hid (((aA.alloc w (.cells #[.string n,.int .i64 v,.int .i64 sl,.slice fp fs.length fc,.int .i64 k,.string a.n,.int .i64 a.op,.int .i64 a.v,.int .i64 a.sl,.string a.f,.bool a.on,.string fl,.bool nt,.slice kp kids.length kc] 76)).alloc' (.cells #[.int .i64 pl,.slice op on.length oc] 64)).alloc' (.cells #[.string an,.int .i64 aop,.int .i64 av,.int .i64 asl,.string af,.bool aon] 71))
 cases h1:(n.toList==an.toList)
 ·rw [h1] at HM
  have h1':(n.toList != an.toList)=true:=by simp [bne,h1]
  go_enter Tryz.func46,Tryz.ntmps46
  go_wp2_with fail
  go_ret
  exact ⟨aE (by rw [HM.out];rfl),KW.out⟩
 ·rw [h1] at HM
  have h1':(n.toList != an.toList)=false:=by simp [bne,h1]
  go_enter Tryz.func46,Tryz.ntmps46
  go_wp2_with fail
  refine bE (fun W'=>aA w W'/\aG w.heap.size #[.string n,.int .i64 v,.int .i64 sl,.slice fp fs.length fc,.int .i64 k,.string a.n,.int .i64 a.op,.int .i64 a.v,.int .i64 a.sl,.string a.f,.bool a.on,.string fl,.bool nt,.slice kp kids.length kc] W'/\aG (w.heap.size+1) #[.int .i64 pl,.slice op on.length oc] W'/\aG (w.heap.size+1+1) #[.string an,.int .i64 aop,.int .i64 av,.int .i64 asl,.string af,.bool aon] W') ⟨((aA.alloc _ _).alloc' _).alloc' _,(aG.new _ _ _).keep ((aA.alloc _ _).alloc' _) (by simp),?_,?_⟩ ?_
  ·have:=aG.new (w.alloc (.cells #[.string n,.int .i64 v,.int .i64 sl,.slice fp fs.length fc,.int .i64 k,.string a.n,.int .i64 a.op,.int .i64 a.v,.int .i64 a.sl,.string a.f,.bool a.on,.string fl,.bool nt,.slice kp kids.length kc] 76)) #[.int .i64 pl,.slice op on.length oc] 64
   rw [aJ] at this;exact this.keep (aA.alloc _ _) this.1
  ·have:=aG.new ((w.alloc (.cells #[.string n,.int .i64 v,.int .i64 sl,.slice fp fs.length fc,.int .i64 k,.string a.n,.int .i64 a.op,.int .i64 a.v,.int .i64 a.sl,.string a.f,.bool a.on,.string fl,.bool nt,.slice kp kids.length kc] 76)).alloc (.cells #[.int .i64 pl,.slice op on.length oc] 64)) #[.string an,.int .i64 aop,.int .i64 av,.int .i64 asl,.string af,.bool aon] 71
   rw [aJ,aJ] at this;exact this
  rintro W0 ⟨k0,b0,b1,b2⟩
  refine (yF _ _ _ _ _ _ _ _ W0).mono ?_
  rintro e w1 ⟨rfl,k1⟩
  have K1:=hid (k0.trans k1)
  have B0:=hid (b0.keep k1 b0.1)
  have B1:=hid (b1.keep k1 b1.1)
  have B2:=hid (b2.keep k1 b2.1)
  clear k0 b0 b1 b2 k1 KW
  generalize dT aop av asl v sl=β at HM ⊢
  have hc0:=B0.out.2
  have hl0:=B0.out.1
  have hc1:=B1.out.2
  have hl1:=B1.out.1
  have hc2:=B2.out.2
  have hl2:=B2.out.1
  cases β
  ·go_wp2_with fail
   go_ret
   exact ⟨aE (by rw [HM.out];rfl),K1.out⟩
  ·cases h2:af.toList.isEmpty
   ·rw [h2] at HM
    have h3:(af.toList == [])=false:=by simpa using h2
    go_wp2_with fail
    refine (oW S fs _ af w1 (HF.out.keep hS K1.out)).mono ?_
    rintro e w2 ⟨rfl,hw2⟩
    rw [hw2]
    clear hw2
    by_cases hq:aQ fs af<fs.length
    ·rw [if_pos hq]
     rw [decide_eq_true hq] at HM
     have hqo:aQ fs af<on.length:=by have:=HON.out;omega
     obtain ⟨b,off,hop,hSb,hcell⟩:=(HB.out.keep hS K1.out).cell hqo
     subst hop
     generalize aQ fs af=q at hq hqo hcell HM ⊢
     generalize on.getD q false=β at hcell HM
     have hd:decide ((0:Int)<=(q:Int))=true:=decide_eq_true (by omega)
     go_wp2_with fail
     go_quiet (fail)
     go_wp2_with fail
     go_ret
     exact ⟨aE (by rw [HM.out];simp),aA.drewN K1.out _⟩
    ·rw [if_neg hq]
     rw [decide_eq_false hq] at HM
     have hd:decide ((0:Int)<=(-1:Int))=false:=by decide
     go_wp2_with fail
     go_quiet (fail)
     go_wp2_with fail
     go_ret
     exact ⟨aE (by rw [HM.out];rfl),aA.drewN K1.out _⟩
   ·rw [h2] at HM
    have h3:(af.toList == [])=true:=by simpa using h2
    go_wp2_with fail
    go_ret
    exact ⟨aE (by rw [HM.out];rfl),K1.out⟩
end Go.Proofs.YthaaaecmeafofaaGreatDoor
namespace Go.Proofs.YthaaaecmeafofaaGreatDoor
open Go.RowKit Go.Sort
def jX (ps:List PK) (ms:List MB):Prop:= ∀ (j:Nat) (m:MB),ms[j]? = some m->0<=m.pl/\m.pl<ps.length/\m.on.length=(aV ps m).fl.length
theorem yQ {ps:List PK} {ms:List MB} {k:Nat} (hk:k<ms.length) (h:mbE ps ms k=0):0<=ms[k].pl/\ms[k].pl<ps.length/\ms[k].on.length=(aV ps ms[k]).fl.length/\(0<k->(ms.getD (k-1) MB.zero).pl<ms[k].pl):=by
 unfold mbE at h
 rw [cJ ms k hk] at h
 split at h
 ·cases h
 ·split at h
  ·cases h
  ·split at h
   ·cases h
   ·rename_i h1 h2 h3
    exact ⟨by omega,by omega,Decidable.of_not_not h3,fun h0=>by omega⟩
theorem iR {ps:List PK} {ms:List MB} (h:bK ps ms=0):jX ps ms:=by
 intro j m hm
 obtain ⟨hj,rfl⟩:=List.getElem?_eq_some_iff.1 hm
 have h2:jZ ps ms=0:=by
  unfold bK at h
  split at h
  ·rename_i hn;exact absurd h hn
  ·exact h
 have:=(fY ms.length 0).1 h2 j hj
 rw [Nat.zero_add] at this
 obtain ⟨h1,h2,h3,-⟩:=yQ hj this
 exact ⟨h1,h2,h3⟩
theorem vH {ps:List PK} {ms:List MB} (h:bK ps ms=0):cG ps=0:=by
 unfold bK at h
 split at h
 ·rename_i hn;exact absurd h hn
 ·rename_i hn;exact Decidable.of_not_not hn
theorem sH {ps:List PK} {ms:List MB} {k:Int} {a:At} : ∀ {i:Nat} (j:Nat),dK ps ms k a i=true->dK ps ms k a (i+j)=true
 | _,0,h=>h
 | i,j+1,h=>by
  rw [← Nat.add_assoc,dK,sH j h];rfl
theorem gL (S:Nat->Prop) (ps:List PK) (ms:List MB) (tv lv:Value) (k:Int) (an af:ByteArray) (aop av asl:Int) (aon:Bool) (w:World) (hS : ∀ b,S b->b<w.heap.size) (hp:aT S w ps tv) (hm:bS S w ms lv) (hok:jX ps ms) :
  Calls Tryz.prog 77 #[.agg #[tv],lv,.int .i64 k,.agg #[.string an,.int .i64 aop,.int .i64 av,.int .i64 asl,.string af,.bool aon]] w fun e w'=>e=.returned (.bool (bY ps ms k ⟨an,aop,av,asl,af,aon⟩))/\aA w w':=by
 have HP:=hid hp
 have HMS:=hid hm
 have HOK:=hid hok
 obtain ⟨tp,tc,rfl,hlen⟩:=hp.len
 obtain ⟨lp,lc,rfl,hllen⟩:=hm.len
 have HX:Hid (bY ps ms k ⟨an,aop,av,asl,af,aon⟩=dK ps ms k ⟨an,aop,av,asl,af,aon⟩ ms.length):=rfl
 clear hp hm hok
 go_enter Tryz.func77,Tryz.ntmps77
 go_wp2_with fail
 go_loopg [13] ms.length (fun gk i wr=> ∃ j:Nat,j+gk=ms.length/\i=.int .i64 j/\dK ps ms k ⟨an,aop,av,asl,af,aon⟩ j=false/\aA w wr/\aD w.heap.size 24 (.slice tp ps.length tc) wr/\aG (w.heap.size+1) #[.string an,.int .i64 aop,.int .i64 av,.int .i64 asl,.string af,.bool aon] wr)
 case atStart=>
  refine ⟨0,by simp,rfl,rfl,(aA.alloc _ _).alloc' _,(aD.new _ _ _).keep (aA.alloc _ _) (by simp),?_⟩
  have:=aG.new (w.alloc (.cells #[.slice tp ps.length tc] 24)) #[.string an,.int .i64 aop,.int .i64 av,.int .i64 asl,.string af,.bool aon] 71
  rw [aJ] at this;exact this
 case round=>
  obtain ⟨j,hj,rfl,hno,hkp,hvt,hbx⟩:=hrel
  have HNO:=hid hno
  have HK:=hid hkp
  have HV:=hid hvt
  have HBX:=hid hbx
  clear hno hkp hvt hbx
  by_cases hlt:j<ms.length
  ·have hSr : ∀ b,S b->b<wr.heap.size:=fun b hb=>Nat.lt_of_lt_of_le (hS b hb) HK.out.size
   have HM2:=hid (HMS.out.keep hS HK.out)
   have HP2:=hid (HP.out.keep hS HK.out)
   obtain ⟨mb,moff,mcap,hmv,hmS,-,hrow⟩:=HM2.out.get hlt
   cases hmv
   obtain ⟨op,oc,hc0,hc1,hon,hbl⟩:=hrow j _ (List.getElem?_eq_getElem hlt)
   obtain ⟨h0,h1,h2⟩:=HOK.out j _ (List.getElem?_eq_getElem hlt)
   have HST:Hid (dK ps ms k ⟨an,aop,av,asl,af,aon⟩ (j+1)=(!decide ((j:Int)=k)&&isB (aV ps ms[j]) ms[j] ⟨an,aop,av,asl,af,aon⟩)):=by
    show _=_
    rw [dK,HNO.out,cJ ms j hlt];simp
   have HUP:Hid (dK ps ms k ⟨an,aop,av,asl,af,aon⟩ (j+1)=true->bY ps ms k ⟨an,aop,av,asl,af,aon⟩=true):=fun h=>by
    have:=sH (ms.length-(j+1)) h
    rw [show j+1+(ms.length-(j+1))=ms.length by omega] at this
    rw [HX.out];exact this
   generalize ms[j]=m at hc0 hc1 hon hbl h0 h1 h2 HST
   have HBL:=hid hbl
   have HON:=hid h2
   obtain ⟨q,hq⟩ : ∃ q:Nat,m.pl=q:=⟨m.pl.toNat,by omega⟩
   have hqp:q<ps.length:=by omega
   have hpk:aV ps m=ps[q]:=by unfold aV;rw [hq,Int.toNat_natCast,dF ps q hqp]
   rw [hpk] at HST HON
   clear h0 h1 h2 hrow hbl hpk HNO
   obtain ⟨tb,toff,tcap,htv,htb,-,htrow⟩:=HP2.out.get hqp
   cases htv
   obtain ⟨cs,hcs,hpj⟩:=htrow q hqp
   generalize ps[q]=p at hpj HST HON
   obtain ⟨kk,a',fl,nt,kids,kp,fp,kc,fc,hnd,hfl,rfl,-,-⟩:=hpj.spelt
   have HPJ:=hid hpj
   obtain ⟨c0,c1,c2,c3,c4,c5,c6,c7,c8,c9,c10,c11,c12,c13⟩:=cM hcs
   clear hcs hpj htrow hnd
   rcases p with ⟨n,v,sl,fs,nd⟩
   rcases m with ⟨pl,on⟩
   simp only at hc0 hc1 hon hfl HBL HON HST hq c0 c1 c2 c3 HPJ
   subst hq
   go_upto_region 4 with fail
   refine bW (fun W'=>aA wr W'/\aG wr.heap.size #[.int .i64 q,.slice op on.length oc] W') ⟨aA.alloc _ _,aG.new _ _ _⟩ ?_
   rintro W2 ⟨k2,b2⟩
   have K2:=hid k2
   have KW2:=hid (HK.out.trans k2)
   have V2:=hid (HV.out.keep k2 HV.out.facts.2.2)
   have BX2:=hid (HBX.out.keep k2 HBX.out.1)
   have B2:=hid b2
   clear k2 b2 hc0 hc1
   by_cases hjk:(j:Int)=k
   ·have hd1:((j:Int)==k)=true:=by simp [hjk]
    have hd2:((j:Int) != k)=false:=by simp [hjk]
    have HS1:Hid (dK ps ms k ⟨an,aop,av,asl,af,aon⟩ (j+1)=false):=by show _=_;rw [HST.out,decide_eq_true hjk];rfl
    clear hjk HST HUP c0 c1 c2 c3 c4 c5 c6 c7 c8 c9 c10 c11 c12 c13
    go_quiet (fail)
    have k4:aA W2 (W2.drewN nq):=aA.drewN (aA.refl _) _
    generalize W2.drewN nq=W4 at k4 ⊢
    have K4:=hid (KW2.out.trans k4)
    have V4:=hid (V2.out.keep k4 V2.out.facts.2.2)
    have BX4:=hid (BX2.out.keep k4 BX2.out.1)
    clear k4
    go_wp2_with fail
    go_roundg (ms.length-(j+1))
    case rel=>exact ⟨j+1,by omega,by go_num,HS1.out,K4.out,V4.out,BX4.out⟩
    case measure=>omega
   ·have hd1:((j:Int)==k)=false:=by simp [hjk]
    have hd2:((j:Int) != k)=true:=by simp [hjk]
    have HST2:Hid (dK ps ms k ⟨an,aop,av,asl,af,aon⟩ (j+1)=isB ⟨n,v,sl,fs,nd⟩ ⟨q,on⟩ ⟨an,aop,av,asl,af,aon⟩):=by show _=_;rw [HST.out,decide_eq_false hjk];rfl
    clear hjk HST
    have htl:tb<W2.heap.size:=Nat.lt_of_lt_of_le (hSr tb htb) K2.out.size
    have cb : ∀ (d:Nat) (os:Array Obj) (o:Nat) (x:Value),wr.cell? ⟨tb,o,none⟩=some x->(grow (redrawn W2 d) os).cell? ⟨tb,o,none⟩=some x:=fun d os o x hx=>((below_regrown W2 d os).cell (p:=⟨tb,o,none⟩) htl).trans ((K2.out.cell (p:=⟨tb,o,none⟩) (hSr tb htb)).trans hx)
    have d0:=fun d os=>cb d os _ _ c0
    have d1:=fun d os=>cb d os _ _ c1
    have d2:=fun d os=>cb d os _ _ c2
    have d3:=fun d os=>cb d os _ _ c3
    have d4:=fun d os=>cb d os _ _ c4
    have d5:=fun d os=>cb d os _ _ c5
    have d6:=fun d os=>cb d os _ _ c6
    have d7:=fun d os=>cb d os _ _ c7
    have d8:=fun d os=>cb d os _ _ c8
    have d9:=fun d os=>cb d os _ _ c9
    have d10:=fun d os=>cb d os _ _ c10
    have d11:=fun d os=>cb d os _ _ c11
    have d12:=fun d os=>cb d os _ _ c12
    have d13:=fun d os=>cb d os _ _ c13
    have dt : ∀ d os,(grow (redrawn W2 d) os).cell? ⟨w.heap.size,0,none⟩=some (.slice (some ⟨tb,toff,none⟩) ps.length tc):=fun d os=>((below_regrown W2 d os).cell (p:=⟨w.heap.size,0,none⟩) V2.out.facts.2.2).trans V2.out.facts.1
    have db : ∀ o d os,(grow (redrawn W2 d) os).cell? ⟨wr.heap.size,o,none⟩=(#[.int .i64 q,.slice op on.length oc]:Array Value)[o]? :=fun o d os=>(B2.out.keep (below_regrown W2 d os) B2.out.1).2 o
    have da : ∀ o d os,(grow (redrawn W2 d) os).cell? ⟨w.heap.size+1,o,none⟩=(#[.string an,.int .i64 aop,.int .i64 av,.int .i64 asl,.string af,.bool aon]:Array Value)[o]? :=fun o d os=>(BX2.out.keep (below_regrown W2 d os) BX2.out.1).2 o
    have hS2 : ∀ b,S b->b<W2.heap.size:=fun b hb=>Nat.lt_of_lt_of_le (hSr b hb) K2.out.size
    generalize hbe:isB ⟨n,v,sl,fs,nd⟩ ⟨q,on⟩ ⟨an,aop,av,asl,af,aon⟩=β at HST2
    have cAsk:=hid (show ∀ d os,Calls Tryz.prog 46 #[.agg #[.string n,.int .i64 v,.int .i64 sl,.slice fp fs.length fc,.int .i64 kk,.string a'.n,.int .i64 a'.op,.int .i64 a'.v,.int .i64 a'.sl,.string a'.f,.bool a'.on,.string fl,.bool nt,.slice kp kids.length kc],.agg #[.int .i64 q,.slice op on.length oc],.agg #[.string an,.int .i64 aop,.int .i64 av,.int .i64 asl,.string af,.bool aon]] (grow (redrawn W2 d) os) fun e w''=>e=.returned (.bool β)/\∃ p:Regrown,w''=grow (redrawn W2 p.d) p.os from fun d os=>by
     rw [← hbe]
     exact Calls.regrown_of (rO S ⟨n,v,sl,fs,nd⟩ _ ⟨q,on⟩ op oc an af aop av asl aon _ (fun b hb=>Nat.lt_of_lt_of_le (hS2 b hb) (below_regrown W2 d os).size) (HPJ.out.keep hSr (K2.out.trans (below_regrown W2 d os))) (HBL.out.keep hSr (K2.out.trans (below_regrown W2 d os))) HON.out hon))
    clear c0 c1 c2 c3 c4 c5 c6 c7 c8 c9 c10 c11 c12 c13 cb hbe
    refine wp_region_quiet_below (by kernel_rfl) (by kernel_rfl) ?_
    repeat (first | go_big_quiet_step (exact cAsk.out _ _) | quiet_step (exact cAsk.out _ _))
    refine wpQuiet_nil ?_
    intro _ hw'
    obtain ⟨⟨dq,osq⟩,hw''⟩:=hw'
    subst hw''
    have k4:=below_regrown W2 dq osq
    generalize grow (redrawn W2 dq) osq=W4 at k4 ⊢
    have K4:=hid (KW2.out.trans k4)
    have V4:=hid (V2.out.keep k4 V2.out.facts.2.2)
    have BX4:=hid (BX2.out.keep k4 BX2.out.1)
    clear d0 d1 d2 d3 d4 d5 d6 d7 d8 d9 d10 d11 d12 d13 dt db da cAsk k4
    cases β
    ·go_wp2_with fail
     go_roundg (ms.length-(j+1))
     case rel=>exact ⟨j+1,by omega,by go_num,HST2.out,K4.out,V4.out,BX4.out⟩
     case measure=>omega
    ·go_wp2_with fail
     go_ret
     exact ⟨aE (HUP.out HST2.out).symm,K4.out⟩
  ·obtain rfl:j=ms.length:=by omega
   go_wp2_with fail
   go_ret
   exact ⟨aE (by rw [HX.out,HNO.out]),HK.out⟩
end Go.Proofs.YthaaaecmeafofaaGreatDoor
namespace Go.Proofs.YthaaaecmeafofaaGreatDoor
open Go.RowKit Go.Sort
theorem mT {F:Nat} {cap:Array Value} (S:Nat->Prop) (kids:List NT) (g:NT->Bool) (kp:Option Addr) (kc:Nat) (w:World) (hS : ∀ b,S b->b<w.heap.size)
  (hF : ∀ args w,(callFunc F args).run Tryz.prog w=.ok (.enter F args) w) (hmax:kids.length<=9223372036854775807) (hk:aS S w kids kp 0)
  (hc : ∀ (j:Nat) (h:j<kids.length) (cs:List Value) (W:World),aA w W->aC S W kids[j] cs->Calls Tryz.prog F (#[.agg cs.toArray]++cap) W fun e w'=>e=.returned (.bool (g kids[j]))/\aA W w') :
  Calls Tryz.prog 125 #[.slice kp kids.length kc,.func (.func F) #[] cap] w fun e w'=> ∃ n:Int,e=.returned (.int .i64 n)/\decide (0<=n)=kids.any g/\aA w w':=by
 have HK:=hid hk
 have HC:=hid hc
 clear hk hc
 go_enter Tryz.func125,Tryz.ntmps125
 go_wp2_with fail
 go_loopg [8] kids.length (fun gk i wr=> ∃ j:Nat,j+gk=kids.length/\i=.int .i64 j/\(kids.take j).any g=false/\aA w wr)
 case atStart=>exact ⟨0,by simp,rfl,by simp,aA.refl _⟩
 case round=>
  obtain ⟨j,hj,rfl,hno,hkp⟩:=hrel
  have HNO:=hid hno
  have HKP:=hid hkp
  clear hno hkp
  by_cases hlt:j<kids.length
  ·obtain ⟨p,cs,hp,hSp,hcell,hneed⟩:=cI (aS.mono (bJ hS HKP.out) (fun _ h=>h) kids kp 0 HK.out) j hlt
   have HCALL:=hid (HC.out j hlt cs wr HKP.out hneed)
   have HST:Hid ((kids.take (j+1)).any g=g kids[j]):=by
    show _=_
    rw [List.take_succ_eq_append_getElem hlt,List.any_append,HNO.out];simp
   have HUP:Hid (g kids[j]=true->kids.any g=true):=fun h=>List.any_eq_true.2 ⟨kids[j],List.getElem_mem hlt,h⟩
   subst hp
   rw [Nat.zero_add] at hcell
   generalize g kids[j]=β at HCALL HST HUP
   cases hkid:kids[j] with
   | node k' a' fl' nt' kids'=>
   rw [hkid,aC] at hneed
   obtain ⟨kp',kc',rfl,-,-,-⟩:=hneed
   obtain ⟨c0,c1,c2,c3,c4,c5,c6,c7,c8,c9⟩:=eH hcell
   clear hcell hkid HNO
   go_wp2_with fail
   refine HCALL.out.mono ?_
   rintro e w1 ⟨rfl,k1⟩
   have K1:=hid (HKP.out.trans k1)
   clear k1 c0 c1 c2 c3 c4 c5 c6 c7 c8 c9 HCALL
   cases β
   ·go_wp2_with fail
    go_roundg (kids.length-(j+1))
    case rel=>exact ⟨j+1,by omega,by go_num,HST.out,K1.out⟩
    case measure=>omega
   ·go_wp2_with fail
    go_ret
    exact ⟨(j:Int),rfl,by rw [show kids.any g=true from HUP.out trivial];exact decide_eq_true (by omega),K1.out⟩
  ·obtain rfl:j=kids.length:=by omega
   go_wp2_with fail
   go_ret
   refine ⟨-1,rfl,?_,HKP.out⟩
   have:=HNO.out
   rw [List.take_length] at this
   rw [this];rfl
theorem fW {F:Nat} {cap:Array Value} (S:Nat->Prop) (kids:List NT) (g:NT->Bool) (kp:Option Addr) (kc:Nat) (w:World) (hS : ∀ b,S b->b<w.heap.size)
  (hF : ∀ args w,(callFunc F args).run Tryz.prog w=.ok (.enter F args) w) (hmax:kids.length<=9223372036854775807) (hk:aS S w kids kp 0)
  (hc : ∀ (j:Nat) (h:j<kids.length) (cs:List Value) (W:World),aA w W->aC S W kids[j] cs->Calls Tryz.prog F (#[.agg cs.toArray]++cap) W fun e w'=>e=.returned (.bool (g kids[j]))/\aA W w') :
  Calls Tryz.prog 62 #[.slice kp kids.length kc,.func (.func F) #[] cap] w fun e w'=>e=.returned (.bool (kids.any g))/\aA w w':=by
 have HI:=hid (mT S kids g kp kc w hS hF hmax hk hc)
 clear hk hc
 go_enter Tryz.func62,Tryz.ntmps62
 go_wp2_with fail
 refine HI.out.mono ?_
 rintro e w1 ⟨n,rfl,hn,k1⟩
 have HN:=hid hn
 have K1:=hid k1
 clear hn k1 HI
 go_wp2_with fail
 go_ret
 exact ⟨aE HN.out,K1.out⟩
theorem oY (k:Int) (a:At) (fl:ByteArray) (nt:Bool) : ∀ (kids:List NT) (j:Nat) (h:j<kids.length) (f:ByteArray),f∈kids[j].flags->f∈(NT.node k a fl nt kids).flags:=by
 intro kids j h f hf
 rw [NT.flags]
 refine List.mem_append_right _ ?_
 induction kids generalizing j with
 | nil=>exact absurd h (Nat.not_lt_zero _)
 | cons t ts ih=>
  rw [bP]
  cases j with
  | zero=>exact List.mem_append_left _ hf
  | succ j=>exact List.mem_append_right _ (ih j (by simpa using h) hf)
theorem mF (ps:List PK) (ms:List MB) (k:Nat) : ∀ kids:List NT,xV ps ms k kids=kids.any (aK ps ms k)
 | []=>by simp [xV]
 | t :: ts=>by rw [xV,mF ps ms k ts];simp
theorem iE (ps:List PK) (ms:List MB) (k:Nat) : ∀ kids:List NT,qT ps ms k kids = !kids.any (fun t=> !aK ps ms k t)
 | []=>by simp [qT]
 | t :: ts=>by rw [qT,iE ps ms k ts];simp
structure hG (S:Nat->Prop) (ps:List PK) (ms:List MB) (k:Nat) (tp lp:Option Addr) (tc lc ct cl ck ch cp cf:Nat) (pcs:Array Value) (w:World):Prop where
 tree:aD ct 24 (.slice tp ps.length tc) w
 set:aD cl 25 (.slice lp ms.length lc) w
 num:aD ck 3 (.int .i64 k) w
 self:aD ch 111 (.func (.func 130) #[] #[.pointer (some ⟨ct,0,none⟩),.pointer (some ⟨cl,0,none⟩),.pointer (some ⟨ck,0,none⟩),.pointer (some ⟨ch,0,none⟩),.pointer (some ⟨cp,0,none⟩),.pointer (some ⟨cf,0,none⟩)]) w
 pack:aG cp pcs w
 fails:aD cf 111 (.func (.func 129) #[] #[.pointer (some ⟨ch,0,none⟩)]) w
 row:aT S w ps (.slice tp ps.length tc)
 mbs:bS S w ms (.slice lp ms.length lc)
 old : ∀ b,S b->b<w.heap.size
theorem hG.keep {S:Nat->Prop} {ps:List PK} {ms:List MB} {k:Nat} {tp lp:Option Addr} {tc lc ct cl ck ch cp cf:Nat} {pcs:Array Value} {w w':World} (h:hG S ps ms k tp lp tc lc ct cl ck ch cp cf pcs w) (k':aA w w'):hG S ps ms k tp lp tc lc ct cl ck ch cp cf pcs w':=
 ⟨h.tree.keep k' h.tree.facts.2.2,h.set.keep k' h.set.facts.2.2,h.num.keep k' h.num.facts.2.2,h.self.keep k' h.self.facts.2.2,h.pack.keep k' h.pack.1,h.fails.keep k' h.fails.facts.2.2,h.row.keep h.old k',h.mbs.keep h.old k',fun b hb=>Nat.lt_of_lt_of_le (h.old b hb) k'.size⟩
theorem lD (args:Array Value) (w:World):(callFunc 129 args).run Tryz.prog w=.ok (.enter 129 args) w:=enters_of Tryz.func129 (by kernel_rfl) rfl args w
theorem fX (args:Array Value) (w:World):(callFunc 130 args).run Tryz.prog w=.ok (.enter 130 args) w:=enters_of Tryz.func130 (by kernel_rfl) rfl args w
theorem vZ {S:Nat->Prop} {ps:List PK} {ms:List MB} {k:Nat} {tp lp:Option Addr} {tc lc ct cl ck ch cp cf:Nat} {pcs:Array Value} (t:NT) (cs:List Value) (w:World) (h:hG S ps ms k tp lp tc lc ct cl ck ch cp cf pcs w) (hn:aC S w t cs)
  (hc : ∀ W,aA w W->Calls Tryz.prog 130 #[.agg cs.toArray,.pointer (some ⟨ct,0,none⟩),.pointer (some ⟨cl,0,none⟩),.pointer (some ⟨ck,0,none⟩),.pointer (some ⟨ch,0,none⟩),.pointer (some ⟨cp,0,none⟩),.pointer (some ⟨cf,0,none⟩)] W fun e w'=>e=.returned (.bool (aK ps ms k t))/\aA W w') :
  Calls Tryz.prog 129 #[.agg cs.toArray,.pointer (some ⟨ch,0,none⟩)] w fun e w'=>e=.returned (.bool (!aK ps ms k t))/\aA w w':=by
 obtain ⟨hc0,-,hl0⟩:=h.self.facts
 have hent:=fX
 have HC:=hid hc
 rcases t with ⟨kd,a,fl,nt,kids⟩
 rw [aC] at hn
 obtain ⟨kp,kc,rfl,-,-,-⟩:=hn
 clear h hc
 generalize aK ps ms k (.node kd a fl nt kids)=β at HC ⊢
 go_enter Tryz.func129,Tryz.ntmps129
 go_wp2_with fail
 refine bE (fun W'=>aA w W') (aA.alloc _ _) ?_
 intro W0 k0
 refine (HC.out W0 k0).mono ?_
 rintro e w1 ⟨rfl,k1⟩
 have K1:=hid (k0.trans k1)
 clear k0 k1 hc0
 go_wp2_with fail
 go_ret
 exact ⟨aE (by simp),K1.out⟩
theorem tT {S:Nat->Prop} {ps:List PK} {ms:List MB} {k:Nat} {tp lp:Option Addr} {tc lc ct cl ck ch cp cf:Nat} {pcs:Array Value} {fp:Option Addr} {fc:Nat} (hk:k<ms.length) (hok:jX ps ms)
  (hpc:pcs[3]? = some (.slice fp (aV ps ms[k]).fl.length fc)) : ∀ (m:Nat) (t:NT),t.size<=m->(∀ f∈t.flags,aQ (aV ps ms[k]).fl f<(aV ps ms[k]).fl.length)->∀ (cs:List Value) (w:World),hG S ps ms k tp lp tc lc ct cl ck ch cp cf pcs w->bO S w (aV ps ms[k]).fl (.slice fp (aV ps ms[k]).fl.length fc)->aC S w t cs->
  Calls Tryz.prog 130 #[.agg cs.toArray,.pointer (some ⟨ct,0,none⟩),.pointer (some ⟨cl,0,none⟩),.pointer (some ⟨ck,0,none⟩),.pointer (some ⟨ch,0,none⟩),.pointer (some ⟨cp,0,none⟩),.pointer (some ⟨cf,0,none⟩)] w fun e w'=>e=.returned (.bool (aK ps ms k t))/\aA w w':=by
 intro m
 induction m with
 | zero=>
  rintro ⟨kd,a,fl,nt,kids⟩ hm
  rw [NT.size] at hm;omega
 | succ m ih=>
  rintro ⟨kd,a,fl,nt,kids⟩ hm hfl cs w hw hst hn
  rw [NT.size] at hm
  have hn':=hn
  rw [aC] at hn
  obtain ⟨kp,kc,rfl,hcap,hmax,hkids⟩:=hn
  have HK:=hid hkids
  have HW:=hid hw
  have HST:=hid hst
  have HPC:=hid hpc
  have hold:=hw.old
  have HKEEP:Hid (∀ W,aA w W->aS S W kids kp 0):=fun W kw=>aS.mono (bJ hold kw) (fun _ h=>h) kids kp 0 HK.out
  have HIH:Hid (∀ (j:Nat) (h:j<kids.length) (cs:List Value) (W:World),aA w W->aC S W kids[j] cs->Calls Tryz.prog 130 (#[.agg cs.toArray]++#[.pointer (some ⟨ct,0,none⟩),.pointer (some ⟨cl,0,none⟩),.pointer (some ⟨ck,0,none⟩),.pointer (some ⟨ch,0,none⟩),.pointer (some ⟨cp,0,none⟩),.pointer (some ⟨cf,0,none⟩)]) W fun e w'=>e=.returned (.bool (aK ps ms k kids[j]))/\aA W w'):=fun j h cs W kw hnd=>
   ih kids[j] (by have:=cR kids j h;omega) (fun f hf=>hfl f (oY kd a fl nt kids j h f hf)) cs W (hw.keep kw) (hst.keep hold kw) hnd
  have HFL:Hid (kd=5->aQ (aV ps ms[k]).fl fl<(aV ps ms[k]).fl.length):=fun h5=>hfl fl (by rw [NT.flags,if_pos h5];simp)
  obtain ⟨hct,-,hlt⟩:=hw.tree.facts
  obtain ⟨hcl,-,hll⟩:=hw.set.facts
  obtain ⟨hck,-,hlk⟩:=hw.num.facts
  obtain ⟨hch,-,hlh⟩:=hw.self.facts
  obtain ⟨hcf,-,hlf⟩:=hw.fails.facts
  have hcp:=hw.pack.2
  have hlp:=hw.pack.1
  have e1:=lD
  have e2:=fX
  clear ih hkids hw hst hn' hfl hpc
  by_cases h1:kd=1
  ·subst h1
   have HX:Hid (aK ps ms k (.node 1 a fl nt kids)=bY ps ms (-1) a):=by show _=_;rw [aK,if_pos rfl]
   go_enter Tryz.func130,Tryz.ntmps130
   go_wp2_with fail
   refine bE (fun W'=>aA w W') (aA.alloc _ _) ?_
   intro W0 k0
   refine (gL S ps ms _ _ (-1) a.n a.f a.op a.v a.sl a.on W0 (HW.out.keep k0).old (HW.out.keep k0).row (HW.out.keep k0).mbs hok).mono ?_
   rintro e w1 ⟨rfl,k1⟩
   have K1:=hid (k0.trans k1)
   clear k0 k1
   go_wp2_with fail
   go_ret
   exact ⟨aE HX.out.symm,K1.out⟩
  by_cases h2:kd=2
  ·subst h2
   have HX:Hid (aK ps ms k (.node 2 a fl nt kids) = !bY ps ms k a):=by show _=_;rw [aK,if_neg (by decide),if_pos rfl]
   clear h1
   go_enter Tryz.func130,Tryz.ntmps130
   go_wp2_with fail
   refine bE (fun W'=>aA w W') (aA.alloc _ _) ?_
   intro W0 k0
   refine (gL S ps ms _ _ k a.n a.f a.op a.v a.sl a.on W0 (HW.out.keep k0).old (HW.out.keep k0).row (HW.out.keep k0).mbs hok).mono ?_
   rintro e w1 ⟨rfl,k1⟩
   have K1:=hid (k0.trans k1)
   have HX2:Hid (aK ps ms k (.node 2 a fl nt kids) = !bY ps ms k ⟨a.n,a.op,a.v,a.sl,a.f,a.on⟩):=HX.out
   generalize bY ps ms k ⟨a.n,a.op,a.v,a.sl,a.f,a.on⟩=β at HX2 ⊢
   clear k0 k1
   go_wp2_with fail
   go_ret
   exact ⟨aE (by rw [HX2.out]),K1.out⟩
  by_cases h4:kd=4
  ·subst h4
   have HX:Hid (aK ps ms k (.node 4 a fl nt kids)=kids.any (aK ps ms k)):=by show _=_;rw [aK,if_neg (by decide),if_neg (by decide),if_pos rfl,mF]
   clear h1 h2
   go_enter Tryz.func130,Tryz.ntmps130
   go_wp2_with fail
   refine bE (fun W'=>aA w W') (aA.alloc _ _) ?_
   intro W0 k0
   refine (fW S kids (aK ps ms k) kp kc W0 (HW.out.keep k0).old fX hmax (HKEEP.out W0 k0) (fun j h cs W kW hnd=>HIH.out j h cs W (k0.trans kW) hnd)).mono ?_
   rintro e w1 ⟨rfl,k1⟩
   have K1:=hid (k0.trans k1)
   generalize kids.any (aK ps ms k)=β at HX ⊢
   clear k0 k1
   go_wp2_with fail
   go_ret
   exact ⟨aE (by rw [HX.out]),K1.out⟩
  have HALL:Hid (∀ W,aA w W->Calls Tryz.prog 62 #[.slice kp kids.length kc,.func (.func 129) #[] #[.pointer (some ⟨ch,0,none⟩)]] W fun e w'=>e=.returned (.bool (kids.any fun t=> !aK ps ms k t))/\aA W w'):=fun W kW=>
   fW S kids (fun t=> !aK ps ms k t) kp kc W (HW.out.keep kW).old lD hmax (HKEEP.out W kW) (fun j h cs W' kW' hnd=>vZ kids[j] cs W' (HW.out.keep (kW.trans kW')) hnd (fun W2 k2=>HIH.out j h cs W2 (kW.trans (kW'.trans k2)) (hnd.keep (HW.out.keep (kW.trans kW')).old k2)))
  clear HIH HKEEP HK
  have b1:(kd==1)=false:=by simp [h1]
  have b2:(kd==2)=false:=by simp [h2]
  have b4:(kd==4)=false:=by simp [h4]
  by_cases h5:kd=5
  ·have HFA:=hid (HFL.out h5)
   subst h5
   clear h1 h2 h4 b1 b2 b4 HFL
   have HX:Hid (aK ps ms k (.node 5 a fl nt kids)=if ((ms.getD k MB.zero).on.getD (aQ (aV ps (ms.getD k MB.zero)).fl fl) false==nt)=true then true else !kids.any (fun t=> !aK ps ms k t)):=by
    show _=_
    rw [aK,if_neg (by decide),if_neg (by decide),if_neg (by decide),iE]
    simp only [true_and]
   rw [cJ ms k hk] at HX
   obtain ⟨mb,moff,mcap,hmv,hmS,-,hrow⟩:=HW.out.mbs.get hk
   cases hmv
   obtain ⟨op,oc,hm0,hm1,hon,hbl⟩:=hrow k _ (List.getElem?_eq_getElem hk)
   obtain ⟨-,-,hol⟩:=hok k _ (List.getElem?_eq_getElem hk)
   have hqo:aQ (aV ps ms[k]).fl fl<ms[k].on.length:=by rw [hol];exact HFA.out
   obtain ⟨ob,ooff,hop,hSo,hcell⟩:=hbl.cell hqo
   subst hop
   have hmlt:=hold mb hmS
   have holt:=hold ob hSo
   have hc3:w.cell? ⟨cp,3,none⟩=some (.slice fp (aV ps ms[k]).fl.length fc):=(hcp 3).trans HPC.out
   generalize hqe:aQ (aV ps ms[k]).fl fl=q at hqo hcell HX HFA
   have HQE:=hid hqe
   generalize (aV ps ms[k]).fl=fs at HST HPC HFA HQE hc3
   generalize ms[k].on.getD q false=β at hcell HX
   generalize ms[k].on.length=ol at hm1 hon hqo
   clear hrow hbl hol hm0 hqe hcp
   go_enter Tryz.func130,Tryz.ntmps130
   go_upto_region 9 with fail
   refine bW (fun W'=>aA w W'/\aG w.heap.size #[.int .i64 5,.string a.n,.int .i64 a.op,.int .i64 a.v,.int .i64 a.sl,.string a.f,.bool a.on,.string fl,.bool nt,.slice kp kids.length kc] W') ⟨aA.alloc _ _,aG.new _ _ _⟩ ?_
   rintro W2 ⟨k2,bx2⟩
   have K2:=hid k2
   have B2:=hid bx2
   have H2:=hid (HW.out.keep k2)
   have g1:=(k2.cell (p:=⟨cl,0,none⟩) hll).trans hcl
   have g2:=(k2.cell (p:=⟨ck,0,none⟩) hlk).trans hck
   have g3:=(k2.cell (p:=⟨mb,moff+k*2+1,none⟩) hmlt).trans hm1
   have g4:=(k2.cell (p:=⟨ob,ooff+q,none⟩) holt).trans hcell
   have g5:=(k2.cell (p:=⟨cp,3,none⟩) hlp).trans hc3
   have g6:=bx2.2
   have g7:=bx2.1
   have hq:=hid (show ∀ n,Calls Tryz.prog 61 #[.slice fp fs.length fc,.string fl] (W2.drewN n) fun e w''=>e=.returned (.int .i64 (q:Int))/\∃ n',w''=W2.drewN n' from fun n=>by
    refine (oW S fs _ fl (W2.drewN n) (HST.out.keep hold (k2.trans (aA.drewN (aA.refl _) _)))).mono ?_
    rintro e w' ⟨rfl,rfl⟩
    exact ⟨by rw [HQE.out,if_pos HFA.out],n,rfl⟩)
   clear hct hcl hck hch hcf hm1 hcell hc3 k2 bx2 HST HPC HQE
   go_quiet ((go_at_call 61;exact hq.out _))
   have k3:aA W2 (W2.drewN nq):=aA.drewN (aA.refl _) _
   generalize W2.drewN nq=W3 at k3
   have K3:=hid (K2.out.trans k3)
   have B3:=hid (B2.out.keep k3 B2.out.1)
   have H3:=hid (H2.out.keep k3)
   have hc3:=B3.out.2
   have hl3:=B3.out.1
   obtain ⟨hcf3,-,hlf3⟩:=H3.out.fails.facts
   clear k3 g1 g2 g3 g4 g5 g6 g7 hq
   cases hβ:(β==nt)
   ·rw [hβ] at HX
    go_wp2_with fail
    refine (HALL.out W3 K3.out).mono ?_
    rintro e w4 ⟨rfl,k4⟩
    have K4:=hid (K3.out.trans k4)
    have HX2:Hid (aK ps ms k (.node 5 a fl nt kids) = !kids.any (fun t=> !aK ps ms k t)):=HX.out
    generalize (kids.any fun t=> !aK ps ms k t)=γ at HX2 ⊢
    clear k4 hc3 hcf3 HX
    go_wp2_with fail
    go_ret
    exact ⟨aE (by rw [HX2.out]),K4.out⟩
   ·rw [hβ] at HX
    go_wp2_with fail
    go_ret
    exact ⟨aE (by rw [HX.out];rfl),K3.out⟩
  ·have HX:Hid (aK ps ms k (.node kd a fl nt kids) = !kids.any (fun t=> !aK ps ms k t)):=by
    show _=_
    rw [aK,if_neg h1,if_neg h2,if_neg h4,if_neg (fun h=>h5 h.1),iE]
   have b5:(kd==5)=false:=by simp [h5]
   clear h1 h2 h4 h5 HFL
   go_enter Tryz.func130,Tryz.ntmps130
   go_wp2_with fail
   refine bE (fun W'=>aA w W') (aA.alloc _ _) ?_
   intro W0 k0
   refine (HALL.out W0 k0).mono ?_
   rintro e w1 ⟨rfl,k1⟩
   have K1:=hid (k0.trans k1)
   generalize (kids.any fun t=> !aK ps ms k t)=γ at HX ⊢
   clear k0 k1
   go_wp2_with fail
   go_ret
   exact ⟨aE (by rw [HX.out]),K1.out⟩
end Go.Proofs.YthaaaecmeafofaaGreatDoor
