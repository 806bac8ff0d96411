/- Steps of the proof: ValidSet, ValidOther, ValidWish. -/
import Derived.Test.YthaaaecmeafofaaGreatDoorRb09
set_option maxHeartbeats 16000000
set_option maxRecDepth 100000
namespace Go.Proofs.YthaaaecmeafofaaGreatDoor
open Go.RowKit
structure MB where
 pl:Int
 on:List Bool
def MB.zero:MB:=⟨0,[]⟩
def cN (ps:List PK) (m:MB):PK:=ps.getD m.pl.toNat PK.zero
def mbE (ps:List PK) (ms:List MB) (k:Nat):Int:=
 if (ms.getD k MB.zero).pl<0∨(ps.length:Int)<=(ms.getD k MB.zero).pl then 5
 else if 0<k/\(ms.getD k MB.zero).pl<=(ms.getD (k-1) MB.zero).pl then 6
 else if (ms.getD k MB.zero).on.length≠(cN ps (ms.getD k MB.zero)).fl.length then 4 else 0
def aMi (ps:List PK) (ms:List MB):Int:=aT (mbE ps ms) 0 ms.length
def bV (ps:List PK) (ms:List MB):Int:=if dA ps≠0 then dA ps else aMi ps ms
def aO (fs:List ByteArray) (x:ByteArray):Nat:=fs.findIdx fun f=>decide (f=x)
def isB (p:PK) (m:MB) (a:At):Bool:=
 (p.n.toList==a.n.toList)&&mN a.op a.v a.sl p.v p.sl&&(a.f.toList.isEmpty||(decide (aO p.fl a.f<p.fl.length)&&(m.on.getD (aO p.fl a.f) false==a.on)))
def jO (ps:List PK) (ms:List MB) (k:Int) (a:At):Nat->Bool
 | 0=>false
 | n+1=>jO ps ms k a n||(!decide ((n:Int)=k)&&isB (cN ps (ms.getD n MB.zero)) (ms.getD n MB.zero) a)
def eY (ps:List PK) (ms:List MB) (k:Int) (a:At):Bool:=jO ps ms k a ms.length
mutual
def bS (ps:List PK) (ms:List MB) (k:Nat):NT->Bool
 | .node kd a fl nt kids=>
  if kd=1 then eY ps ms (-1) a
  else if kd=2 then !eY ps ms k a
  else if kd=4 then aAw ps ms k kids
  else if kd=5/\((ms.getD k MB.zero).on.getD (aO (cN ps (ms.getD k MB.zero)).fl fl) false==nt)=true then true
  else aAt ps ms k kids
def aAw (ps:List PK) (ms:List MB) (k:Nat):List NT->Bool
 | []=>false
 | t :: ts=>bS ps ms k t||aAw ps ms k ts
def aAt (ps:List PK) (ms:List MB) (k:Nat):List NT->Bool
 | []=>true
 | t :: ts=>bS ps ms k t&&aAt ps ms k ts
end
def sC (ps:List PK) (ms:List MB) (k:Nat):Bool:=bS ps ms k (cN ps (ms.getD k MB.zero)).nd
def gG (ps:List PK) (ms:List MB) (k:Nat):Nat->Bool
 | 0=>false
 | n+1=>gG ps ms k n||(((cN ps (ms.getD n MB.zero)).n.toList==(cN ps (ms.getD k MB.zero)).n.toList)&&((cN ps (ms.getD n MB.zero)).sl==(cN ps (ms.getD k MB.zero)).sl))
structure WI where
 ts:List At
 ins:List MB
 ma:List Int
 on:List (Int × Int)
def maE (ps:List PK) (ma:List Int) (k:Nat):Int:=
 if ma.getD k 0<0∨(ps.length:Int)<=ma.getD k 0 then 5 else if 0<k/\ma.getD k 0<=ma.getD (k-1) 0 then 6 else 0
def onE (ps:List PK) (on:List (Int × Int)) (k:Nat):Int:=
 if (on.getD k (0,0)).1<0∨(ps.length:Int)<=(on.getD k (0,0)).1 then 5
 else if (on.getD k (0,0)).2<0∨((ps.getD (on.getD k (0,0)).1.toNat PK.zero).fl.length:Int)<=(on.getD k (0,0)).2 then 5
 else if 0<k/\¬ ((on.getD (k-1) (0,0)).1<(on.getD k (0,0)).1∨(on.getD (k-1) (0,0)).1=(on.getD k (0,0)).1/\(on.getD (k-1) (0,0)).2<(on.getD k (0,0)).2) then 6 else 0
def taE (ts:List At):Int:=if 6<ts.length then 2 else aT (fun k=>iE (ts.getD k At.zero)) 0 ts.length
def bE (ps:List PK) (w:WI):Int:=
 if bV ps w.ins≠0 then bV ps w.ins else if taE w.ts≠0 then taE w.ts else if aT (maE ps w.ma) 0 w.ma.length≠0 then aT (maE ps w.ma) 0 w.ma.length else aT (onE ps w.on) 0 w.on.length
def vQ (ps:List PK) (ms:List MB) (ts:List At):Bool:=ts.all fun a=>eY ps ms (-1) a
def aFo (ps:List PK) (ma:List Int) (ms:List MB) (k:Nat):Bool:= !ma.contains (ms.getD k MB.zero).pl&&sC ps ms k && !gG ps ms k k
def oS (ps:List PK) (ma:List Int) (ms:List MB):Nat->Bool
 | 0=>true
 | n+1=>oS ps ma ms n&&aFo ps ma ms n
def fM (ps:List PK) (w:WI) (ms:List MB):Bool:=vQ ps ms w.ts&&oS ps w.ma ms ms.length
def cW (ps:List PK) (w:WI) (ms:List MB):Int:=if bE ps w≠0 then bE ps w else bV ps ms
def aZ (S:Nat->Prop) (w:World) (bs:List Bool) (v:Value):Prop:=
 ∃ (p:Option Addr) (cap:Nat),v=.slice p bs.length cap/\bs.length<=9223372036854775807/\(0<bs.length->∃ b off,p=some ⟨b,off,none⟩/\S b/\∀ (j:Nat) (x:Bool),bs[j]? = some x->w.cell? ⟨b,off+j,none⟩=some (.bool x))
def bI (S:Nat->Prop) (w:World) (ms:List MB) (v:Value):Prop:=
 ∃ (p:Option Addr) (cap:Nat),v=.slice p ms.length cap/\(ms.length<=cap/\ms.length<=9223372036854775807)/\(0<ms.length->∃ b off,p=some ⟨b,off,none⟩/\S b/\
  ∀ (j:Nat) (m:MB),ms[j]? = some m->∃ ov:Value,w.cell? ⟨b,off+j*2,none⟩=some (.int .i64 m.pl)/\w.cell? ⟨b,off+j*2+1,none⟩=some ov/\aZ S w m.on ov)
def aH (S:Nat->Prop) (w:World) (zs:List Int) (v:Value):Prop:=
 ∃ (p:Option Addr) (cap:Nat),v=.slice p zs.length cap/\zs.length<=9223372036854775807/\(0<zs.length->∃ b off,p=some ⟨b,off,none⟩/\S b/\∀ (j:Nat) (x:Int),zs[j]? = some x->w.cell? ⟨b,off+j,none⟩=some (.int .i64 x))
def iW (S:Nat->Prop) (w:World) (zs:List (Int × Int)) (v:Value):Prop:=
 ∃ (p:Option Addr) (cap:Nat),v=.slice p zs.length cap/\zs.length<=9223372036854775807/\(0<zs.length->∃ b off,p=some ⟨b,off,none⟩/\S b/\∀ (j:Nat) (x:Int × Int),zs[j]? = some x->w.cell? ⟨b,off+j*2,none⟩=some (.int .i64 x.1)/\w.cell? ⟨b,off+j*2+1,none⟩=some (.int .i64 x.2))
def jS (S:Nat->Prop) (w:World) (ts:List At) (v:Value):Prop:=
 ∃ (p:Option Addr) (cap:Nat),v=.slice p ts.length cap/\ts.length<=9223372036854775807/\(0<ts.length->∃ b off,p=some ⟨b,off,none⟩/\S b/\
  ∀ (j:Nat) (a:At),ts[j]? = some a->w.cell? ⟨b,off+j*6,none⟩=some (.string a.n)/\w.cell? ⟨b,off+j*6+1,none⟩=some (.int .i64 a.op)/\w.cell? ⟨b,off+j*6+2,none⟩=some (.int .i64 a.v)/\w.cell? ⟨b,off+j*6+3,none⟩=some (.int .i64 a.sl)/\w.cell? ⟨b,off+j*6+4,none⟩=some (.string a.f)/\w.cell? ⟨b,off+j*6+5,none⟩=some (.bool a.on))
section
variable {S S':Nat->Prop} {w w':World}
theorem aZ.mono (hw : ∀ p:Addr,S p.block->w'.cell? p=w.cell? p) (hS : ∀ b,S b->S' b) {bs:List Bool} {v:Value} (h:aZ S w bs v):aZ S' w' bs v:=by
 obtain ⟨p,cap,h1,h2,h3⟩:=h
 refine ⟨p,cap,h1,h2,fun h=> ?_⟩
 obtain ⟨b,off,h4,h5,h6⟩:=h3 h
 exact ⟨b,off,h4,hS _ h5,fun j x hx=>(hw ⟨b,off+j,none⟩ h5).trans (h6 j x hx)⟩
theorem bI.mono (hw : ∀ p:Addr,S p.block->w'.cell? p=w.cell? p) (hS : ∀ b,S b->S' b) {ms:List MB} {v:Value} (h:bI S w ms v):bI S' w' ms v:=by
 obtain ⟨p,cap,h1,h2,h3⟩:=h
 refine ⟨p,cap,h1,h2,fun h=> ?_⟩
 obtain ⟨b,off,h4,h5,h6⟩:=h3 h
 refine ⟨b,off,h4,hS _ h5,fun j m hm=> ?_⟩
 obtain ⟨ov,h7,h8,h9⟩:=h6 j m hm
 exact ⟨ov,(hw ⟨b,_,none⟩ h5).trans h7,(hw ⟨b,_,none⟩ h5).trans h8,h9.mono hw hS⟩
theorem aH.mono (hw : ∀ p:Addr,S p.block->w'.cell? p=w.cell? p) (hS : ∀ b,S b->S' b) {zs:List Int} {v:Value} (h:aH S w zs v):aH S' w' zs v:=by
 obtain ⟨p,cap,h1,h2,h3⟩:=h
 refine ⟨p,cap,h1,h2,fun h=> ?_⟩
 obtain ⟨b,off,h4,h5,h6⟩:=h3 h
 exact ⟨b,off,h4,hS _ h5,fun j x hx=>(hw ⟨b,off+j,none⟩ h5).trans (h6 j x hx)⟩
theorem iW.mono (hw : ∀ p:Addr,S p.block->w'.cell? p=w.cell? p) (hS : ∀ b,S b->S' b) {zs:List (Int × Int)} {v:Value} (h:iW S w zs v):iW S' w' zs v:=by
 obtain ⟨p,cap,h1,h2,h3⟩:=h
 refine ⟨p,cap,h1,h2,fun h=> ?_⟩
 obtain ⟨b,off,h4,h5,h6⟩:=h3 h
 exact ⟨b,off,h4,hS _ h5,fun j x hx=>⟨(hw ⟨b,_,none⟩ h5).trans (h6 j x hx).1,(hw ⟨b,_,none⟩ h5).trans (h6 j x hx).2⟩⟩
theorem jS.mono (hw : ∀ p:Addr,S p.block->w'.cell? p=w.cell? p) (hS : ∀ b,S b->S' b) {ts:List At} {v:Value} (h:jS S w ts v):jS S' w' ts v:=by
 obtain ⟨p,cap,h1,h2,h3⟩:=h
 refine ⟨p,cap,h1,h2,fun h=> ?_⟩
 obtain ⟨b,off,h4,h5,h6⟩:=h3 h
 refine ⟨b,off,h4,hS _ h5,fun j x hx=> ?_⟩
 obtain ⟨g1,g2,g3,g4,g5,g6⟩:=h6 j x hx
 exact ⟨(hw ⟨b,_,none⟩ h5).trans g1,(hw ⟨b,_,none⟩ h5).trans g2,(hw ⟨b,_,none⟩ h5).trans g3,(hw ⟨b,_,none⟩ h5).trans g4,(hw ⟨b,_,none⟩ h5).trans g5,(hw ⟨b,_,none⟩ h5).trans g6⟩
theorem aZ.keep {B:Nat} (hS : ∀ b,S b->b<B) (k:Below B w w') {bs:List Bool} {v:Value} (h:aZ S w bs v):aZ S w' bs v:=h.mono (bG hS k) fun _ h=>h
theorem bI.keep {B:Nat} (hS : ∀ b,S b->b<B) (k:Below B w w') {ms:List MB} {v:Value} (h:bI S w ms v):bI S w' ms v:=h.mono (bG hS k) fun _ h=>h
theorem aH.keep {B:Nat} (hS : ∀ b,S b->b<B) (k:Below B w w') {zs:List Int} {v:Value} (h:aH S w zs v):aH S w' zs v:=h.mono (bG hS k) fun _ h=>h
theorem iW.keep {B:Nat} (hS : ∀ b,S b->b<B) (k:Below B w w') {zs:List (Int × Int)} {v:Value} (h:iW S w zs v):iW S w' zs v:=h.mono (bG hS k) fun _ h=>h
theorem jS.keep {B:Nat} (hS : ∀ b,S b->b<B) (k:Below B w w') {ts:List At} {v:Value} (h:jS S w ts v):jS S w' ts v:=h.mono (bG hS k) fun _ h=>h
end
end Go.Proofs.YthaaaecmeafofaaGreatDoor
namespace Go.Proofs.YthaaaecmeafofaaGreatDoor
open Go.RowKit
theorem bI.len {S:Nat->Prop} {w:World} {ms:List MB} {v:Value} (h:bI S w ms v) : ∃ p cap,v=.slice p ms.length cap/\ms.length<=9223372036854775807:=by
 obtain ⟨p,cap,h1,h2,-⟩:=h;exact ⟨p,cap,h1,h2.2⟩
theorem bI.cap {S:Nat->Prop} {w:World} {ms:List MB} {p:Option Addr} {n cap:Nat} (h:bI S w ms (.slice p n cap)):ms.length<=cap:=by
 obtain ⟨p',cap',h1,h2,-⟩:=h;cases h1;exact h2.1
theorem bI.take {S:Nat->Prop} {w:World} {ms:List MB} {p:Option Addr} {n cap:Nat} (h:bI S w ms (.slice p n cap)) {k:Nat} (hk:k<=ms.length):bI S w (ms.take k) (.slice p k cap):=by
 obtain ⟨p',cap',h1,h2,h3⟩:=h
 cases h1
 have hl:(ms.take k).length=k:=by simp;omega
 refine ⟨p,cap,by rw [hl],by rw [hl];omega,fun h0=> ?_⟩
 obtain ⟨b,off,rfl,h5,h6⟩:=h3 (by omega)
 refine ⟨b,off,rfl,h5,fun j m hm=>h6 j m ?_⟩
 rw [List.getElem?_take] at hm
 split at hm
 ·exact hm
 ·cases hm
theorem bI.get {S:Nat->Prop} {w:World} {ms:List MB} {v:Value} (h:bI S w ms v) {k:Nat} (hk:k<ms.length) : ∃ b off cap,v=.slice (some ⟨b,off,none⟩) ms.length cap/\S b/\ms.length<=9223372036854775807/\
  ∀ (j:Nat) (m:MB),ms[j]? = some m->∃ (op:Option Addr) (oc:Nat),w.cell? ⟨b,off+j*2,none⟩=some (.int .i64 m.pl)/\w.cell? ⟨b,off+j*2+1,none⟩=some (.slice op m.on.length oc)/\m.on.length<=9223372036854775807/\aZ S w m.on (.slice op m.on.length oc):=by
 obtain ⟨p,cap,h1,h2,h3⟩:=h
 obtain ⟨b,off,rfl,h5,h6⟩:=h3 (by omega)
 refine ⟨b,off,cap,h1,h5,h2.2,fun j m hm=> ?_⟩
 obtain ⟨ov,h7,h8,h9⟩:=h6 j m hm
 obtain ⟨op,oc,rfl,h10,-⟩:=id h9
 exact ⟨op,oc,h7,h8,h10,h9⟩
theorem iM (ms:List MB) (j:Nat) (h:j<ms.length):ms.getD j MB.zero=ms[j]:=by
 rw [List.getD_eq_getElem?_getD,List.getElem?_eq_getElem h,Option.getD_some]
theorem fD (ps:List PK) (j:Nat) (h:j<ps.length):ps.getD j PK.zero=ps[j]:=by
 rw [List.getD_eq_getElem?_getD,List.getElem?_eq_getElem h,Option.getD_some]
theorem aOg (S:Nat->Prop) (ps:List PK) (ms:List MB) (ct cl k:Nat) (tv lv:Value) (w:World) (hk:k<ms.length) (hp:bC S w ps tv) (hm:bI S w ms lv) (ht:aE ct 24 tv w) (hl:aE cl 25 lv w) :
  Calls Tryz.prog 106 #[.int .i64 k,.pointer (some ⟨cl,0,none⟩),.pointer (some ⟨ct,0,none⟩)] w fun e w'=>e=.returned (.int .i64 (mbE ps ms k))/\aA w w':=by
 have HP:=hid hp
 obtain ⟨b,off,cap,rfl,hb,hlen,hrow⟩:=hm.get hk
 obtain ⟨tp,tc,rfl,htlen⟩:=hp.len
 obtain ⟨ht0,-,htl⟩:=ht.facts
 obtain ⟨hl0,-,hll⟩:=hl.facts
 obtain ⟨op,oc,hc0,hc1,hon,-⟩:=hrow k _ (List.getElem?_eq_getElem hk)
 have HX:Hid (mbE ps ms k=if ms[k].pl<0∨(ps.length:Int)<=ms[k].pl then 5 else if 0<k/\ms[k].pl<=(ms.getD (k-1) MB.zero).pl then 6 else if ms[k].on.length≠(ps.getD ms[k].pl.toNat PK.zero).fl.length then 4 else 0):=by
  show _=_
  unfold mbE cN
  rw [iM ms k hk]
 have hprev:0<k->∃ x:Int,Hid ((ms.getD (k-1) MB.zero).pl=x)/\w.cell? ⟨b,off+(k-1)*2,none⟩=some (.int .i64 x):=fun h0=>by
  obtain ⟨_,_,h1,-⟩:=hrow (k-1) _ (List.getElem?_eq_getElem (by omega))
  exact ⟨ms[k-1].pl,by show _=_;rw [iM ms (k-1) (by omega)],h1⟩
 generalize ms[k]=m at HX hc0 hc1 hon
 obtain ⟨pl,on⟩:=m
 simp only at HX hc0 hc1 hon
 clear hrow hm hp ht hl
 by_cases h0:pl<0
 ·have HY:Hid (mbE ps ms k=5):=by show _=_;rw [HX.out,if_pos (Or.inl h0)]
  clear HX hprev
  go_enter Tryz.func106,Tryz.ntmps106
  go_wp2_with fail
  go_ret
  exact ⟨aJ HY.out.symm,aA.refl _⟩
 ·by_cases h1:(ps.length:Int)<=pl
  ·have HY:Hid (mbE ps ms k=5):=by show _=_;rw [HX.out,if_pos (Or.inr h1)]
   clear HX hprev
   go_enter Tryz.func106,Tryz.ntmps106
   go_wp2_with fail
   go_ret
   exact ⟨aJ HY.out.symm,aA.refl _⟩
  ·obtain ⟨q,rfl⟩ : ∃ q:Nat,pl=q:=⟨pl.toNat,by omega⟩
   have hq:q<ps.length:=by omega
   have HX2:Hid (mbE ps ms k=if 0<k/\(q:Int)<=(ms.getD (k-1) MB.zero).pl then 6 else if on.length≠(ps.getD q PK.zero).fl.length then 4 else 0):=by
    show _=_
    rw [HX.out,if_neg (by omega)];rfl
   clear HX
   obtain ⟨tb,toff,tcap,htv,htb,-,htrow⟩:=HP.out.get hq
   cases htv
   obtain ⟨cs,hcs,hpk⟩:=htrow q hq
   rw [fD ps q hq] at HX2
   generalize ps[q]=p at hpk HX2
   obtain ⟨kk,a,fl,nt,kids,kp,fp,kc,fc,hnd,hfl,rfl,hf,hn⟩:=hpk.spelt
   obtain ⟨-,-,-,c3,-⟩:=eO hcs
   clear hcs hpk htrow hf hn hnd
   rcases p with ⟨pn,pv,psl,fs,nd⟩
   simp only at hfl c3 HX2
   have tail : ∀ (W:World),mbE ps ms k=(if on.length≠fs.length then 4 else 0)->True:=fun _ _=>trivial
   clear tail
   by_cases hk0:0<k
   ·obtain ⟨x,HPX,hcx⟩:=hprev hk0
    rw [HPX.out] at HX2
    obtain ⟨m,rfl⟩ : ∃ m,k=m+1:=⟨k-1,by omega⟩
    have hcx':w.cell? ⟨b,off+m*2,none⟩=some (.int .i64 x):=hcx
    have h0':(0:Int)<((m+1:Nat):Int):=by omega
    have hd:decide ((0:Int)<((m+1:Nat):Int))=true:=decide_eq_true h0'
    have e1:((m+1:Nat):Int)-1=(m:Int):=by omega
    have hm:m<ms.length:=by omega
    clear hprev HPX hcx
    by_cases hle:(q:Int)<=x
    ·have HY:Hid (mbE ps ms (m+1)=6):=by show _=_;rw [HX2.out,if_pos ⟨by omega,hle⟩]
     clear HX2
     go_enter Tryz.func106,Tryz.ntmps106
     go_wp2_with fail
     go_ret
     exact ⟨aJ HY.out.symm,aA.refl _⟩
    ·have HX3:Hid (mbE ps ms (m+1)=if on.length≠fs.length then 4 else 0):=by show _=_;rw [HX2.out,if_neg (fun h=>hle h.2)]
     clear HX2
     by_cases hne:on.length=fs.length
     ·have HY:Hid (mbE ps ms (m+1)=0):=by show _=_;rw [HX3.out,if_neg (fun h=>h hne)]
      have hne1:((on.length:Int)==(fs.length:Int))=true:=by simp [hne]
      have hne2:((on.length:Int) != (fs.length:Int))=false:=by simp [hne]
      clear HX3 hne
      go_enter Tryz.func106,Tryz.ntmps106
      go_wp2_with fail
      go_quiet (fail)
      go_wp2_with fail
      go_ret
      exact ⟨aJ HY.out.symm,aA.drewN (aA.refl _) _⟩
     ·have HY:Hid (mbE ps ms (m+1)=4):=by show _=_;rw [HX3.out,if_pos hne]
      have hne0 : ¬ (on.length:Int)=(fs.length:Int):=by omega
      have hne1:((on.length:Int)==(fs.length:Int))=false:=by simp [hne0]
      have hne2:((on.length:Int) != (fs.length:Int))=true:=by simp [hne0]
      clear HX3 hne
      go_enter Tryz.func106,Tryz.ntmps106
      go_wp2_with fail
      go_quiet (fail)
      go_wp2_with fail
      go_ret
      exact ⟨aJ HY.out.symm,aA.drewN (aA.refl _) _⟩
   ·have HX3:Hid (mbE ps ms k=if on.length≠fs.length then 4 else 0):=by show _=_;rw [HX2.out,if_neg (fun h=>hk0 h.1)]
    obtain rfl:k=0:=by omega
    rw [Nat.zero_mul,Nat.add_zero] at hc0 hc1
    clear HX2 hprev
    by_cases hne:on.length=fs.length
    ·have HY:Hid (mbE ps ms 0=0):=by show _=_;rw [HX3.out,if_neg (fun h=>h hne)]
     have hne1:((on.length:Int)==(fs.length:Int))=true:=by simp [hne]
     have hne2:((on.length:Int) != (fs.length:Int))=false:=by simp [hne]
     clear HX3 hne
     go_enter Tryz.func106,Tryz.ntmps106
     go_wp2_with fail
     go_quiet (fail)
     go_wp2_with fail
     go_ret
     exact ⟨aJ HY.out.symm,aA.drewN (aA.refl _) _⟩
    ·have HY:Hid (mbE ps ms 0=4):=by show _=_;rw [HX3.out,if_pos hne]
     have hne0 : ¬ (on.length:Int)=(fs.length:Int):=by omega
     have hne1:((on.length:Int)==(fs.length:Int))=false:=by simp [hne0]
     have hne2:((on.length:Int) != (fs.length:Int))=true:=by simp [hne0]
     clear HX3 hne
     go_enter Tryz.func106,Tryz.ntmps106
     go_wp2_with fail
     go_quiet (fail)
     go_wp2_with fail
     go_ret
     exact ⟨aJ HY.out.symm,aA.drewN (aA.refl _) _⟩
theorem tV (args:Array Value) (w:World):(callFunc 106 args).run Tryz.prog w=.ok (.enter 106 args) w:=enters_of Tryz.func106 (by kernel_rfl) rfl args w
theorem pS (S:Nat->Prop) (ps:List PK) (ms:List MB) (tv lv:Value) (w:World) (hS : ∀ b,S b->b<w.heap.size) (hp:bC S w ps tv) (hm:bI S w ms lv) :
  Calls Tryz.prog 43 #[.agg #[tv],lv] w fun e w'=>e=.returned (.int .i64 (bV ps ms))/\aA w w':=by
 have HP:=hid hp
 have HM:=hid hm
 obtain ⟨tp,tc,rfl,htlen⟩:=hp.len
 obtain ⟨lp,lc,rfl,hllen⟩:=hm.len
 have hmf : ∀ (fn:Fn) (first cap:Array Value) (w:World),(Instr.makeFunc fn first cap).run Tryz.prog w=.ok (.func fn first cap) w:=fun _ _ _ _=>rfl
 have hent:=tV
 have HX:Hid (bV ps ms=if dA ps≠0 then dA ps else aT (mbE ps ms) 0 ms.length):=rfl
 clear hp hm
 go_enter Tryz.func43,Tryz.ntmps43
 go_wp2_with fail
 refine aX (fun W'=>aA w W'/\aE w.heap.size 24 (.slice tp ps.length tc) W'/\aE (w.heap.size+1) 25 (.slice lp ms.length lc) W') ⟨(aA.alloc _ _).alloc' _,(aE.new _ _ _).keep (aA.alloc _ _) (by simp),?_⟩ ?_
 ·have:=aE.new (w.alloc (.cells #[.slice tp ps.length tc] 24)) 25 (.slice lp ms.length lc)
  rw [aC] at this;exact this
 rintro W0 ⟨k0,v0,l0⟩
 refine (kS S ps _ W0 (fun b hb=>Nat.lt_of_lt_of_le (hS b hb) k0.size) (HP.out.keep hS k0)).mono ?_
 rintro e w1 ⟨rfl,k1⟩
 have K1:=hid (k0.trans k1)
 have V1:=hid (v0.keep k1 v0.facts.2.2)
 have L1:=hid (l0.keep k1 l0.facts.2.2)
 clear k0 v0 l0 k1
 generalize dA ps=ct at HX ⊢
 by_cases hz:ct=0
 ·subst hz
  have HX2:Hid (bV ps ms=aT (mbE ps ms) 0 ms.length):=by show _=_;rw [HX.out];simp
  obtain ⟨hl0,-,hll⟩:=L1.out.facts
  have hcall : ∀ (k:Nat) (W':World),k<ms.length->aA w1 W'->Calls Tryz.prog 106 (#[.int .i64 k]++#[.pointer (some ⟨w.heap.size+1,0,none⟩),.pointer (some ⟨w.heap.size,0,none⟩)]) W' fun e w'=>e=.returned (.int .i64 (mbE ps ms k))/\(mbE ps ms k=0->aA w1 w')/\bD (One w1.heap.size) W' w':=by
   intro k W' hk h1
   have c:=aOg S ps ms w.heap.size (w.heap.size+1) k _ _ W' hk (HP.out.keep hS (K1.out.trans h1)) (HM.out.keep hS (K1.out.trans h1)) (V1.out.keep h1 V1.out.facts.2.2) (L1.out.keep h1 L1.out.facts.2.2)
   refine Calls.mono c ?_
   rintro e w' ⟨rfl,h4⟩
   exact ⟨rfl,fun _=>h1.trans h4,dP h4⟩
  have hone:=hid (lV ms.length (mbE ps ms) (fun _ W'=>aA w1 W') w1.heap.size hllen tV hcall w1 (aA.refl _))
  clear hcall HX
  go_wp2_with fail
  refine hone.out.mono ?_
  rintro e w2 ⟨rfl,ha2⟩
  have K2:Hid (aA w w2):=Below.trans K1.out (ha2.below K1.out.size fun b hb e=>by have:b=w1.heap.size:=e;have:=K1.out.size;omega)
  clear ha2 hone
  go_wp2_with fail
  go_ret
  exact ⟨aJ HX2.out.symm,K2.out⟩
 ·have HX2:Hid (bV ps ms=ct):=by show _=_;rw [HX.out,if_pos hz]
  have hz1:(ct==0)=false:=by simp [hz]
  have hz2:(ct != 0)=true:=by simp [hz]
  clear hz HX
  go_wp2_with fail
  go_ret
  exact ⟨aJ HX2.out.symm,K1.out⟩
end Go.Proofs.YthaaaecmeafofaaGreatDoor
namespace Go.Proofs.YthaaaecmeafofaaGreatDoor
open Go.RowKit Go.Sort
theorem aCb (x:ByteArray) : ∀ (fs:List ByteArray) (i:Nat),Lib.idxFromS fs x i=if aO fs x<fs.length then ((i+aO fs x:Nat):Int) else -1
 | [],i=>by simp [Lib.idxFromS,aO]
 | f :: fs,i=>by
  have ih:=aCb x fs (i+1)
  unfold aO at ih ⊢
  rw [Lib.idxFromS,List.findIdx_cons]
  by_cases h:f=x
  ·simp [h]
  ·rw [if_neg h,ih]
   simp only [h,decide_false,cond_false,List.length_cons]
   by_cases h2:List.findIdx (fun f=>decide (f=x)) fs<fs.length
   ·rw [if_pos h2,if_pos (by omega)];omega
   ·rw [if_neg h2,if_neg (by omega)]
theorem aMs (fs:List ByteArray) (x:ByteArray):Lib.idxOfS fs x=if aO fs x<fs.length then (aO fs x:Int) else -1:=by
 unfold Lib.idxOfS
 rw [aCb,Nat.zero_add]
theorem rI (S:Nat->Prop) (fs:List ByteArray) (v:Value) (x:ByteArray) (w:World) (h:cF S w fs v) :
  Calls Tryz.prog 61 #[v,.string x] w fun e w'=>e=.returned (.int .i64 (if aO fs x<fs.length then (aO fs x:Int) else -1))/\w'=w:=by
 rw [← aMs]
 by_cases h0:fs = []
 ·obtain ⟨p,c,rfl,-⟩:=h.len
  subst h0
  refine (Tryz.slices_Index_string_empty p c x w).mono ?_
  rintro e w' ⟨rfl,rfl⟩
  exact ⟨rfl,rfl⟩
 ·obtain ⟨b,off,cap,rfl,-,hl,hc⟩:=h.get (j:=0) (List.length_pos_iff.2 h0)
  refine (Tryz.slices_Index_string b off fs.length cap fs x w (Nat.le_refl _) hl (cF.getD hc)).mono ?_
  rintro e w' ⟨rfl,rfl⟩
  exact ⟨by rw [List.take_length],rfl⟩
theorem aZ.cell {S:Nat->Prop} {w:World} {bs:List Bool} {p:Option Addr} {n cap:Nat} (h:aZ S w bs (.slice p n cap)) {q:Nat} (hq:q<bs.length) : ∃ b off,p=some ⟨b,off,none⟩/\S b/\w.cell? ⟨b,off+q,none⟩=some (.bool (bs.getD q false)):=by
 obtain ⟨p',cap',e,-,h3⟩:=h
 cases e
 obtain ⟨b,off,rfl,h5,h6⟩:=h3 (by omega)
 refine ⟨b,off,rfl,h5,?_⟩
 rw [List.getD_eq_getElem?_getD,List.getElem?_eq_getElem hq,Option.getD_some]
 exact h6 q _ (List.getElem?_eq_getElem hq)
theorem aCe (S:Nat->Prop) (p:PK) (cs:List Value) (m:MB) (op:Option Addr) (oc:Nat) (an af:ByteArray) (aop av asl:Int) (aon:Bool) (w:World) (hS : ∀ b,S b->b<w.heap.size) (hp:dR S w p cs) (hb:aZ S w m.on (.slice op m.on.length oc)) (hon:m.on.length=p.fl.length) (hom:m.on.length<=9223372036854775807) :
  Calls Tryz.prog 46 #[.agg cs.toArray,.agg #[.int .i64 m.pl,.slice op m.on.length oc],.agg #[.string an,.int .i64 aop,.int .i64 av,.int .i64 asl,.string af,.bool aon]] w fun e w'=>e=.returned (.bool (isB p m ⟨an,aop,av,asl,af,aon⟩))/\aA w w':=by
 obtain ⟨k,a,fl,nt,kids,kp,fp,kc,fc,-,hfl,rfl,hf,-⟩:=hp.spelt
 have HF:=hid hf
 have HB:=hid hb
 clear hp hf hb
 rcases p with ⟨n,v,sl,fs,nd⟩
 rcases m with ⟨pl,on⟩
 simp only at hon HB HF hom hfl ⊢
 have HM:Hid (isB ⟨n,v,sl,fs,nd⟩ ⟨pl,on⟩ ⟨an,aop,av,asl,af,aon⟩=((n.toList==an.toList)&&mN aop av asl v sl&&(af.toList.isEmpty||(decide (aO fs af<fs.length)&&(on.getD (aO fs af) false==aon))))):=rfl
 have HON:=hid hon
 clear hon
 have KW:=hid (((aA.alloc w (.cells #[.string n,.int .i64 v,.int .i64 sl,.slice fp fs.length fc,.int .i64 k,.string a.n,.int .i64 a.op,.int .i64 a.v,.int .i64 a.sl,.string a.f,.bool a.on,.string fl,.bool nt,.slice kp kids.length kc] 76)).alloc' (.cells #[.int .i64 pl,.slice op on.length oc] 64)).alloc' (.cells #[.string an,.int .i64 aop,.int .i64 av,.int .i64 asl,.string af,.bool aon] 71))
 cases h1:(n.toList==an.toList)
 ·rw [h1] at HM
  have h1':(n.toList != an.toList)=true:=by simp [bne,h1]
  go_enter Tryz.func46,Tryz.ntmps46
  go_wp2_with fail
  go_ret
  exact ⟨aK (by rw [HM.out];rfl),KW.out⟩
 ·rw [h1] at HM
  have h1':(n.toList != an.toList)=false:=by simp [bne,h1]
  go_enter Tryz.func46,Tryz.ntmps46
  go_wp2_with fail
  refine aX (fun W'=>aA w W'/\aN w.heap.size #[.string n,.int .i64 v,.int .i64 sl,.slice fp fs.length fc,.int .i64 k,.string a.n,.int .i64 a.op,.int .i64 a.v,.int .i64 a.sl,.string a.f,.bool a.on,.string fl,.bool nt,.slice kp kids.length kc] W'/\aN (w.heap.size+1) #[.int .i64 pl,.slice op on.length oc] W'/\aN (w.heap.size+1+1) #[.string an,.int .i64 aop,.int .i64 av,.int .i64 asl,.string af,.bool aon] W') ⟨((aA.alloc _ _).alloc' _).alloc' _,(aN.new _ _ _).keep ((aA.alloc _ _).alloc' _) (by simp),?_,?_⟩ ?_
  ·have:=aN.new (w.alloc (.cells #[.string n,.int .i64 v,.int .i64 sl,.slice fp fs.length fc,.int .i64 k,.string a.n,.int .i64 a.op,.int .i64 a.v,.int .i64 a.sl,.string a.f,.bool a.on,.string fl,.bool nt,.slice kp kids.length kc] 76)) #[.int .i64 pl,.slice op on.length oc] 64
   rw [aC] at this;exact this.keep (aA.alloc _ _) this.1
  ·have:=aN.new ((w.alloc (.cells #[.string n,.int .i64 v,.int .i64 sl,.slice fp fs.length fc,.int .i64 k,.string a.n,.int .i64 a.op,.int .i64 a.v,.int .i64 a.sl,.string a.f,.bool a.on,.string fl,.bool nt,.slice kp kids.length kc] 76)).alloc (.cells #[.int .i64 pl,.slice op on.length oc] 64)) #[.string an,.int .i64 aop,.int .i64 av,.int .i64 asl,.string af,.bool aon] 71
   rw [aC,aC] at this;exact this
  rintro W0 ⟨k0,b0,b1,b2⟩
  refine (aBt _ _ _ _ _ _ _ _ W0).mono ?_
  rintro e w1 ⟨rfl,k1⟩
  have K1:=hid (k0.trans k1)
  have B0:=hid (b0.keep k1 b0.1)
  have B1:=hid (b1.keep k1 b1.1)
  have B2:=hid (b2.keep k1 b2.1)
  clear k0 b0 b1 b2 k1 KW
  generalize mN aop av asl v sl=β at HM ⊢
  have hc0:=B0.out.2
  have hl0:=B0.out.1
  have hc1:=B1.out.2
  have hl1:=B1.out.1
  have hc2:=B2.out.2
  have hl2:=B2.out.1
  cases β
  ·go_wp2_with fail
   go_ret
   exact ⟨aK (by rw [HM.out];rfl),K1.out⟩
  ·cases h2:af.toList.isEmpty
   ·rw [h2] at HM
    have h3:(af.toList == [])=false:=by simpa using h2
    go_wp2_with fail
    refine (rI S fs _ af w1 (HF.out.keep hS K1.out)).mono ?_
    rintro e w2 ⟨rfl,hw2⟩
    rw [hw2]
    clear hw2
    by_cases hq:aO fs af<fs.length
    ·rw [if_pos hq]
     rw [decide_eq_true hq] at HM
     have hqo:aO fs af<on.length:=by have:=HON.out;omega
     obtain ⟨b,off,hop,hSb,hcell⟩:=(HB.out.keep hS K1.out).cell hqo
     subst hop
     generalize aO fs af=q at hq hqo hcell HM ⊢
     generalize on.getD q false=β at hcell HM
     have hd:decide ((0:Int)<=(q:Int))=true:=decide_eq_true (by omega)
     go_wp2_with fail
     go_quiet (fail)
     go_wp2_with fail
     go_ret
     exact ⟨aK (by rw [HM.out];simp),aA.drewN K1.out _⟩
    ·rw [if_neg hq]
     rw [decide_eq_false hq] at HM
     have hd:decide ((0:Int)<=(-1:Int))=false:=by decide
     go_wp2_with fail
     go_quiet (fail)
     go_wp2_with fail
     go_ret
     exact ⟨aK (by rw [HM.out];rfl),aA.drewN K1.out _⟩
   ·rw [h2] at HM
    have h3:(af.toList == [])=true:=by simpa using h2
    go_wp2_with fail
    go_ret
    exact ⟨aK (by rw [HM.out];rfl),K1.out⟩
end Go.Proofs.YthaaaecmeafofaaGreatDoor
namespace Go.Proofs.YthaaaecmeafofaaGreatDoor
open Go.RowKit Go.Sort
def wU (ps:List PK) (ms:List MB):Prop:= ∀ (j:Nat) (m:MB),ms[j]? = some m->0<=m.pl/\m.pl<ps.length/\m.on.length=(cN ps m).fl.length
theorem aNi {ps:List PK} {ms:List MB} {k:Nat} (hk:k<ms.length) (h:mbE ps ms k=0):0<=ms[k].pl/\ms[k].pl<ps.length/\ms[k].on.length=(cN ps ms[k]).fl.length/\(0<k->(ms.getD (k-1) MB.zero).pl<ms[k].pl):=by
 unfold mbE at h
 rw [iM ms k hk] at h
 split at h
 ·cases h
 ·split at h
  ·cases h
  ·split at h
   ·cases h
   ·rename_i h1 h2 h3
    exact ⟨by omega,by omega,Decidable.of_not_not h3,fun h0=>by omega⟩
theorem aDj {ps:List PK} {ms:List MB} (h:bV ps ms=0):wU ps ms:=by
 intro j m hm
 obtain ⟨hj,rfl⟩:=List.getElem?_eq_some_iff.1 hm
 have h2:aMi ps ms=0:=by
  unfold bV at h
  split at h
  ·rename_i hn;exact absurd h hn
  ·exact h
 have:=(cK ms.length 0).1 h2 j hj
 rw [Nat.zero_add] at this
 obtain ⟨h1,h2,h3,-⟩:=aNi hj this
 exact ⟨h1,h2,h3⟩
theorem aQy {ps:List PK} {ms:List MB} (h:bV ps ms=0):dA ps=0:=by
 unfold bV at h
 split at h
 ·rename_i hn;exact absurd h hn
 ·rename_i hn;exact Decidable.of_not_not hn
theorem aDl {ps:List PK} {ms:List MB} {k:Int} {a:At} : ∀ {i:Nat} (j:Nat),jO ps ms k a i=true->jO ps ms k a (i+j)=true
 | _,0,h=>h
 | i,j+1,h=>by
  rw [← Nat.add_assoc,jO,aDl j h];rfl
theorem kP (S:Nat->Prop) (ps:List PK) (ms:List MB) (tv lv:Value) (k:Int) (an af:ByteArray) (aop av asl:Int) (aon:Bool) (w:World) (hS : ∀ b,S b->b<w.heap.size) (hp:bC S w ps tv) (hm:bI S w ms lv) (hok:wU ps ms) :
  Calls Tryz.prog 77 #[.agg #[tv],lv,.int .i64 k,.agg #[.string an,.int .i64 aop,.int .i64 av,.int .i64 asl,.string af,.bool aon]] w fun e w'=>e=.returned (.bool (eY ps ms k ⟨an,aop,av,asl,af,aon⟩))/\aA w w':=by
 have HP:=hid hp
 have HMS:=hid hm
 have HOK:=hid hok
 obtain ⟨tp,tc,rfl,hlen⟩:=hp.len
 obtain ⟨lp,lc,rfl,hllen⟩:=hm.len
 have HX:Hid (eY ps ms k ⟨an,aop,av,asl,af,aon⟩=jO ps ms k ⟨an,aop,av,asl,af,aon⟩ ms.length):=rfl
 clear hp hm hok
 go_enter Tryz.func77,Tryz.ntmps77
 go_wp2_with fail
 go_loopg [13] ms.length (fun gk i wr=> ∃ j:Nat,j+gk=ms.length/\i=.int .i64 j/\jO ps ms k ⟨an,aop,av,asl,af,aon⟩ j=false/\aA w wr/\aE w.heap.size 24 (.slice tp ps.length tc) wr/\aN (w.heap.size+1) #[.string an,.int .i64 aop,.int .i64 av,.int .i64 asl,.string af,.bool aon] wr)
 case atStart=>
  refine ⟨0,by simp,rfl,rfl,(aA.alloc _ _).alloc' _,(aE.new _ _ _).keep (aA.alloc _ _) (by simp),?_⟩
  have:=aN.new (w.alloc (.cells #[.slice tp ps.length tc] 24)) #[.string an,.int .i64 aop,.int .i64 av,.int .i64 asl,.string af,.bool aon] 71
  rw [aC] at this;exact this
 case round=>
  obtain ⟨j,hj,rfl,hno,hkp,hvt,hbx⟩:=hrel
  have HNO:=hid hno
  have HK:=hid hkp
  have HV:=hid hvt
  have HBX:=hid hbx
  clear hno hkp hvt hbx
  by_cases hlt:j<ms.length
  ·have hSr : ∀ b,S b->b<wr.heap.size:=fun b hb=>Nat.lt_of_lt_of_le (hS b hb) HK.out.size
   have HM2:=hid (HMS.out.keep hS HK.out)
   have HP2:=hid (HP.out.keep hS HK.out)
   obtain ⟨mb,moff,mcap,hmv,hmS,-,hrow⟩:=HM2.out.get hlt
   cases hmv
   obtain ⟨op,oc,hc0,hc1,hon,hbl⟩:=hrow j _ (List.getElem?_eq_getElem hlt)
   obtain ⟨h0,h1,h2⟩:=HOK.out j _ (List.getElem?_eq_getElem hlt)
   have HST:Hid (jO ps ms k ⟨an,aop,av,asl,af,aon⟩ (j+1)=(!decide ((j:Int)=k)&&isB (cN ps ms[j]) ms[j] ⟨an,aop,av,asl,af,aon⟩)):=by
    show _=_
    rw [jO,HNO.out,iM ms j hlt];simp
   have HUP:Hid (jO ps ms k ⟨an,aop,av,asl,af,aon⟩ (j+1)=true->eY ps ms k ⟨an,aop,av,asl,af,aon⟩=true):=fun h=>by
    have:=aDl (ms.length-(j+1)) h
    rw [show j+1+(ms.length-(j+1))=ms.length by omega] at this
    rw [HX.out];exact this
   generalize ms[j]=m at hc0 hc1 hon hbl h0 h1 h2 HST
   have HBL:=hid hbl
   have HON:=hid h2
   obtain ⟨q,hq⟩ : ∃ q:Nat,m.pl=q:=⟨m.pl.toNat,by omega⟩
   have hqp:q<ps.length:=by omega
   have hpk:cN ps m=ps[q]:=by unfold cN;rw [hq,Int.toNat_natCast,fD ps q hqp]
   rw [hpk] at HST HON
   clear h0 h1 h2 hrow hbl hpk HNO
   obtain ⟨tb,toff,tcap,htv,htb,-,htrow⟩:=HP2.out.get hqp
   cases htv
   obtain ⟨cs,hcs,hpj⟩:=htrow q hqp
   generalize ps[q]=p at hpj HST HON
   obtain ⟨kk,a',fl,nt,kids,kp,fp,kc,fc,hnd,hfl,rfl,-,-⟩:=hpj.spelt
   have HPJ:=hid hpj
   obtain ⟨c0,c1,c2,c3,c4,c5,c6,c7,c8,c9,c10,c11,c12,c13⟩:=eO hcs
   clear hcs hpj htrow hnd
   rcases p with ⟨n,v,sl,fs,nd⟩
   rcases m with ⟨pl,on⟩
   simp only at hc0 hc1 hon hfl HBL HON HST hq c0 c1 c2 c3 HPJ
   subst hq
   go_upto_region 4 with fail
   refine bF (fun W'=>aA wr W'/\aN wr.heap.size #[.int .i64 q,.slice op on.length oc] W') ⟨aA.alloc _ _,aN.new _ _ _⟩ ?_
   rintro W2 ⟨k2,b2⟩
   have K2:=hid k2
   have KW2:=hid (HK.out.trans k2)
   have V2:=hid (HV.out.keep k2 HV.out.facts.2.2)
   have BX2:=hid (HBX.out.keep k2 HBX.out.1)
   have B2:=hid b2
   clear k2 b2 hc0 hc1
   by_cases hjk:(j:Int)=k
   ·have hd1:((j:Int)==k)=true:=by simp [hjk]
    have hd2:((j:Int) != k)=false:=by simp [hjk]
    have HS1:Hid (jO ps ms k ⟨an,aop,av,asl,af,aon⟩ (j+1)=false):=by show _=_;rw [HST.out,decide_eq_true hjk];rfl
    clear hjk HST HUP c0 c1 c2 c3 c4 c5 c6 c7 c8 c9 c10 c11 c12 c13
    go_quiet (fail)
    have k4:aA W2 (W2.drewN nq):=aA.drewN (aA.refl _) _
    generalize W2.drewN nq=W4 at k4 ⊢
    have K4:=hid (KW2.out.trans k4)
    have V4:=hid (V2.out.keep k4 V2.out.facts.2.2)
    have BX4:=hid (BX2.out.keep k4 BX2.out.1)
    clear k4
    go_wp2_with fail
    go_roundg (ms.length-(j+1))
    case rel=>exact ⟨j+1,by omega,by go_num,HS1.out,K4.out,V4.out,BX4.out⟩
    case measure=>omega
   ·have hd1:((j:Int)==k)=false:=by simp [hjk]
    have hd2:((j:Int) != k)=true:=by simp [hjk]
    have HST2:Hid (jO ps ms k ⟨an,aop,av,asl,af,aon⟩ (j+1)=isB ⟨n,v,sl,fs,nd⟩ ⟨q,on⟩ ⟨an,aop,av,asl,af,aon⟩):=by show _=_;rw [HST.out,decide_eq_false hjk];rfl
    clear hjk HST
    have htl:tb<W2.heap.size:=Nat.lt_of_lt_of_le (hSr tb htb) K2.out.size
    have cb : ∀ (d:Nat) (os:Array Obj) (o:Nat) (x:Value),wr.cell? ⟨tb,o,none⟩=some x->(grow (redrawn W2 d) os).cell? ⟨tb,o,none⟩=some x:=fun d os o x hx=>((below_regrown W2 d os).cell (p:=⟨tb,o,none⟩) htl).trans ((K2.out.cell (p:=⟨tb,o,none⟩) (hSr tb htb)).trans hx)
    have d0:=fun d os=>cb d os _ _ c0
    have d1:=fun d os=>cb d os _ _ c1
    have d2:=fun d os=>cb d os _ _ c2
    have d3:=fun d os=>cb d os _ _ c3
    have d4:=fun d os=>cb d os _ _ c4
    have d5:=fun d os=>cb d os _ _ c5
    have d6:=fun d os=>cb d os _ _ c6
    have d7:=fun d os=>cb d os _ _ c7
    have d8:=fun d os=>cb d os _ _ c8
    have d9:=fun d os=>cb d os _ _ c9
    have d10:=fun d os=>cb d os _ _ c10
    have d11:=fun d os=>cb d os _ _ c11
    have d12:=fun d os=>cb d os _ _ c12
    have d13:=fun d os=>cb d os _ _ c13
    have dt : ∀ d os,(grow (redrawn W2 d) os).cell? ⟨w.heap.size,0,none⟩=some (.slice (some ⟨tb,toff,none⟩) ps.length tc):=fun d os=>((below_regrown W2 d os).cell (p:=⟨w.heap.size,0,none⟩) V2.out.facts.2.2).trans V2.out.facts.1
    have db : ∀ o d os,(grow (redrawn W2 d) os).cell? ⟨wr.heap.size,o,none⟩=(#[.int .i64 q,.slice op on.length oc]:Array Value)[o]? :=fun o d os=>(B2.out.keep (below_regrown W2 d os) B2.out.1).2 o
    have da : ∀ o d os,(grow (redrawn W2 d) os).cell? ⟨w.heap.size+1,o,none⟩=(#[.string an,.int .i64 aop,.int .i64 av,.int .i64 asl,.string af,.bool aon]:Array Value)[o]? :=fun o d os=>(BX2.out.keep (below_regrown W2 d os) BX2.out.1).2 o
    have hS2 : ∀ b,S b->b<W2.heap.size:=fun b hb=>Nat.lt_of_lt_of_le (hSr b hb) K2.out.size
    generalize hbe:isB ⟨n,v,sl,fs,nd⟩ ⟨q,on⟩ ⟨an,aop,av,asl,af,aon⟩=β at HST2
    have cAsk:=hid (show ∀ d os,Calls Tryz.prog 46 #[.agg #[.string n,.int .i64 v,.int .i64 sl,.slice fp fs.length fc,.int .i64 kk,.string a'.n,.int .i64 a'.op,.int .i64 a'.v,.int .i64 a'.sl,.string a'.f,.bool a'.on,.string fl,.bool nt,.slice kp kids.length kc],.agg #[.int .i64 q,.slice op on.length oc],.agg #[.string an,.int .i64 aop,.int .i64 av,.int .i64 asl,.string af,.bool aon]] (grow (redrawn W2 d) os) fun e w''=>e=.returned (.bool β)/\∃ p:Regrown,w''=grow (redrawn W2 p.d) p.os from fun d os=>by
     rw [← hbe]
     exact Calls.regrown_of (aCe S ⟨n,v,sl,fs,nd⟩ _ ⟨q,on⟩ op oc an af aop av asl aon _ (fun b hb=>Nat.lt_of_lt_of_le (hS2 b hb) (below_regrown W2 d os).size) (HPJ.out.keep hSr (K2.out.trans (below_regrown W2 d os))) (HBL.out.keep hSr (K2.out.trans (below_regrown W2 d os))) HON.out hon))
    clear c0 c1 c2 c3 c4 c5 c6 c7 c8 c9 c10 c11 c12 c13 cb hbe
    refine wp_region_quiet_below (by kernel_rfl) (by kernel_rfl) ?_
    repeat (first | go_big_quiet_step (exact cAsk.out _ _) | quiet_step (exact cAsk.out _ _))
    refine wpQuiet_nil ?_
    intro _ hw'
    obtain ⟨⟨dq,osq⟩,hw''⟩:=hw'
    subst hw''
    have k4:=below_regrown W2 dq osq
    generalize grow (redrawn W2 dq) osq=W4 at k4 ⊢
    have K4:=hid (KW2.out.trans k4)
    have V4:=hid (V2.out.keep k4 V2.out.facts.2.2)
    have BX4:=hid (BX2.out.keep k4 BX2.out.1)
    clear d0 d1 d2 d3 d4 d5 d6 d7 d8 d9 d10 d11 d12 d13 dt db da cAsk k4
    cases β
    ·go_wp2_with fail
     go_roundg (ms.length-(j+1))
     case rel=>exact ⟨j+1,by omega,by go_num,HST2.out,K4.out,V4.out,BX4.out⟩
     case measure=>omega
    ·go_wp2_with fail
     go_ret
     exact ⟨aK (HUP.out HST2.out).symm,K4.out⟩
  ·obtain rfl:j=ms.length:=by omega
   go_wp2_with fail
   go_ret
   exact ⟨aK (by rw [HX.out,HNO.out]),HK.out⟩
end Go.Proofs.YthaaaecmeafofaaGreatDoor
namespace Go.Proofs.YthaaaecmeafofaaGreatDoor
open Go.RowKit Go.Sort
theorem jS.len {S:Nat->Prop} {w:World} {ts:List At} {v:Value} (h:jS S w ts v) : ∃ p cap,v=.slice p ts.length cap/\ts.length<=9223372036854775807:=by
 obtain ⟨p,cap,h1,h2,-⟩:=h;exact ⟨p,cap,h1,h2⟩
theorem jS.get {S:Nat->Prop} {w:World} {ts:List At} {p:Option Addr} {n cap:Nat} (h:jS S w ts (.slice p n cap)) {k:Nat} (hk:k<ts.length) : ∃ b off,p=some ⟨b,off,none⟩/\S b/\
  w.cell? ⟨b,off+k*6,none⟩=some (.string ts[k].n)/\w.cell? ⟨b,off+k*6+1,none⟩=some (.int .i64 ts[k].op)/\w.cell? ⟨b,off+k*6+2,none⟩=some (.int .i64 ts[k].v)/\w.cell? ⟨b,off+k*6+3,none⟩=some (.int .i64 ts[k].sl)/\w.cell? ⟨b,off+k*6+4,none⟩=some (.string ts[k].f)/\w.cell? ⟨b,off+k*6+5,none⟩=some (.bool ts[k].on):=by
 obtain ⟨p',cap',e,-,h3⟩:=h
 cases e
 obtain ⟨b,off,rfl,h5,h6⟩:=h3 (by omega)
 exact ⟨b,off,rfl,h5,h6 k _ (List.getElem?_eq_getElem hk)⟩
theorem aH.len {S:Nat->Prop} {w:World} {zs:List Int} {v:Value} (h:aH S w zs v) : ∃ p cap,v=.slice p zs.length cap/\zs.length<=9223372036854775807:=by
 obtain ⟨p,cap,h1,h2,-⟩:=h;exact ⟨p,cap,h1,h2⟩
theorem aH.get {S:Nat->Prop} {w:World} {zs:List Int} {p:Option Addr} {n cap:Nat} (h:aH S w zs (.slice p n cap)) (hk:0<zs.length) : ∃ b off,p=some ⟨b,off,none⟩/\S b/\∀ j,j<zs.length->w.cell? ⟨b,off+j,none⟩=some (.int .i64 (zs.getD j 0)):=by
 obtain ⟨p',cap',e,-,h3⟩:=h
 cases e
 obtain ⟨b,off,rfl,h5,h6⟩:=h3 (by omega)
 refine ⟨b,off,rfl,h5,fun j hj=> ?_⟩
 rw [List.getD_eq_getElem?_getD,List.getElem?_eq_getElem hj,Option.getD_some]
 exact h6 j _ (List.getElem?_eq_getElem hj)
theorem iW.len {S:Nat->Prop} {w:World} {zs:List (Int × Int)} {v:Value} (h:iW S w zs v) : ∃ p cap,v=.slice p zs.length cap/\zs.length<=9223372036854775807:=by
 obtain ⟨p,cap,h1,h2,-⟩:=h;exact ⟨p,cap,h1,h2⟩
theorem iW.get {S:Nat->Prop} {w:World} {zs:List (Int × Int)} {p:Option Addr} {n cap:Nat} (h:iW S w zs (.slice p n cap)) (hk:0<zs.length) : ∃ b off,p=some ⟨b,off,none⟩/\S b/\∀ j,j<zs.length->w.cell? ⟨b,off+j*2,none⟩=some (.int .i64 (zs.getD j (0,0)).1)/\w.cell? ⟨b,off+j*2+1,none⟩=some (.int .i64 (zs.getD j (0,0)).2):=by
 obtain ⟨p',cap',e,-,h3⟩:=h
 cases e
 obtain ⟨b,off,rfl,h5,h6⟩:=h3 (by omega)
 refine ⟨b,off,rfl,h5,fun j hj=> ?_⟩
 rw [List.getD_eq_getElem?_getD,List.getElem?_eq_getElem hj,Option.getD_some]
 exact h6 j _ (List.getElem?_eq_getElem hj)
theorem aDs (S:Nat->Prop) (ts:List At) (v:Value) (w:World) (hS : ∀ b,S b->b<w.heap.size) (h:jS S w ts v) :
  Calls Tryz.prog 87 #[v] w fun e w'=>e=.returned (.int .i64 (taE ts))/\aA w w':=by
 have H:=hid h
 obtain ⟨p,cap,rfl,hlen⟩:=h.len
 clear h
 by_cases h6:6<ts.length
 ·have h6':(6:Int)<(ts.length:Int):=by omega
  have HX:Hid (taE ts=2):=by show _=_;unfold taE;rw [if_pos h6]
  go_enter Tryz.func87,Tryz.ntmps87
  go_wp2_with fail
  go_ret
  exact ⟨aJ HX.out.symm,aA.refl _⟩
 ·have h6' : ¬ (6:Int)<(ts.length:Int):=by omega
  have HX:Hid (taE ts=aT (fun k=>iE (ts.getD k At.zero)) 0 ts.length):=by show _=_;unfold taE;rw [if_neg h6]
  generalize hg:(fun k=>iE (ts.getD k At.zero))=g at HX
  have HG:=hid hg
  clear hg
  go_enter Tryz.func87,Tryz.ntmps87
  go_wp2_with fail
  go_loopg [11] ts.length (fun gk i wr=> ∃ j:Nat,j+gk=ts.length/\i=.int .i64 j/\aT g 0 ts.length=aT g j (ts.length-j)/\aA w wr)
  case atStart=>exact ⟨0,by simp,rfl,rfl,aA.refl _⟩
  case round=>
   obtain ⟨j,hj,rfl,he,hkp⟩:=hrel
   have HEQ:=hid he
   have HK:=hid hkp
   clear he hkp
   by_cases hlt:j<ts.length
   ·obtain ⟨b,off,hp,hSb,c0,c1,c2,c3,c4,c5⟩:=(H.out.keep hS HK.out).get hlt
    subst hp
    have HST:=hid (kD (f:=g) hlt)
    have HGJ:Hid (g j=iE ts[j]):=by show _=_;rw [← HG.out];show iE (ts.getD j At.zero)=_;rw [List.getD_eq_getElem?_getD,List.getElem?_eq_getElem hlt,Option.getD_some]
    generalize ts[j]=a at c0 c1 c2 c3 c4 c5 HGJ
    go_wp2_with fail
    refine aX (fun W'=>aA w W') (HK.out.alloc' _) ?_
    intro W0 k0
    refine (nO a.n a.f a.op a.v a.sl a.on W0).mono ?_
    rintro e w1 ⟨rfl,k1⟩
    have K1:=hid (k0.trans k1)
    rw [show chk a.n.data.toList a.op a.v a.sl a.f.data.toList a.on=g j from HGJ.out.symm]
    clear k0 k1 c0 c1 c2 c3 c4 c5
    by_cases hz:g j=0
    ·have HZ:=hid hz
     have hz1:(g j==0)=true:=by simp [hz]
     have hz2:(g j != 0)=false:=by simp [hz]
     clear hz
     go_wp2_with fail
     go_roundg (ts.length-(j+1))
     case rel=>exact ⟨j+1,by omega,by go_num,by rw [HEQ.out,HST.out,if_pos HZ.out],K1.out⟩
     case measure=>omega
    ·have HZ:=hid hz
     have hz1:(g j==0)=false:=by simp [hz]
     have hz2:(g j != 0)=true:=by simp [hz]
     clear hz
     go_wp2_with fail
     go_ret
     exact ⟨aJ (by rw [HX.out,HEQ.out,HST.out,if_neg HZ.out]),K1.out⟩
   ·go_wp2_with fail
    go_ret
    exact ⟨aJ (by rw [HX.out,HEQ.out,show ts.length-j=0 by omega];rfl),HK.out⟩
theorem aFm (S:Nat->Prop) (ps:List PK) (ma:List Int) (tv v:Value) (w:World) (hS : ∀ b,S b->b<w.heap.size) (hp:bC S w ps tv) (h:aH S w ma v) :
  Calls Tryz.prog 88 #[.agg #[tv],v] w fun e w'=>e=.returned (.int .i64 (aT (maE ps ma) 0 ma.length))/\aA w w':=by
 have H:=hid h
 obtain ⟨tp,tc,rfl,htlen⟩:=hp.len
 obtain ⟨p,cap,rfl,hlen⟩:=h.len
 clear h hp
 go_enter Tryz.func88,Tryz.ntmps88
 go_wp2_with fail
 go_loopg [9] ma.length (fun gk i wr=> ∃ j:Nat,j+gk=ma.length/\i=.int .i64 j/\aT (maE ps ma) 0 ma.length=aT (maE ps ma) j (ma.length-j)/\aA w wr/\aE w.heap.size 24 (.slice tp ps.length tc) wr)
 case atStart=>exact ⟨0,by simp,rfl,rfl,aA.alloc _ _,aE.new _ _ _⟩
 case round=>
  obtain ⟨j,hj,rfl,he,hkp,hvt⟩:=hrel
  have HEQ:=hid he
  have HK:=hid hkp
  have HV:=hid hvt
  obtain ⟨ht0,-,htl⟩:=hvt.facts
  clear he hkp hvt
  by_cases hlt:j<ma.length
  ·obtain ⟨b,off,hp,hSb,hc⟩:=(H.out.keep hS HK.out).get (by omega)
   subst hp
   have hcj:=hc j hlt
   have HST:=hid (kD (f:=maE ps ma) hlt)
   have HMA:Hid (maE ps ma j=if ma.getD j 0<0∨(ps.length:Int)<=ma.getD j 0 then 5 else if 0<j/\ma.getD j 0<=ma.getD (j-1) 0 then 6 else 0):=rfl
   have hprev:0<j->wr.cell? ⟨b,off+(j-1),none⟩=some (.int .i64 (ma.getD (j-1) 0)):=fun h0=>hc (j-1) (by omega)
   generalize ma.getD j 0=x at hcj HMA
   generalize ma.getD (j-1) 0=y at hprev HMA
   clear hc
   by_cases h0:x<0
   ·have HY:Hid (maE ps ma j=5):=by show _=_;rw [HMA.out,if_pos (Or.inl h0)]
    clear HMA hprev
    go_wp2_with fail
    go_ret
    exact ⟨aJ (by rw [HEQ.out,HST.out,HY.out];rfl),HK.out⟩
   by_cases h1:(ps.length:Int)<=x
   ·have HY:Hid (maE ps ma j=5):=by show _=_;rw [HMA.out,if_pos (Or.inr h1)]
    clear HMA hprev
    go_wp2_with fail
    go_ret
    exact ⟨aJ (by rw [HEQ.out,HST.out,HY.out];rfl),HK.out⟩
   have HM2:Hid (maE ps ma j=if 0<j/\x<=y then 6 else 0):=by show _=_;rw [HMA.out,if_neg (by omega)]
   clear HMA
   by_cases hj0:0<j
   ·have hcy:=hprev hj0
    obtain ⟨m,rfl⟩ : ∃ m,j=m+1:=⟨j-1,by omega⟩
    have hcy':wr.cell? ⟨b,off+m,none⟩=some (.int .i64 y):=hcy
    have h0':(0:Int)<((m+1:Nat):Int):=by omega
    have hd:decide ((0:Int)<((m+1:Nat):Int))=true:=decide_eq_true h0'
    have e1:((m+1:Nat):Int)-1=(m:Int):=by omega
    have hm:m<ma.length:=by omega
    clear hprev hcy
    by_cases hle:x<=y
    ·have HY:Hid (maE ps ma (m+1)=6):=by show _=_;rw [HM2.out,if_pos ⟨by omega,hle⟩]
     clear HM2
     go_wp2_with fail
     go_ret
     exact ⟨aJ (by rw [HEQ.out,HST.out,HY.out];rfl),HK.out⟩
    ·have HY:Hid (maE ps ma (m+1)=0):=by show _=_;rw [HM2.out,if_neg (fun h=>hle h.2)]
     clear HM2
     go_wp2_with fail
     go_roundg (ma.length-(m+1+1))
     case rel=>exact ⟨m+1+1,by omega,by go_num,by rw [HEQ.out,HST.out,HY.out];rfl,HK.out,HV.out⟩
     case measure=>omega
   ·have HY:Hid (maE ps ma j=0):=by show _=_;rw [HM2.out,if_neg (fun h=>hj0 h.1)]
    obtain rfl:j=0:=by omega
    rw [Nat.add_zero] at hcj
    clear HM2 hprev
    go_wp2_with fail
    go_roundg (ma.length-(0+1))
    case rel=>exact ⟨0+1,by omega,by go_num,by rw [HEQ.out,HST.out,HY.out];rfl,HK.out,HV.out⟩
    case measure=>omega
  ·go_wp2_with fail
   go_ret
   exact ⟨aJ (by rw [HEQ.out,show ma.length-j=0 by omega];rfl),HK.out⟩
def wD (x y:Int × Int):Bool:=if x.1=y.1 then decide (y.2<x.2) else decide (y.1<x.1)
theorem aBb (x0 x1 y0 y1:Int) (w:World) :
  Calls Tryz.prog 134 #[.agg #[.int .i64 x0,.int .i64 x1],.agg #[.int .i64 y0,.int .i64 y1]] w fun e w'=>e=.returned (.bool (wD (x0,x1) (y0,y1)))/\aA w w':=by
 have HX:Hid (wD (x0,x1) (y0,y1)=if x0=y0 then decide (y1<x1) else decide (y0<x0)):=rfl
 have KW:=hid ((aA.alloc w (.cells #[.int .i64 x0,.int .i64 x1] 65)).alloc' (.cells #[.int .i64 y0,.int .i64 y1] 65))
 by_cases h:x0=y0
 ·subst h
  have h1:(x0==x0)=true:=by simp
  have h2:(x0 != x0)=false:=by simp
  go_enter Tryz.func134,Tryz.ntmps134
  go_wp2_with fail
  go_ret
  exact ⟨aK (by rw [HX.out];simp),KW.out⟩
 ·have h1:(x0==y0)=false:=by simp [h]
  have h2:(x0 != y0)=true:=by simp [h]
  have HY:Hid (wD (x0,x1) (y0,y1)=decide (y0<x0)):=by show _=_;rw [HX.out,if_neg h]
  clear h HX
  go_enter Tryz.func134,Tryz.ntmps134
  go_wp2_with fail
  go_ret
  exact ⟨aK HY.out.symm,KW.out⟩
theorem aBa (x y:Int × Int):wD x y=true↔(y.1<x.1∨y.1=x.1/\y.2<x.2):=by
 unfold wD
 split
 ·rename_i h;simp only [decide_eq_true_eq];omega
 ·rename_i h;simp only [decide_eq_true_eq];omega
theorem aGt (S:Nat->Prop) (ps:List PK) (on:List (Int × Int)) (tv v:Value) (w:World) (hS : ∀ b,S b->b<w.heap.size) (hp:bC S w ps tv) (h:iW S w on v) :
  Calls Tryz.prog 89 #[.agg #[tv],v] w fun e w'=>e=.returned (.int .i64 (aT (onE ps on) 0 on.length))/\aA w w':=by
 have H:=hid h
 have HP:=hid hp
 obtain ⟨tp,tc,rfl,htlen⟩:=hp.len
 obtain ⟨p,cap,rfl,hlen⟩:=h.len
 clear h hp
 go_enter Tryz.func89,Tryz.ntmps89
 go_wp2_with fail
 go_loopg [11] on.length (fun gk i wr=> ∃ j:Nat,j+gk=on.length/\i=.int .i64 j/\aT (onE ps on) 0 on.length=aT (onE ps on) j (on.length-j)/\aA w wr/\aE w.heap.size 24 (.slice tp ps.length tc) wr)
 case atStart=>exact ⟨0,by simp,rfl,rfl,aA.alloc _ _,aE.new _ _ _⟩
 case round=>
  obtain ⟨j,hj,rfl,he,hkp,hvt⟩:=hrel
  have HEQ:=hid he
  have HK:=hid hkp
  have HV:=hid hvt
  clear he hkp hvt
  by_cases hlt:j<on.length
  ·have HST:=hid (kD (f:=onE ps on) hlt)
   have hSr : ∀ b,S b->b<wr.heap.size:=fun b hb=>Nat.lt_of_lt_of_le (hS b hb) HK.out.size
   obtain ⟨b,off,hp,hSb,hc⟩:=(H.out.keep hS HK.out).get (by omega)
   subst hp
   obtain ⟨hc0,hc1⟩:=hc j hlt
   have HON:Hid (onE ps on j=if (on.getD j (0,0)).1<0∨(ps.length:Int)<=(on.getD j (0,0)).1 then 5 else if (on.getD j (0,0)).2<0∨((ps.getD (on.getD j (0,0)).1.toNat PK.zero).fl.length:Int)<=(on.getD j (0,0)).2 then 5
    else if 0<j/\wD (on.getD j (0,0)) (on.getD (j-1) (0,0))=false then 6 else 0):=by
    show _=_
    unfold onE
    by_cases hb:wD (on.getD j (0,0)) (on.getD (j-1) (0,0))=true
    ·have:=(aBa _ _).1 hb
     simp only [hb,this,not_true_eq_false,and_false,Bool.true_eq_false]
    ·have h2 : ¬ _:=fun h=>hb ((aBa _ _).2 h)
     rw [Bool.not_eq_true] at hb
     simp only [hb,h2,not_false_eq_true,and_true]
   have hprev:0<j->wr.cell? ⟨b,off+(j-1)*2,none⟩=some (.int .i64 (on.getD (j-1) (0,0)).1)/\wr.cell? ⟨b,off+(j-1)*2+1,none⟩=some (.int .i64 (on.getD (j-1) (0,0)).2):=fun h0=>hc (j-1) (by omega)
   generalize on.getD j (0,0)=xx at hc0 hc1 HON
   generalize on.getD (j-1) (0,0)=yy at hprev HON
   obtain ⟨x0,x1⟩:=xx
   obtain ⟨y0,y1⟩:=yy
   simp only at hc0 hc1 HON hprev
   have hblt:=hSr b hSb
   clear hc
   go_upto_region 4 with fail
   refine bF (fun W'=>aA wr W'/\aN wr.heap.size #[.int .i64 x0,.int .i64 x1] W') ⟨aA.alloc _ _,aN.new _ _ _⟩ ?_
   rintro W2 ⟨k2,b2⟩
   have hb2c:=b2.2
   have hb2l:=b2.1
   go_quiet (fail)
   have k3:aA wr (W2.drewN nq):=aA.drewN k2 _
   have b3:=b2.keep (aA.drewN (aA.refl W2) nq) b2.1
   generalize W2.drewN nq=W3 at k3 b3 ⊢
   have K3':=hid k3
   have K3:=hid (HK.out.trans k3)
   have V3:=hid (HV.out.keep k3 HV.out.facts.2.2)
   have B3:=hid b3
   obtain ⟨ht0,-,htl⟩:=V3.out.facts
   clear k2 b2 hb2c hb2l k3 b3 hc0 hc1
   by_cases h0:x0<0
   ·have HY:Hid (onE ps on j=5):=by show _=_;rw [HON.out,if_pos (Or.inl h0)]
    clear HON hprev
    go_wp2_with fail
    go_ret
    exact ⟨aJ (by rw [HEQ.out,HST.out,HY.out];rfl),K3.out⟩
   by_cases h1:(ps.length:Int)<=x0
   ·have HY:Hid (onE ps on j=5):=by show _=_;rw [HON.out,if_pos (Or.inr h1)]
    clear HON hprev
    go_wp2_with fail
    go_ret
    exact ⟨aJ (by rw [HEQ.out,HST.out,HY.out];rfl),K3.out⟩
   obtain ⟨q,rfl⟩ : ∃ q:Nat,x0=q:=⟨x0.toNat,by omega⟩
   have hqp:q<ps.length:=by omega
   obtain ⟨tb,toff,tcap,htv,htb,-,htrow⟩:=(HP.out.keep hS K3.out).get hqp
   cases htv
   obtain ⟨cs,hcs,hpk⟩:=htrow q hqp
   have HO2:Hid (onE ps on j=if x1<0∨(ps[q].fl.length:Int)<=x1 then 5 else if 0<j/\wD ((q:Int),x1) (y0,y1)=false then 6 else 0):=by
    show _=_
    rw [HON.out,if_neg (by omega),Int.toNat_natCast,fD ps q hqp]
   generalize ps[q]=p at hpk HO2
   obtain ⟨kk,a,fl,nt,kids,kp,fp,kc,fc,hnd,hfl,rfl,hf,hn⟩:=hpk.spelt
   obtain ⟨-,-,-,c3,-⟩:=eO hcs
   clear hcs hpk htrow hf hn hnd HON
   rcases p with ⟨pn,pv,psl,fs,nd⟩
   simp only at hfl c3 HO2
   by_cases h2:x1<0
   ·have HY:Hid (onE ps on j=5):=by show _=_;rw [HO2.out,if_pos (Or.inl h2)]
    clear HO2 hprev
    go_wp2_with fail
    go_ret
    exact ⟨aJ (by rw [HEQ.out,HST.out,HY.out];rfl),K3.out⟩
   by_cases h3:(fs.length:Int)<=x1
   ·have HY:Hid (onE ps on j=5):=by show _=_;rw [HO2.out,if_pos (Or.inr h3)]
    clear HO2 hprev
    go_wp2_with fail
    go_ret
    exact ⟨aJ (by rw [HEQ.out,HST.out,HY.out];rfl),K3.out⟩
   have HO3:Hid (onE ps on j=if 0<j/\wD ((q:Int),x1) (y0,y1)=false then 6 else 0):=by show _=_;rw [HO2.out,if_neg (by omega)]
   clear HO2
   by_cases hj0:0<j
   ·obtain ⟨hcy0,hcy1⟩:=hprev hj0
    obtain ⟨m,rfl⟩ : ∃ m,j=m+1:=⟨j-1,by omega⟩
    have hcy0':wr.cell? ⟨b,off+m*2,none⟩=some (.int .i64 y0):=hcy0
    have hcy1':wr.cell? ⟨b,off+m*2+1,none⟩=some (.int .i64 y1):=hcy1
    have h0':(0:Int)<((m+1:Nat):Int):=by omega
    have hd:decide ((0:Int)<((m+1:Nat):Int))=true:=decide_eq_true h0'
    have e1:((m+1:Nat):Int)-1=(m:Int):=by omega
    have hm:m<on.length:=by omega
    clear hprev hcy0 hcy1
    go_upto_region 11 with fail
    clear ht0 c3
    have cb : ∀ (d:Nat) (os:Array Obj) (o:Nat) (x:Value),wr.cell? ⟨b,o,none⟩=some x->(grow (redrawn W3 d) os).cell? ⟨b,o,none⟩=some x:=fun d os o x hx=>((below_regrown W3 d os).cell (p:=⟨b,o,none⟩) (Nat.lt_of_lt_of_le hblt K3'.out.size)).trans ((K3'.out.cell (p:=⟨b,o,none⟩) hblt).trans hx)
    have d0:=fun d os=>cb d os _ _ hcy0'
    have d1:=fun d os=>cb d os _ _ hcy1'
    have db : ∀ o d os,(grow (redrawn W3 d) os).cell? ⟨wr.heap.size,o,none⟩=(#[.int .i64 (q:Int),.int .i64 x1]:Array Value)[o]? :=fun o d os=>(B3.out.keep (below_regrown W3 d os) B3.out.1).2 o
    generalize hbe:wD ((q:Int),x1) (y0,y1)=β at HO3
    have cBeh:=hid (show ∀ d os,Calls Tryz.prog 134 #[.agg #[.int .i64 (q:Int),.int .i64 x1],.agg #[.int .i64 y0,.int .i64 y1]] (grow (redrawn W3 d) os) fun e w''=>e=.returned (.bool β)/\∃ p:Regrown,w''=grow (redrawn W3 p.d) p.os from fun d os=>by
     rw [← hbe]
     exact Calls.regrown_of (aBb (q:Int) x1 y0 y1 _))
    clear cb hbe hcy0' hcy1'
    refine wp_region_quiet_below (by kernel_rfl) (by kernel_rfl) ?_
    repeat (first | go_big_quiet_step (exact cBeh.out _ _) | quiet_step (exact cBeh.out _ _))
    refine wpQuiet_nil ?_
    intro _ hw'
    obtain ⟨⟨dq,osq⟩,hw''⟩:=hw'
    subst hw''
    have k4:=below_regrown W3 dq osq
    generalize grow (redrawn W3 dq) osq=W4 at k4 ⊢
    have K4:=hid (K3.out.trans k4)
    have V4:=hid (V3.out.keep k4 V3.out.facts.2.2)
    clear d0 d1 db cBeh k4
    cases β
    ·have HY:Hid (onE ps on (m+1)=6):=by show _=_;rw [HO3.out,if_pos ⟨by omega,rfl⟩]
     go_wp2_with fail
     go_ret
     exact ⟨aJ (by rw [HEQ.out,HST.out,HY.out];rfl),K4.out⟩
    ·have HY:Hid (onE ps on (m+1)=0):=by show _=_;rw [HO3.out,if_neg (fun h=>by cases h.2)]
     go_wp2_with fail
     go_roundg (on.length-(m+1+1))
     case rel=>exact ⟨m+1+1,by omega,by go_num,by rw [HEQ.out,HST.out,HY.out];rfl,K4.out,V4.out⟩
     case measure=>omega
   ·have HY:Hid (onE ps on j=0):=by show _=_;rw [HO3.out,if_neg (fun h=>hj0 h.1)]
    obtain rfl:j=0:=by omega
    have hd:decide ((0:Int)<((0:Nat):Int))=false:=by decide
    clear HO3 hprev
    go_upto_region 11 with fail
    go_quiet (fail)
    have k4:aA W3 (W3.drewN nq):=aA.drewN (aA.refl _) _
    generalize W3.drewN nq=W4 at k4 ⊢
    have K4:=hid (K3.out.trans k4)
    have V4:=hid (V3.out.keep k4 V3.out.facts.2.2)
    clear k4
    go_wp2_with fail
    go_roundg (on.length-(0+1))
    case rel=>exact ⟨0+1,by omega,by go_num,by rw [HEQ.out,HST.out,HY.out];rfl,K4.out,V4.out⟩
    case measure=>omega
  ·go_wp2_with fail
   go_ret
   exact ⟨aJ (by rw [HEQ.out,show on.length-j=0 by omega];rfl),HK.out⟩
structure dZ (S:Nat->Prop) (w:World) (wi:WI) (tsv inv mav onv:Value):Prop where
 ts:jS S w wi.ts tsv
 ins:bI S w wi.ins inv
 ma:aH S w wi.ma mav
 on:iW S w wi.on onv
theorem dZ.keep {S:Nat->Prop} {w w':World} {B:Nat} {wi:WI} {tsv inv mav onv:Value} (h:dZ S w wi tsv inv mav onv) (hS : ∀ b,S b->b<B) (k:Below B w w'):dZ S w' wi tsv inv mav onv:=
 ⟨h.ts.keep hS k,h.ins.keep hS k,h.ma.keep hS k,h.on.keep hS k⟩
theorem dZ.mono {S S':Nat->Prop} {w:World} {wi:WI} {tsv inv mav onv:Value} (h:dZ S w wi tsv inv mav onv) (hS : ∀ b,S b->S' b):dZ S' w wi tsv inv mav onv:=
 ⟨h.ts.mono (fun _ _=>rfl) hS,h.ins.mono (fun _ _=>rfl) hS,h.ma.mono (fun _ _=>rfl) hS,h.on.mono (fun _ _=>rfl) hS⟩
theorem gU (S:Nat->Prop) (ps:List PK) (wi:WI) (tv tsv inv mav onv:Value) (w:World) (hS : ∀ b,S b->b<w.heap.size) (hp:bC S w ps tv) (h:dZ S w wi tsv inv mav onv) :
  Calls Tryz.prog 34 #[.agg #[tv],.agg #[tsv,inv,mav,onv]] w fun e w'=>e=.returned (.int .i64 (bE ps wi))/\aA w w':=by
 have HP:=hid hp
 have HW:=hid h
 obtain ⟨tp,tc,rfl,htlen⟩:=hp.len
 obtain ⟨p0,c0,rfl,hl0⟩:=h.ts.len
 obtain ⟨p1,c1,rfl,hl1⟩:=h.ins.len
 obtain ⟨p2,c2,rfl,hl2⟩:=h.ma.len
 obtain ⟨p3,c3,rfl,hl3⟩:=h.on.len
 have HX:Hid (bE ps wi=if bV ps wi.ins≠0 then bV ps wi.ins else if taE wi.ts≠0 then taE wi.ts else if aT (maE ps wi.ma) 0 wi.ma.length≠0 then aT (maE ps wi.ma) 0 wi.ma.length else aT (onE ps wi.on) 0 wi.on.length):=rfl
 clear hp h
 go_enter Tryz.func34,Tryz.ntmps34
 go_wp2_with fail
 refine aX (fun W'=>aA w W'/\aE w.heap.size 24 (.slice tp ps.length tc) W'/\aN (w.heap.size+1) #[.slice p0 wi.ts.length c0,.slice p1 wi.ins.length c1,.slice p2 wi.ma.length c2,.slice p3 wi.on.length c3] W') ⟨(aA.alloc _ _).alloc' _,(aE.new _ _ _).keep (aA.alloc _ _) (by simp),?_⟩ ?_
 ·have:=aN.new (w.alloc (.cells #[.slice tp ps.length tc] 24)) #[.slice p0 wi.ts.length c0,.slice p1 wi.ins.length c1,.slice p2 wi.ma.length c2,.slice p3 wi.on.length c3] 46
  rw [aC] at this;exact this
 rintro W0 ⟨k0,v0,b0⟩
 refine (pS S ps wi.ins _ _ W0 (fun b hb=>Nat.lt_of_lt_of_le (hS b hb) k0.size) (HP.out.keep hS k0) (HW.out.keep hS k0).ins).mono ?_
 rintro e w1 ⟨rfl,k1⟩
 have K1:=hid (k0.trans k1)
 have V1:=hid (v0.keep k1 v0.facts.2.2)
 have B1:=hid (b0.keep k1 b0.1)
 clear k0 v0 b0 k1
 generalize bV ps wi.ins=e1 at HX ⊢
 by_cases hz:e1=0
 ·subst hz
  have HX1:Hid (bE ps wi=if taE wi.ts≠0 then taE wi.ts else if aT (maE ps wi.ma) 0 wi.ma.length≠0 then aT (maE ps wi.ma) 0 wi.ma.length else aT (onE ps wi.on) 0 wi.on.length):=HX.out
  have hcb:=B1.out.2
  have hlb:=B1.out.1
  clear HX
  go_wp2_with fail
  refine (aDs S wi.ts _ w1 (fun b hb=>Nat.lt_of_lt_of_le (hS b hb) K1.out.size) (HW.out.keep hS K1.out).ts).mono ?_
  rintro e w2 ⟨rfl,k2⟩
  have K2:=hid (K1.out.trans k2)
  have V2:=hid (V1.out.keep k2 V1.out.facts.2.2)
  have B2:=hid (B1.out.keep k2 B1.out.1)
  clear k2 V1 B1 hcb hlb
  generalize taE wi.ts=e2 at HX1 ⊢
  by_cases hz:e2=0
  ·subst hz
   have HX2:Hid (bE ps wi=if aT (maE ps wi.ma) 0 wi.ma.length≠0 then aT (maE ps wi.ma) 0 wi.ma.length else aT (onE ps wi.on) 0 wi.on.length):=HX1.out
   have hcb:=B2.out.2
   have hlb:=B2.out.1
   obtain ⟨hct,-,hlt⟩:=V2.out.facts
   clear HX1
   go_wp2_with fail
   refine (aFm S ps wi.ma _ _ w2 (fun b hb=>Nat.lt_of_lt_of_le (hS b hb) K2.out.size) (HP.out.keep hS K2.out) (HW.out.keep hS K2.out).ma).mono ?_
   rintro e w3 ⟨rfl,k3⟩
   have K3:=hid (K2.out.trans k3)
   have V3:=hid (V2.out.keep k3 V2.out.facts.2.2)
   have B3:=hid (B2.out.keep k3 B2.out.1)
   clear k3 V2 B2 hcb hlb hct hlt
   generalize aT (maE ps wi.ma) 0 wi.ma.length=e3 at HX2 ⊢
   by_cases hz:e3=0
   ·subst hz
    have HX3:Hid (bE ps wi=aT (onE ps wi.on) 0 wi.on.length):=HX2.out
    have hcb:=B3.out.2
    have hlb:=B3.out.1
    obtain ⟨hct,-,hlt⟩:=V3.out.facts
    clear HX2
    go_wp2_with fail
    refine (aGt S ps wi.on _ _ w3 (fun b hb=>Nat.lt_of_lt_of_le (hS b hb) K3.out.size) (HP.out.keep hS K3.out) (HW.out.keep hS K3.out).on).mono ?_
    rintro e w4 ⟨rfl,k4⟩
    have K4:=hid (K3.out.trans k4)
    clear k4 hcb hlb hct hlt
    go_wp2_with fail
    go_ret
    exact ⟨aJ HX3.out.symm,K4.out⟩
   ·have HY:Hid (bE ps wi=e3):=by show _=_;rw [HX2.out,if_pos hz]
    have hz1:(e3==0)=false:=by simp [hz]
    have hz2:(e3 != 0)=true:=by simp [hz]
    clear hz HX2
    go_wp2_with fail
    go_ret
    exact ⟨aJ HY.out.symm,K3.out⟩
  ·have HY:Hid (bE ps wi=e2):=by show _=_;rw [HX1.out,if_pos hz]
   have hz1:(e2==0)=false:=by simp [hz]
   have hz2:(e2 != 0)=true:=by simp [hz]
   clear hz HX1
   go_wp2_with fail
   go_ret
   exact ⟨aJ HY.out.symm,K2.out⟩
 ·have HY:Hid (bE ps wi=e1):=by show _=_;rw [HX.out,if_pos hz]
  have hz1:(e1==0)=false:=by simp [hz]
  have hz2:(e1 != 0)=true:=by simp [hz]
  clear hz HX
  go_wp2_with fail
  go_ret
  exact ⟨aJ HY.out.symm,K1.out⟩
end Go.Proofs.YthaaaecmeafofaaGreatDoor
