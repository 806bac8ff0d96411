/- Steps of the proof. -/
import Derived.Test.YthjlcjdlelkkdaaGreatDoorRs02
import Derived.Deep.MidRow
import Derived.Shelf.Sort.Plain
import Derived.Shelf.Slices.Turned
import Derived.Shelf.Slices.Equal
import Derived.Shelf.Slices.CompactS
import Derived.Shelf.Slices.In.SortNone
import Derived.Shelf.Slices.Empties2
import Derived.Maps.AppendAt
import Derived.Deep.Cut
set_option maxHeartbeats 16000000
set_option maxRecDepth 100000
namespace Go.Proofs.YthjlcjdlelkkdaaGreatDoor
open Go.RowKit
theorem jX(k:Int)(n f:ByteArray)(op v sl:Int)(on:Bool)(fl:ByteArray)(nt:Bool)(kp:Option Addr)(len cap:Nat)(w:World):
  Calls Tryz.prog 212 #[.agg #[.int .i64 k,.string n,.int .i64 op,.int .i64 v,.int .i64 sl,.string f,.bool on,.string fl,.bool nt,.slice kp len cap]] w fun e w'=>e=.returned (.bool (cC k))/\aA w w':=by
 by_cases h1:k=1
 ·have a0:(k==1)=true:=by simp[h1]
  have H:Hid (cC k=true):=by show cC k=true;simp[cC,h1]
  clear h1;go_enter Tryz.func212,Tryz.ntmps212;go_wp2
  go_ret;exact⟨aK H.out.symm,aA.alloc _ _⟩
 ·have a0:(k==1)=false:=by simp[h1]
  have H:Hid (cC k=(k==2)):=by show cC k=(k==2);simp[cC,h1]
  clear h1;go_enter Tryz.func212,Tryz.ntmps212;go_wp2
  go_ret;exact⟨aK H.out.symm,aA.alloc _ _⟩
theorem aMf(k:Int)(a:At)(fl:ByteArray)(nt:Bool)(len:Nat):
  (k<1/\Hid (bY k a fl nt len=false))\/(¬k<1/\5<k/\Hid (bY k a fl nt len=false))
  \/(¬k<1/\¬5<k/\Hid (cC k=true)/\(0:Int)<len/\Hid (bY k a fl nt len=false))
  \/(¬k<1/\¬5<k/\Hid (cC k=true)/\¬(0:Int)<len/\(k==5)=false/\Hid (bY k a fl nt len=(fl.toList.isEmpty && !nt)))
  \/(¬k<1/\¬5<k/\Hid (cC k=false)/\Hid (oL a=false)/\Hid (bY k a fl nt len=false))
  \/(¬k<1/\¬5<k/\Hid (cC k=false)/\Hid (oL a=true)/\(k==5)=true/\Hid (bY k a fl nt len=true))
  \/(¬k<1/\¬5<k/\Hid (cC k=false)/\Hid (oL a=true)/\(k==5)=false/\Hid (bY k a fl nt len=(fl.toList.isEmpty && !nt))):=by
 by_cases h1:k<1
 ·exact Or.inl ⟨h1,by show _=_;simp[bY];omega⟩
 ·by_cases h2:5<k
  ·exact Or.inr (Or.inl ⟨h1,h2,by show _=_;simp[bY];omega⟩)
  ·have e1:decide (1<=k)=true:=Y7 (by omega);have e2:decide (k<=5)=true:=Y7 (by omega);cases h3:cC k
   ·cases h4:oL a
    ·exact Or.inr (Or.inr (Or.inr (Or.inr (Or.inl ⟨h1,h2,rfl,rfl,by show _=_;unfold bY;rw[e1,e2,h3,h4];simp⟩))))
    ·cases h5:(k==5)
     ·exact Or.inr (Or.inr (Or.inr (Or.inr (Or.inr (Or.inr ⟨h1,h2,rfl,rfl,rfl,by show _=_;unfold bY;rw[e1,e2,h3,h4,h5];simp⟩)))))
     ·exact Or.inr (Or.inr (Or.inr (Or.inr (Or.inr (Or.inl ⟨h1,h2,rfl,rfl,rfl,by show _=_;unfold bY;rw[e1,e2,h3,h4,h5];simp⟩)))))
   ·by_cases h4:(0:Int)<len
    ·refine Or.inr (Or.inr (Or.inl ⟨h1,h2,rfl,h4,?_⟩));show _=_;unfold bY;rw[e1,e2,h3,Y7 (by omega)];simp
    ·have h5:(k==5)=false:=by
      simp[cC] at h3;simp;omega
     refine Or.inr (Or.inr (Or.inr (Or.inl ⟨h1,h2,rfl,h4,h5,?_⟩)));show _=_;unfold bY;rw[e1,e2,h3,h5,Y8 (by omega)];simp
theorem aDs(k:Int)(n f:ByteArray)(op v sl:Int)(on:Bool)(fl:ByteArray)(nt:Bool)(kp:Option Addr)(len cap:Nat)(w:World):
  Calls Tryz.prog 211 #[.agg #[.int .i64 k,.string n,.int .i64 op,.int .i64 v,.int .i64 sl,.string f,.bool on,.string fl,.bool nt,.slice kp len cap]] w fun e w'=>e=.returned (.bool (bY k ⟨n,op,v,sl,f,on⟩ fl nt len))/\aA w w':=by
 rcases aMf k ⟨n,op,v,sl,f,on⟩ fl nt len with ⟨h1,H⟩ | ⟨h1,h2,H⟩ | ⟨h1,h2,L,h3,H⟩ | ⟨h1,h2,L,h3,h4,H⟩ | ⟨h1,h2,L,Z,H⟩ | ⟨h1,h2,L,Z,h4,H⟩ | ⟨h1,h2,L,Z,h4,H⟩
 ·go_enter Tryz.func211,Tryz.ntmps211;go_wp2
  go_ret;exact⟨aK H.out.symm,aA.alloc _ _⟩
 ·go_enter Tryz.func211,Tryz.ntmps211;go_wp2
  go_ret;exact⟨aK H.out.symm,aA.alloc _ _⟩
 all_goals
  have a3:=aL.new w #[.int .i64 k,.string n,.int .i64 op,.int .i64 v,.int .i64 sl,.string f,.bool on,.string fl,.bool nt,.slice kp len cap] 96;have K0:=aA.alloc w (.cells #[.int .i64 k,.string n,.int .i64 op,.int .i64 v,.int .i64 sl,.string f,.bool on,.string fl,.bool nt,.slice kp len cap] 96);have a2:Hid (aL w.heap.size #[.int .i64 k,.string n,.int .i64 op,.int .i64 v,.int .i64 sl,.string f,.bool on,.string fl,.bool nt,.slice kp len cap] (w.alloc (.cells #[.int .i64 k,.string n,.int .i64 op,.int .i64 v,.int .i64 sl,.string f,.bool on,.string fl,.bool nt,.slice kp len cap] 96))):=a3;clear a3;go_enter Tryz.func211,Tryz.ntmps211;go_wp2_with fail;generalize w.alloc (.cells #[.int .i64 k,.string n,.int .i64 op,.int .i64 v,.int .i64 sl,.string f,.bool on,.string fl,.bool nt,.slice kp len cap] 96)=W0 at K0 a2 |-
  refine (jX _ _ _ _ _ _ _ _ _ _ _ _ _).mono ?_;rintro e w1 ⟨rfl,k1⟩;rw[L.out];have a0:Hid (aL w.heap.size #[.int .i64 k,.string n,.int .i64 op,.int .i64 v,.int .i64 sl,.string f,.bool on,.string fl,.bool nt,.slice kp len cap] w1):=a2.out.keep k1 a2.out.1;have K1:=K0.trans k1;clear k1 a2;have a6:=a0.out.2;have a5:=a0.out.1;go_wp2_with fail
 ·go_ret;exact⟨aK H.out.symm,K1⟩
 all_goals
  refine (jX _ _ _ _ _ _ _ _ _ _ _ _ _).mono ?_;rintro e w2 ⟨rfl,k2⟩;rw[L.out];have a4:Hid (aL w.heap.size #[.int .i64 k,.string n,.int .i64 op,.int .i64 v,.int .i64 sl,.string f,.bool on,.string fl,.bool nt,.slice kp len cap] w2):=a0.out.keep k2 a0.out.1;have K2:=K1.trans k2;clear k2 a0 a6 a5;have a8:=a4.out.2;have a7:=a4.out.1
 ·cases hfe:fl.toList.isEmpty<;>cases nt
  all_goals
   rw[hfe] at H;go_wp2_with fail;go_ret;exact⟨aK H.out.symm,K2⟩
 ·have a1:=fun wx=>sC n op v sl f on ⟨#[]⟩ 0 0 0 ⟨#[]⟩ false wx;rw[show kZ n op v sl f on ⟨#[]⟩ 0 0 0 ⟨#[]⟩ false=false from Z.out] at a1;go_wp2_with fail;go_ret;exact⟨aK H.out.symm,K2⟩
 ·have a1:=fun wx=>sC n op v sl f on ⟨#[]⟩ 0 0 0 ⟨#[]⟩ false wx;rw[show kZ n op v sl f on ⟨#[]⟩ 0 0 0 ⟨#[]⟩ false=true from Z.out] at a1;go_wp2_with fail;go_ret;exact⟨aK H.out.symm,K2⟩
 ·have a1:=fun wx=>sC n op v sl f on ⟨#[]⟩ 0 0 0 ⟨#[]⟩ false wx;rw[show kZ n op v sl f on ⟨#[]⟩ 0 0 0 ⟨#[]⟩ false=true from Z.out] at a1;cases hfe:fl.toList.isEmpty<;>cases nt
  all_goals
   rw[hfe] at H;go_wp2_with fail;go_ret;exact⟨aK H.out.symm,K2⟩
theorem aNa(k:Int)(a:At)(fl:ByteArray)(nt:Bool)(kids:List NT):
  (Hid (bY k a fl nt kids.length=false)/\Hid (bF (.node k a fl nt kids)=4))
  \/(Hid (bY k a fl nt kids.length=true)/\(k==5)=true/\Hid (aP fl.data.toList=false)/\Hid (bF (.node k a fl nt kids)=1))
  \/(Hid (bY k a fl nt kids.length=true)/\(k==5)=true/\Hid (aP fl.data.toList=true)/\Hid (cC k=false)/\Hid (bF (.node k a fl nt kids)=0))
  \/(Hid (bY k a fl nt kids.length=true)/\(k==5)=false/\Hid (cC k=false)/\Hid (bF (.node k a fl nt kids)=0))
  \/(Hid (bY k a fl nt kids.length=true)/\(k==5)=false/\Hid (cC k=true)/\Hid (bF (.node k a fl nt kids)=fQ a)):=by
 cases h:bY k a fl nt kids.length
 ·exact Or.inl ⟨rfl,by show _=_;rw[bF,if_pos h]⟩
 ·by_cases h5:k=5
  ·have a0:(k==5)=true:=by simp[h5]
   have hl:cC k=false:=by subst h5;rfl
   cases hn:aP fl.data.toList
   ·exact Or.inr (Or.inl ⟨rfl,a0,rfl,by show _=_;rw[bF,if_neg (by rw[h];decide),if_pos ⟨h5,hn⟩]⟩)
   ·refine Or.inr (Or.inr (Or.inl ⟨rfl,a0,rfl,hl,?_⟩));show _=_;rw[bF,if_neg (by rw[h];decide),if_neg (by rw[hn];simp),if_neg (by rw[hl];decide)]
  ·have a0:(k==5)=false:=by simp[h5]
   cases hl:cC k
   ·refine Or.inr (Or.inr (Or.inr (Or.inl ⟨rfl,a0,rfl,?_⟩)));show _=_;rw[bF,if_neg (by rw[h];decide),if_neg (fun e=>h5 e.1),if_neg (by rw[hl];decide)]
   ·refine Or.inr (Or.inr (Or.inr (Or.inr ⟨rfl,a0,rfl,?_⟩)));show _=_;rw[bF,if_neg (by rw[h];decide),if_neg (fun e=>h5 e.1),if_pos hl]
theorem xR(k:Int)(n f:ByteArray)(op v sl:Int)(on:Bool)(fl:ByteArray)(nt:Bool)(kp:Option Addr)(kids:List NT)(cap:Nat)(w:World):
  Calls Tryz.prog 183 #[.agg #[.int .i64 k,.string n,.int .i64 op,.int .i64 v,.int .i64 sl,.string f,.bool on,.string fl,.bool nt,.slice kp kids.length cap]] w fun e w'=>e=.returned (.int .i64 (bF (.node k ⟨n,op,v,sl,f,on⟩ fl nt kids)))/\aA w w':=by
 have a0:=aNa k ⟨n,op,v,sl,f,on⟩ fl nt kids;generalize kids.length=len at a0 |-
 rcases a0 with ⟨F,H⟩ | ⟨F,h5,M,H⟩ | ⟨F,h5,M,L,H⟩ | ⟨F,h5,L,H⟩ | ⟨F,h5,L,H⟩
 all_goals
  have a3:=aL.new w #[.int .i64 k,.string n,.int .i64 op,.int .i64 v,.int .i64 sl,.string f,.bool on,.string fl,.bool nt,.slice kp len cap] 96;have K0:=aA.alloc w (.cells #[.int .i64 k,.string n,.int .i64 op,.int .i64 v,.int .i64 sl,.string f,.bool on,.string fl,.bool nt,.slice kp len cap] 96);have a2:Hid (aL w.heap.size #[.int .i64 k,.string n,.int .i64 op,.int .i64 v,.int .i64 sl,.string f,.bool on,.string fl,.bool nt,.slice kp len cap] (w.alloc (.cells #[.int .i64 k,.string n,.int .i64 op,.int .i64 v,.int .i64 sl,.string f,.bool on,.string fl,.bool nt,.slice kp len cap] 96))):=a3;clear a3;go_enter Tryz.func183,Tryz.ntmps183;go_wp2_with fail;generalize w.alloc (.cells #[.int .i64 k,.string n,.int .i64 op,.int .i64 v,.int .i64 sl,.string f,.bool on,.string fl,.bool nt,.slice kp len cap] 96)=W0 at K0 a2 |-
  refine (aDs _ _ _ _ _ _ _ _ _ _ _ _ _).mono ?_;rintro e w1 ⟨rfl,k1⟩;rw[F.out];have a1:Hid (aL w.heap.size #[.int .i64 k,.string n,.int .i64 op,.int .i64 v,.int .i64 sl,.string f,.bool on,.string fl,.bool nt,.slice kp len cap] w1):=a2.out.keep k1 a2.out.1;have K1:=K0.trans k1;clear k1 a2;have a7:=a1.out.2;have a6:=a1.out.1;go_wp2_with fail
 ·go_ret;exact⟨aD H.out.symm,K1⟩
 ·refine (dH _ _).mono ?_;rintro e w2 ⟨rfl,rfl⟩;rw[M.out];go_wp2_with fail;go_ret;exact⟨aD H.out.symm,K1⟩
 ·refine (dH _ _).mono ?_;rintro e w2 ⟨rfl,rfl⟩;rw[M.out];go_wp2_with fail;refine (jX _ _ _ _ _ _ _ _ _ _ _ _ _).mono ?_;rintro e w2 ⟨rfl,k2⟩;rw[L.out];go_wp2_with fail;go_ret;exact⟨aD H.out.symm,K1.trans k2⟩
 ·refine (jX _ _ _ _ _ _ _ _ _ _ _ _ _).mono ?_;rintro e w2 ⟨rfl,k2⟩;rw[L.out];go_wp2_with fail;go_ret;exact⟨aD H.out.symm,K1.trans k2⟩
 ·refine (jX _ _ _ _ _ _ _ _ _ _ _ _ _).mono ?_;rintro e w2 ⟨rfl,k2⟩;rw[L.out];have a4:Hid (aL w.heap.size #[.int .i64 k,.string n,.int .i64 op,.int .i64 v,.int .i64 sl,.string f,.bool on,.string fl,.bool nt,.slice kp len cap] w2):=a1.out.keep k2 a1.out.1;have K2:=K1.trans k2;clear k2 a1 a7 a6;have a8:=a4.out.2;have a5:=a4.out.1;go_wp2_with fail;refine (oQ _ _ _ _ _ _ _).mono ?_;rintro e w3 ⟨rfl,k3⟩;have K3:=K2.trans k3;clear a8 a5;go_wp2_with fail;go_ret;exact⟨aD H.out.symm,K3⟩
end Go.Proofs.YthjlcjdlelkkdaaGreatDoor
namespace Go.Proofs.YthjlcjdlelkkdaaGreatDoor
open Go.RowKit
mutual
def aH(S:Nat->Prop)(w:World):NT->List Value->Prop
 | .node k a fl nt kids,cs=> ∃(kp:Option Addr) (cap:Nat),cs = [.int .i64 k,.string a.n,.int .i64 a.op,.int .i64 a.v,.int .i64 a.sl,.string a.f,.bool a.on,.string fl,.bool nt,.slice kp kids.length cap]/\kids.length<=cap/\kids.length<=9223372036854775807/\bJ S w kids kp 0
def bJ(S:Nat->Prop)(w:World):List NT->Option Addr->Nat->Prop
 | [],_,_=>True
 | t :: ts,kp,i=>(∃(p:Addr) (cs:List Value),kp=some p/\S p.block/\(∀j v,cs[j]? = some v->w.cell? ((p.add (i*10)).add j)=some v)/\aH S w t cs)/\bJ S w ts kp (i+1)
end
theorem dQ{S:Nat->Prop}{w:World}{kp:Option Addr}:∀ {ts:List NT} {i:Nat},bJ S w ts kp i->∀(j:Nat) (h:j<ts.length),∃(p:Addr) (cs:List Value),kp=some p/\S p.block/\(∀m v,cs[m]? = some v->w.cell? ((p.add ((i+j)*10)).add m)=some v)/\aH S w ts[j] cs
 | [],_,_,j,h=>absurd h (Q5 _)
 | t :: ts,i,hk,j,h=>by
  rw[bJ] at hk;cases j with
  | zero=>exact hk.1
  | succ j=>
   have:=dQ hk.2 j (by simpa using h);rw[show i+1+j=i+(j+1) by omega] at this;exact this
mutual
theorem aH.mono{S S':Nat->Prop}{w w':World}(hw:∀p:Addr,S p.block->w'.cell? p=w.cell? p)(hS:∀b,S b->S' b):∀(t:NT) (cs:List Value),aH S w t cs->aH S' w' t cs
 | .node k a fl nt kids,cs,h=>by
  rw[aH] at h |-
  obtain⟨kp,cap,h1,h2,h3,h4⟩:=h;exact⟨kp,cap,h1,h2,h3,bJ.mono hw hS kids kp 0 h4⟩
theorem bJ.mono{S S':Nat->Prop}{w w':World}(hw:∀p:Addr,S p.block->w'.cell? p=w.cell? p)(hS:∀b,S b->S' b):∀(ts:List NT) (kp:Option Addr) (i:Nat),bJ S w ts kp i->bJ S' w' ts kp i
 | [],_,_,_=>by rw[bJ];trivial
 | t :: ts,kp,i,h=>by
  rw[bJ] at h |-
  obtain⟨⟨p,cs,h1,h2,h3,h4⟩,h5⟩:=h;refine⟨⟨p,cs,h1,hS _ h2,fun j v hv=>?_,aH.mono hw hS t cs h4⟩,bJ.mono hw hS ts kp (i+1) h5⟩;have hb:((p.add (i*10)).add j).block=p.block:=by unfold Addr.add;split<;>split<;>rfl
  rw[hw _ (by rw[hb];exact h2)];exact h3 j v hv
end
theorem bW(p:Addr)(n:Nat):(p.add n).block=p.block:=by unfold Addr.add;split<;>rfl
structure bD (Own:World->Nat->Prop) (w w':World):Prop where
 os:w'.os=w.os
 tape:w'.tape=w.tape
 output:w'.output=w.output
 size:w.heap.size<=w'.heap.size
 block:∀b,b<w.heap.size->¬Own w b->w'.heap[b]? = w.heap[b]?
 own:∀b,b<w.heap.size->Own w' b->Own w b
theorem bD.cell{Own:World->Nat->Prop}{w w':World}(h:bD Own w w')(p:Addr)(hp:p.block<w.heap.size)(ho:¬Own w p.block):w'.cell? p=w.cell? p:=
 X0 (w:=w) (h.block p.block hp ho)
theorem bD.refl(Own:World->Nat->Prop)(w:World):bD Own w w:=⟨rfl,rfl,rfl,Y1 _,fun _ _ _=>rfl,fun _ _ h=>h⟩
theorem bD.trans{Own:World->Nat->Prop}{a b c:World}(h:bD Own a b)(k:bD Own b c):bD Own a c where
 os:=k.os.trans h.os
 tape:=k.tape.trans h.tape
 output:=k.output.trans h.output
 size:=U2 h.size k.size
 block p hp ho:=by
  rw[k.block p (R8 hp h.size) (fun e=>ho (h.own _ hp e)),h.block p hp ho]
 own b hb e:=h.own b hb (k.own b (R8 hb h.size) e)
theorem bD.below{Own:World->Nat->Prop}{w w':World}(h:bD Own w w'){B:Nat}(hB:B<=w.heap.size)(ho:∀b,b<B->¬Own w b):Below B w w':=
 ⟨h.os,h.tape,h.output,h.size,fun k hk=>h.block k (R8 hk hB) (ho k hk)⟩
def eV{σ:Type}(Inv:σ->World->Prop)(Live:σ->Prop)(Own:World->Nat->Prop)(w:World)(r:σ × Bool)(e:Ending)(w':World):Prop:=
 e=.returned (.bool r.2)/\Inv r.1 w'/\(r.2=true->Live r.1)/\bD Own w w'
structure uI {σ:Type} (F:Nat) (cap:Array Value) (S:Nat->Prop) (f:σ->NT->Int->σ × Bool) (Inv:σ->World->Prop) (Live:σ->Prop) (Own:World->Nat->Prop):Prop where
 keep:∀s w w',Inv s w->aA w w'->Inv s w'/\bD Own w w'/\∀b,Own w' b->Own w b
 old:∀s w,Inv s w->∀b,S b->b<w.heap.size/\¬Own w b
 own:∀s w,Inv s w->∀b,Own w b->b<w.heap.size
 call:∀s t d cs w,Inv s w->Live s->aH S w t cs->Calls Tryz.prog F (#[.agg cs.toArray,.int .i64 d]++cap) w fun e w'=>eV Inv Live Own w (f s t d) e w'
theorem aH.apart{σ:Type}{F:Nat}{cap:Array Value}{S:Nat->Prop}{f:σ->NT->Int->σ × Bool}{Inv:σ->World->Prop}{Live:σ->Prop}{Own:World->Nat->Prop}(V:uI F cap S f Inv Live Own)
  {s:σ} {w w':World} (hi:Inv s w) (ha:bD Own w w') {t:NT} {cs:List Value} (h:aH S w t cs):aH S w' t cs:=
 aH.mono (fun p hp=>ha.cell p (V.old s w hi _ hp).1 (V.old s w hi _ hp).2) (fun _ h=>h) t cs h
theorem bJ.apart{σ:Type}{F:Nat}{cap:Array Value}{S:Nat->Prop}{f:σ->NT->Int->σ × Bool}{Inv:σ->World->Prop}{Live:σ->Prop}{Own:World->Nat->Prop}(V:uI F cap S f Inv Live Own)
  {s:σ} {w w':World} (hi:Inv s w) (ha:bD Own w w') {ts:List NT} {kp:Option Addr} {i:Nat} (h:bJ S w ts kp i):bJ S w' ts kp i:=
 bJ.mono (fun p hp=>ha.cell p (V.old s w hi _ hp).1 (V.old s w hi _ hp).2) (fun _ h=>h) ts kp i h
theorem iF{w:World}{q:Addr}{v0 v1 v2 v3 v4 v5 v6 v7 v8 v9:Value}(h:∀(m:Nat) (v:Value),[v0,v1,v2,v3,v4,v5,v6,v7,v8,v9][m]? = some v->w.cell? (q.add m)=some v):
  w.cell? q=some v0/\w.cell? ⟨q.block,q.off+1,none⟩=some v1/\w.cell? ⟨q.block,q.off+2,none⟩=some v2/\w.cell? ⟨q.block,q.off+3,none⟩=some v3/\w.cell? ⟨q.block,q.off+4,none⟩=some v4/\w.cell? ⟨q.block,q.off+5,none⟩=some v5/\w.cell? ⟨q.block,q.off+6,none⟩=some v6/\w.cell? ⟨q.block,q.off+7,none⟩=some v7/\w.cell? ⟨q.block,q.off+8,none⟩=some v8/\w.cell? ⟨q.block,q.off+9,none⟩=some v9:=
 ⟨h 0 _ rfl,h 1 _ rfl,h 2 _ rfl,h 3 _ rfl,h 4 _ rfl,h 5 _ rfl,h 6 _ rfl,h 7 _ rfl,h 8 _ rfl,h 9 _ rfl⟩
theorem vQ{σ:Type}(inc:Int->Int)(f:σ->NT->Int->σ × Bool)(s:σ)(ts:List NT)(d:Int)(i:Nat)(h:i<ts.length):
  bL inc f s (ts.drop i) d=if (bZ inc f s ts[i] d).2=true then bL inc f (bZ inc f s ts[i] d).1 (ts.drop (i+1)) d else ((bZ inc f s ts[i] d).1,false):=by
 rw[Z5 h,bL]
theorem fA:∀(ts:List NT) (i:Nat) (h:i<ts.length),ts[i].size<=bA ts
 | [],_,h=>absurd h (Q5 _)
 | t :: ts,i,h=>by
  rw[bA];cases i with
  | zero=>simp
  | succ i=>
   have:=fA ts i (by simpa using h);simp only[List.getElem_cons_succ];omega
theorem aGe{σ:Type}{F:Nat}{cap:Array Value}{S:Nat->Prop}{f:σ->NT->Int->σ × Bool}{Inv:σ->World->Prop}{Live:σ->Prop}{Own:World->Nat->Prop}(V:uI F cap S f Inv Live Own)
  (hF:∀args w,(callFunc F args).run Tryz.prog w=.ok (.enter F args) w):
  ∀(m:Nat) (t:NT),t.size<=m->∀(s:σ) (d:Int) (cs:List Value) (w:World),Inv s w->Live s->aH S w t cs->
   Calls Tryz.prog 181 #[.agg cs.toArray,.int .i64 d,.func (.func F) #[] cap] w fun e w'=>eV Inv Live Own w (bZ aR f s t d) e w':=by
 intro m
 induction m with
 | zero=>
  rintro⟨k,a,fl,nt,kids⟩ hm;rw[NT.size] at hm;omega
 | succ m ih=>
  rintro⟨k,a,fl,nt,kids⟩ hm s d cs w hi hl hn;rw[NT.size] at hm;have e5:=hn;rw[aH] at hn;obtain⟨kp,kc,rfl,f2,f3,a2⟩:=hn;have hv:∀(w:World) (cs:List Value),Inv s w->aH S w (.node k a fl nt kids) cs->Calls Tryz.prog F (#[.agg cs.toArray,.int .i64 d]++cap) w fun e w'=>eV Inv Live Own w (f s (.node k a fl nt kids) d) e w':=fun w cs h1 h2=>V.call s _ d cs w h1 hl h2;rw[show bZ aR f s (.node k a fl nt kids) d=if (f s (.node k a fl nt kids) d).2=true then bL aR f (f s (.node k a fl nt kids) d).1 kids (aR d) else ((f s (.node k a fl nt kids) d).1,false) from by rw[bZ]];generalize f s (.node k a fl nt kids) d=r at hv |-
  obtain⟨s1,b1⟩:=r;have b4:=aL.new w #[.int .i64 k,.string a.n,.int .i64 a.op,.int .i64 a.v,.int .i64 a.sl,.string a.f,.bool a.on,.string fl,.bool nt,.slice kp kids.length kc] 96;have K0:=aA.alloc w (.cells #[.int .i64 k,.string a.n,.int .i64 a.op,.int .i64 a.v,.int .i64 a.sl,.string a.f,.bool a.on,.string fl,.bool nt,.slice kp kids.length kc] 96);go_enter Tryz.func181,Tryz.ntmps181;go_wp2_with fail;generalize w.alloc (.cells #[.int .i64 k,.string a.n,.int .i64 a.op,.int .i64 a.v,.int .i64 a.sl,.string a.f,.bool a.on,.string fl,.bool nt,.slice kp kids.length kc] 96)=W0 at K0 b4 |-
  obtain⟨d3,a7,d1⟩:=V.keep s w W0 hi K0;have a6:Hid (aL w.heap.size #[.int .i64 k,.string a.n,.int .i64 a.op,.int .i64 a.v,.int .i64 a.sl,.string a.f,.bool a.on,.string fl,.bool nt,.slice kp kids.length kc] W0):=b4;have e4:¬Own W0 w.heap.size:=fun h=>absurd (V.own s w hi _ (d1 _ h)) (Nat.lt_irrefl _);refine (hv W0 _ d3 (aH.apart V hi a7 e5)).mono ?_;rintro e w1 ⟨rfl,a9,d2,a5⟩;have b2:Hid (aL w.heap.size #[.int .i64 k,.string a.n,.int .i64 a.op,.int .i64 a.v,.int .i64 a.sl,.string a.f,.bool a.on,.string fl,.bool nt,.slice kp kids.length kc] w1):=
   ⟨R8 a6.out.1 a5.size,fun o=>(a5.cell ⟨w.heap.size,o,none⟩ a6.out.1 e4).trans (a6.out.2 o)⟩
  have e9:bJ S w1 kids kp 0:=bJ.apart V hi (a7.trans a5) a2;have b0:Hid (bD Own w w1):=a7.trans a5;have f5:=b2.out.2;have f6:=b2.out.1;clear e5 a2 b4 K0 d3 a7 d1 a6 e4 a5 hi hl b2 hv;cases b1
  ·go_wp2_with fail;go_ret;exact (show eV Inv Live Own w (s1,false) _ _ from⟨rfl,a9,fun h=>(by cases h),b0.out⟩)
  ·have d0:Hid (Live s1):=d2 rfl;have d6:Hid (Inv s1 w1):=a9;have e0:Hid (bJ S w1 kids kp 0):=e9;clear d2 a9 e9;go_wp2_with fail;go_loopw [17] (fun i wr=> ∃j:Nat,j<=kids.length/\i=.int .i64 j/\∃s',Inv s' wr/\Live s'/\bL aR f s1 kids (aR d)=bL aR f s' (kids.drop j) (aR d)/\bJ S wr kids kp 0/\bD Own w wr) (fun i _=>kids.length-(intOf i).toNat)
   case atStart=>exact⟨0,Nat.zero_le _,rfl,s1,d6.out,d0.out,by simp,e0.out,b0.out⟩
   case round=>
    obtain⟨j,hj,rfl,s',d8,d5,d9,e7,e6⟩:=hrel;have HI:Hid (Inv s' wr):=d8;have HL:Hid (Live s'):=d5;have HE:Hid (bL aR f s1 kids (aR d)=bL aR f s' (kids.drop j) (aR d)):=d9;have HK:Hid (bJ S wr kids kp 0):=e7;have HA:Hid (bD Own w wr):=e6;clear d8 d5 d9 e7 e6 d0 d6 e0 b0 f5;by_cases hlt:j<kids.length
    ·have b8:Hid (bL aR f s1 kids (aR d)=if (bZ aR f s' kids[j] (aR d)).2=true then bL aR f (bZ aR f s' kids[j] (aR d)).1 (kids.drop (j+1)) (aR d) else ((bZ aR f s' kids[j] (aR d)).1,false)):=by
      show _=_;rw[HE.out,vQ aR f s' kids (aR d) j hlt]
     obtain⟨p,cs,hp,hS,a0,a1⟩:=dQ HK.out j hlt;have f1:=ih kids[j] (by have:=fA kids j hlt;omega) s' (aR d);have HN:Hid (aH S wr kids[j] cs):=a1;subst hp;rw[Z6] at a0;cases hkid:kids[j] with
     | node k' a' fl' nt' kids'=>
     rw[hkid,aH] at a1;obtain⟨a4,a3,rfl,-,-,-⟩:=a1;obtain⟨c0,c1,c2,c3,c4,c5,c6,c7,c8,c9⟩:=iF a0;clear a0;have e3:Hid (∀(cs:List Value) (w:World),Inv s' w->Live s'->aH S w kids[j] cs->Calls Tryz.prog 181 #[.agg cs.toArray,.int .i64 (aR d),.func (.func F) #[] cap] w fun e w'=>eV Inv Live Own w (bZ aR f s' kids[j] (aR d)) e w'):=f1;clear f1 ih;have k2:=aA.alloc wr (.cells #[.int .i64 k',.string a'.n,.int .i64 a'.op,.int .i64 a'.v,.int .i64 a'.sl,.string a'.f,.bool a'.on,.string fl',.bool nt',.slice a4 kids'.length a3] 96);obtain⟨f0,b5,-⟩:=V.keep s' wr _ HI.out k2;have d7:=aH.apart V HI.out b5 HN.out;have e2:Hid (Inv s' (wr.alloc (.cells #[.int .i64 k',.string a'.n,.int .i64 a'.op,.int .i64 a'.v,.int .i64 a'.sl,.string a'.f,.bool a'.on,.string fl',.bool nt',.slice a4 kids'.length a3] 96))):=f0;have e8:Hid (bD Own wr (wr.alloc (.cells #[.int .i64 k',.string a'.n,.int .i64 a'.op,.int .i64 a'.v,.int .i64 a'.sl,.string a'.f,.bool a'.on,.string fl',.bool nt',.slice a4 kids'.length a3] 96))):=b5;have d4:Hid (aH S (wr.alloc (.cells #[.int .i64 k',.string a'.n,.int .i64 a'.op,.int .i64 a'.v,.int .i64 a'.sl,.string a'.f,.bool a'.on,.string fl',.bool nt',.slice a4 kids'.length a3] 96)) kids[j] [Value.int IntKind.i64 k',Value.string a'.n,Value.int IntKind.i64 a'.op,Value.int IntKind.i64 a'.v,Value.int IntKind.i64 a'.sl,Value.string a'.f,Value.bool a'.on,Value.string fl',Value.bool nt',Value.slice a4 kids'.length a3]):=d7;clear f0 b5 d7 k2 hkid;go_wp2_with fail;generalize wr.alloc (.cells #[.int .i64 k',.string a'.n,.int .i64 a'.op,.int .i64 a'.v,.int .i64 a'.sl,.string a'.f,.bool a'.on,.string fl',.bool nt',.slice a4 kids'.length a3] 96)=W2 at e2 e8 d4 |-
     clear c0 c1 c2 c3 c4 c5 c6 c7 c8 c9;rw[show wrap64 (d+1)=aR d from rfl];refine (e3.out _ W2 e2.out HL.out d4.out).mono ?_;rintro e w3 ⟨rfl,b7,a8,e1⟩;have b6:Hid (bD Own wr w3):=e8.out.trans e1;generalize bZ aR f s' kids[j] (aR d)=r at b8 b7 a8 |-
     obtain⟨s3,b3⟩:=r;have b9:Hid (Inv s3 w3):=b7;clear b7 e1 e3 HE;cases b3
     ·clear a8;go_wp2_with fail;go_ret;show eV Inv Live Own w (bL aR f s1 kids (aR d)) _ _;rw[b8.out];exact⟨rfl,b9.out,fun h=>(by cases h),HA.out.trans b6.out⟩
     ·have f4:Hid (Live s3):=a8 rfl;clear a8;go_wp2_with fail;go_roundw
      case rel=>exact⟨j+1,by omega,by go_num,s3,b9.out,f4.out,b8.out,bJ.apart V HI.out b6.out HK.out,HA.out.trans b6.out⟩
      case measure=>simp[intOf];omega
    ·go_wp2_with fail;go_ret;show eV Inv Live Own w (bL aR f s1 kids (aR d)) _ _;rw[HE.out,List.drop_eq_nil_of_le (by omega),bL];exact⟨rfl,HI.out,fun _=>HL.out,HA.out⟩
end Go.Proofs.YthjlcjdlelkkdaaGreatDoor
namespace Go.Proofs.YthjlcjdlelkkdaaGreatDoor
open Go.RowKit
def aE(c:Nat)(T:TypeId)(v:Value)(w:World):Prop:=w.heap[c]? = some (.cells #[v] T (0,0))
theorem aE.facts{c:Nat}{T:TypeId}{v:Value}{w:World}(h:aE c T v w):w.cell? ⟨c,0,none⟩=some v/\w.frozen? ⟨c,0,none⟩=false/\c<w.heap.size:=by
 unfold aE at h;refine⟨by simp[World.cell?,h],by simp[World.frozen?,h],(U9.1 h).1⟩
theorem aE.set{c:Nat}{T:TypeId}{v:Value}{w:World}(h:aE c T v w)(x:Value):aE c T x (w.setCell ⟨c,0,none⟩ x):=by
 have:=aJ h 0 x;unfold aE;rw[this];rfl
theorem aE.keep{c B:Nat}{T:TypeId}{v:Value}{w w':World}(h:aE c T v w)(k:Below B w w')(hB:c<B):aE c T v w':=by
 unfold aE at *;rw[k.block c hB];exact h
theorem aE.new(w:World)(T:TypeId)(v:Value):aE w.heap.size T v (w.alloc (.cells #[v] T)):=by
 show (w.heap.push _)[w.heap.size]? = _;rw[Array.getElem?_push,if_pos rfl]
def One(c:Nat)(_:World)(b:Nat):Prop:=b=c
theorem cO{c:Nat}{w w':World}(k:aA w w'):bD (One c) w w':=
 ⟨k.os,k.tape,k.output,k.size,fun b hb _=>k.block b hb,fun _ _ h=>h⟩
theorem kV(c:Nat)(w:World)(x:Value):bD (One c) w (w.setCell ⟨c,0,none⟩ x):=by
 have k:Below c w (w.setCell ⟨c,0,none⟩ x):=aQ w c 0 x;refine⟨k.os,k.tape,k.output,k.size,fun b _ ho=>?_,fun _ _ h=>h⟩;exact Below.heap_setCell _ _ _ _ (fun e=>ho e)
def aAf(c:Nat)(s:Int)(w:World):Prop:=aE c 3 (.int .i64 s) w/\0<=s
theorem gO{c:Nat}{T:TypeId}{u:Value}{w:World}(h:aE c T u w)(x:Value)(o:Obj):aE c T x ((w.setCell ⟨c,0,none⟩ x).alloc o)/\bD (One c) w ((w.setCell ⟨c,0,none⟩ x).alloc o):=by
 have h1:=h.set x;exact⟨h1.keep (aA.alloc _ o) h1.facts.2.2,(kV c w x).trans (cO (aA.alloc _ o))⟩
theorem aGu(c:Nat)(s:Int)(k:Int)(a:At)(fl:ByteArray)(nt:Bool)(kp:Option Addr)(len kc:Nat)(d:Int)(w:World)(hi:aAf c s w)(hl:s<=20)(t:NT):
  Calls Tryz.prog 210 #[.agg #[.int .i64 k,.string a.n,.int .i64 a.op,.int .i64 a.v,.int .i64 a.sl,.string a.f,.bool a.on,.string fl,.bool nt,.slice kp len kc],.int .i64 d,.pointer (some ⟨c,0,none⟩)] w
   fun e w'=>eV (aAf c) (fun s=>s<=20) (One c) w (fN s t d) e w':=by
 obtain⟨hv,h0⟩:=hi;obtain⟨hc,hz,a0⟩:=hv.facts;have HV:Hid (aE c 3 (.int .i64 s) w):=hv;clear hv;by_cases h20:s+1<=20
 ·have HF:Hid (fN s t d=(s+1,decide (d<=4))):=by show _=_;unfold fN;rw[Y7 h20];rfl
  go_enter Tryz.func210,Tryz.ntmps210;go_wp2_with fail;go_ret;show eV _ _ _ w (fN s t d) _ _;rw[HF.out];exact⟨rfl,⟨(gO HV.out _ _).1,by show 0<=s+1;omega⟩,fun _=>h20,(gO HV.out _ _).2⟩
 ·have HF:Hid (fN s t d=(s+1,false)):=by show _=_;unfold fN;rw[Y8 h20];rfl
  go_enter Tryz.func210,Tryz.ntmps210;go_wp2_with fail;go_ret;show eV _ _ _ w (fN s t d) _ _;rw[HF.out];exact⟨rfl,⟨(gO HV.out _ _).1,by show 0<=s+1;omega⟩,fun h=>(by cases h),(gO HV.out _ _).2⟩
theorem aAn(c:Nat)(S:Nat->Prop)(hS:∀b,S b->b<c):uI 210 #[.pointer (some ⟨c,0,none⟩)] S fN (aAf c) (fun s=>s<=20) (One c) where
 keep s w w' hi k:=⟨⟨hi.1.keep k hi.1.facts.2.2,hi.2⟩,cO k,fun _ h=>h⟩
 old s w hi b hb:=⟨Nat.lt_trans (hS b hb) hi.1.facts.2.2,fun e=>absurd (hS b hb) (by rw[show b=c from e];exact Nat.lt_irrefl _)⟩
 own s w hi b hb:=by rw[show b=c from hb];exact hi.1.facts.2.2
 call s t d cs w hi hl hn:=by
  obtain⟨k,a,fl,nt,kids⟩:=t
  rw[aH] at hn
  obtain⟨kp,kc,rfl,-,-,-⟩:=hn
  exact aGu c s k a fl nt kp kids.length kc d w hi hl _
theorem aH.keep{S:Nat->Prop}{B:Nat}{w w':World}(hS:∀b,S b->b<B)(k:Below B w w'){t:NT}{cs:List Value}(h:aH S w t cs):aH S w' t cs:=
 aH.mono (fun _ hp=>k.cell (hS _ hp)) (fun _ h=>h) t cs h
theorem aC(w:World)(o:Obj):(w.alloc o).heap.size=w.heap.size+1:=by simp
theorem aDh(args:Array Value)(w:World):(callFunc 210 args).run Tryz.prog w=.ok (.enter 210 args) w:=enters_of Tryz.func210 (by kernel_rfl) rfl args w
theorem aBv(t:NT)(cs:List Value)(w:World)(S:Nat->Prop)(hS:∀b,S b->b<w.heap.size)(hn:aH S w t cs):
  Calls Tryz.prog 180 #[.agg cs.toArray] w fun e w'=>e=.returned (.bool (dY t))/\aA w w':=by
 have a1:=hn;obtain⟨k,a,fl,nt,kids⟩:=t;rw[aH] at a1;obtain⟨kp,kc,rfl,-,-,-⟩:=a1;have a6:∀(fn:Fn) (first cap:Array Value) (w:World),(Instr.makeFunc fn first cap).run Tryz.prog w=.ok (.func fn first cap) w:=fun _ _ _ _=>rfl;have k1:=aA.alloc w (.cells #[.int .i64 k,.string a.n,.int .i64 a.op,.int .i64 a.v,.int .i64 a.sl,.string a.f,.bool a.on,.string fl,.bool nt,.slice kp kids.length kc] 96);have e1:=aC w (.cells #[.int .i64 k,.string a.n,.int .i64 a.op,.int .i64 a.v,.int .i64 a.sl,.string a.f,.bool a.on,.string fl,.bool nt,.slice kp kids.length kc] 96);have v2:=aE.new (w.alloc (.cells #[.int .i64 k,.string a.n,.int .i64 a.op,.int .i64 a.v,.int .i64 a.sl,.string a.f,.bool a.on,.string fl,.bool nt,.slice kp kids.length kc] 96)) 3 (.int .i64 0);have k2:=k1.alloc' (.cells #[.int .i64 0] 3);have a2:Hid (aE (w.heap.size+1) 3 (.int .i64 0) ((w.alloc (.cells #[.int .i64 k,.string a.n,.int .i64 a.op,.int .i64 a.v,.int .i64 a.sl,.string a.f,.bool a.on,.string fl,.bool nt,.slice kp kids.length kc] 96)).alloc (.cells #[.int .i64 0] 3))):=e1 ▸ v2;have a0:Hid (aA w ((w.alloc (.cells #[.int .i64 k,.string a.n,.int .i64 a.op,.int .i64 a.v,.int .i64 a.sl,.string a.f,.bool a.on,.string fl,.bool nt,.slice kp kids.length kc] 96)).alloc (.cells #[.int .i64 0] 3))):=k2;have HN:Hid (aH S w (.node k a fl nt kids) [.int .i64 k,.string a.n,.int .i64 a.op,.int .i64 a.v,.int .i64 a.sl,.string a.f,.bool a.on,.string fl,.bool nt,.slice kp kids.length kc]):=hn;clear k1 e1 v2 k2 hn;go_enter Tryz.func180,Tryz.ntmps180;go_wp2_with fail;generalize (w.alloc (.cells #[.int .i64 k,.string a.n,.int .i64 a.op,.int .i64 a.v,.int .i64 a.sl,.string a.f,.bool a.on,.string fl,.bool nt,.slice kp kids.length kc] 96)).alloc (.cells #[.int .i64 0] 3)=W2 at a2 a0 |-
 refine (aGe (aAn (w.heap.size+1) S (fun b hb=>by have:=hS b hb;omega)) aDh _ _ (Y1 _) 0 1 _ W2 ⟨a2.out,Int.le_refl 0⟩ (show (0:Int)<=20 by decide) (HN.out.keep hS a0.out)).mono ?_;rintro e w3 ⟨rfl,a5,a4,a3⟩;have K3:aA w w3:=Below.trans a0.out (a3.below a0.out.size (fun b hb e=>by have:b=w.heap.size+1:=e;omega));clear a5 a4 a3;have HR:Hid (dY (.node k a fl nt kids) = !(bZ aR fN 0 (.node k a fl nt kids) 1).2):=rfl;go_wp2_with fail;go_ret;exact⟨aK HR.out.symm,K3⟩
def aOi(c:Nat)(s:Int)(w:World):Prop:=aE c 32 (.int .i64 s) w
theorem aPm(c:Nat)(s:Int)(k:Int)(a:At)(fl:ByteArray)(nt:Bool)(kp:Option Addr)(kids:List NT)(kc:Nat)(d:Int)(w:World)(hi:aOi c s w):
  Calls Tryz.prog 182 #[.agg #[.int .i64 k,.string a.n,.int .i64 a.op,.int .i64 a.v,.int .i64 a.sl,.string a.f,.bool a.on,.string fl,.bool nt,.slice kp kids.length kc],.int .i64 d,.pointer (some ⟨c,0,none⟩)] w
   fun e w'=>eV (aOi c) (fun _=>True) (One c) w (fE s (.node k a fl nt kids) d) e w':=by
 have HV:Hid (aE c 32 (.int .i64 s) w):=hi;have a2:=hi.facts.2.2;have k1:=aA.alloc w (.cells #[.int .i64 k,.string a.n,.int .i64 a.op,.int .i64 a.v,.int .i64 a.sl,.string a.f,.bool a.on,.string fl,.bool nt,.slice kp kids.length kc] 96);clear hi;have HF:Hid (fE s (.node k a fl nt kids) d=(bF (.node k a fl nt kids),bF (.node k a fl nt kids)==0)):=rfl;go_enter Tryz.func182,Tryz.ntmps182;go_wp2_with fail;generalize w.alloc (.cells #[.int .i64 k,.string a.n,.int .i64 a.op,.int .i64 a.v,.int .i64 a.sl,.string a.f,.bool a.on,.string fl,.bool nt,.slice kp kids.length kc] 96)=W1 at k1 |-
 refine (xR _ _ _ _ _ _ _ _ _ _ _ _ _).mono ?_;rintro e w2 ⟨rfl,k2⟩;have K2:Hid (aA w w2):=k1.trans k2;have a0:Hid (aE c 32 (.int .i64 s) w2):=HV.out.keep K2.out a2;obtain⟨hc,hz,a1⟩:=a0.out.facts;clear k1 k2;generalize bF (.node k a fl nt kids)=E at HF |-
 go_wp2_with fail;go_ret;show eV _ _ _ w (fE s (.node k a fl nt kids) d) _ _;rw[HF.out];exact⟨rfl,a0.out.set _,fun _=>trivial,(cO K2.out).trans (kV c w2 _)⟩
theorem aHb(c:Nat)(S:Nat->Prop)(hS:∀b,S b->b<c):uI 182 #[.pointer (some ⟨c,0,none⟩)] S fE (aOi c) (fun _=>True) (One c) where
 keep s w w' hi k:=⟨aE.keep hi k hi.facts.2.2,cO k,fun _ h=>h⟩
 old s w hi b hb:=⟨Nat.lt_trans (hS b hb) hi.facts.2.2,fun e=>absurd (hS b hb) (by rw[show b=c from e];exact Nat.lt_irrefl _)⟩
 own s w hi b hb:=by rw[show b=c from hb];exact hi.facts.2.2
 call s t d cs w hi hl hn:=by
  obtain⟨k,a,fl,nt,kids⟩:=t
  rw[aH] at hn
  obtain⟨kp,kc,rfl,-,-,-⟩:=hn
  exact aPm c s k a fl nt kp kids kc d w hi
theorem aLx(args:Array Value)(w:World):(callFunc 182 args).run Tryz.prog w=.ok (.enter 182 args) w:=enters_of Tryz.func182 (by kernel_rfl) rfl args w
theorem pM(t:NT)(cs:List Value)(w:World)(S:Nat->Prop)(hS:∀b,S b->b<w.heap.size)(hn:aH S w t cs):
  Calls Tryz.prog 145 #[.agg cs.toArray] w fun e w'=>e=.returned (.int .i64 (dG t))/\aA w w':=by
 have a1:=hn;obtain⟨k,a,fl,nt,kids⟩:=t;rw[aH] at a1;obtain⟨kp,kc,rfl,-,-,-⟩:=a1;have b1:∀(fn:Fn) (first cap:Array Value) (w:World),(Instr.makeFunc fn first cap).run Tryz.prog w=.ok (.func fn first cap) w:=fun _ _ _ _=>rfl;have k1:=aA.alloc w (.cells #[.int .i64 k,.string a.n,.int .i64 a.op,.int .i64 a.v,.int .i64 a.sl,.string a.f,.bool a.on,.string fl,.bool nt,.slice kp kids.length kc] 96);have a0:Hid (aL w.heap.size #[.int .i64 k,.string a.n,.int .i64 a.op,.int .i64 a.v,.int .i64 a.sl,.string a.f,.bool a.on,.string fl,.bool nt,.slice kp kids.length kc] (w.alloc (.cells #[.int .i64 k,.string a.n,.int .i64 a.op,.int .i64 a.v,.int .i64 a.sl,.string a.f,.bool a.on,.string fl,.bool nt,.slice kp kids.length kc] 96))):=aL.new w #[.int .i64 k,.string a.n,.int .i64 a.op,.int .i64 a.v,.int .i64 a.sl,.string a.f,.bool a.on,.string fl,.bool nt,.slice kp kids.length kc] 96;have HN:Hid (aH S w (.node k a fl nt kids) [.int .i64 k,.string a.n,.int .i64 a.op,.int .i64 a.v,.int .i64 a.sl,.string a.f,.bool a.on,.string fl,.bool nt,.slice kp kids.length kc]):=hn;clear hn;go_enter Tryz.func145,Tryz.ntmps145;go_wp2_with fail;generalize w.alloc (.cells #[.int .i64 k,.string a.n,.int .i64 a.op,.int .i64 a.v,.int .i64 a.sl,.string a.f,.bool a.on,.string fl,.bool nt,.slice kp kids.length kc] 96)=W1 at k1 a0 |-
 refine (aBv _ _ W1 S (fun b hb=>R8 (hS b hb) k1.size) (HN.out.keep hS k1)).mono ?_;rintro e w2 ⟨rfl,k2⟩;have K2:Hid (aA w w2):=k1.trans k2;have a3:Hid (aL w.heap.size #[.int .i64 k,.string a.n,.int .i64 a.op,.int .i64 a.v,.int .i64 a.sl,.string a.f,.bool a.on,.string fl,.bool nt,.slice kp kids.length kc] w2):=a0.out.keep k2 a0.out.1;have a8:=a3.out.2;have a9:=a3.out.1;clear k1 k2 a0;cases hL:dY (.node k a fl nt kids)
 ·have HC:Hid (dG (.node k a fl nt kids)=(bZ aR fE 0 (.node k a fl nt kids) 1).1):=by show _=_;unfold dG;rw[hL];rfl
  have a2:Hid (aE w2.heap.size 32 (.int .i64 0) (w2.alloc (.cells #[.int .i64 0] 32))):=aE.new w2 _ _;have K3:Hid (aA w (w2.alloc (.cells #[.int .i64 0] 32))):=K2.out.alloc' _;go_wp2_with fail;generalize w2.alloc (.cells #[.int .i64 0] 32)=W3 at a2 K3 |-
  clear a8;refine (aGe (aHb w2.heap.size S (fun b hb=>R8 (hS b hb) K2.out.size)) aLx _ _ (Y1 _) 0 1 _ W3 a2.out trivial (HN.out.keep hS K3.out)).mono ?_;rintro e w4 ⟨rfl,a6,a5,a4⟩;have K4:Hid (aA w w4):=Below.trans K3.out (a4.below K3.out.size (fun b hb e=>by have:b=w2.heap.size:=e;have:=K2.out.size;omega));obtain⟨a7,-,b0⟩:=aE.facts a6;clear a5 a4;generalize bZ aR fE 0 (.node k a fl nt kids) 1=r at HC a7 |-
  go_wp2_with fail;go_ret;exact⟨aD HC.out.symm,K4.out⟩
 ·have HC:Hid (dG (.node k a fl nt kids)=2):=by show _=_;unfold dG;rw[hL];rfl
  go_wp2_with fail;go_ret;exact⟨aD HC.out.symm,K2.out⟩
end Go.Proofs.YthjlcjdlelkkdaaGreatDoor
namespace Go.Proofs
open Go.Shelf
def Tryz.lays190_ren:Go.Shelf.Ren:=⟨fun | 190=>116 | 125=>139 | 258=>138 | 128=>169 | 129=>170 | 302=>160 | 303=>161 | 304=>162 | 305=>163 | 306=>164 | 307=>165 | 308=>166 | 309=>167 | 310=>168 | 333=>194 | 329=>195 | 330=>196 | 334=>197 | 335=>198 | 336=>199 | 344=>215 | n=>n,fun | 31=>93 | 9=>9 | 3=>3 | 46=>199 | 0=>0 | 51=>230 | 53=>212 | 4=>4 | 183=>224 | 182=>223 | 131=>180 | 5=>5 | 218=>253 | 222=>257 | 228=>268 | 229=>148 | n=>n,fun | n=>n⟩
theorem Tryz.lays190:Go.Proofs.Lays.n190 Tryz.prog Tryz.lays190_ren:= {
 mixed:=by kernel_rfl
 f125:=Tryz.func139.trans (Q0 some (by kernel_rfl))
 f128:=Tryz.func169.trans (Q0 some (by kernel_rfl))
 f129:=Tryz.func170.trans (Q0 some (by kernel_rfl))
 f190:=Tryz.func116.trans (Q0 some (by kernel_rfl))
 f258:=Tryz.func138.trans (Q0 some (by kernel_rfl))
 f302:=Tryz.func160.trans (Q0 some (by kernel_rfl))
 f303:=Tryz.func161.trans (Q0 some (by kernel_rfl))
 f304:=Tryz.func162.trans (Q0 some (by kernel_rfl))
 f305:=Tryz.func163.trans (Q0 some (by kernel_rfl))
 f306:=Tryz.func164.trans (Q0 some (by kernel_rfl))
 f307:=Tryz.func165.trans (Q0 some (by kernel_rfl))
 f308:=Tryz.func166.trans (Q0 some (by kernel_rfl))
 f309:=Tryz.func167.trans (Q0 some (by kernel_rfl))
 f310:=Tryz.func168.trans (Q0 some (by kernel_rfl))
 f329:=Tryz.func195.trans (Q0 some (by kernel_rfl))
 f330:=Tryz.func196.trans (Q0 some (by kernel_rfl))
 f333:=Tryz.func194.trans (Q0 some (by kernel_rfl))
 f334:=Tryz.func197.trans (Q0 some (by kernel_rfl))
 f335:=Tryz.func198.trans (Q0 some (by kernel_rfl))
 f336:=Tryz.func199.trans (Q0 some (by kernel_rfl))
 f344:=Tryz.func215.trans (Q0 some (by kernel_rfl))
 t0:=Tryz.underlying0
 a0:=Tryz.isAgg0
 z0:=Tryz.sizeOf0
 v0:=Tryz.zeroValue0
 t3:=Tryz.underlying3
 a3:=Tryz.isAgg3
 z3:=Tryz.sizeOf3
 v3:=Tryz.zeroValue3
 t4:=Tryz.underlying4
 a4:=Tryz.isAgg4
 z4:=Tryz.sizeOf4
 v4:=Tryz.zeroValue4
 t5:=Tryz.underlying5
 a5:=Tryz.isAgg5
 z5:=Tryz.sizeOf5
 v5:=Tryz.zeroValue5
 t9:=Tryz.underlying9
 a9:=Tryz.isAgg9
 z9:=Tryz.sizeOf9
 v9:=Tryz.zeroValue9
 t31:=Tryz.underlying93
 a31:=Tryz.isAgg93
 z31:=Tryz.sizeOf93
 v31:=Tryz.zeroValue93
 t46:=Tryz.underlying199
 a46:=Tryz.isAgg199
 z46:=Tryz.sizeOf199
 v46:=Tryz.zeroValue199
 t51:=Tryz.underlying230
 a51:=Tryz.isAgg230
 z51:=Tryz.sizeOf230
 v51:=Tryz.zeroValue230
 t53:=Tryz.underlying212
 a53:=Tryz.isAgg212
 z53:=Tryz.sizeOf212
 v53:=Tryz.zeroValue212
 t131:=Tryz.underlying180
 a131:=Tryz.isAgg180
 z131:=Tryz.sizeOf180
 v131:=Tryz.zeroValue180
 t182:=Tryz.underlying223
 a182:=Tryz.isAgg223
 z182:=Tryz.sizeOf223
 v182:=Tryz.zeroValue223
 t183:=Tryz.underlying224
 a183:=Tryz.isAgg224
 z183:=Tryz.sizeOf224
 v183:=Tryz.zeroValue224
 t218:=Tryz.underlying253
 a218:=Tryz.isAgg253
 z218:=Tryz.sizeOf253
 v218:=Tryz.zeroValue253
 t222:=Tryz.underlying257
 a222:=Tryz.isAgg257
 z222:=Tryz.sizeOf257
 v222:=Tryz.zeroValue257
 t228:=Tryz.underlying268
 a228:=Tryz.isAgg268
 z228:=Tryz.sizeOf268
 v228:=Tryz.zeroValue268
 t229:=Tryz.underlying148
 a229:=Tryz.isAgg148
 z229:=Tryz.sizeOf148
 v229:=Tryz.zeroValue148 }
open Go.Sort Go.RowKit in
theorem Tryz.slices_Sort_string(blk off cap:Nat)(ss:List (List UInt8))(w:World)(hH:Holds encStr w blk off ss.toArray)(hblk:blk<w.heap.size)(hsz:ss.length<4611686018427387904):
  Calls Tryz.prog 116 #[.slice (some ⟨blk,off,none⟩) ss.length cap] w fun e w'=>
   e=.returned (.tuple #[])/\∃n os,w'=grow (putRow encStr (Sort.ahead w n) blk off (ss.mergeSort fun x y=>decide (x<=y)).toArray) os:=Any.slices_Sort_string Tryz.lays190 blk off cap ss w hH hblk hsz
def Tryz.lays107_ren:Go.Shelf.Ren:=⟨fun | 107=>54 | 108=>92 | n=>n,fun | 28=>27 | 3=>3 | 4=>4 | 0=>0 | n=>n,fun | n=>n⟩
theorem Tryz.lays107:Go.Proofs.Lays.n107 Tryz.prog Tryz.lays107_ren:= {
 mixed:=by kernel_rfl
 f107:=Tryz.func54.trans (Q0 some (by kernel_rfl))
 f108:=Tryz.func92.trans (Q0 some (by kernel_rfl))
 t0:=Tryz.underlying0
 a0:=Tryz.isAgg0
 z0:=Tryz.sizeOf0
 v0:=Tryz.zeroValue0
 t3:=Tryz.underlying3
 a3:=Tryz.isAgg3
 z3:=Tryz.sizeOf3
 v3:=Tryz.zeroValue3
 t4:=Tryz.underlying4
 a4:=Tryz.isAgg4
 z4:=Tryz.sizeOf4
 v4:=Tryz.zeroValue4
 t28:=Tryz.underlying27
 a28:=Tryz.isAgg27
 z28:=Tryz.sizeOf27
 v28:=Tryz.zeroValue27 }
open Go.Lib in
theorem Tryz.slices_Contains_int(b off n c:Nat)(zs:List Int)(x:Int)(w:World)(hz:n<=zs.length)(hbig:n<=9223372036854775807)(hc:∀j,j<zs.length->w.cell? ⟨b,off+j,none⟩=some (.int .i64 (zs.getD j 0))):
  Calls Tryz.prog 54 #[.slice (some ⟨b,off,none⟩) n c,.int .i64 x] w fun e w'=>e=.returned (.bool ((zs.take n).contains x))/\w'=w:=Any.slices_Contains_int Tryz.lays107 b off n c zs x w hz hbig hc
open Go.Lib in
theorem Tryz.slices_Contains_int_empty(a:Option Addr)(c:Nat)(x:Int)(w:World):
  Calls Tryz.prog 54 #[.slice a 0 c,.int .i64 x] w fun e w'=>e=.returned (.bool false)/\w'=w:=Any.slices_Contains_int_empty Tryz.lays107 a c x w
def Tryz.lays109_ren:Go.Shelf.Ren:=⟨fun | 109=>85 | n=>n,fun | 31=>93 | 9=>9 | 3=>3 | 0=>0 | 4=>4 | n=>n,fun | n=>n⟩
theorem Tryz.lays109:Go.Proofs.Lays.n109 Tryz.prog Tryz.lays109_ren:= {
 mixed:=by kernel_rfl
 f109:=Tryz.func85.trans (Q0 some (by kernel_rfl))
 t0:=Tryz.underlying0
 a0:=Tryz.isAgg0
 z0:=Tryz.sizeOf0
 v0:=Tryz.zeroValue0
 t3:=Tryz.underlying3
 a3:=Tryz.isAgg3
 z3:=Tryz.sizeOf3
 v3:=Tryz.zeroValue3
 t4:=Tryz.underlying4
 a4:=Tryz.isAgg4
 z4:=Tryz.sizeOf4
 v4:=Tryz.zeroValue4
 t9:=Tryz.underlying9
 a9:=Tryz.isAgg9
 z9:=Tryz.sizeOf9
 v9:=Tryz.zeroValue9
 t31:=Tryz.underlying93
 a31:=Tryz.isAgg93
 z31:=Tryz.sizeOf93
 v31:=Tryz.zeroValue93 }
open Go.Lib in
theorem Tryz.slices_Index_string(b off n c:Nat)(zs:List ByteArray)(x:ByteArray)(w:World)(hz:n<=zs.length)(hbig:n<=9223372036854775807)(hc:∀j,j<zs.length->w.cell? ⟨b,off+j,none⟩=some (.string (zs.getD j ByteArray.empty))):
  Calls Tryz.prog 85 #[.slice (some ⟨b,off,none⟩) n c,.string x] w fun e w'=>e=.returned (.int .i64 (Lib.idxOfS (zs.take n) x))/\w'=w:=Any.slices_Index_string Tryz.lays109 b off n c zs x w hz hbig hc
open Go.Lib in
theorem Tryz.slices_Index_string_empty(a:Option Addr)(c:Nat)(x:ByteArray)(w:World):
  Calls Tryz.prog 85 #[.slice a 0 c,.string x] w fun e w'=>e=.returned (.int .i64 (Lib.idxOfS [] x))/\w'=w:=Any.slices_Index_string_empty Tryz.lays109 a c x w
def Tryz.lays110_ren:Go.Shelf.Ren:=⟨fun | 110=>44 | 109=>85 | n=>n,fun | 31=>93 | 9=>9 | 4=>4 | 3=>3 | 0=>0 | n=>n,fun | n=>n⟩
theorem Tryz.lays110:Go.Proofs.Lays.n110 Tryz.prog Tryz.lays110_ren:= {
 mixed:=by kernel_rfl
 f109:=Tryz.func85.trans (Q0 some (by kernel_rfl))
 f110:=Tryz.func44.trans (Q0 some (by kernel_rfl))
 t0:=Tryz.underlying0
 a0:=Tryz.isAgg0
 z0:=Tryz.sizeOf0
 v0:=Tryz.zeroValue0
 t3:=Tryz.underlying3
 a3:=Tryz.isAgg3
 z3:=Tryz.sizeOf3
 v3:=Tryz.zeroValue3
 t4:=Tryz.underlying4
 a4:=Tryz.isAgg4
 z4:=Tryz.sizeOf4
 v4:=Tryz.zeroValue4
 t9:=Tryz.underlying9
 a9:=Tryz.isAgg9
 z9:=Tryz.sizeOf9
 v9:=Tryz.zeroValue9
 t31:=Tryz.underlying93
 a31:=Tryz.isAgg93
 z31:=Tryz.sizeOf93
 v31:=Tryz.zeroValue93 }
open Go.Lib in
theorem Tryz.slices_Contains_string(b off n c:Nat)(zs:List ByteArray)(x:ByteArray)(w:World)(hz:n<=zs.length)(hbig:n<=9223372036854775807)(hc:∀j,j<zs.length->w.cell? ⟨b,off+j,none⟩=some (.string (zs.getD j ByteArray.empty))):
  Calls Tryz.prog 44 #[.slice (some ⟨b,off,none⟩) n c,.string x] w fun e w'=>e=.returned (.bool (Lib.containsS (zs.take n) x))/\w'=w:=Any.slices_Contains_string Tryz.lays110 b off n c zs x w hz hbig hc
open Go.Lib in
theorem Tryz.slices_Contains_string_empty(a:Option Addr)(c:Nat)(x:ByteArray)(w:World):
  Calls Tryz.prog 44 #[.slice a 0 c,.string x] w fun e w'=>e=.returned (.bool false)/\w'=w:=Any.slices_Contains_string_empty Tryz.lays110 a c x w
def Tryz.lays111_ren:Go.Shelf.Ren:=⟨fun | 111=>11 | n=>n,fun | 28=>27 | 3=>3 | 4=>4 | 0=>0 | n=>n,fun | n=>n⟩
theorem Tryz.lays111:Go.Proofs.Lays.n111 Tryz.prog Tryz.lays111_ren:= {
 mixed:=by kernel_rfl
 f111:=Tryz.func11.trans (Q0 some (by kernel_rfl))
 t0:=Tryz.underlying0
 a0:=Tryz.isAgg0
 z0:=Tryz.sizeOf0
 v0:=Tryz.zeroValue0
 t3:=Tryz.underlying3
 a3:=Tryz.isAgg3
 z3:=Tryz.sizeOf3
 v3:=Tryz.zeroValue3
 t4:=Tryz.underlying4
 a4:=Tryz.isAgg4
 z4:=Tryz.sizeOf4
 v4:=Tryz.zeroValue4
 t28:=Tryz.underlying27
 a28:=Tryz.isAgg27
 z28:=Tryz.sizeOf27
 v28:=Tryz.zeroValue27 }
open Go.RowKit Go.Lib in
theorem Tryz.slices_Equal_int(b1 o1 n c b2 o2 m d:Nat)(xs ys:List Int)(w:World)(hx:n<=xs.length)(hy:m<=ys.length)(hbig:n<=9223372036854775807)(hbig2:m<=9223372036854775807)(hc1:∀j,j<xs.length->w.cell? ⟨b1,o1+j,none⟩=some (.int .i64 (xs.getD j 0)))(hc2:∀j,j<ys.length->w.cell? ⟨b2,o2+j,none⟩=some (.int .i64 (ys.getD j 0))):
  Calls Tryz.prog 11 #[.slice (some ⟨b1,o1,none⟩) n c,.slice (some ⟨b2,o2,none⟩) m d] w fun e w'=>e=.returned (.bool (xs.take n==ys.take m))/\∃q,w'=w.drewN q:=Any.slices_Equal_int Tryz.lays111 b1 o1 n c b2 o2 m d xs ys w hx hy hbig hbig2 hc1 hc2
open Go.RowKit Go.Lib in
theorem Tryz.slices_Equal_int_empty(a1 a2:Option Addr)(c m d:Nat)(w:World)(hbig2:m<=9223372036854775807):
  Calls Tryz.prog 11 #[.slice a1 0 c,.slice a2 m d] w fun e w'=>e=.returned (.bool (decide (m=0)))/\w'=w:=Any.slices_Equal_int_empty Tryz.lays111 a1 a2 c m d w hbig2
def Tryz.lays194_ren:Go.Shelf.Ren:=⟨fun | 194=>189 | n=>n,fun | 31=>93 | 9=>9 | 3=>3 | 4=>4 | 0=>0 | n=>n,fun | n=>n⟩
theorem Tryz.lays194:Go.Proofs.Lays.n194 Tryz.prog Tryz.lays194_ren:= {
 mixed:=by kernel_rfl
 f194:=Tryz.func189.trans (Q0 some (by kernel_rfl))
 t0:=Tryz.underlying0
 a0:=Tryz.isAgg0
 z0:=Tryz.sizeOf0
 v0:=Tryz.zeroValue0
 t3:=Tryz.underlying3
 a3:=Tryz.isAgg3
 z3:=Tryz.sizeOf3
 v3:=Tryz.zeroValue3
 t4:=Tryz.underlying4
 a4:=Tryz.isAgg4
 z4:=Tryz.sizeOf4
 v4:=Tryz.zeroValue4
 t9:=Tryz.underlying9
 a9:=Tryz.isAgg9
 z9:=Tryz.sizeOf9
 v9:=Tryz.zeroValue9
 t31:=Tryz.underlying93
 a31:=Tryz.isAgg93
 z31:=Tryz.sizeOf93
 v31:=Tryz.zeroValue93 }
open Go.RowKit Go.Lib Go.Sort in
theorem Tryz.slices_Compact_string(blk off cap:Nat)(zs:List (List UInt8))(w:World)(hH:Holds encStr w blk off zs.toArray)(hsz:zs.length<=9223372036854775807)(hcap:zs.length<=cap):
  Calls Tryz.prog 189 #[.slice (some ⟨blk,off,none⟩) zs.length cap] w fun e w'=>e=.returned (.slice (some ⟨blk,off,none⟩) (Lib.compact zs).length cap)/\∃q,w'=putRow encStr (Sort.ahead w q) blk off (Lib.compact zs++List.replicate (zs.length-(Lib.compact zs).length) []).toArray:=Any.slices_Compact_string Tryz.lays194 blk off cap zs w hH hsz hcap
open Go.RowKit Go.Lib Go.Sort in
theorem Tryz.slices_Compact_string_empty(a:Option Addr)(cap:Nat)(w:World):
  Calls Tryz.prog 189 #[.slice a 0 cap] w fun e w'=>e=.returned (.slice a 0 cap)/\w'=w:=Any.slices_Compact_string_empty Tryz.lays194 a cap w
open Go.RowKit Go.Sort in
theorem Tryz.slices_Sort_string_none(p:Option Addr)(cap:Nat)(w:World):
  Calls Tryz.prog 116 #[.slice p 0 cap] w fun e w'=>e=.returned (.tuple #[])/\w'=w:=Any.slices_Sort_string_none Tryz.lays190 p cap w
open Go.RowKit Go.Lib in
theorem Tryz.slices_Equal_int_lens(a1 a2:Option Addr)(n c m d:Nat)(w:World)(hnm:n≠m):
  Calls Tryz.prog 11 #[.slice a1 n c,.slice a2 m d] w fun e w'=>e=.returned (.bool false)/\w'=w:=Any.slices_Equal_int_lens Tryz.lays111 a1 a2 n c m d w hnm
end Go.Proofs
namespace Go.Proofs.YthjlcjdlelkkdaaGreatDoor
open Go.RowKit
theorem aJz:(Tryz.prog.info? 9).map (fun i=>(i.zero,i.size,i.bytes))=some (some (.string ByteArray.empty),1,16):=by kernel_rfl
def gI(B:Nat)(v:Value)(L:List ByteArray)(w:World):Prop:=w.ownsRow B 9 1 v L.length (L.map Value.string)
theorem gI.alloc{B:Nat}{v:Value}{L:List ByteArray}{w:World}(h:gI B v L w)(o:Obj):gI B v L (w.alloc o):=World.ownsRow.alloc h o
theorem aX{B e sz n:Nat}{v:Value}{xs:List Value}{w w':World}(h:w.ownsRow B e sz v n xs)(k:aA w w'):w'.ownsRow B e sz v n xs:=by
 obtain⟨h1,h2⟩:=h;refine⟨h1,h2.imp id ?_⟩;rintro⟨g,cap,a0,e1,e2,e3,e4,e5,e6,e7⟩;exact⟨g,cap,a0,e1,e2,by rw[k.block g (U9.1 e3).1];exact e3,e4,e5,e6,e7⟩
theorem gI.keep{B:Nat}{v:Value}{L:List ByteArray}{w w':World}(h:gI B v L w)(k:aA w w'):gI B v L w':=aX h k
theorem dN{B e sz n:Nat}{v:Value}{xs:List Value}{w:World}(h:w.ownsRow B e sz v n xs){g:Nat}(hg:v.ownBlock=some g):B<=g/\g<w.heap.size:=by
 obtain⟨-,⟨rfl,-⟩ | ⟨g',cap,a0,rfl,e2,e3,-⟩⟩:=h
 ·cases hg
 ·cases hg;exact⟨e2,(U9.1 e3).1⟩
theorem iN{w:World}{x:Value}{T:TypeId}(j:Nat)(u:Value)(h : [x][j]? = some u):(w.alloc (.cells #[x] T)).cell? ((⟨w.heap.size,0,none⟩:Addr).add j)=some u:=by
 match j,h with
 | 0,h=>simp at h;subst h;simp[Addr.add]
theorem aQy{s:ByteArray}(u:Value)(h:u ∈ [Value.string s]):u.oneCell'=true:=by simp at h;subst h;rfl
theorem aBd:∀ {ts:List NT},okL ts->∀(i:Nat) (h:i<ts.length),ts[i].ok
 | [],_,_,h=>absurd h (Q5 _)
 | t :: ts,hok,i,h=>by
  rw[okL] at hok;cases i with
  | zero=>exact hok.1
  | succ i=>exact aBd hok.2 i (by simpa using h)
end Go.Proofs.YthjlcjdlelkkdaaGreatDoor
namespace Go.Proofs.YthjlcjdlelkkdaaGreatDoor
open Go.RowKit
def xP(rb:Nat)(ws:List ByteArray)(w:World):Prop:=
 ∃(p:Option Addr) (cap:Nat),aE rb 207 (.slice p ws.length cap) w/\ws.length<=cap/\cap<=1000000/\(ws ≠ []->∃b o,p=some ⟨b,o,none⟩/\b<rb/\∀(j:Nat) x,ws[j]? = some x->w.cell? ⟨b,o+j,none⟩=some (.string x))
theorem xP.lt{rb:Nat}{ws:List ByteArray}{w:World}(h:xP rb ws w):rb<w.heap.size:=by
 obtain⟨p,cap,h1,-⟩:=h;exact h1.facts.2.2
theorem xP.keep{rb:Nat}{ws:List ByteArray}{w w':World}(h:xP rb ws w)(k:aA w w'):xP rb ws w':=by
 obtain⟨p,cap,h1,h2,h3,h4⟩:=h;refine⟨p,cap,h1.keep k h1.facts.2.2,h2,h3,fun hne=>?_⟩;obtain⟨b,o,e1,e2,e4⟩:=h4 hne;exact⟨b,o,e1,e2,fun j x hx=>(k.cell (p:=⟨b,o+j,none⟩) (Nat.lt_trans e2 h1.facts.2.2)).trans (e4 j x hx)⟩
theorem aKs{rb b o cap:Nat}{x:ByteArray}{ws:List ByteArray}{w:World}{v:Value}(h1:aE rb 207 v w)(h2:ws.length<=cap)(h3:cap<=1000000)(hb:b<rb)
  (hcells:∀(j:Nat) y,(x :: ws)[j]? = some y->w.cell? ⟨b,o+j,none⟩=some (.string y)) (q:Addr) (hq:ws ≠ []->q=⟨b,o+1,none⟩):
  xP rb ws (w.setCell ⟨rb,0,none⟩ (.slice (some q) ws.length cap)):=by
 refine⟨some q,cap,h1.set _,h2,h3,fun hne'=>?_⟩;refine⟨b,o+1,by rw[hq hne'],hb,fun j y hy=>?_⟩;rw[(kV rb w (.slice (some q) ws.length cap)).cell ⟨b,o+1+j,none⟩ (Nat.lt_trans hb h1.facts.2.2) (fun e=>by have:b=rb:=e;omega)];have:=hcells (j+1) y (by simpa using hy);rw[show o+(j+1)=o+1+j by omega] at this;exact this
theorem aQv(rb:Nat)(ws:List ByteArray)(w:World)(h:xP rb ws w):
  Calls Tryz.prog 144 #[.pointer (some ⟨rb,0,none⟩)] w fun e w'=>e=.returned (.string (ws.headD ⟨#[]⟩))/\xP rb ws.tail w'/\bD (One rb) w w':=by
 obtain⟨p,cap,h1,h2,h3,h4⟩:=h;obtain⟨hc,hz,a1⟩:=h1.facts;have H1:=hid h1;clear h1;cases ws with
 | nil=>
  have HR:Hid (xP rb [] w):=⟨p,cap,H1.out,h2,h3,h4⟩;clear h4 h2;go_enter Tryz.func144,Tryz.ntmps144;go_wp2_with fail;go_ret;exact⟨rfl,HR.out,bD.refl _ _⟩
 | cons x ws=>
  obtain⟨b,o,rfl,hb,a0⟩:=h4 (by simp);have a2:b≠rb:=Nat.ne_of_lt hb;have c0:w.cell? ⟨b,o,none⟩=some (.string x):=a0 0 x rfl;have HC:Hid (∀(j:Nat) y,(x :: ws)[j]? = some y->w.cell? ⟨b,o+j,none⟩=some (.string y)):=a0;clear h4 a0;rw[Z0] at h2 hc H1;by_cases hcap:cap=1
  ·subst hcap;obtain rfl:ws = []:=Y4.1 (by omega);go_enter Tryz.func144,Tryz.ntmps144;go_wp2_with fail;go_ret;exact⟨rfl,aKs (ws:= []) H1.out (Y1 _) (by decide) hb HC.out _ (fun h=>absurd rfl h),kV rb w _⟩
  ·have a3:1<cap:=by omega
   go_enter Tryz.func144,Tryz.ntmps144;go_wp2_with fail;go_ret;exact⟨rfl,aKs H1.out (by omega) (by omega) hb HC.out _ (fun _=>rfl),kV rb w _⟩
def dF(b:Nat)(cs:Array Value)(w:World):Prop:=w.heap[b]? = some (.cells cs 96 (0,0))
theorem dF.facts{b:Nat}{cs:Array Value}{w:World}(h:dF b cs w):(∀o,w.cell? ⟨b,o,none⟩=cs[o]?)/\(∀o,w.frozen? ⟨b,o,none⟩=false)/\b<w.heap.size:=by
 unfold dF at h;refine⟨fun o=>by simp[World.cell?,h],fun o=>by simp[World.frozen?,h],(U9.1 h).1⟩
theorem dF.new(w:World)(cs:Array Value):dF w.heap.size cs (w.alloc (.cells cs 96)):=by
 show (w.heap.push _)[w.heap.size]? = _;rw[Array.getElem?_push,if_pos rfl]
theorem dF.keep{b B:Nat}{cs:Array Value}{w w':World}(h:dF b cs w)(k:Below B w w')(hB:b<B):dF b cs w':=by
 unfold dF at *;rw[k.block b hB];exact h
theorem aSw{α:Type}{cs:Array α}(h:cs.size=10):∃c0 c1 c2 c3 c4 c5 c6 c7 c8 c9,cs=#[c0,c1,c2,c3,c4,c5,c6,c7,c8,c9]:=by
 obtain⟨l⟩:=cs
 match l,h with
 | [c0,c1,c2,c3,c4,c5,c6,c7,c8,c9],_=>exact⟨c0,c1,c2,c3,c4,c5,c6,c7,c8,c9,rfl⟩
theorem dF.set{b:Nat}{cs:Array Value}{w:World}(h:dF b cs w)(hs:cs.size=10)(v0 v1 v2 v3 v4 v5 v6 v7 v8 v9:Value):
  dF b #[v0,v1,v2,v3,v4,v5,v6,v7,v8,v9] ((((((((((w.setCell ⟨b,0,none⟩ v0).setCell ⟨b,1,none⟩ v1).setCell ⟨b,2,none⟩ v2).setCell ⟨b,3,none⟩ v3).setCell ⟨b,4,none⟩ v4).setCell ⟨b,5,none⟩ v5).setCell ⟨b,6,none⟩ v6).setCell ⟨b,7,none⟩ v7).setCell ⟨b,8,none⟩ v8).setCell ⟨b,9,none⟩ v9)/\Below b w ((((((((((w.setCell ⟨b,0,none⟩ v0).setCell ⟨b,1,none⟩ v1).setCell ⟨b,2,none⟩ v2).setCell ⟨b,3,none⟩ v3).setCell ⟨b,4,none⟩ v4).setCell ⟨b,5,none⟩ v5).setCell ⟨b,6,none⟩ v6).setCell ⟨b,7,none⟩ v7).setCell ⟨b,8,none⟩ v8).setCell ⟨b,9,none⟩ v9)/\((((((((((w.setCell ⟨b,0,none⟩ v0).setCell ⟨b,1,none⟩ v1).setCell ⟨b,2,none⟩ v2).setCell ⟨b,3,none⟩ v3).setCell ⟨b,4,none⟩ v4).setCell ⟨b,5,none⟩ v5).setCell ⟨b,6,none⟩ v6).setCell ⟨b,7,none⟩ v7).setCell ⟨b,8,none⟩ v8).setCell ⟨b,9,none⟩ v9).heap.size=w.heap.size/\∀k,k≠b->((((((((((w.setCell ⟨b,0,none⟩ v0).setCell ⟨b,1,none⟩ v1).setCell ⟨b,2,none⟩ v2).setCell ⟨b,3,none⟩ v3).setCell ⟨b,4,none⟩ v4).setCell ⟨b,5,none⟩ v5).setCell ⟨b,6,none⟩ v6).setCell ⟨b,7,none⟩ v7).setCell ⟨b,8,none⟩ v8).setCell ⟨b,9,none⟩ v9).heap[k]? = w.heap[k]? :=by
 obtain⟨c0,c1,c2,c3,c4,c5,c6,c7,c8,c9,rfl⟩:=aSw hs;refine⟨?_,?_,?_,?_⟩
 ·have a0:=aJ (aJ (aJ (aJ (aJ (aJ (aJ (aJ (aJ (aJ h 0 v0) 1 v1) 2 v2) 3 v3) 4 v4) 5 v5) 6 v6) 7 v7) 8 v8) 9 v9;simp only[List.setIfInBounds_toArray,List.set_cons_zero,List.set_cons_succ] at a0;exact a0
 ·exact ((((((((((Below.refl b w).setCell (p:=⟨b,0,none⟩) (Y1 _) v0).setCell (p:=⟨b,1,none⟩) (Y1 _) v1).setCell (p:=⟨b,2,none⟩) (Y1 _) v2).setCell (p:=⟨b,3,none⟩) (Y1 _) v3).setCell (p:=⟨b,4,none⟩) (Y1 _) v4).setCell (p:=⟨b,5,none⟩) (Y1 _) v5).setCell (p:=⟨b,6,none⟩) (Y1 _) v6).setCell (p:=⟨b,7,none⟩) (Y1 _) v7).setCell (p:=⟨b,8,none⟩) (Y1 _) v8).setCell (p:=⟨b,9,none⟩) (Y1 _) v9
 ·simp[World.setCell]
 ·intro k hk;simp[World.setCell,Array.getElem?_modify,Ne.symm hk]
theorem bM{P:Program}{fn:Func}{R:Ending->World->Prop}{a:Act}{b:Nat}{cs:Array Value}{W:World}{v0 v1 v2 v3 v4 v5 v6 v7 v8 v9:Value}(x:Value)(h:dF b cs W)(hs:cs.size=10)(hd:a.defers = [])(H:∀W',Hid (dF b #[v0,v1,v2,v3,v4,v5,v6,v7,v8,v9] W')->Hid (Below b W W')->Hid (W'.heap.size=W.heap.size)->Hid (∀bb,bb≠b->W'.heap[bb]? = W.heap[bb]?)->(results fn a.tmps).run P W'=.ok (.tuple #[.agg #[v0,v1,v2,v3,v4,v5,v6,v7,v8,v9],x]) W'/\R (.returned (.tuple #[.agg #[v0,v1,v2,v3,v4,v5,v6,v7,v8,v9],x])) W'):
  bodyPost P fn R .ret a ((((((((((W.setCell ⟨b,0,none⟩ v0).setCell ⟨b,1,none⟩ v1).setCell ⟨b,2,none⟩ v2).setCell ⟨b,3,none⟩ v3).setCell ⟨b,4,none⟩ v4).setCell ⟨b,5,none⟩ v5).setCell ⟨b,6,none⟩ v6).setCell ⟨b,7,none⟩ v7).setCell ⟨b,8,none⟩ v8).setCell ⟨b,9,none⟩ v9):=by
 obtain⟨b1,b2,b3,b4⟩:=h.set hs v0 v1 v2 v3 v4 v5 v6 v7 v8 v9;have h1:=H _ b1 b2 b3 b4;exact bodyPost_ret h1.1 hd h1.2
def oM:Value:= .agg #[.int .i64 0,.string ⟨#[]⟩,.int .i64 0,.int .i64 0,.int .i64 0,.string ⟨#[]⟩,.bool false,.string ⟨#[]⟩,.bool false,.slice none 0 0]
def jO(wd:bX)(w:World)(e:Ending)(w':World):Prop:=
 match gN wd with
 | none=>e=.returned (.tuple #[oM,.bool false])/\aA w w'
 | some t=> ∃cs:List Value,e=.returned (.tuple #[.agg cs.toArray,.bool true])/\(∀S,aH S w' t cs)/\aA w w'
theorem aQe(wd:ByteArray)(w:World)(hE:Env w):
  Calls Tryz.prog 179 #[.string wd] w fun e w'=>jO wd.data.toList w e w':=by
 have HE:=hid hE;have r0:Hid (dF w.heap.size #[.int .i64 0,.string ⟨#[]⟩,.int .i64 0,.int .i64 0,.int .i64 0,.string ⟨#[]⟩,.bool false,.string ⟨#[]⟩,.bool false,.slice none 0 0] (w.alloc (.cells #[.int .i64 0,.string ⟨#[]⟩,.int .i64 0,.int .i64 0,.int .i64 0,.string ⟨#[]⟩,.bool false,.string ⟨#[]⟩,.bool false,.slice none 0 0] 96))):=dF.new _ _;have k0:=hid (aA.alloc w (.cells #[.int .i64 0,.string ⟨#[]⟩,.int .i64 0,.int .i64 0,.int .i64 0,.string ⟨#[]⟩,.bool false,.string ⟨#[]⟩,.bool false,.slice none 0 0] 96));have HD:Hid (∀e w',jO wd.data.toList w e w'=(match gN wd.data.toList with
  | none=>e=.returned (.tuple #[oM,.bool false])/\aA w w'
  | some t=> ∃cs:List Value,e=.returned (.tuple #[.agg cs.toArray,.bool true])/\(∀S,aH S w' t cs)/\aA w w')):=fun _ _=>rfl
 clear hE;go_enter Tryz.func179,Tryz.ntmps179;go_wp2_with fail;generalize w.alloc (.cells #[.int .i64 0,.string ⟨#[]⟩,.int .i64 0,.int .i64 0,.int .i64 0,.string ⟨#[]⟩,.bool false,.string ⟨#[]⟩,.bool false,.slice none 0 0] 96)=W0 at r0 k0 |-
 refine (Tryz.strings_CutPrefix _ _ _).mono ?_;rintro e w0 ⟨rfl,a6⟩;rw[a6];clear a6 w0;have HQ:Hid (gN wd.data.toList=if mR (Lib.trimPrefix wd.data.toList [33])=0 then some (.node (if Lib.hasPrefix wd.data.toList [33] then 2 else 1) (aAk (Lib.trimPrefix wd.data.toList [33])) ⟨#[]⟩ false []) else none):=rfl;have a7:(⟨#[33]⟩:ByteArray).data.toList = [33]:=rfl;rw[a7];clear a7;generalize a8:Lib.trimPrefix wd.data.toList [33]=sx at HQ |-
 generalize a9:Lib.hasPrefix wd.data.toList [33]=px at HQ |-
 clear a8 a9;go_wp2_with fail;refine (aNg ⟨sx.toArray⟩ W0 (HE.out.keep k0.out)).mono ?_;rintro e w1 ⟨n,f,op,v,sl,on,rfl,hp,hq,k1⟩;have K1:Hid (aA w w1):=k0.out.trans k1;have R1:Hid (dF w.heap.size #[.int .i64 0,.string ⟨#[]⟩,.int .i64 0,.int .i64 0,.int .i64 0,.string ⟨#[]⟩,.bool false,.string ⟨#[]⟩,.bool false,.slice none 0 0] w1):=r0.out.keep k1 r0.out.facts.2.2;have a5:(⟨sx.toArray⟩:ByteArray).data.toList=sx:=by simp
 rw[a5] at hp hq |-
 have KA:=hid (K1.out.alloc' (.cells #[.string n,.int .i64 op,.int .i64 v,.int .i64 sl,.string f,.bool on] 63));have RA:Hid (dF w.heap.size #[.int .i64 0,.string ⟨#[]⟩,.int .i64 0,.int .i64 0,.int .i64 0,.string ⟨#[]⟩,.bool false,.string ⟨#[]⟩,.bool false,.slice none 0 0] (w1.alloc (.cells #[.string n,.int .i64 op,.int .i64 v,.int .i64 sl,.string f,.bool on] 63))):=R1.out.keep (aA.alloc _ _) R1.out.facts.2.2;have b3:=R1.out.facts.2.2;have AB:Hid (aV w1.heap.size n op v sl f on (w1.alloc (.cells #[.string n,.int .i64 op,.int .i64 v,.int .i64 sl,.string f,.bool on] 63))):=pC _ _;go_upto_region 3 with fail;generalize w1.alloc (.cells #[.string n,.int .i64 op,.int .i64 v,.int .i64 sl,.string f,.bool on] 63)=W1 at KA RA AB |-
 obtain⟨a1,a4,b4⟩:=RA.out.facts;obtain⟨a3,a2,b2⟩:=AB.out.facts;have b0:w.heap.size≠w1.heap.size:=by omega
 clear r0 k0 k1 a5;by_cases hz:mR sx=0
 ·have HA:Hid (aAk sx=⟨n,op,v,sl,f,on⟩):=by
   show _=_;obtain⟨q1,q2,q3,q4,q5,q6⟩:=hp hz;unfold aAk;rw[<-q1,<-q2,<-q3,<-q4,<-q5,<-q6,dB,dB]
  rw[hz] at HQ |-
  clear hp hq hz;cases px
  ·have HR:Hid (gN wd.data.toList=some (.node 1 ⟨n,op,v,sl,f,on⟩ ⟨#[]⟩ false [])):=by show _=_;rw[HQ.out,if_pos rfl,HA.out];rfl
   clear HQ HA;go_wp2_with fail;clear a1 a4 a3 a2;refine bM (.bool true) RA.out rfl rfl ?_;intro W BW KB SW OW;have KW:Hid (aA w W):=Below.trans KA.out KB.out;obtain⟨a0,_,_⟩:=BW.out.facts;refine⟨by simp[results,Tryz.results179,go_sem,a0],?_⟩;show jO _ w _ W;rw[HD.out,HR.out];exact⟨[.int .i64 1,.string n,.int .i64 op,.int .i64 v,.int .i64 sl,.string f,.bool on,.string ⟨#[]⟩,.bool false,.slice none 0 0],rfl,fun S=>by rw[aH];exact⟨none,0,rfl,Y1 _,by simp,by rw[bJ];trivial⟩,KW.out⟩
  ·have HR:Hid (gN wd.data.toList=some (.node 2 ⟨n,op,v,sl,f,on⟩ ⟨#[]⟩ false [])):=by show _=_;rw[HQ.out,if_pos rfl,HA.out];rfl
   clear HQ HA;go_wp2_with fail;clear a1 a4 a3 a2;refine bM (.bool true) RA.out rfl rfl ?_;intro W BW KB SW OW;have KW:Hid (aA w W):=Below.trans KA.out KB.out;obtain⟨a0,_,_⟩:=BW.out.facts;refine⟨by simp[results,Tryz.results179,go_sem,a0],?_⟩;show jO _ w _ W;rw[HD.out,HR.out];exact⟨[.int .i64 2,.string n,.int .i64 op,.int .i64 v,.int .i64 sl,.string f,.bool on,.string ⟨#[]⟩,.bool false,.slice none 0 0],rfl,fun S=>by rw[aH];exact⟨none,0,rfl,Y1 _,by simp,by rw[bJ];trivial⟩,KW.out⟩
 ·have b1:(mR sx != 0)=true:=by simpa using hz
  have HR:Hid (gN wd.data.toList=none):=by show _=_;rw[HQ.out,if_neg hz]
  clear hp hq hz HQ;go_wp2_with fail;clear a1 a4 a3 a2;refine bM (.bool false) RA.out rfl rfl ?_;intro W BW KB SW OW;have KW:Hid (aA w W):=Below.trans KA.out KB.out;obtain⟨a0,_,_⟩:=BW.out.facts;refine⟨by simp[results,Tryz.results179,go_sem,a0],?_⟩;show jO _ w _ W;rw[HD.out,HR.out];exact⟨rfl,KW.out⟩
end Go.Proofs.YthjlcjdlelkkdaaGreatDoor
namespace Go.Proofs.YthjlcjdlelkkdaaGreatDoor
open Go.RowKit
def RdS(rb:Nat)(ws:List ByteArray)(w:World):Prop:=xP rb ws w/\∀x∈ws,x.size<=20000
theorem RdS.keep{rb:Nat}{ws:List ByteArray}{w w':World}(h:RdS rb ws w)(k:aA w w'):RdS rb ws w':=⟨h.1.keep k,h.2⟩
theorem RdS.len{rb:Nat}{ws:List ByteArray}{w:World}(h:RdS rb ws w):ws.length<=1000000:=by
 obtain⟨⟨p,cap,-,h2,h3,-⟩,-⟩:=h;omega
theorem RdS.other{rb:Nat}{ws:List ByteArray}{w w':World}(h:RdS rb ws w)(hb:∀b,b<=rb->w'.heap[b]? = w.heap[b]?):RdS rb ws w':=by
 obtain⟨⟨p,cap,h1,h2,h3,h4⟩,h5⟩:=h;refine⟨⟨p,cap,?_,h2,h3,fun hne=>?_⟩,h5⟩
 ·unfold aE at *;rw[hb _ (Y1 _)];exact h1
 ·obtain⟨b,o,e1,e2,e4⟩:=h4 hne;exact⟨b,o,e1,e2,fun j x hx=>(X0 (w:=w) (a:=⟨b,o+j,none⟩) (hb b (Nat.le_of_lt e2))).trans (e4 j x hx)⟩
theorem oE(rb:Nat)(ws:List ByteArray)(w:World)(h:RdS rb ws w):
  Calls Tryz.prog 144 #[.pointer (some ⟨rb,0,none⟩)] w fun e w'=>e=.returned (.string (ws.headD ⟨#[]⟩))/\RdS rb ws.tail w'/\(ws.headD ⟨#[]⟩).size<=20000/\bD (One rb) w w':=by
 refine (aQv rb ws w h.1).mono ?_;rintro e w' ⟨he,hr,ha⟩;refine⟨he,⟨hr,fun x hx=>h.2 x (List.mem_of_mem_tail hx)⟩,?_,ha⟩;cases ws with
 | nil=>decide
 | cons x ws=>exact h.2 x (by simp)
theorem Env.apart{rb:Nat}{w w':World}(h:Env w)(ho:Old rb)(hr:rb<w.heap.size)(ha:bD (One rb) w w'):Env w':=
 h.below (ha.below (Nat.le_of_lt hr) (fun b hb e=>by have:b=rb:=e;omega)) ho
theorem dF.apart{rb b:Nat}{cs:Array Value}{w w':World}(h:dF b cs w)(ha:bD (One rb) w w')(hne:b≠rb):dF b cs w':=by
 have hl:=h.facts.2.2;unfold dF at *;rw[ha.block b hl hne];exact h
def bS(rb:Nat)(res:Option (NT × List bX))(w:World)(e:Ending)(w':World):Prop:=
 match res with
 | none=>e=.returned (.tuple #[oM,.bool false])/\bD (One rb) w w'
 | some r=> ∃(cs:List Value) (ws:List ByteArray),e=.returned (.tuple #[.agg cs.toArray,.bool true])/\aH (fun b=>w.heap.size<=b/\b<w'.heap.size) w' r.1 cs/\RdS rb ws w'/\ws.map (·.data.toList)=r.2/\bD (One rb) w w'
def jD(g:Nat):Prop:=∀(rb:Nat) (wd:ByteArray) (ws:List ByteArray) (d:Int) (w:World),d+g=5->1<=d->Env w->Old rb->RdS rb ws w->wd.size<=20000->
 Calls Tryz.prog 143 #[.pointer (some ⟨rb,0,none⟩),.string wd,.int .i64 d] w fun e w'=>bS rb (aY g wd.data.toList (ws.map (·.data.toList))) w e w'
theorem aFc:∀(g:Nat) (ws:List bX),aY g [] ws=none
 | 0,_=>rfl
 | g+1,ws=>by
  rw[aY,if_neg (by decide),if_neg (by decide),if_neg (by decide)];have:gN []=none:=by decide
  rw[this];rfl
theorem zC(g m:Nat)(acc:List NT)(ws:List ByteArray):eO (aY g) m acc (ws.map (·.data.toList))=eO (aY g) m acc ((ws.headD ⟨#[]⟩).data.toList :: ws.tail.map (·.data.toList)):=by
 cases ws with
 | cons x ws=>rfl
 | nil=>
  cases m with
  | zero=>rfl
  | succ m=>
   show none=eO (aY g) (m+1) acc ([] :: []);rw[eO,if_neg (by decide),aFc]
theorem aVz{g:Nat}{wd:bX}{ws:List bX}{t:NT}{rest:List bX}(h:aY g wd ws=some (t,rest)):rest.length<=ws.length:=by
 obtain⟨h1,-⟩:=aKt g wd ws t rest h;obtain⟨x,r,e⟩:=aAc t;have:=Q0 List.length h1;rw[e] at this;simp at this;omega
def iS(B:Nat)(v:Value)(acc:List NT)(w:World):Prop:=
 ∃csl:List (List Value),csl.length=acc.length/\(∀cs∈csl,cs.length=10)/\w.ownsRow B 96 10 v acc.length csl.flatten/\∀(i:Nat) t cs,acc[i]? = some t->csl[i]? = some cs->aH (fun b=>B<=b/\b<w.heap.size/\v.ownBlock≠some b) w t cs
theorem iS.nil(B:Nat)(w:World):iS B (.slice none 0 0) [] w:=⟨[],rfl,by simp,Q1 _ _ _ _,by simp⟩
theorem iS.other{B:Nat}{v:Value}{acc:List NT}{w w':World}(h:iS B v acc w)(hs:w.heap.size<=w'.heap.size)(hb:∀b,B<=b->b<w.heap.size->w'.heap[b]? = w.heap[b]?):iS B v acc w':=by
 obtain⟨csl,h1,h2,⟨h3,a1⟩,h4⟩:=h;refine⟨csl,h1,h2,⟨h3,a1.imp id ?_⟩,fun i t cs hi hc=>aH.mono (fun p hp=>X0 (w:=w) (hb _ hp.1 hp.2.1)) (fun b hb=>⟨hb.1,R8 hb.2.1 hs,hb.2.2⟩) t cs (h4 i t cs hi hc)⟩;rintro⟨g,cap,a0,e1,e2,e3,e4⟩;exact⟨g,cap,a0,e1,e2,by rw[hb g e2 (U9.1 e3).1];exact e3,e4⟩
theorem iS.push{B B':Nat}{v v':Value}{acc:List NT}{csl:List (List Value)}{t:NT}{cs:List Value}{w w':World}{o:Obj}(h1:csl.length=acc.length)(h2:∀cs∈csl,cs.length=10)
  (h4:∀(i:Nat) t cs,acc[i]? = some t->csl[i]? = some cs->aH (fun b=>B<=b/\b<w.heap.size/\v.ownBlock≠some b) w t cs)
  (hB:B<=B') (hv:∀g,v.ownBlock=some g->g<B') (hn:aH (fun b=>B'<=b/\b<w.heap.size) w t cs) (hc:cs.length=10)
  (h5:w'.ownsRow B 96 10 v' (acc.length+1) (csl.flatten++cs)) (h6:(w.alloc o).grownBy w' v.ownBlock) (h7:v'.ownBlock=v.ownBlock\/v'.ownBlock=some (w.alloc o).heap.size):iS B v' (acc++[t]) w':=by
 have e:=aC w o;have a4:w.heap.size<=w'.heap.size:=by have:=h6.size;omega
 have a0:∀p:Addr,p.block<w.heap.size->v.ownBlock≠some p.block->w'.cell? p=w.cell? p:=fun p hp a1=>by
  rw[X0 (w:=w.alloc o) (a:=p) (h6.block p.block (by omega) (fun e=>a1 e.symm))];exact (aA.alloc w o).cell hp
 have a1:∀b,b<w.heap.size->v.ownBlock≠some b->v'.ownBlock≠some b:=fun b hb hn=>by
  rcases h7 with h7 | h7
  ·rw[h7];exact hn
  ·rw[h7];intro e;have:=U6 e;omega
 refine⟨csl++[cs],by simp[h1],fun x hx=>?_,by simpa using h5,fun i u x hu hx=>?_⟩
 ·rcases U0.1 hx with hx | hx
  ·exact h2 x hx
  ·rw[T0.1 hx];exact hc
 ·by_cases hi:i<acc.length
  ·rw[Y0 hi] at hu;rw[Y0 (by omega)] at hx;exact aH.mono (fun p hp=>a0 p hp.2.1 hp.2.2) (fun b hb=>⟨hb.1,by omega,a1 b hb.2.1 hb.2.2⟩) u x (h4 i u x hu hx)
  ·have a3:i=acc.length:=by
    have:=(R9.1 hu).1;simp at this;omega
   subst a3;rw[Y2 (Y1 _),Nat.sub_self] at hu;rw[<-h1,Y2 (Y1 _),Nat.sub_self] at hx;cases hu;cases hx
   have a2:∀b,B'<=b->v.ownBlock≠some b:=fun b hb e=>by have:=hv b e;omega
   exact aH.mono (fun p hp=>a0 p hp.2 (a2 _ hp.1)) (fun b hb=>⟨by omega,by omega,a1 b hb.2 (a2 b hb.1)⟩) t cs hn
theorem aDp{csl:List (List Value)}(h2:∀cs∈csl,cs.length=10):∀(i:Nat) (cs:List Value),csl[i]? = some cs->∀(m:Nat) (v:Value),cs[m]? = some v->csl.flatten[i*10+m]? = some v:=by
 induction csl with
 | nil=>intro i cs h;simp at h
 | cons c r ih=>
  intro i cs h m v hv;have hc:c.length=10:=h2 c (by simp);cases i with
  | zero=>
   simp at h;subst h;have hm:m<c.length:=(R9.1 hv).1;rw[List.flatten_cons,Nat.zero_mul,Z6,Y0 hm];exact hv
  | succ i=>
   rw[List.flatten_cons,Y2 (by omega),show (i+1)*10+m-c.length=i*10+m by omega];exact ih (fun x hx=>h2 x (by simp[hx])) i cs (by simpa using h) m v hv
theorem iS.final{B:Nat}{v:Value}{acc:List NT}{w:World}(h:iS B v acc w):∃kp cap,v=.slice kp acc.length cap/\acc.length<=cap/\acc.length<=9223372036854775807/\bJ (fun b=>B<=b/\b<w.heap.size) w acc kp 0:=by
 obtain⟨csl,h1,h2,⟨h3,⟨rfl,h0⟩ | ⟨g,cap,a1,rfl,e2,e3,e4,e5,e6,e7⟩⟩,h4⟩:=h
 ·obtain rfl:=Y4.1 h0;exact⟨none,0,rfl,Y1 _,by simp,by rw[bJ];trivial⟩
 ·refine⟨some ⟨g,0,none⟩,cap,rfl,e4,by unfold maxLen at e5;omega,?_⟩;have hg:=(U9.1 e3).1;have key:∀(ts:List NT) (i:Nat),ts=acc.drop i->i+ts.length=acc.length->bJ (fun b=>B<=b/\b<w.heap.size) w ts (some ⟨g,0,none⟩) i:=by
   intro ts
   induction ts with
   | nil=>intro i _ _;rw[bJ];trivial
   | cons t ts ih=>
    intro i he hl;rw[Z0] at hl;have hi:i<acc.length:=by omega
    rw[Z5 hi] at he;injection he with he1 he2;rw[bJ];refine⟨⟨⟨g,0,none⟩,csl[i],rfl,⟨e2,hg⟩,fun m u hu=>?_,?_⟩,ih (i+1) he2 (by omega)⟩
    ·have a0:csl[i].length=10:=h2 _ (U5 _);have hm:m<10:=by rw[<-a0];exact (R9.1 hu).1
     have hf:=aDp h2 i csl[i] (Q9 (by omega)) m u hu;have ha:((⟨g,0,none⟩:Addr).add (i*10)).add m=⟨g,i*10+m,none⟩:=by
      rw[Addr.add_mid,Addr.add_mid,Z6]
     rw[ha];rw[<-e7,List.getElem?_take,if_pos (by omega)] at hf;simp only[World.cell?,e3];simpa using hf
    ·rw[he1];exact aH.mono (fun _ _=>rfl) (fun b hb=>⟨hb.1,hb.2.1⟩) _ _ (h4 i _ _ (Q9 hi) (Q9 (by omega)))
  exact key acc 0 (by simp) (by simp)
theorem cB{rb B:Nat}{w wr W:World}(ha:bD (One rb) w wr)(hk:Below B wr W)(hB:w.heap.size<=B):bD (One rb) w W:=
 ⟨hk.os.trans ha.os,hk.tape.trans ha.tape,hk.output.trans ha.output,U2 ha.size hk.size,fun b hb ho=>(hk.block b (by omega)).trans (ha.block b hb ho),fun _ _ h=>h⟩
theorem jI{w:World}{cs:List Value}{T:TypeId}(j:Nat)(u:Value)(h:cs[j]? = some u):(w.alloc (.cells cs.toArray T)).cell? ((⟨w.heap.size,0,none⟩:Addr).add j)=some u:=by
 rw[Addr.add_mid,Z6];have:(w.alloc (.cells cs.toArray T)).heap[w.heap.size]? = some (.cells cs.toArray T (0,0)):=by
  show (w.heap.push _)[w.heap.size]? = _;rw[Array.getElem?_push,if_pos rfl]
 simp only[World.cell?,this];simpa using h
theorem dF.grown{b:Nat}{cs:Array Value}{w w':World}{o:Obj}{row:Option Nat}(h:dF b cs w)(hg:(w.alloc o).grownBy w' row)(hne:row≠some b):dF b cs w':=by
 have h1:=h.keep (aA.alloc w o) h.facts.2.2;have hl:=h1.facts.2.2;unfold dF at *;rw[hg.block b hl (fun e=>hne e.symm)];exact h1
theorem dF.set9{b:Nat}{v0 v1 v2 v3 v4 v5 v6 v7 v8 v9:Value}{w:World}(h:dF b #[v0,v1,v2,v3,v4,v5,v6,v7,v8,v9] w)(x:Value):dF b #[v0,v1,v2,v3,v4,v5,v6,v7,v8,x] (w.setCell ⟨b,9,none⟩ x):=by
 have a0:=aJ h 9 x;simp only[List.setIfInBounds_toArray,List.set_cons_zero,List.set_cons_succ] at a0;exact a0
theorem lU(w:World)(b i:Nat)(x:Value):∀k,k≠b->(w.setCell ⟨b,i,none⟩ x).heap[k]? = w.heap[k]? :=fun k hk=>by
 simp[World.setCell,Array.getElem?_modify,Ne.symm hk]
theorem dI(w:World)(b i:Nat)(x:Value):(w.setCell ⟨b,i,none⟩ x).heap.size=w.heap.size:=by simp[World.setCell]
theorem aPz:(Tryz.prog.info? 96).map (fun i=>(i.zero,i.size,i.bytes))=some (some (.agg #[.int .i64 0,.string ⟨#[]⟩,.int .i64 0,.int .i64 0,.int .i64 0,.string ⟨#[]⟩,.bool false,.string ⟨#[]⟩,.bool false,.slice none 0 0]),10,120):=by kernel_rfl
end Go.Proofs.YthjlcjdlelkkdaaGreatDoor
namespace Go.Proofs.YthjlcjdlelkkdaaGreatDoor
open Go.RowKit
theorem nA(wd:ByteArray)(l:List UInt8):(wd.data.toList=l/\(wd.toList==l)=true/\(wd.toList != l)=false)\/(wd.data.toList≠l/\(wd.toList==l)=false/\(wd.toList != l)=true):=by
 rw[Lib.toList_data];by_cases h:wd.data.toList=l
 ·exact Or.inl ⟨h,by simp[h],by simp[h]⟩
 ·exact Or.inr ⟨h,by simp[h],by simp[h]⟩
theorem aS{B e sz n:Nat}{v:Value}{xs:List Value}{w:World}(h:w.ownsRow B e sz v n xs)(hn:0<n):∃g cap,v=.slice (some ⟨g,0,none⟩) n cap:=by
 obtain⟨-,⟨-,h0⟩ | ⟨g,cap,a0,e1,-⟩⟩:=h
 ·omega
 ·exact⟨g,cap,e1⟩
theorem eG{rb:Nat}(w:World)(o:Obj):bD (One rb) w (w.alloc o):=cO (aA.alloc w o)
theorem vR(g:Nat)(H:jD g)(rb:Nat)(k:Int)(n f:ByteArray)(op v sl:Int)(on:Bool)(fl:ByteArray)(nt:Bool)(ws:List ByteArray)(d:Int)(w:World)(hd:d+g=4)(hd1:1<=d)(hE:Env w)(hO:Old rb)(hr:RdS rb ws w):
  Calls Tryz.prog 178 #[.pointer (some ⟨rb,0,none⟩),.agg #[.int .i64 k,.string n,.int .i64 op,.int .i64 v,.int .i64 sl,.string f,.bool on,.string fl,.bool nt,.slice none 0 0],.int .i64 d] w
   fun e w'=>bS rb (eA (aY g) (.node k ⟨n,op,v,sl,f,on⟩ fl nt) (ws.map (·.data.toList))) w e w':=by
 obtain⟨i0,hi,j0,i9,j3⟩:=info_parts aPz;have g1:=hr.1.lt;have k4:=hr.len;have HE:=hid hE;have HO:=hid hO;have HH:=hid H;have h3:=hid (hr.keep (aA.alloc w (.cells #[.int .i64 k,.string n,.int .i64 op,.int .i64 v,.int .i64 sl,.string f,.bool on,.string fl,.bool nt,.slice none 0 0] 96)));have e0:=aC w (.cells #[.int .i64 k,.string n,.int .i64 op,.int .i64 v,.int .i64 sl,.string f,.bool on,.string fl,.bool nt,.slice none 0 0] 96);have b0:=dF.new w #[.int .i64 k,.string n,.int .i64 op,.int .i64 v,.int .i64 sl,.string f,.bool on,.string fl,.bool nt,.slice none 0 0];have r0:=dF.new (w.alloc (.cells #[.int .i64 k,.string n,.int .i64 op,.int .i64 v,.int .i64 sl,.string f,.bool on,.string fl,.bool nt,.slice none 0 0] 96)) #[.int .i64 0,.string ⟨#[]⟩,.int .i64 0,.int .i64 0,.int .i64 0,.string ⟨#[]⟩,.bool false,.string ⟨#[]⟩,.bool false,.slice none 0 0];rw[e0] at r0;have B1:=hid (b0.keep (aA.alloc (w.alloc (.cells #[.int .i64 k,.string n,.int .i64 op,.int .i64 v,.int .i64 sl,.string f,.bool on,.string fl,.bool nt,.slice none 0 0] 96)) (.cells #[.int .i64 0,.string ⟨#[]⟩,.int .i64 0,.int .i64 0,.int .i64 0,.string ⟨#[]⟩,.bool false,.string ⟨#[]⟩,.bool false,.slice none 0 0] 96)) b0.facts.2.2);have R1:=hid r0;have A1:Hid (bD (One rb) w ((w.alloc (.cells #[.int .i64 k,.string n,.int .i64 op,.int .i64 v,.int .i64 sl,.string f,.bool on,.string fl,.bool nt,.slice none 0 0] 96)).alloc (.cells #[.int .i64 0,.string ⟨#[]⟩,.int .i64 0,.int .i64 0,.int .i64 0,.string ⟨#[]⟩,.bool false,.string ⟨#[]⟩,.bool false,.slice none 0 0] 96))):=(eG _ _).trans (eG _ _);have f0:=hid (h3.out.keep (aA.alloc _ (.cells #[.int .i64 0,.string ⟨#[]⟩,.int .i64 0,.int .i64 0,.int .i64 0,.string ⟨#[]⟩,.bool false,.string ⟨#[]⟩,.bool false,.slice none 0 0] 96)));have f7:((w.alloc (.cells #[.int .i64 k,.string n,.int .i64 op,.int .i64 v,.int .i64 sl,.string f,.bool on,.string fl,.bool nt,.slice none 0 0] 96)).alloc (.cells #[.int .i64 0,.string ⟨#[]⟩,.int .i64 0,.int .i64 0,.int .i64 0,.string ⟨#[]⟩,.bool false,.string ⟨#[]⟩,.bool false,.slice none 0 0] 96)).heap.size=w.heap.size+2:=by rw[aC,aC]
 have g4:=hid f7;clear hE hO H h3 e0 b0 r0 f7 hr;go_enter Tryz.func178,Tryz.ntmps178;go_wp2_with fail;generalize (w.alloc (.cells #[.int .i64 k,.string n,.int .i64 op,.int .i64 v,.int .i64 sl,.string f,.bool on,.string fl,.bool nt,.slice none 0 0] 96)).alloc (.cells #[.int .i64 0,.string ⟨#[]⟩,.int .i64 0,.int .i64 0,.int .i64 0,.string ⟨#[]⟩,.bool false,.string ⟨#[]⟩,.bool false,.slice none 0 0] 96)=W1 at B1 R1 A1 f0 g4 |-
 refine (oE rb ws W1 f0.out).mono ?_;rintro e w2 ⟨rfl,g9,e5,d5⟩;have B2:Hid (dF w.heap.size #[.int .i64 k,.string n,.int .i64 op,.int .i64 v,.int .i64 sl,.string f,.bool on,.string fl,.bool nt,.slice none 0 0] w2):=B1.out.apart d5 (by omega);have R2:Hid (dF (w.heap.size+1) #[.int .i64 0,.string ⟨#[]⟩,.int .i64 0,.int .i64 0,.int .i64 0,.string ⟨#[]⟩,.bool false,.string ⟨#[]⟩,.bool false,.slice none 0 0] w2):=R1.out.apart d5 (by omega);have A2:Hid (bD (One rb) w w2):=A1.out.trans d5;have d1:=hid (zC g (ws.length+1) [] ws);have d0:Hid (((ws.headD ⟨#[]⟩).data.toList = []/\1<=ws.length+1)\/ws.tail.length+2<=ws.length+1):=by
  cases ws with
  | nil=>exact Or.inl ⟨rfl,by simp⟩
  | cons x ws=>exact Or.inr (by simp)
 have e6:=hid g9;generalize ws.headD ⟨#[]⟩=x0 at e5 d1 d0 |-
 generalize ws.tail=tl at e6 d1 d0;have g3:=hid e5;clear B1 R1 A1 f0 g4 g9 e5 d5;go_wp2_with fail;go_loopg [8] (ws.length+1) (fun gk word wr=> ∃(acc:List NT) (wd:ByteArray) (a5:List ByteArray) (kv:Value),word=.string wd/\RdS rb a5 wr/\dF w.heap.size #[.int .i64 k,.string n,.int .i64 op,.int .i64 v,.int .i64 sl,.string f,.bool on,.string fl,.bool nt,kv] wr/\dF (w.heap.size+1) #[.int .i64 0,.string ⟨#[]⟩,.int .i64 0,.int .i64 0,.int .i64 0,.string ⟨#[]⟩,.bool false,.string ⟨#[]⟩,.bool false,.slice none 0 0] wr/\iS (w.heap.size+2) kv acc wr/\eO (aY g) (ws.length+1) [] (ws.map (·.data.toList))=eO (aY g) gk acc (wd.data.toList :: a5.map (·.data.toList))/\((wd.data.toList = []/\1<=gk)\/a5.length+2<=gk)/\acc.length+gk<=ws.length+1/\wd.size<=20000/\bD (One rb) w wr);case atStart=>
  exact⟨[],_,tl,_,rfl,e6.out,B2.out,R2.out,iS.nil _ _,d1.out,d0.out,by simp,g3.out,A2.out⟩
 case round=>
  obtain⟨acc,wd,a5,kv,rfl,e3,d8,a1,c7,g0,g2,i6,i8,h5⟩:=hrel;have e1:=hid g0;have h0:=hid g2;have b5:=hid c7;have HB:=hid d8;have d6:=hid a1;have HR:=hid e3;have HA:=hid h5;have j9:=e3.1.lt;have j7:w.heap.size+2<=wr.heap.size:=by have:=a1.facts.2.2;omega
  obtain⟨d7,d4,-⟩:=d8.facts;obtain⟨d3,d2,-⟩:=a1.facts;clear g0 g2 c7 d8 a1 e3 h5 B2 R2 A2 e6 g3 d1 d0;obtain⟨mk,rfl⟩:∃m,gk=m+1:=⟨gk-1,by rcases h0.out with h | h<;>omega⟩;rcases nA wd [41] with ⟨hw1,hw2,hw3⟩ | ⟨hw1,hw2,hw3⟩
  ·have b4:Hid (eA (aY g) (.node k ⟨n,op,v,sl,f,on⟩ fl nt) (ws.map (·.data.toList))=some (.node k ⟨n,op,v,sl,f,on⟩ fl nt acc,a5.map (·.data.toList))):=by
    show _=_;unfold eA;rw[A0,e1.out,eO,if_pos hw1];rfl
   obtain⟨kp,kc,rfl,i4,i1,b3⟩:=b5.out.final;have h8:=hid b3;clear hw1 b3;go_wp2_with fail;clear d7 d4 d3 d2;refine bM (.bool true) d6.out rfl rfl ?_;intro W BW KW SW OW;obtain⟨e7,_,_⟩:=BW.out.facts;refine⟨by simp[results,Tryz.results178,go_sem,e7],?_⟩;show bS _ _ w _ W;rw[b4.out];have b8:∀p:Addr,w.heap.size+2<=p.block/\p.block<wr.heap.size->W.cell? p=wr.cell? p:=fun p hp=>X0 (w:=wr) (OW.out _ (by omega));refine⟨[.int .i64 k,.string n,.int .i64 op,.int .i64 v,.int .i64 sl,.string f,.bool on,.string fl,.bool nt,.slice kp acc.length kc],a5,rfl,?_,HR.out.other (fun b hb=>OW.out b (by omega)),rfl,cB HA.out KW.out (by omega)⟩;rw[aH];refine⟨kp,kc,rfl,i4,i1,?_⟩;exact bJ.mono (fun p hp=>b8 p hp) (fun b hb=>⟨by omega,by rw[SW.out];exact hb.2⟩) acc kp 0 h8.out
  ·have hE:=HE.out.apart HO.out g1 HA.out;have k1:rb<w.heap.size:=g1;have b2:=HH.out rb wd a5 (d+1) wr (by omega) (by omega) hE HO.out HR.out i8;have a4:=hid b2;have f4:Hid (wd.data.toList ≠ [41]):=hw1;clear b2 hE hw1 d7 d4 d3 d2;go_wp2_with fail;refine a4.out.mono ?_;rintro e w3 a2;cases hq:aY g wd.data.toList (a5.map (·.data.toList)) with
   | none=>
    rw[hq] at a2;obtain⟨rfl,a3⟩:=a2;have b4:Hid (eA (aY g) (.node k ⟨n,op,v,sl,f,on⟩ fl nt) (ws.map (·.data.toList))=none):=by
     show _=_;unfold eA;rw[A0,e1.out,eO,if_neg f4.out,hq];rfl
    have R3:=hid ((d6.out.apart a3 (by omega)).keep (aA.alloc w3 (.cells #[.int .i64 0,.string ⟨#[]⟩,.int .i64 0,.int .i64 0,.int .i64 0,.string ⟨#[]⟩,.bool false,.string ⟨#[]⟩,.bool false,.slice none 0 0] 96)) (d6.out.apart a3 (by omega)).facts.2.2);have A3:Hid (bD (One rb) w (w3.alloc (.cells #[.int .i64 0,.string ⟨#[]⟩,.int .i64 0,.int .i64 0,.int .i64 0,.string ⟨#[]⟩,.bool false,.string ⟨#[]⟩,.bool false,.slice none 0 0] 96))):=(HA.out.trans a3).trans (eG _ _);unfold oM;clear a3 a4 hq;go_upto_region 5 with fail;generalize w3.alloc (.cells #[.int .i64 0,.string ⟨#[]⟩,.int .i64 0,.int .i64 0,.int .i64 0,.string ⟨#[]⟩,.bool false,.string ⟨#[]⟩,.bool false,.slice none 0 0] 96)=W4 at R3 A3 |-
    obtain⟨d3,d2,i5⟩:=R3.out.facts;go_wp2_with fail;clear d3 d2;refine bM (.bool false) R3.out rfl rfl ?_;intro W BW KW SW OW;obtain⟨e7,_,_⟩:=BW.out.facts;refine⟨by simp[results,Tryz.results178,go_sem,e7],?_⟩;show bS _ _ w _ W;rw[b4.out];exact⟨rfl,cB A3.out KW.out (by omega)⟩
   | some r=>
    obtain⟨t,rs⟩:=r;rw[hq] at a2;obtain⟨cs,a8,rfl,e8,f8,f3,a3⟩:=a2;have j4:=aVz hq;have HQ:=hid hq;have h6:Hid (a8.map (·.data.toList)=rs):=f3;have j5:a8.length<=a5.length:=by
     have:=Q0 List.length h6.out;rw[A0] at this j4;omega
    have h7:=hid e8;cases t with
    | node k' a' fl' nt' kids'=>
    rw[aH] at e8;obtain⟨a6,a7,rfl,-,-,-⟩:=e8;have B3:=HB.out.apart a3 (by omega);have R3:=d6.out.apart a3 (by omega);have i2:wr.heap.size<=w3.heap.size:=a3.size;have c9:=b5.out.other i2 (fun b hb hlt=>a3.block b hlt (fun e=>by have:b=rb:=e;omega));have K4:=hid (aA.alloc w3 (.cells #[.int .i64 k',.string a'.n,.int .i64 a'.op,.int .i64 a'.v,.int .i64 a'.sl,.string a'.f,.bool a'.on,.string fl',.bool nt',.slice a6 kids'.length a7] 96));have C4:Hid (dF w3.heap.size #[.int .i64 k',.string a'.n,.int .i64 a'.op,.int .i64 a'.v,.int .i64 a'.sl,.string a'.f,.bool a'.on,.string fl',.bool nt',.slice a6 kids'.length a7] (w3.alloc (.cells #[.int .i64 k',.string a'.n,.int .i64 a'.op,.int .i64 a'.v,.int .i64 a'.sl,.string a'.f,.bool a'.on,.string fl',.bool nt',.slice a6 kids'.length a7] 96))):=dF.new w3 #[.int .i64 k',.string a'.n,.int .i64 a'.op,.int .i64 a'.v,.int .i64 a'.sl,.string a'.f,.bool a'.on,.string fl',.bool nt',.slice a6 kids'.length a7];have B4:=hid (B3.keep K4.out B3.facts.2.2);have R4:=hid (R3.keep K4.out R3.facts.2.2);have c5:=hid (c9.other K4.out.size (fun b _ hlt=>K4.out.block b hlt));have A4:Hid (bD (One rb) w (w3.alloc (.cells #[.int .i64 k',.string a'.n,.int .i64 a'.op,.int .i64 a'.v,.int .i64 a'.sl,.string a'.f,.bool a'.on,.string fl',.bool nt',.slice a6 kids'.length a7] 96))):=(HA.out.trans a3).trans (eG _ _);have g8:=hid (f8.keep K4.out);have b1:∀g',kv.ownBlock=some g'->w.heap.size+2<=g'/\g'<wr.heap.size:=fun g' hg'=>by
     obtain⟨csl,-,-,o1,-⟩:=b5.out;exact dN o1 hg'
    have a9:=hid b1;clear f3 f8 a3 a4 hq B3 R3 c9 b1;go_upto_region 5 with fail;generalize w3.alloc (.cells #[.int .i64 k',.string a'.n,.int .i64 a'.op,.int .i64 a'.v,.int .i64 a'.sl,.string a'.f,.bool a'.on,.string fl',.bool nt',.slice a6 kids'.length a7] 96)=W4 at K4 C4 B4 R4 c5 A4 g8 |-
    obtain⟨csl,c1,c2,c3,c4⟩:=c5.out;have f9:=hid c4;have g6:=hid c3;obtain⟨d7,d4,k6⟩:=B4.out.facts;obtain⟨j1,i7,k5⟩:=C4.out.facts;have k0:=K4.out.size;clear c4 c3;go_wp2_with (at_builtin;refine wpList_append_own_at _ rfl _ _ 94 rfl (w.heap.size+2) 96 i0 (.agg #[.int .i64 0,.string ⟨#[]⟩,.int .i64 0,.int .i64 0,.int .i64 0,.string ⟨#[]⟩,.bool false,.string ⟨#[]⟩,.bool false,.slice none 0 0]) 10 120 Tryz.underlying94 hi j0 i9 j3 rfl (by decide) kv acc.length csl.flatten rfl (g6.out.alloc _) ⟨W4.heap.size,0,none⟩ 1 1 [.int .i64 k',.string a'.n,.int .i64 a'.op,.int .i64 a'.v,.int .i64 a'.sl,.string a'.f,.bool a'.on,.string fl',.bool nt',.slice a6 kids'.length a7] rfl rfl jI (by intro u hu;simp at hu;rcases hu with rfl | rfl | rfl | rfl | rfl | rfl | rfl | rfl | rfl | rfl<;>rfl) (by unfold maxLen;omega) (by omega) (by have:=aC W4 (.cells #[.int .i64 k',.string a'.n,.int .i64 a'.op,.int .i64 a'.v,.int .i64 a'.sl,.string a'.f,.bool a'.on,.string fl',.bool nt',.slice a6 kids'.length a7] 96);omega) ?_)
    intro v5 w5 h1 h2 _ h4;obtain⟨g5,a0,rfl⟩:=aS h1 (Q2 _);have c8:kv.ownBlock≠some w.heap.size:=fun e=>by have:=a9.out _ e;omega
    have b9:kv.ownBlock≠some (w.heap.size+1):=fun e=>by have:=a9.out _ e;omega
    have B5:=B4.out.grown h2 c8;have R5:=R4.out.grown h2 b9;have N4:aH (fun b=>wr.heap.size<=b/\b<W4.heap.size) W4 (.node k' a' fl' nt' kids') [.int .i64 k',.string a'.n,.int .i64 a'.op,.int .i64 a'.v,.int .i64 a'.sl,.string a'.f,.bool a'.on,.string fl',.bool nt',.slice a6 kids'.length a7]:=aH.mono (fun p hp=>K4.out.cell hp.2) (fun b hb=>⟨hb.1,by omega⟩) _ _ h7.out;have c0:=iS.push (B':=wr.heap.size) c1 c2 f9.out (by omega) (fun g' hg'=>(a9.out g' hg').2) N4 rfl (by simpa using h1) h2 (by rw[aC];exact h4);have L5:Below (w.heap.size+2) W4 w5:=((Below.refl _ W4).alloc (by omega) _).grown h2 (by have:=aC W4 (.cells #[.int .i64 k',.string a'.n,.int .i64 a'.op,.int .i64 a'.v,.int .i64 a'.sl,.string a'.f,.bool a'.on,.string fl',.bool nt',.slice a6 kids'.length a7] 96);omega) (fun g' hg'=>(a9.out g' hg').1);have j8:=L5.size;have B6:=hid (B5.set9 (.slice (some ⟨g5,0,none⟩) (acc.length+1) a0));have e9:=lU w5 w.heap.size 9 (.slice (some ⟨g5,0,none⟩) (acc.length+1) a0);have R6:Hid (dF (w.heap.size+1) #[.int .i64 0,.string ⟨#[]⟩,.int .i64 0,.int .i64 0,.int .i64 0,.string ⟨#[]⟩,.bool false,.string ⟨#[]⟩,.bool false,.slice none 0 0] (w5.setCell ⟨w.heap.size,9,none⟩ (.slice (some ⟨g5,0,none⟩) (acc.length+1) a0))):=by
     show _=_;rw[e9 _ (by omega)];exact R5
    have b7:=hid (c0.other (by rw[dI];exact Y1 _) (fun b hb _=>e9 b (by omega)));have L6:Below w.heap.size W4 (w5.setCell ⟨w.heap.size,9,none⟩ (.slice (some ⟨g5,0,none⟩) (acc.length+1) a0)):=by
     have j2:Below w.heap.size W4 w5:=Below.mono L5 (by omega);exact Below.setCell j2 (p:=⟨w.heap.size,9,none⟩) (Y1 _) (.slice (some ⟨g5,0,none⟩) (acc.length+1) a0)
    have A6:=hid (cB A4.out L6 (Y1 _));have f5:=hid (g8.out.other (fun b hb=>L6.block b (by omega)));obtain⟨h9,i3,k3⟩:=B5.facts;clear h1 h2 h4 B5 R5 N4 c0 L5 L6 e9 d7 d4 j1 i7 c8 b9 g6 f9;go_wp2_with fail;generalize w5.setCell ⟨w.heap.size,9,none⟩ (.slice (some ⟨g5,0,none⟩) (acc.length+1) a0)=W6 at B6 R6 b7 A6 f5 |-
    clear h9 i3;refine (oE rb a8 W6 f5.out).mono ?_;rintro e w7 ⟨rfl,f6,e2,b6⟩;have f1:Hid (eO (aY g) (ws.length+1) [] (ws.map (·.data.toList))=eO (aY g) mk (acc++[.node k' a' fl' nt' kids']) ((a8.headD ⟨#[]⟩).data.toList :: a8.tail.map (·.data.toList))):=by
     show _=_;rw[e1.out,eO,if_neg f4.out,HQ.out,<-zC,h6.out]
    have c6:wd.data.toList ≠ []:=fun e=>by
     have:=HQ.out;rw[e,aFc] at this;cases this
    have e4:a5.length+2<=mk+1:=by
     rcases h0.out with h | h
     ·exact absurd h.1 c6
     ·exact h
    have f2:Hid (((a8.headD ⟨#[]⟩).data.toList = []/\1<=mk)\/a8.tail.length+2<=mk):=by
     cases a8 with
     | nil=>exact Or.inl ⟨rfl,by omega⟩
     | cons x l=>exact Or.inr (by simp at j5 |-;omega)
    have B7:=hid (B6.out.apart b6 (by omega));have R7:=hid (R6.out.apart b6 (by omega));have k2:w.heap.size+2<=W6.heap.size:=by have:=R6.out.facts.2.2;omega
    have d9:=hid (b7.out.other b6.size (fun b hb hlt=>b6.block b hlt (fun e=>by have:b=rb:=e;omega)));have A7:=hid (A6.out.trans b6);have g7:=hid f6;generalize a8.headD ⟨#[]⟩=x7 at e2 f1 f2 |-
    generalize a8.tail=tl7 at g7 f1 f2;have j6:=hid e2;clear f6 e2 b6 c6 e4;go_wp2_with fail;go_roundg mk;case measure=>omega
    case rel=>exact⟨acc++[.node k' a' fl' nt' kids'],x7,tl7,(.slice (some ⟨g5,0,none⟩) (acc.length+1) a0),rfl,g7.out,B7.out,R7.out,d9.out,f1.out,f2.out,by simp;omega,j6.out,A7.out⟩
end Go.Proofs.YthjlcjdlelkkdaaGreatDoor
namespace Go.Proofs.YthjlcjdlelkkdaaGreatDoor
open Go.RowKit
theorem jG{rb X:Nat}{t:NT}{cs:List Value}{ws:List ByteArray}{w wk w3 W:World}(hX:w.heap.size<=X)(hXk:X<wk.heap.size)(hn:aH (fun b=>wk.heap.size<=b/\b<w3.heap.size) w3 t cs)(hr:RdS rb ws w3)(hrb:rb<w.heap.size)
  (hO:∀b,b≠X->W.heap[b]? = w3.heap[b]?) (hS:W.heap.size=w3.heap.size):aH (fun b=>w.heap.size<=b/\b<W.heap.size) W t cs/\RdS rb ws W:=by
 refine⟨aH.mono (fun p hp=>X0 (w:=w3) (hO _ (by omega))) (fun b hb=>⟨by omega,by omega⟩) t cs hn,hr.other (fun b hb=>hO b (by omega))⟩
def eQ(g:Nat)(k:Int)(a:At)(fl:ByteArray)(nt:Bool)(ws:List bX):Option (NT × List bX):=if k=5/\aP fl.data.toList=false then none else lF (aY g) (.node k a fl nt) ws
theorem vD(g:Nat)(H:jD g)(rb:Nat)(k:Int)(n f:ByteArray)(op v sl:Int)(on:Bool)(fl:ByteArray)(nt:Bool)(ws:List ByteArray)(d:Int)(w:World)(hd:d+g=4)(hd1:1<=d)(hE:Env w)(hO:Old rb)(hr:RdS rb ws w):
  Calls Tryz.prog 177 #[.pointer (some ⟨rb,0,none⟩),.agg #[.int .i64 k,.string n,.int .i64 op,.int .i64 v,.int .i64 sl,.string f,.bool on,.string fl,.bool nt,.slice none 0 0],.int .i64 d] w
   fun e w'=>bS rb (eQ g k ⟨n,op,v,sl,f,on⟩ fl nt (ws.map (·.data.toList))) w e w':=by
 have c3:=hr.1.lt;have HE:=hid hE;have HO:=hid hO;have HH:=hid H;have d3:=hid (hr.keep (aA.alloc w (.cells #[.int .i64 k,.string n,.int .i64 op,.int .i64 v,.int .i64 sl,.string f,.bool on,.string fl,.bool nt,.slice none 0 0] 96)));have e0:=aC w (.cells #[.int .i64 k,.string n,.int .i64 op,.int .i64 v,.int .i64 sl,.string f,.bool on,.string fl,.bool nt,.slice none 0 0] 96);have b0:=dF.new w #[.int .i64 k,.string n,.int .i64 op,.int .i64 v,.int .i64 sl,.string f,.bool on,.string fl,.bool nt,.slice none 0 0];have r0:=dF.new (w.alloc (.cells #[.int .i64 k,.string n,.int .i64 op,.int .i64 v,.int .i64 sl,.string f,.bool on,.string fl,.bool nt,.slice none 0 0] 96)) #[.int .i64 0,.string ⟨#[]⟩,.int .i64 0,.int .i64 0,.int .i64 0,.string ⟨#[]⟩,.bool false,.string ⟨#[]⟩,.bool false,.slice none 0 0];rw[e0] at r0;have B1:=hid (b0.keep (aA.alloc (w.alloc (.cells #[.int .i64 k,.string n,.int .i64 op,.int .i64 v,.int .i64 sl,.string f,.bool on,.string fl,.bool nt,.slice none 0 0] 96)) (.cells #[.int .i64 0,.string ⟨#[]⟩,.int .i64 0,.int .i64 0,.int .i64 0,.string ⟨#[]⟩,.bool false,.string ⟨#[]⟩,.bool false,.slice none 0 0] 96)) b0.facts.2.2);have R1:=hid r0;have A1:Hid (bD (One rb) w ((w.alloc (.cells #[.int .i64 k,.string n,.int .i64 op,.int .i64 v,.int .i64 sl,.string f,.bool on,.string fl,.bool nt,.slice none 0 0] 96)).alloc (.cells #[.int .i64 0,.string ⟨#[]⟩,.int .i64 0,.int .i64 0,.int .i64 0,.string ⟨#[]⟩,.bool false,.string ⟨#[]⟩,.bool false,.slice none 0 0] 96))):=(eG _ _).trans (eG _ _);have c2:=hid (d3.out.keep (aA.alloc _ (.cells #[.int .i64 0,.string ⟨#[]⟩,.int .i64 0,.int .i64 0,.int .i64 0,.string ⟨#[]⟩,.bool false,.string ⟨#[]⟩,.bool false,.slice none 0 0] 96)));clear hE hO H d3 e0 b0 r0 hr;by_cases hbad:k=5/\aP fl.data.toList=false
 ·have d0:(k==5)=true:=by simp[hbad.1]
  have c5:Hid (aP fl.data.toList=false):=hbad.2;have a7:Hid (eQ g k ⟨n,op,v,sl,f,on⟩ fl nt (ws.map (·.data.toList))=none):=by show _=_;unfold eQ;rw[if_pos hbad]
  clear hbad;go_enter Tryz.func177,Tryz.ntmps177;go_wp2_with fail;generalize (w.alloc (.cells #[.int .i64 k,.string n,.int .i64 op,.int .i64 v,.int .i64 sl,.string f,.bool on,.string fl,.bool nt,.slice none 0 0] 96)).alloc (.cells #[.int .i64 0,.string ⟨#[]⟩,.int .i64 0,.int .i64 0,.int .i64 0,.string ⟨#[]⟩,.bool false,.string ⟨#[]⟩,.bool false,.slice none 0 0] 96)=W1 at B1 R1 A1 c2 |-
  refine (dH _ _).mono ?_;rintro e w2 ⟨rfl,b2⟩;rw[c5.out,b2];clear b2 w2;obtain⟨a3,a4,a8⟩:=R1.out.facts;go_wp2_with fail;clear a3 a4;refine bM (.bool false) R1.out rfl rfl ?_;intro W BW KW SW OW;obtain⟨a5,_,_⟩:=BW.out.facts;refine⟨by simp[results,Tryz.results177,go_sem,a5],?_⟩;show bS _ _ w _ W;rw[a7.out];exact⟨rfl,cB A1.out KW.out (by omega)⟩
 ·have a7:Hid (eQ g k ⟨n,op,v,sl,f,on⟩ fl nt (ws.map (·.data.toList))=lF (aY g) (.node k ⟨n,op,v,sl,f,on⟩ fl nt) (ws.map (·.data.toList))):=by show _=_;unfold eQ;rw[if_neg hbad]
  have b8:((k==5)=true/\Hid (aP fl.data.toList=true))\/(k==5)=false:=by
   by_cases e:k=5
   ·left;refine⟨by simp[e],?_⟩;cases hn:aP fl.data.toList
    ·exact absurd ⟨e,hn⟩ hbad
    ·rfl
   ·right;simp[e]
  clear hbad;go_enter Tryz.func177,Tryz.ntmps177;go_upto_region 1 with fail;generalize (w.alloc (.cells #[.int .i64 k,.string n,.int .i64 op,.int .i64 v,.int .i64 sl,.string f,.bool on,.string fl,.bool nt,.slice none 0 0] 96)).alloc (.cells #[.int .i64 0,.string ⟨#[]⟩,.int .i64 0,.int .i64 0,.int .i64 0,.string ⟨#[]⟩,.bool false,.string ⟨#[]⟩,.bool false,.slice none 0 0] 96)=W1 at B1 R1 A1 c2 |-
  obtain⟨b4,b3,d4⟩:=B1.out.facts;rcases b8 with ⟨d0,c5⟩ | d0
  ·go_wp2_with fail;refine (dH _ _).mono ?_;rintro e w2 ⟨rfl,b2⟩;rw[c5.out,b2];clear b2 w2;go_wp2_with fail;refine (oE rb ws W1 c2.out).mono ?_;rintro e w2 ⟨rfl,a9,b9,b1⟩;have B2:=hid (B1.out.apart b1 (by omega));have R2:=hid (R1.out.apart b1 (by omega));have A2:=hid (A1.out.trans b1);have c0:=hid a9;have c7:=a9.1.lt;have a6:Hid (lF (aY g) (.node k ⟨n,op,v,sl,f,on⟩ fl nt) (ws.map (·.data.toList))=if (ws.headD ⟨#[]⟩).data.toList = [40] then eA (aY g) (.node k ⟨n,op,v,sl,f,on⟩ fl nt) (ws.tail.map (·.data.toList)) else none):=by
    cases ws with
    | nil=>rfl
    | cons x ws=>rfl
   generalize ws.headD ⟨#[]⟩=x0 at b9 a6 |-
   generalize ws.tail=tl at c0 a9 a6;clear a9 b9 b1 b4 b3;obtain⟨b4,b3,d4⟩:=B2.out.facts;rcases nA x0 [40] with ⟨hw1,b2,hw3⟩ | ⟨hw1,b2,hw3⟩
   ·have a1:Hid (eQ g k ⟨n,op,v,sl,f,on⟩ fl nt (ws.map (·.data.toList))=eA (aY g) (.node k ⟨n,op,v,sl,f,on⟩ fl nt) (tl.map (·.data.toList))):=by show _=_;rw[a7.out,a6.out,if_pos hw1]
    clear hw1 a6;go_wp2_with fail;refine (vR g HH.out rb k n f op v sl on fl nt tl d w2 hd hd1 (HE.out.apart HO.out c3 A2.out) HO.out c0.out).mono ?_;rintro e w3 a0;rw[<-a1.out] at a0;clear b4 b3;cases hq:eQ g k ⟨n,op,v,sl,f,on⟩ fl nt (ws.map (·.data.toList)) with
    | none=>
     rw[hq] at a0;obtain⟨rfl,a2⟩:=a0;have R3:=hid (R2.out.apart a2 (by omega));have A3:=hid (A2.out.trans a2);have HQ:=hid hq;clear a2 hq;unfold oM;obtain⟨a3,a4,a8⟩:=R3.out.facts;go_wp2_with fail;clear a3 a4;refine bM (.bool false) R3.out rfl rfl ?_;intro W BW KW SW OW;obtain⟨a5,_,_⟩:=BW.out.facts;refine⟨by simp[results,Tryz.results177,go_sem,a5],?_⟩;show bS _ _ w _ W;rw[HQ.out];exact⟨rfl,cB A3.out KW.out (by omega)⟩
    | some r=>
     obtain⟨t,rs⟩:=r;rw[hq] at a0;obtain⟨cs,c6,rfl,b6,c1,b7,a2⟩:=a0;have R3:=hid (R2.out.apart a2 (by omega));have A3:=hid (A2.out.trans a2);have HQ:=hid hq;have c4:=hid b6;have c8:=hid c1;have c9:=hid b7;have b5:=R2.out.facts.2.2;clear a2 hq c1 b7;cases t with
     | node k' a' fl' nt' kids'=>
     rw[aH] at b6;obtain⟨d6,d5,rfl,-,-,-⟩:=b6;obtain⟨a3,a4,a8⟩:=R3.out.facts;go_wp2_with fail;clear a3 a4;refine bM (.bool true) R3.out rfl rfl ?_;intro W BW KW SW OW;obtain⟨a5,_,_⟩:=BW.out.facts;refine⟨by simp[results,Tryz.results177,go_sem,a5],?_⟩;show bS _ _ w _ W;rw[HQ.out];obtain⟨d1,d2⟩:=jG (X:=w.heap.size+1) (w:=w) (by omega) b5 c4.out c8.out c3 OW.out SW.out;exact⟨_,c6,rfl,d1,d2,c9.out,cB A3.out KW.out (by omega)⟩
   ·have a1:Hid (eQ g k ⟨n,op,v,sl,f,on⟩ fl nt (ws.map (·.data.toList))=none):=by show _=_;rw[a7.out,a6.out,if_neg hw1]
    clear hw1 a6 b4 b3;obtain⟨a3,a4,a8⟩:=R2.out.facts;go_wp2_with fail;clear a3 a4;refine bM (.bool false) R2.out rfl rfl ?_;intro W BW KW SW OW;obtain⟨a5,_,_⟩:=BW.out.facts;refine⟨by simp[results,Tryz.results177,go_sem,a5],?_⟩;show bS _ _ w _ W;rw[a1.out];exact⟨rfl,cB A2.out KW.out (by omega)⟩
  ·go_wp2_with fail;refine (oE rb ws W1 c2.out).mono ?_;rintro e w2 ⟨rfl,a9,b9,b1⟩;have B2:=hid (B1.out.apart b1 (by omega));have R2:=hid (R1.out.apart b1 (by omega));have A2:=hid (A1.out.trans b1);have c0:=hid a9;have c7:=a9.1.lt;have a6:Hid (lF (aY g) (.node k ⟨n,op,v,sl,f,on⟩ fl nt) (ws.map (·.data.toList))=if (ws.headD ⟨#[]⟩).data.toList = [40] then eA (aY g) (.node k ⟨n,op,v,sl,f,on⟩ fl nt) (ws.tail.map (·.data.toList)) else none):=by
    cases ws with
    | nil=>rfl
    | cons x ws=>rfl
   generalize ws.headD ⟨#[]⟩=x0 at b9 a6 |-
   generalize ws.tail=tl at c0 a9 a6;clear a9 b9 b1 b4 b3;obtain⟨b4,b3,d4⟩:=B2.out.facts;rcases nA x0 [40] with ⟨hw1,b2,hw3⟩ | ⟨hw1,b2,hw3⟩
   ·have a1:Hid (eQ g k ⟨n,op,v,sl,f,on⟩ fl nt (ws.map (·.data.toList))=eA (aY g) (.node k ⟨n,op,v,sl,f,on⟩ fl nt) (tl.map (·.data.toList))):=by show _=_;rw[a7.out,a6.out,if_pos hw1]
    clear hw1 a6;go_wp2_with fail;refine (vR g HH.out rb k n f op v sl on fl nt tl d w2 hd hd1 (HE.out.apart HO.out c3 A2.out) HO.out c0.out).mono ?_;rintro e w3 a0;rw[<-a1.out] at a0;clear b4 b3;cases hq:eQ g k ⟨n,op,v,sl,f,on⟩ fl nt (ws.map (·.data.toList)) with
    | none=>
     rw[hq] at a0;obtain⟨rfl,a2⟩:=a0;have R3:=hid (R2.out.apart a2 (by omega));have A3:=hid (A2.out.trans a2);have HQ:=hid hq;clear a2 hq;unfold oM;obtain⟨a3,a4,a8⟩:=R3.out.facts;go_wp2_with fail;clear a3 a4;refine bM (.bool false) R3.out rfl rfl ?_;intro W BW KW SW OW;obtain⟨a5,_,_⟩:=BW.out.facts;refine⟨by simp[results,Tryz.results177,go_sem,a5],?_⟩;show bS _ _ w _ W;rw[HQ.out];exact⟨rfl,cB A3.out KW.out (by omega)⟩
    | some r=>
     obtain⟨t,rs⟩:=r;rw[hq] at a0;obtain⟨cs,c6,rfl,b6,c1,b7,a2⟩:=a0;have R3:=hid (R2.out.apart a2 (by omega));have A3:=hid (A2.out.trans a2);have HQ:=hid hq;have c4:=hid b6;have c8:=hid c1;have c9:=hid b7;have b5:=R2.out.facts.2.2;clear a2 hq c1 b7;cases t with
     | node k' a' fl' nt' kids'=>
     rw[aH] at b6;obtain⟨d6,d5,rfl,-,-,-⟩:=b6;obtain⟨a3,a4,a8⟩:=R3.out.facts;go_wp2_with fail;clear a3 a4;refine bM (.bool true) R3.out rfl rfl ?_;intro W BW KW SW OW;obtain⟨a5,_,_⟩:=BW.out.facts;refine⟨by simp[results,Tryz.results177,go_sem,a5],?_⟩;show bS _ _ w _ W;rw[HQ.out];obtain⟨d1,d2⟩:=jG (X:=w.heap.size+1) (w:=w) (by omega) b5 c4.out c8.out c3 OW.out SW.out;exact⟨_,c6,rfl,d1,d2,c9.out,cB A3.out KW.out (by omega)⟩
   ·have a1:Hid (eQ g k ⟨n,op,v,sl,f,on⟩ fl nt (ws.map (·.data.toList))=none):=by show _=_;rw[a7.out,a6.out,if_neg hw1]
    clear hw1 a6 b4 b3;obtain⟨a3,a4,a8⟩:=R2.out.facts;go_wp2_with fail;clear a3 a4;refine bM (.bool false) R2.out rfl rfl ?_;intro W BW KW SW OW;obtain⟨a5,_,_⟩:=BW.out.facts;refine⟨by simp[results,Tryz.results177,go_sem,a5],?_⟩;show bS _ _ w _ W;rw[a1.out];exact⟨rfl,cB A2.out KW.out (by omega)⟩
end Go.Proofs.YthjlcjdlelkkdaaGreatDoor
