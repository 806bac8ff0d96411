/- Steps of the proof: NeedCheck, ShelfS, NeedPrint. -/
import Derived.Test.YthaaaecmeafofaaGreatDoorOs04
import Derived.Deep.MidRow
import Derived.Shelf.LaysM
import Derived.Shelf.LaysC
import Derived.Shelf.Sort.Plain
import Derived.Shelf.Slices.Turned
import Derived.Shelf.Slices.Equal
import Derived.Shelf.Slices.CompactS
import Derived.Shelf.Slices.In.SortNone
import Derived.Shelf.Slices.Empties2
import Derived.Shelf.SlicesE.IndexFunc
import Derived.Test.YthaaaecmeafofaaGreatDoorProg
import Derived.Maps.AppendAt
import Derived.Deep.Cut
set_option maxHeartbeats 16000000
set_option maxRecDepth 100000
namespace Go.Proofs.YthaaaecmeafofaaGreatDoor
open Go.RowKit
theorem gO (k:Int) (n f:ByteArray) (op v sl:Int) (on:Bool) (fl:ByteArray) (nt:Bool) (kp:Option Addr) (len cap:Nat) (w:World) :
  Calls Tryz.prog 272 #[.agg #[.int .i64 k,.string n,.int .i64 op,.int .i64 v,.int .i64 sl,.string f,.bool on,.string fl,.bool nt,.slice kp len cap]] w fun e w'=>e=.returned (.bool (bL k))/\aA w w':=by
 by_cases h1:k=1
 ·have h1':(k==1)=true:=by simp [h1]
  have H:Hid (bL k=true):=by show bL k=true;simp [bL,h1]
  clear h1
  go_enter Tryz.func272,Tryz.ntmps272
  go_wp2
  go_ret
  exact ⟨aG H.out.symm,aA.alloc _ _⟩
 ·have h1':(k==1)=false:=by simp [h1]
  have H:Hid (bL k=(k==2)):=by show bL k=(k==2);simp [bL,h1]
  clear h1
  go_enter Tryz.func272,Tryz.ntmps272
  go_wp2
  go_ret
  exact ⟨aG H.out.symm,aA.alloc _ _⟩
theorem zT (k:Int) (a:At) (fl:ByteArray) (nt:Bool) (len:Nat) :
  (k<1/\Hid (bJ k a fl nt len=false))∨(¬ k<1/\5<k/\Hid (bJ k a fl nt len=false))
  ∨(¬ k<1/\¬ 5<k/\Hid (bL k=true)/\(0:Int)<len/\Hid (bJ k a fl nt len=false))
  ∨(¬ k<1/\¬ 5<k/\Hid (bL k=true)/\¬ (0:Int)<len/\(k==5)=false/\Hid (bJ k a fl nt len=(fl.toList.isEmpty && !nt)))
  ∨(¬ k<1/\¬ 5<k/\Hid (bL k=false)/\Hid (kI a=false)/\Hid (bJ k a fl nt len=false))
  ∨(¬ k<1/\¬ 5<k/\Hid (bL k=false)/\Hid (kI a=true)/\(k==5)=true/\Hid (bJ k a fl nt len=true))
  ∨(¬ k<1/\¬ 5<k/\Hid (bL k=false)/\Hid (kI a=true)/\(k==5)=false/\Hid (bJ k a fl nt len=(fl.toList.isEmpty && !nt))):=by
 by_cases h1:k<1
 ·exact Or.inl ⟨h1,by show _=_;simp [bJ];omega⟩
 ·by_cases h2:5<k
  ·exact Or.inr (Or.inl ⟨h1,h2,by show _=_;simp [bJ];omega⟩)
  ·have e1:decide (1<=k)=true:=decide_eq_true (by omega)
   have e2:decide (k<=5)=true:=decide_eq_true (by omega)
   cases h3:bL k
   ·cases h4:kI a
    ·exact Or.inr (Or.inr (Or.inr (Or.inr (Or.inl ⟨h1,h2,rfl,rfl,by show _=_;unfold bJ;rw [e1,e2,h3,h4];simp⟩))))
    ·cases h5:(k==5)
     ·exact Or.inr (Or.inr (Or.inr (Or.inr (Or.inr (Or.inr ⟨h1,h2,rfl,rfl,rfl,by show _=_;unfold bJ;rw [e1,e2,h3,h4,h5];simp⟩)))))
     ·exact Or.inr (Or.inr (Or.inr (Or.inr (Or.inr (Or.inl ⟨h1,h2,rfl,rfl,rfl,by show _=_;unfold bJ;rw [e1,e2,h3,h4,h5];simp⟩)))))
   ·by_cases h4:(0:Int)<len
    ·refine Or.inr (Or.inr (Or.inl ⟨h1,h2,rfl,h4,?_⟩))
     show _=_
     unfold bJ;rw [e1,e2,h3,decide_eq_true (by omega)];simp
    ·have h5:(k==5)=false:=by
      simp [bL] at h3
      simp;omega
     refine Or.inr (Or.inr (Or.inr (Or.inl ⟨h1,h2,rfl,h4,h5,?_⟩)))
     show _=_
     unfold bJ;rw [e1,e2,h3,h5,decide_eq_false (by omega)];simp
theorem uM (k:Int) (n f:ByteArray) (op v sl:Int) (on:Bool) (fl:ByteArray) (nt:Bool) (kp:Option Addr) (len cap:Nat) (w:World) :
  Calls Tryz.prog 271 #[.agg #[.int .i64 k,.string n,.int .i64 op,.int .i64 v,.int .i64 sl,.string f,.bool on,.string fl,.bool nt,.slice kp len cap]] w fun e w'=>e=.returned (.bool (bJ k ⟨n,op,v,sl,f,on⟩ fl nt len))/\aA w w':=by
 rcases zT k ⟨n,op,v,sl,f,on⟩ fl nt len with ⟨h1,H⟩ | ⟨h1,h2,H⟩ | ⟨h1,h2,L,h3,H⟩ | ⟨h1,h2,L,h3,h4,H⟩ | ⟨h1,h2,L,Z,H⟩ | ⟨h1,h2,L,Z,h4,H⟩ | ⟨h1,h2,L,Z,h4,H⟩
 ·go_enter Tryz.func271,Tryz.ntmps271
  go_wp2
  go_ret
  exact ⟨aG H.out.symm,aA.alloc _ _⟩
 ·go_enter Tryz.func271,Tryz.ntmps271
  go_wp2
  go_ret
  exact ⟨aG H.out.symm,aA.alloc _ _⟩
 all_goals
  have hb0:=aH.new w #[.int .i64 k,.string n,.int .i64 op,.int .i64 v,.int .i64 sl,.string f,.bool on,.string fl,.bool nt,.slice kp len cap] 74
  have K0:=aA.alloc w (.cells #[.int .i64 k,.string n,.int .i64 op,.int .i64 v,.int .i64 sl,.string f,.bool on,.string fl,.bool nt,.slice kp len cap] 74)
  have HB0:Hid (aH w.heap.size #[.int .i64 k,.string n,.int .i64 op,.int .i64 v,.int .i64 sl,.string f,.bool on,.string fl,.bool nt,.slice kp len cap] (w.alloc (.cells #[.int .i64 k,.string n,.int .i64 op,.int .i64 v,.int .i64 sl,.string f,.bool on,.string fl,.bool nt,.slice kp len cap] 74))):=hb0
  clear hb0
  go_enter Tryz.func271,Tryz.ntmps271
  go_wp2_with fail
  generalize w.alloc (.cells #[.int .i64 k,.string n,.int .i64 op,.int .i64 v,.int .i64 sl,.string f,.bool on,.string fl,.bool nt,.slice kp len cap] 74)=W0 at K0 HB0 ⊢
  refine (gO _ _ _ _ _ _ _ _ _ _ _ _ _).mono ?_
  rintro e w1 ⟨rfl,k1⟩
  rw [L.out]
  have HB1:Hid (aH w.heap.size #[.int .i64 k,.string n,.int .i64 op,.int .i64 v,.int .i64 sl,.string f,.bool on,.string fl,.bool nt,.slice kp len cap] w1):=HB0.out.keep k1 HB0.out.1
  have K1:=K0.trans k1
  clear k1 HB0
  have hc1:=HB1.out.2
  have hl1:=HB1.out.1
  go_wp2_with fail
 ·go_ret
  exact ⟨aG H.out.symm,K1⟩
 all_goals
  refine (gO _ _ _ _ _ _ _ _ _ _ _ _ _).mono ?_
  rintro e w2 ⟨rfl,k2⟩
  rw [L.out]
  have HB2:Hid (aH w.heap.size #[.int .i64 k,.string n,.int .i64 op,.int .i64 v,.int .i64 sl,.string f,.bool on,.string fl,.bool nt,.slice kp len cap] w2):=HB1.out.keep k2 HB1.out.1
  have K2:=K1.trans k2
  clear k2 HB1 hc1 hl1
  have hc2:=HB2.out.2
  have hl2:=HB2.out.1
 ·cases hfe:fl.toList.isEmpty<;>cases nt
  all_goals
   rw [hfe] at H
   go_wp2_with fail
   go_ret
   exact ⟨aG H.out.symm,K2⟩
 ·have heq:=fun wx=>nH n op v sl f on ⟨#[]⟩ 0 0 0 ⟨#[]⟩ false wx
  rw [show hY n op v sl f on ⟨#[]⟩ 0 0 0 ⟨#[]⟩ false=false from Z.out] at heq
  go_wp2_with fail
  go_ret
  exact ⟨aG H.out.symm,K2⟩
 ·have heq:=fun wx=>nH n op v sl f on ⟨#[]⟩ 0 0 0 ⟨#[]⟩ false wx
  rw [show hY n op v sl f on ⟨#[]⟩ 0 0 0 ⟨#[]⟩ false=true from Z.out] at heq
  go_wp2_with fail
  go_ret
  exact ⟨aG H.out.symm,K2⟩
 ·have heq:=fun wx=>nH n op v sl f on ⟨#[]⟩ 0 0 0 ⟨#[]⟩ false wx
  rw [show hY n op v sl f on ⟨#[]⟩ 0 0 0 ⟨#[]⟩ false=true from Z.out] at heq
  cases hfe:fl.toList.isEmpty<;>cases nt
  all_goals
   rw [hfe] at H
   go_wp2_with fail
   go_ret
   exact ⟨aG H.out.symm,K2⟩
theorem aAl (k:Int) (a:At) (fl:ByteArray) (nt:Bool) (kids:List NT) :
  (Hid (bJ k a fl nt kids.length=false)/\Hid (aU (.node k a fl nt kids)=4))
  ∨(Hid (bJ k a fl nt kids.length=true)/\(k==5)=true/\Hid (aI fl.data.toList=false)/\Hid (aU (.node k a fl nt kids)=1))
  ∨(Hid (bJ k a fl nt kids.length=true)/\(k==5)=true/\Hid (aI fl.data.toList=true)/\Hid (bL k=false)/\Hid (aU (.node k a fl nt kids)=0))
  ∨(Hid (bJ k a fl nt kids.length=true)/\(k==5)=false/\Hid (bL k=false)/\Hid (aU (.node k a fl nt kids)=0))
  ∨(Hid (bJ k a fl nt kids.length=true)/\(k==5)=false/\Hid (bL k=true)/\Hid (aU (.node k a fl nt kids)=mA a)):=by
 cases h:bJ k a fl nt kids.length
 ·exact Or.inl ⟨rfl,by show _=_;rw [aU,if_pos h]⟩
 ·by_cases h5:k=5
  ·have h5':(k==5)=true:=by simp [h5]
   have hl:bL k=false:=by subst h5;rfl
   cases hn:aI fl.data.toList
   ·exact Or.inr (Or.inl ⟨rfl,h5',rfl,by show _=_;rw [aU,if_neg (by rw [h];decide),if_pos ⟨h5,hn⟩]⟩)
   ·refine Or.inr (Or.inr (Or.inl ⟨rfl,h5',rfl,hl,?_⟩))
    show _=_
    rw [aU,if_neg (by rw [h];decide),if_neg (by rw [hn];simp),if_neg (by rw [hl];decide)]
  ·have h5':(k==5)=false:=by simp [h5]
   cases hl:bL k
   ·refine Or.inr (Or.inr (Or.inr (Or.inl ⟨rfl,h5',rfl,?_⟩)))
    show _=_
    rw [aU,if_neg (by rw [h];decide),if_neg (fun e=>h5 e.1),if_neg (by rw [hl];decide)]
   ·refine Or.inr (Or.inr (Or.inr (Or.inr ⟨rfl,h5',rfl,?_⟩)))
    show _=_
    rw [aU,if_neg (by rw [h];decide),if_neg (fun e=>h5 e.1),if_pos hl]
theorem qZ (k:Int) (n f:ByteArray) (op v sl:Int) (on:Bool) (fl:ByteArray) (nt:Bool) (kp:Option Addr) (kids:List NT) (cap:Nat) (w:World) :
  Calls Tryz.prog 256 #[.agg #[.int .i64 k,.string n,.int .i64 op,.int .i64 v,.int .i64 sl,.string f,.bool on,.string fl,.bool nt,.slice kp kids.length cap]] w fun e w'=>e=.returned (.int .i64 (aU (.node k ⟨n,op,v,sl,f,on⟩ fl nt kids)))/\aA w w':=by
 have hways:=aAl k ⟨n,op,v,sl,f,on⟩ fl nt kids
 generalize kids.length=len at hways ⊢
 rcases hways with ⟨F,H⟩ | ⟨F,h5,M,H⟩ | ⟨F,h5,M,L,H⟩ | ⟨F,h5,L,H⟩ | ⟨F,h5,L,H⟩
 all_goals
  have hb0:=aH.new w #[.int .i64 k,.string n,.int .i64 op,.int .i64 v,.int .i64 sl,.string f,.bool on,.string fl,.bool nt,.slice kp len cap] 74
  have K0:=aA.alloc w (.cells #[.int .i64 k,.string n,.int .i64 op,.int .i64 v,.int .i64 sl,.string f,.bool on,.string fl,.bool nt,.slice kp len cap] 74)
  have HB0:Hid (aH w.heap.size #[.int .i64 k,.string n,.int .i64 op,.int .i64 v,.int .i64 sl,.string f,.bool on,.string fl,.bool nt,.slice kp len cap] (w.alloc (.cells #[.int .i64 k,.string n,.int .i64 op,.int .i64 v,.int .i64 sl,.string f,.bool on,.string fl,.bool nt,.slice kp len cap] 74))):=hb0
  clear hb0
  go_enter Tryz.func256,Tryz.ntmps256
  go_wp2_with fail
  generalize w.alloc (.cells #[.int .i64 k,.string n,.int .i64 op,.int .i64 v,.int .i64 sl,.string f,.bool on,.string fl,.bool nt,.slice kp len cap] 74)=W0 at K0 HB0 ⊢
  refine (uM _ _ _ _ _ _ _ _ _ _ _ _ _).mono ?_
  rintro e w1 ⟨rfl,k1⟩
  rw [F.out]
  have HB1:Hid (aH w.heap.size #[.int .i64 k,.string n,.int .i64 op,.int .i64 v,.int .i64 sl,.string f,.bool on,.string fl,.bool nt,.slice kp len cap] w1):=HB0.out.keep k1 HB0.out.1
  have K1:=K0.trans k1
  clear k1 HB0
  have hc1:=HB1.out.2
  have hl1:=HB1.out.1
  go_wp2_with fail
 ·go_ret
  exact ⟨aC H.out.symm,K1⟩
 ·refine (cD _ _).mono ?_
  rintro e w2 ⟨rfl,rfl⟩
  rw [M.out]
  go_wp2_with fail
  go_ret
  exact ⟨aC H.out.symm,K1⟩
 ·refine (cD _ _).mono ?_
  rintro e w2 ⟨rfl,rfl⟩
  rw [M.out]
  go_wp2_with fail
  refine (gO _ _ _ _ _ _ _ _ _ _ _ _ _).mono ?_
  rintro e w2 ⟨rfl,k2⟩
  rw [L.out]
  go_wp2_with fail
  go_ret
  exact ⟨aC H.out.symm,K1.trans k2⟩
 ·refine (gO _ _ _ _ _ _ _ _ _ _ _ _ _).mono ?_
  rintro e w2 ⟨rfl,k2⟩
  rw [L.out]
  go_wp2_with fail
  go_ret
  exact ⟨aC H.out.symm,K1.trans k2⟩
 ·refine (gO _ _ _ _ _ _ _ _ _ _ _ _ _).mono ?_
  rintro e w2 ⟨rfl,k2⟩
  rw [L.out]
  have HB2:Hid (aH w.heap.size #[.int .i64 k,.string n,.int .i64 op,.int .i64 v,.int .i64 sl,.string f,.bool on,.string fl,.bool nt,.slice kp len cap] w2):=HB1.out.keep k2 HB1.out.1
  have K2:=K1.trans k2
  clear k2 HB1 hc1 hl1
  have hc2:=HB2.out.2
  have hl2:=HB2.out.1
  go_wp2_with fail
  refine (rJ _ _ _ _ _ _ _).mono ?_
  rintro e w3 ⟨rfl,k3⟩
  have K3:=K2.trans k3
  clear hc2 hl2
  go_wp2_with fail
  go_ret
  exact ⟨aC H.out.symm,K3⟩
end Go.Proofs.YthaaaecmeafofaaGreatDoor
namespace Go.Proofs.YthaaaecmeafofaaGreatDoor
open Go.RowKit
mutual
def aE (S:Nat->Prop) (w:World):NT->List Value->Prop
 | .node k a fl nt kids,cs=> ∃ (kp:Option Addr) (cap:Nat),cs = [.int .i64 k,.string a.n,.int .i64 a.op,.int .i64 a.v,.int .i64 a.sl,.string a.f,.bool a.on,.string fl,.bool nt,.slice kp kids.length cap]/\kids.length<=cap/\kids.length<=9223372036854775807/\aT S w kids kp 0
def aT (S:Nat->Prop) (w:World):List NT->Option Addr->Nat->Prop
 | [],_,_=>True
 | t :: ts,kp,i=>(∃ (p:Addr) (cs:List Value),kp=some p/\S p.block/\(∀ j v,cs[j]? = some v->w.cell? ((p.add (i*10)).add j)=some v)/\aE S w t cs)/\aT S w ts kp (i+1)
end
theorem bY {S:Nat->Prop} {w:World} {kp:Option Addr} : ∀ {ts:List NT} {i:Nat},aT S w ts kp i->∀ (j:Nat) (h:j<ts.length),∃ (p:Addr) (cs:List Value),kp=some p/\S p.block/\(∀ m v,cs[m]? = some v->w.cell? ((p.add ((i+j)*10)).add m)=some v)/\aE S w ts[j] cs
 | [],_,_,j,h=>absurd h (Nat.not_lt_zero _)
 | t :: ts,i,hk,j,h=>by
  rw [aT] at hk
  cases j with
  | zero=>exact hk.1
  | succ j=>
   have:=bY hk.2 j (by simpa using h)
   rw [show i+1+j=i+(j+1) by omega] at this
   exact this
mutual
theorem aE.mono {S S':Nat->Prop} {w w':World} (hw : ∀ p:Addr,S p.block->w'.cell? p=w.cell? p) (hS : ∀ b,S b->S' b) : ∀ (t:NT) (cs:List Value),aE S w t cs->aE S' w' t cs
 | .node k a fl nt kids,cs,h=>by
  rw [aE] at h ⊢
  obtain ⟨kp,cap,h1,h2,h3,h4⟩:=h
  exact ⟨kp,cap,h1,h2,h3,aT.mono hw hS kids kp 0 h4⟩
theorem aT.mono {S S':Nat->Prop} {w w':World} (hw : ∀ p:Addr,S p.block->w'.cell? p=w.cell? p) (hS : ∀ b,S b->S' b) : ∀ (ts:List NT) (kp:Option Addr) (i:Nat),aT S w ts kp i->aT S' w' ts kp i
 | [],_,_,_=>by rw [aT];trivial
 | t :: ts,kp,i,h=>by
  rw [aT] at h ⊢
  obtain ⟨⟨p,cs,h1,h2,h3,h4⟩,h5⟩:=h
  refine ⟨⟨p,cs,h1,hS _ h2,fun j v hv=> ?_,aE.mono hw hS t cs h4⟩,aT.mono hw hS ts kp (i+1) h5⟩
  have hb:((p.add (i*10)).add j).block=p.block:=by unfold Addr.add;split<;>split<;>rfl
  rw [hw _ (by rw [hb];exact h2)]
  exact h3 j v hv
end
theorem aX (p:Addr) (n:Nat):(p.add n).block=p.block:=by unfold Addr.add;split<;>rfl
structure aR (Own:World->Nat->Prop) (w w':World):Prop where
 os:w'.os=w.os
 tape:w'.tape=w.tape
 output:w'.output=w.output
 size:w.heap.size<=w'.heap.size
 block : ∀ b,b<w.heap.size->¬ Own w b->w'.heap[b]? = w.heap[b]?
 own : ∀ b,b<w.heap.size->Own w' b->Own w b
theorem aR.cell {Own:World->Nat->Prop} {w w':World} (h:aR Own w w') (p:Addr) (hp:p.block<w.heap.size) (ho : ¬ Own w p.block):w'.cell? p=w.cell? p:=
 World.cell?_of_block (w:=w) (h.block p.block hp ho)
theorem aR.refl (Own:World->Nat->Prop) (w:World):aR Own w w:=⟨rfl,rfl,rfl,Nat.le_refl _,fun _ _ _=>rfl,fun _ _ h=>h⟩
theorem aR.trans {Own:World->Nat->Prop} {a b c:World} (h:aR Own a b) (k:aR Own b c):aR Own a c where
 os:=k.os.trans h.os
 tape:=k.tape.trans h.tape
 output:=k.output.trans h.output
 size:=Nat.le_trans h.size k.size
 block p hp ho:=by
  rw [k.block p (Nat.lt_of_lt_of_le hp h.size) (fun e=>ho (h.own _ hp e)),h.block p hp ho]
 own b hb e:=h.own b hb (k.own b (Nat.lt_of_lt_of_le hb h.size) e)
theorem aR.below {Own:World->Nat->Prop} {w w':World} (h:aR Own w w') {B:Nat} (hB:B<=w.heap.size) (ho : ∀ b,b<B->¬ Own w b):Below B w w':=
 ⟨h.os,h.tape,h.output,h.size,fun k hk=>h.block k (Nat.lt_of_lt_of_le hk hB) (ho k hk)⟩
def dN {σ:Type} (Inv:σ->World->Prop) (Live:σ->Prop) (Own:World->Nat->Prop) (w:World) (r:σ × Bool) (e:Ending) (w':World):Prop:=
 e=.returned (.bool r.2)/\Inv r.1 w'/\(r.2=true->Live r.1)/\aR Own w w'
structure oU {σ:Type} (F:Nat) (cap:Array Value) (S:Nat->Prop) (f:σ->NT->Int->σ × Bool) (Inv:σ->World->Prop) (Live:σ->Prop) (Own:World->Nat->Prop):Prop where
 keep : ∀ s w w',Inv s w->aA w w'->Inv s w'/\aR Own w w'/\∀ b,Own w' b->Own w b
 old : ∀ s w,Inv s w->∀ b,S b->b<w.heap.size/\¬ Own w b
 own : ∀ s w,Inv s w->∀ b,Own w b->b<w.heap.size
 call : ∀ s t d cs w,Inv s w->Live s->aE S w t cs->Calls Tryz.prog F (#[.agg cs.toArray,.int .i64 d]++cap) w fun e w'=>dN Inv Live Own w (f s t d) e w'
theorem aE.apart {σ:Type} {F:Nat} {cap:Array Value} {S:Nat->Prop} {f:σ->NT->Int->σ × Bool} {Inv:σ->World->Prop} {Live:σ->Prop} {Own:World->Nat->Prop} (V:oU F cap S f Inv Live Own)
  {s:σ} {w w':World} (hi:Inv s w) (ha:aR Own w w') {t:NT} {cs:List Value} (h:aE S w t cs):aE S w' t cs:=
 aE.mono (fun p hp=>ha.cell p (V.old s w hi _ hp).1 (V.old s w hi _ hp).2) (fun _ h=>h) t cs h
theorem aT.apart {σ:Type} {F:Nat} {cap:Array Value} {S:Nat->Prop} {f:σ->NT->Int->σ × Bool} {Inv:σ->World->Prop} {Live:σ->Prop} {Own:World->Nat->Prop} (V:oU F cap S f Inv Live Own)
  {s:σ} {w w':World} (hi:Inv s w) (ha:aR Own w w') {ts:List NT} {kp:Option Addr} {i:Nat} (h:aT S w ts kp i):aT S w' ts kp i:=
 aT.mono (fun p hp=>ha.cell p (V.old s w hi _ hp).1 (V.old s w hi _ hp).2) (fun _ h=>h) ts kp i h
theorem eF {w:World} {q:Addr} {v0 v1 v2 v3 v4 v5 v6 v7 v8 v9:Value} (h : ∀ (m:Nat) (v:Value),[v0,v1,v2,v3,v4,v5,v6,v7,v8,v9][m]? = some v->w.cell? (q.add m)=some v) :
  w.cell? q=some v0/\w.cell? ⟨q.block,q.off+1,none⟩=some v1/\w.cell? ⟨q.block,q.off+2,none⟩=some v2/\w.cell? ⟨q.block,q.off+3,none⟩=some v3/\w.cell? ⟨q.block,q.off+4,none⟩=some v4/\w.cell? ⟨q.block,q.off+5,none⟩=some v5/\w.cell? ⟨q.block,q.off+6,none⟩=some v6/\w.cell? ⟨q.block,q.off+7,none⟩=some v7/\w.cell? ⟨q.block,q.off+8,none⟩=some v8/\w.cell? ⟨q.block,q.off+9,none⟩=some v9:=
 ⟨h 0 _ rfl,h 1 _ rfl,h 2 _ rfl,h 3 _ rfl,h 4 _ rfl,h 5 _ rfl,h 6 _ rfl,h 7 _ rfl,h 8 _ rfl,h 9 _ rfl⟩
theorem pT {σ:Type} (inc:Int->Int) (f:σ->NT->Int->σ × Bool) (s:σ) (ts:List NT) (d:Int) (i:Nat) (h:i<ts.length) :
  bD inc f s (ts.drop i) d=if (bM inc f s ts[i] d).2=true then bD inc f (bM inc f s ts[i] d).1 (ts.drop (i+1)) d else ((bM inc f s ts[i] d).1,false):=by
 rw [List.drop_eq_getElem_cons h,bD]
theorem cK : ∀ (ts:List NT) (i:Nat) (h:i<ts.length),ts[i].size<=aS ts
 | [],_,h=>absurd h (Nat.not_lt_zero _)
 | t :: ts,i,h=>by
  rw [aS]
  cases i with
  | zero=>simp
  | succ i=>
   have:=cK ts i (by simpa using h)
   simp only [List.getElem_cons_succ];omega
theorem wE {σ:Type} {F:Nat} {cap:Array Value} {S:Nat->Prop} {f:σ->NT->Int->σ × Bool} {Inv:σ->World->Prop} {Live:σ->Prop} {Own:World->Nat->Prop} (V:oU F cap S f Inv Live Own)
  (hF : ∀ args w,(callFunc F args).run Tryz.prog w=.ok (.enter F args) w) :
  ∀ (m:Nat) (t:NT),t.size<=m->∀ (s:σ) (d:Int) (cs:List Value) (w:World),Inv s w->Live s->aE S w t cs->
   Calls Tryz.prog 232 #[.agg cs.toArray,.int .i64 d,.func (.func F) #[] cap] w fun e w'=>dN Inv Live Own w (bM aK f s t d) e w':=by
 intro m
 induction m with
 | zero=>
  rintro ⟨k,a,fl,nt,kids⟩ hm
  rw [NT.size] at hm;omega
 | succ m ih=>
  rintro ⟨k,a,fl,nt,kids⟩ hm s d cs w hi hl hn
  rw [NT.size] at hm
  have hn':=hn
  rw [aE] at hn
  obtain ⟨kp,kc,rfl,hcap,hmax,hkids⟩:=hn
  have hv : ∀ (w:World) (cs:List Value),Inv s w->aE S w (.node k a fl nt kids) cs->Calls Tryz.prog F (#[.agg cs.toArray,.int .i64 d]++cap) w fun e w'=>dN Inv Live Own w (f s (.node k a fl nt kids) d) e w':=fun w cs h1 h2=>V.call s _ d cs w h1 hl h2
  rw [show bM aK f s (.node k a fl nt kids) d=if (f s (.node k a fl nt kids) d).2=true then bD aK f (f s (.node k a fl nt kids) d).1 kids (aK d) else ((f s (.node k a fl nt kids) d).1,false) from by rw [bM]]
  generalize f s (.node k a fl nt kids) d=r at hv ⊢
  obtain ⟨s1,b1⟩:=r
  have hb0:=aH.new w #[.int .i64 k,.string a.n,.int .i64 a.op,.int .i64 a.v,.int .i64 a.sl,.string a.f,.bool a.on,.string fl,.bool nt,.slice kp kids.length kc] 74
  have K0:=aA.alloc w (.cells #[.int .i64 k,.string a.n,.int .i64 a.op,.int .i64 a.v,.int .i64 a.sl,.string a.f,.bool a.on,.string fl,.bool nt,.slice kp kids.length kc] 74)
  go_enter Tryz.func232,Tryz.ntmps232
  go_wp2_with fail
  generalize w.alloc (.cells #[.int .i64 k,.string a.n,.int .i64 a.op,.int .i64 a.v,.int .i64 a.sl,.string a.f,.bool a.on,.string fl,.bool nt,.slice kp kids.length kc] 74)=W0 at K0 hb0 ⊢
  obtain ⟨hi0,ha0,ho0⟩:=V.keep s w W0 hi K0
  have HB0:Hid (aH w.heap.size #[.int .i64 k,.string a.n,.int .i64 a.op,.int .i64 a.v,.int .i64 a.sl,.string a.f,.bool a.on,.string fl,.bool nt,.slice kp kids.length kc] W0):=hb0
  have hno : ¬ Own W0 w.heap.size:=fun h=>absurd (V.own s w hi _ (ho0 _ h)) (Nat.lt_irrefl _)
  refine (hv W0 _ hi0 (aE.apart V hi ha0 hn')).mono ?_
  rintro e w1 ⟨rfl,hi1,hl1,ha1⟩
  have HB1:Hid (aH w.heap.size #[.int .i64 k,.string a.n,.int .i64 a.op,.int .i64 a.v,.int .i64 a.sl,.string a.f,.bool a.on,.string fl,.bool nt,.slice kp kids.length kc] w1):=
   ⟨Nat.lt_of_lt_of_le HB0.out.1 ha1.size,fun o=>(ha1.cell ⟨w.heap.size,o,none⟩ HB0.out.1 hno).trans (HB0.out.2 o)⟩
  have hk1:aT S w1 kids kp 0:=aT.apart V hi (ha0.trans ha1) hkids
  have HA1:Hid (aR Own w w1):=ha0.trans ha1
  have hc1:=HB1.out.2
  have hb1:=HB1.out.1
  clear hn' hkids hb0 K0 hi0 ha0 ho0 HB0 hno ha1 hi hl HB1 hv
  cases b1
  ·go_wp2_with fail
   go_ret
   exact (show dN Inv Live Own w (s1,false) _ _ from ⟨rfl,hi1,fun h=>(by cases h),HA1.out⟩)
  ·have HL1:Hid (Live s1):=hl1 rfl
   have HI1:Hid (Inv s1 w1):=hi1
   have HK1:Hid (aT S w1 kids kp 0):=hk1
   clear hl1 hi1 hk1
   go_wp2_with fail
   go_loopw [17] (fun i wr=> ∃ j:Nat,j<=kids.length/\i=.int .i64 j/\∃ s',Inv s' wr/\Live s'/\bD aK f s1 kids (aK d)=bD aK f s' (kids.drop j) (aK d)/\aT S wr kids kp 0/\aR Own w wr) (fun i _=>kids.length-(intOf i).toNat)
   case atStart=>exact ⟨0,Nat.zero_le _,rfl,s1,HI1.out,HL1.out,by simp,HK1.out,HA1.out⟩
   case round=>
    obtain ⟨j,hj,rfl,s',hi',hl',he',hk',ha'⟩:=hrel
    have HI:Hid (Inv s' wr):=hi'
    have HL:Hid (Live s'):=hl'
    have HE:Hid (bD aK f s1 kids (aK d)=bD aK f s' (kids.drop j) (aK d)):=he'
    have HK:Hid (aT S wr kids kp 0):=hk'
    have HA:Hid (aR Own w wr):=ha'
    clear hi' hl' he' hk' ha' HL1 HI1 HK1 HA1 hc1
    by_cases hlt:j<kids.length
    ·have HE2:Hid (bD aK f s1 kids (aK d)=if (bM aK f s' kids[j] (aK d)).2=true then bD aK f (bM aK f s' kids[j] (aK d)).1 (kids.drop (j+1)) (aK d) else ((bM aK f s' kids[j] (aK d)).1,false)):=by
      show _=_
      rw [HE.out,pT aK f s' kids (aK d) j hlt]
     obtain ⟨p,cs,hp,hS,hcell,hneed⟩:=bY HK.out j hlt
     have hih:=ih kids[j] (by have:=cK kids j hlt;omega) s' (aK d)
     have HN:Hid (aE S wr kids[j] cs):=hneed
     subst hp
     rw [Nat.zero_add] at hcell
     cases hkid:kids[j] with
     | node k' a' fl' nt' kids'=>
     rw [hkid,aE] at hneed
     obtain ⟨kp',kc',rfl,-,-,-⟩:=hneed
     obtain ⟨c0,c1,c2,c3,c4,c5,c6,c7,c8,c9⟩:=eF hcell
     clear hcell
     have HIH:Hid (∀ (cs:List Value) (w:World),Inv s' w->Live s'->aE S w kids[j] cs->Calls Tryz.prog 232 #[.agg cs.toArray,.int .i64 (aK d),.func (.func F) #[] cap] w fun e w'=>dN Inv Live Own w (bM aK f s' kids[j] (aK d)) e w'):=hih
     clear hih ih
     have k2:=aA.alloc wr (.cells #[.int .i64 k',.string a'.n,.int .i64 a'.op,.int .i64 a'.v,.int .i64 a'.sl,.string a'.f,.bool a'.on,.string fl',.bool nt',.slice kp' kids'.length kc'] 74)
     obtain ⟨hi2,ha2,-⟩:=V.keep s' wr _ HI.out k2
     have hn2:=aE.apart V HI.out ha2 HN.out
     have HI2:Hid (Inv s' (wr.alloc (.cells #[.int .i64 k',.string a'.n,.int .i64 a'.op,.int .i64 a'.v,.int .i64 a'.sl,.string a'.f,.bool a'.on,.string fl',.bool nt',.slice kp' kids'.length kc'] 74))):=hi2
     have HA2:Hid (aR Own wr (wr.alloc (.cells #[.int .i64 k',.string a'.n,.int .i64 a'.op,.int .i64 a'.v,.int .i64 a'.sl,.string a'.f,.bool a'.on,.string fl',.bool nt',.slice kp' kids'.length kc'] 74))):=ha2
     have HN2:Hid (aE S (wr.alloc (.cells #[.int .i64 k',.string a'.n,.int .i64 a'.op,.int .i64 a'.v,.int .i64 a'.sl,.string a'.f,.bool a'.on,.string fl',.bool nt',.slice kp' kids'.length kc'] 74)) kids[j] [Value.int IntKind.i64 k',Value.string a'.n,Value.int IntKind.i64 a'.op,Value.int IntKind.i64 a'.v,Value.int IntKind.i64 a'.sl,Value.string a'.f,Value.bool a'.on,Value.string fl',Value.bool nt',Value.slice kp' kids'.length kc']):=hn2
     clear hi2 ha2 hn2 k2 hkid
     go_wp2_with fail
     generalize wr.alloc (.cells #[.int .i64 k',.string a'.n,.int .i64 a'.op,.int .i64 a'.v,.int .i64 a'.sl,.string a'.f,.bool a'.on,.string fl',.bool nt',.slice kp' kids'.length kc'] 74)=W2 at HI2 HA2 HN2 ⊢
     clear c0 c1 c2 c3 c4 c5 c6 c7 c8 c9
     rw [show wrap64 (d+1)=aK d from rfl]
     refine (HIH.out _ W2 HI2.out HL.out HN2.out).mono ?_
     rintro e w3 ⟨rfl,hi3,hl3,ha3⟩
     have HA3:Hid (aR Own wr w3):=HA2.out.trans ha3
     generalize bM aK f s' kids[j] (aK d)=r at HE2 hi3 hl3 ⊢
     obtain ⟨s3,b3⟩:=r
     have HI3:Hid (Inv s3 w3):=hi3
     clear hi3 ha3 HIH HE
     cases b3
     ·clear hl3
      go_wp2_with fail
      go_ret
      show dN Inv Live Own w (bD aK f s1 kids (aK d)) _ _
      rw [HE2.out]
      exact ⟨rfl,HI3.out,fun h=>(by cases h),HA.out.trans HA3.out⟩
     ·have HL3:Hid (Live s3):=hl3 rfl
      clear hl3
      go_wp2_with fail
      go_roundw
      case rel=>exact ⟨j+1,by omega,by go_num,s3,HI3.out,HL3.out,HE2.out,aT.apart V HI.out HA3.out HK.out,HA.out.trans HA3.out⟩
      case measure=>simp [intOf];omega
    ·go_wp2_with fail
     go_ret
     show dN Inv Live Own w (bD aK f s1 kids (aK d)) _ _
     rw [HE.out,List.drop_eq_nil_of_le (by omega),bD]
     exact ⟨rfl,HI.out,fun _=>HL.out,HA.out⟩
end Go.Proofs.YthaaaecmeafofaaGreatDoor
namespace Go.Proofs.YthaaaecmeafofaaGreatDoor
open Go.RowKit
def aB (c:Nat) (T:TypeId) (v:Value) (w:World):Prop:=w.heap[c]? = some (.cells #[v] T (0,0))
theorem aB.facts {c:Nat} {T:TypeId} {v:Value} {w:World} (h:aB c T v w):w.cell? ⟨c,0,none⟩=some v/\w.frozen? ⟨c,0,none⟩=false/\c<w.heap.size:=by
 unfold aB at h
 refine ⟨by simp [World.cell?,h],by simp [World.frozen?,h],(Array.getElem?_eq_some_iff.1 h).1⟩
theorem aB.set {c:Nat} {T:TypeId} {v:Value} {w:World} (h:aB c T v w) (x:Value):aB c T x (w.setCell ⟨c,0,none⟩ x):=by
 have:=aF h 0 x
 unfold aB
 rw [this];rfl
theorem aB.keep {c B:Nat} {T:TypeId} {v:Value} {w w':World} (h:aB c T v w) (k:Below B w w') (hB:c<B):aB c T v w':=by
 unfold aB at *;rw [k.block c hB];exact h
theorem aB.new (w:World) (T:TypeId) (v:Value):aB w.heap.size T v (w.alloc (.cells #[v] T)):=by
 show (w.heap.push _)[w.heap.size]? = _
 rw [Array.getElem?_push,if_pos rfl]
def One (c:Nat) (_:World) (b:Nat):Prop:=b=c
theorem bQ {c:Nat} {w w':World} (k:aA w w'):aR (One c) w w':=
 ⟨k.os,k.tape,k.output,k.size,fun b hb _=>k.block b hb,fun _ _ h=>h⟩
theorem dT (c:Nat) (w:World) (x:Value):aR (One c) w (w.setCell ⟨c,0,none⟩ x):=by
 have k:Below c w (w.setCell ⟨c,0,none⟩ x):=aM w c 0 x
 refine ⟨k.os,k.tape,k.output,k.size,fun b _ ho=> ?_,fun _ _ h=>h⟩
 exact Below.heap_setCell _ _ _ _ (fun e=>ho e)
def sR (c:Nat) (s:Int) (w:World):Prop:=aB c 3 (.int .i64 s) w/\0<=s
theorem eY {c:Nat} {T:TypeId} {u:Value} {w:World} (h:aB c T u w) (x:Value) (o:Obj):aB c T x ((w.setCell ⟨c,0,none⟩ x).alloc o)/\aR (One c) w ((w.setCell ⟨c,0,none⟩ x).alloc o):=by
 have h1:=h.set x
 exact ⟨h1.keep (aA.alloc _ o) h1.facts.2.2,(dT c w x).trans (bQ (aA.alloc _ o))⟩
theorem wQ (c:Nat) (s:Int) (k:Int) (a:At) (fl:ByteArray) (nt:Bool) (kp:Option Addr) (len kc:Nat) (d:Int) (w:World) (hi:sR c s w) (hl:s<=20) (t:NT) :
  Calls Tryz.prog 270 #[.agg #[.int .i64 k,.string a.n,.int .i64 a.op,.int .i64 a.v,.int .i64 a.sl,.string a.f,.bool a.on,.string fl,.bool nt,.slice kp len kc],.int .i64 d,.pointer (some ⟨c,0,none⟩)] w
   fun e w'=>dN (sR c) (fun s=>s<=20) (One c) w (fN s t d) e w':=by
 obtain ⟨hv,h0⟩:=hi
 obtain ⟨hc,hz,hlt⟩:=hv.facts
 have HV:Hid (aB c 3 (.int .i64 s) w):=hv
 clear hv
 by_cases h20:s+1<=20
 ·have HF:Hid (fN s t d=(s+1,decide (d<=4))):=by show _=_;unfold fN;rw [decide_eq_true h20];rfl
  go_enter Tryz.func270,Tryz.ntmps270
  go_wp2_with fail
  go_ret
  show dN _ _ _ w (fN s t d) _ _
  rw [HF.out]
  exact ⟨rfl,⟨(eY HV.out _ _).1,by show 0<=s+1;omega⟩,fun _=>h20,(eY HV.out _ _).2⟩
 ·have HF:Hid (fN s t d=(s+1,false)):=by show _=_;unfold fN;rw [decide_eq_false h20];rfl
  go_enter Tryz.func270,Tryz.ntmps270
  go_wp2_with fail
  go_ret
  show dN _ _ _ w (fN s t d) _ _
  rw [HF.out]
  exact ⟨rfl,⟨(eY HV.out _ _).1,by show 0<=s+1;omega⟩,fun h=>(by cases h),(eY HV.out _ _).2⟩
theorem sV (c:Nat) (S:Nat->Prop) (hS : ∀ b,S b->b<c):oU 270 #[.pointer (some ⟨c,0,none⟩)] S fN (sR c) (fun s=>s<=20) (One c) where
 keep s w w' hi k:=⟨⟨hi.1.keep k hi.1.facts.2.2,hi.2⟩,bQ k,fun _ h=>h⟩
 old s w hi b hb:=⟨Nat.lt_trans (hS b hb) hi.1.facts.2.2,fun e=>absurd (hS b hb) (by rw [show b=c from e];exact Nat.lt_irrefl _)⟩
 own s w hi b hb:=by rw [show b=c from hb];exact hi.1.facts.2.2
 call s t d cs w hi hl hn:=by
  obtain ⟨k,a,fl,nt,kids⟩:=t
  rw [aE] at hn
  obtain ⟨kp,kc,rfl,-,-,-⟩:=hn
  exact wQ c s k a fl nt kp kids.length kc d w hi hl _
theorem aE.keep {S:Nat->Prop} {B:Nat} {w w':World} (hS : ∀ b,S b->b<B) (k:Below B w w') {t:NT} {cs:List Value} (h:aE S w t cs):aE S w' t cs:=
 aE.mono (fun _ hp=>k.cell (hS _ hp)) (fun _ h=>h) t cs h
theorem aD (w:World) (o:Obj):(w.alloc o).heap.size=w.heap.size+1:=by simp
theorem uH (args:Array Value) (w:World):(callFunc 270 args).run Tryz.prog w=.ok (.enter 270 args) w:=enters_of Tryz.func270 (by kernel_rfl) rfl args w
theorem tS (t:NT) (cs:List Value) (w:World) (S:Nat->Prop) (hS : ∀ b,S b->b<w.heap.size) (hn:aE S w t cs) :
  Calls Tryz.prog 254 #[.agg cs.toArray] w fun e w'=>e=.returned (.bool (cX t))/\aA w w':=by
 have hn':=hn
 obtain ⟨k,a,fl,nt,kids⟩:=t
 rw [aE] at hn'
 obtain ⟨kp,kc,rfl,-,-,-⟩:=hn'
 have hmf : ∀ (fn:Fn) (first cap:Array Value) (w:World),(Instr.makeFunc fn first cap).run Tryz.prog w=.ok (.func fn first cap) w:=fun _ _ _ _=>rfl
 have k1:=aA.alloc w (.cells #[.int .i64 k,.string a.n,.int .i64 a.op,.int .i64 a.v,.int .i64 a.sl,.string a.f,.bool a.on,.string fl,.bool nt,.slice kp kids.length kc] 74)
 have e1:=aD w (.cells #[.int .i64 k,.string a.n,.int .i64 a.op,.int .i64 a.v,.int .i64 a.sl,.string a.f,.bool a.on,.string fl,.bool nt,.slice kp kids.length kc] 74)
 have v2:=aB.new (w.alloc (.cells #[.int .i64 k,.string a.n,.int .i64 a.op,.int .i64 a.v,.int .i64 a.sl,.string a.f,.bool a.on,.string fl,.bool nt,.slice kp kids.length kc] 74)) 3 (.int .i64 0)
 have k2:=k1.alloc' (.cells #[.int .i64 0] 3)
 have HV2:Hid (aB (w.heap.size+1) 3 (.int .i64 0) ((w.alloc (.cells #[.int .i64 k,.string a.n,.int .i64 a.op,.int .i64 a.v,.int .i64 a.sl,.string a.f,.bool a.on,.string fl,.bool nt,.slice kp kids.length kc] 74)).alloc (.cells #[.int .i64 0] 3))):=e1 ▸ v2
 have HK2:Hid (aA w ((w.alloc (.cells #[.int .i64 k,.string a.n,.int .i64 a.op,.int .i64 a.v,.int .i64 a.sl,.string a.f,.bool a.on,.string fl,.bool nt,.slice kp kids.length kc] 74)).alloc (.cells #[.int .i64 0] 3))):=k2
 have HN:Hid (aE S w (.node k a fl nt kids) [.int .i64 k,.string a.n,.int .i64 a.op,.int .i64 a.v,.int .i64 a.sl,.string a.f,.bool a.on,.string fl,.bool nt,.slice kp kids.length kc]):=hn
 clear k1 e1 v2 k2 hn
 go_enter Tryz.func254,Tryz.ntmps254
 go_wp2_with fail
 generalize (w.alloc (.cells #[.int .i64 k,.string a.n,.int .i64 a.op,.int .i64 a.v,.int .i64 a.sl,.string a.f,.bool a.on,.string fl,.bool nt,.slice kp kids.length kc] 74)).alloc (.cells #[.int .i64 0] 3)=W2 at HV2 HK2 ⊢
 refine (wE (sV (w.heap.size+1) S (fun b hb=>by have:=hS b hb;omega)) uH _ _ (Nat.le_refl _) 0 1 _ W2 ⟨HV2.out,Int.le_refl 0⟩ (show (0:Int)<=20 by decide) (HN.out.keep hS HK2.out)).mono ?_
 rintro e w3 ⟨rfl,hi3,hl3,ha3⟩
 have K3:aA w w3:=Below.trans HK2.out (ha3.below HK2.out.size (fun b hb e=>by have:b=w.heap.size+1:=e;omega))
 clear hi3 hl3 ha3
 have HR:Hid (cX (.node k a fl nt kids) = !(bM aK fN 0 (.node k a fl nt kids) 1).2):=rfl
 go_wp2_with fail
 go_ret
 exact ⟨aG HR.out.symm,K3⟩
def aBm (c:Nat) (s:Int) (w:World):Prop:=aB c 27 (.int .i64 s) w
theorem aCi (c:Nat) (s:Int) (k:Int) (a:At) (fl:ByteArray) (nt:Bool) (kp:Option Addr) (kids:List NT) (kc:Nat) (d:Int) (w:World) (hi:aBm c s w) :
  Calls Tryz.prog 255 #[.agg #[.int .i64 k,.string a.n,.int .i64 a.op,.int .i64 a.v,.int .i64 a.sl,.string a.f,.bool a.on,.string fl,.bool nt,.slice kp kids.length kc],.int .i64 d,.pointer (some ⟨c,0,none⟩)] w
   fun e w'=>dN (aBm c) (fun _=>True) (One c) w (fE s (.node k a fl nt kids) d) e w':=by
 have HV:Hid (aB c 27 (.int .i64 s) w):=hi
 have hlt:=hi.facts.2.2
 have k1:=aA.alloc w (.cells #[.int .i64 k,.string a.n,.int .i64 a.op,.int .i64 a.v,.int .i64 a.sl,.string a.f,.bool a.on,.string fl,.bool nt,.slice kp kids.length kc] 74)
 clear hi
 have HF:Hid (fE s (.node k a fl nt kids) d=(aU (.node k a fl nt kids),aU (.node k a fl nt kids)==0)):=rfl
 go_enter Tryz.func255,Tryz.ntmps255
 go_wp2_with fail
 generalize w.alloc (.cells #[.int .i64 k,.string a.n,.int .i64 a.op,.int .i64 a.v,.int .i64 a.sl,.string a.f,.bool a.on,.string fl,.bool nt,.slice kp kids.length kc] 74)=W1 at k1 ⊢
 refine (qZ _ _ _ _ _ _ _ _ _ _ _ _ _).mono ?_
 rintro e w2 ⟨rfl,k2⟩
 have K2:Hid (aA w w2):=k1.trans k2
 have HV2:Hid (aB c 27 (.int .i64 s) w2):=HV.out.keep K2.out hlt
 obtain ⟨hc,hz,hlt2⟩:=HV2.out.facts
 clear k1 k2
 generalize aU (.node k a fl nt kids)=E at HF ⊢
 go_wp2_with fail
 go_ret
 show dN _ _ _ w (fE s (.node k a fl nt kids) d) _ _
 rw [HF.out]
 exact ⟨rfl,HV2.out.set _,fun _=>trivial,(bQ K2.out).trans (dT c w2 _)⟩
theorem wY (c:Nat) (S:Nat->Prop) (hS : ∀ b,S b->b<c):oU 255 #[.pointer (some ⟨c,0,none⟩)] S fE (aBm c) (fun _=>True) (One c) where
 keep s w w' hi k:=⟨aB.keep hi k hi.facts.2.2,bQ k,fun _ h=>h⟩
 old s w hi b hb:=⟨Nat.lt_trans (hS b hb) hi.facts.2.2,fun e=>absurd (hS b hb) (by rw [show b=c from e];exact Nat.lt_irrefl _)⟩
 own s w hi b hb:=by rw [show b=c from hb];exact hi.facts.2.2
 call s t d cs w hi hl hn:=by
  obtain ⟨k,a,fl,nt,kids⟩:=t
  rw [aE] at hn
  obtain ⟨kp,kc,rfl,-,-,-⟩:=hn
  exact aCi c s k a fl nt kp kids kc d w hi
theorem zK (args:Array Value) (w:World):(callFunc 255 args).run Tryz.prog w=.ok (.enter 255 args) w:=enters_of Tryz.func255 (by kernel_rfl) rfl args w
theorem lC (t:NT) (cs:List Value) (w:World) (S:Nat->Prop) (hS : ∀ b,S b->b<w.heap.size) (hn:aE S w t cs) :
  Calls Tryz.prog 226 #[.agg cs.toArray] w fun e w'=>e=.returned (.int .i64 (cJ t))/\aA w w':=by
 have hn':=hn
 obtain ⟨k,a,fl,nt,kids⟩:=t
 rw [aE] at hn'
 obtain ⟨kp,kc,rfl,-,-,-⟩:=hn'
 have hmf : ∀ (fn:Fn) (first cap:Array Value) (w:World),(Instr.makeFunc fn first cap).run Tryz.prog w=.ok (.func fn first cap) w:=fun _ _ _ _=>rfl
 have k1:=aA.alloc w (.cells #[.int .i64 k,.string a.n,.int .i64 a.op,.int .i64 a.v,.int .i64 a.sl,.string a.f,.bool a.on,.string fl,.bool nt,.slice kp kids.length kc] 74)
 have hb0:Hid (aH w.heap.size #[.int .i64 k,.string a.n,.int .i64 a.op,.int .i64 a.v,.int .i64 a.sl,.string a.f,.bool a.on,.string fl,.bool nt,.slice kp kids.length kc] (w.alloc (.cells #[.int .i64 k,.string a.n,.int .i64 a.op,.int .i64 a.v,.int .i64 a.sl,.string a.f,.bool a.on,.string fl,.bool nt,.slice kp kids.length kc] 74))):=aH.new w #[.int .i64 k,.string a.n,.int .i64 a.op,.int .i64 a.v,.int .i64 a.sl,.string a.f,.bool a.on,.string fl,.bool nt,.slice kp kids.length kc] 74
 have HN:Hid (aE S w (.node k a fl nt kids) [.int .i64 k,.string a.n,.int .i64 a.op,.int .i64 a.v,.int .i64 a.sl,.string a.f,.bool a.on,.string fl,.bool nt,.slice kp kids.length kc]):=hn
 clear hn
 go_enter Tryz.func226,Tryz.ntmps226
 go_wp2_with fail
 generalize w.alloc (.cells #[.int .i64 k,.string a.n,.int .i64 a.op,.int .i64 a.v,.int .i64 a.sl,.string a.f,.bool a.on,.string fl,.bool nt,.slice kp kids.length kc] 74)=W1 at k1 hb0 ⊢
 refine (tS _ _ W1 S (fun b hb=>Nat.lt_of_lt_of_le (hS b hb) k1.size) (HN.out.keep hS k1)).mono ?_
 rintro e w2 ⟨rfl,k2⟩
 have K2:Hid (aA w w2):=k1.trans k2
 have HB2:Hid (aH w.heap.size #[.int .i64 k,.string a.n,.int .i64 a.op,.int .i64 a.v,.int .i64 a.sl,.string a.f,.bool a.on,.string fl,.bool nt,.slice kp kids.length kc] w2):=hb0.out.keep k2 hb0.out.1
 have hc2:=HB2.out.2
 have hlt2:=HB2.out.1
 clear k1 k2 hb0
 cases hL:cX (.node k a fl nt kids)
 ·have HC:Hid (cJ (.node k a fl nt kids)=(bM aK fE 0 (.node k a fl nt kids) 1).1):=by show _=_;unfold cJ;rw [hL];rfl
  have HV3:Hid (aB w2.heap.size 27 (.int .i64 0) (w2.alloc (.cells #[.int .i64 0] 27))):=aB.new w2 _ _
  have K3:Hid (aA w (w2.alloc (.cells #[.int .i64 0] 27))):=K2.out.alloc' _
  go_wp2_with fail
  generalize w2.alloc (.cells #[.int .i64 0] 27)=W3 at HV3 K3 ⊢
  clear hc2
  refine (wE (wY w2.heap.size S (fun b hb=>Nat.lt_of_lt_of_le (hS b hb) K2.out.size)) zK _ _ (Nat.le_refl _) 0 1 _ W3 HV3.out trivial (HN.out.keep hS K3.out)).mono ?_
  rintro e w4 ⟨rfl,hi4,hl4,ha4⟩
  have K4:Hid (aA w w4):=Below.trans K3.out (ha4.below K3.out.size (fun b hb e=>by have:b=w2.heap.size:=e;have:=K2.out.size;omega))
  obtain ⟨hc4,-,hlt4⟩:=aB.facts hi4
  clear hl4 ha4
  generalize bM aK fE 0 (.node k a fl nt kids) 1=r at HC hc4 ⊢
  go_wp2_with fail
  go_ret
  exact ⟨aC HC.out.symm,K4.out⟩
 ·have HC:Hid (cJ (.node k a fl nt kids)=2):=by show _=_;unfold cJ;rw [hL];rfl
  go_wp2_with fail
  go_ret
  exact ⟨aC HC.out.symm,K2.out⟩
end Go.Proofs.YthaaaecmeafofaaGreatDoor
namespace Go.Proofs
open Go.Shelf
def Tryz.lays190_ren:Go.Shelf.Ren:=⟨fun | 190=>163 | 125=>186 | 258=>185 | 128=>219 | 129=>220 | 302=>210 | 303=>211 | 304=>212 | 305=>213 | 306=>214 | 307=>215 | 308=>216 | 309=>217 | 310=>218 | 333=>239 | 329=>240 | 330=>241 | 334=>242 | 335=>243 | 336=>244 | 344=>259 | n=>n,fun | 31=>69 | 9=>9 | 3=>3 | 46=>228 | 0=>0 | 51=>257 | 53=>237 | 4=>4 | 183=>251 | 182=>250 | 131=>230 | 5=>5 | 218=>282 | 222=>286 | 228=>296 | 229=>171 | n=>n,fun | n=>n⟩
theorem Tryz.lays190:Go.Proofs.Lays.n190 Tryz.prog Tryz.lays190_ren:= {
 mixed:=by kernel_rfl
 f125:=Tryz.func186.trans (congrArg some (by kernel_rfl))
 f128:=Tryz.func219.trans (congrArg some (by kernel_rfl))
 f129:=Tryz.func220.trans (congrArg some (by kernel_rfl))
 f190:=Tryz.func163.trans (congrArg some (by kernel_rfl))
 f258:=Tryz.func185.trans (congrArg some (by kernel_rfl))
 f302:=Tryz.func210.trans (congrArg some (by kernel_rfl))
 f303:=Tryz.func211.trans (congrArg some (by kernel_rfl))
 f304:=Tryz.func212.trans (congrArg some (by kernel_rfl))
 f305:=Tryz.func213.trans (congrArg some (by kernel_rfl))
 f306:=Tryz.func214.trans (congrArg some (by kernel_rfl))
 f307:=Tryz.func215.trans (congrArg some (by kernel_rfl))
 f308:=Tryz.func216.trans (congrArg some (by kernel_rfl))
 f309:=Tryz.func217.trans (congrArg some (by kernel_rfl))
 f310:=Tryz.func218.trans (congrArg some (by kernel_rfl))
 f329:=Tryz.func240.trans (congrArg some (by kernel_rfl))
 f330:=Tryz.func241.trans (congrArg some (by kernel_rfl))
 f333:=Tryz.func239.trans (congrArg some (by kernel_rfl))
 f334:=Tryz.func242.trans (congrArg some (by kernel_rfl))
 f335:=Tryz.func243.trans (congrArg some (by kernel_rfl))
 f336:=Tryz.func244.trans (congrArg some (by kernel_rfl))
 f344:=Tryz.func259.trans (congrArg some (by kernel_rfl))
 t0:=Tryz.underlying0
 a0:=Tryz.isAgg0
 z0:=Tryz.sizeOf0
 v0:=Tryz.zeroValue0
 t3:=Tryz.underlying3
 a3:=Tryz.isAgg3
 z3:=Tryz.sizeOf3
 v3:=Tryz.zeroValue3
 t4:=Tryz.underlying4
 a4:=Tryz.isAgg4
 z4:=Tryz.sizeOf4
 v4:=Tryz.zeroValue4
 t5:=Tryz.underlying5
 a5:=Tryz.isAgg5
 z5:=Tryz.sizeOf5
 v5:=Tryz.zeroValue5
 t9:=Tryz.underlying9
 a9:=Tryz.isAgg9
 z9:=Tryz.sizeOf9
 v9:=Tryz.zeroValue9
 t31:=Tryz.underlying69
 a31:=Tryz.isAgg69
 z31:=Tryz.sizeOf69
 v31:=Tryz.zeroValue69
 t46:=Tryz.underlying228
 a46:=Tryz.isAgg228
 z46:=Tryz.sizeOf228
 v46:=Tryz.zeroValue228
 t51:=Tryz.underlying257
 a51:=Tryz.isAgg257
 z51:=Tryz.sizeOf257
 v51:=Tryz.zeroValue257
 t53:=Tryz.underlying237
 a53:=Tryz.isAgg237
 z53:=Tryz.sizeOf237
 v53:=Tryz.zeroValue237
 t131:=Tryz.underlying230
 a131:=Tryz.isAgg230
 z131:=Tryz.sizeOf230
 v131:=Tryz.zeroValue230
 t182:=Tryz.underlying250
 a182:=Tryz.isAgg250
 z182:=Tryz.sizeOf250
 v182:=Tryz.zeroValue250
 t183:=Tryz.underlying251
 a183:=Tryz.isAgg251
 z183:=Tryz.sizeOf251
 v183:=Tryz.zeroValue251
 t218:=Tryz.underlying282
 a218:=Tryz.isAgg282
 z218:=Tryz.sizeOf282
 v218:=Tryz.zeroValue282
 t222:=Tryz.underlying286
 a222:=Tryz.isAgg286
 z222:=Tryz.sizeOf286
 v222:=Tryz.zeroValue286
 t228:=Tryz.underlying296
 a228:=Tryz.isAgg296
 z228:=Tryz.sizeOf296
 v228:=Tryz.zeroValue296
 t229:=Tryz.underlying171
 a229:=Tryz.isAgg171
 z229:=Tryz.sizeOf171
 v229:=Tryz.zeroValue171 }
open Go.Sort Go.RowKit in
theorem Tryz.slices_Sort_string (blk off cap:Nat) (ss:List (List UInt8)) (w:World) (hH:Holds encStr w blk off ss.toArray) (hblk:blk<w.heap.size) (hsz:ss.length<4611686018427387904) :
  Calls Tryz.prog 163 #[.slice (some ⟨blk,off,none⟩) ss.length cap] w fun e w'=>
   e=.returned (.tuple #[])/\∃ n os,w'=grow (putRow encStr (Sort.ahead w n) blk off (ss.mergeSort fun x y=>decide (x<=y)).toArray) os:=Any.slices_Sort_string Tryz.lays190 blk off cap ss w hH hblk hsz
def Tryz.lays107_ren:Go.Shelf.Ren:=⟨fun | 107=>78 | 108=>128 | n=>n,fun | 28=>37 | 3=>3 | 4=>4 | 0=>0 | n=>n,fun | n=>n⟩
def Tryz.lays109_ren:Go.Shelf.Ren:=⟨fun | 109=>61 | n=>n,fun | 31=>69 | 9=>9 | 3=>3 | 0=>0 | 4=>4 | n=>n,fun | n=>n⟩
theorem Tryz.lays109:Go.Proofs.Lays.n109 Tryz.prog Tryz.lays109_ren:= {
 mixed:=by kernel_rfl
 f109:=Tryz.func61.trans (congrArg some (by kernel_rfl))
 t0:=Tryz.underlying0
 a0:=Tryz.isAgg0
 z0:=Tryz.sizeOf0
 v0:=Tryz.zeroValue0
 t3:=Tryz.underlying3
 a3:=Tryz.isAgg3
 z3:=Tryz.sizeOf3
 v3:=Tryz.zeroValue3
 t4:=Tryz.underlying4
 a4:=Tryz.isAgg4
 z4:=Tryz.sizeOf4
 v4:=Tryz.zeroValue4
 t9:=Tryz.underlying9
 a9:=Tryz.isAgg9
 z9:=Tryz.sizeOf9
 v9:=Tryz.zeroValue9
 t31:=Tryz.underlying69
 a31:=Tryz.isAgg69
 z31:=Tryz.sizeOf69
 v31:=Tryz.zeroValue69 }
open Go.Lib in
theorem Tryz.slices_Index_string (b off n c:Nat) (zs:List ByteArray) (x:ByteArray) (w:World) (hz:n<=zs.length) (hbig:n<=9223372036854775807) (hc : ∀ j,j<zs.length->w.cell? ⟨b,off+j,none⟩=some (.string (zs.getD j ByteArray.empty))) :
  Calls Tryz.prog 61 #[.slice (some ⟨b,off,none⟩) n c,.string x] w fun e w'=>e=.returned (.int .i64 (Lib.idxOfS (zs.take n) x))/\w'=w:=Any.slices_Index_string Tryz.lays109 b off n c zs x w hz hbig hc
open Go.Lib in
theorem Tryz.slices_Index_string_empty (a:Option Addr) (c:Nat) (x:ByteArray) (w:World) :
  Calls Tryz.prog 61 #[.slice a 0 c,.string x] w fun e w'=>e=.returned (.int .i64 (Lib.idxOfS [] x))/\w'=w:=Any.slices_Index_string_empty Tryz.lays109 a c x w
def Tryz.lays110_ren:Go.Shelf.Ren:=⟨fun | 110=>57 | 109=>61 | n=>n,fun | 31=>69 | 9=>9 | 4=>4 | 3=>3 | 0=>0 | n=>n,fun | n=>n⟩
theorem Tryz.lays110:Go.Proofs.Lays.n110 Tryz.prog Tryz.lays110_ren:= {
 mixed:=by kernel_rfl
 f109:=Tryz.func61.trans (congrArg some (by kernel_rfl))
 f110:=Tryz.func57.trans (congrArg some (by kernel_rfl))
 t0:=Tryz.underlying0
 a0:=Tryz.isAgg0
 z0:=Tryz.sizeOf0
 v0:=Tryz.zeroValue0
 t3:=Tryz.underlying3
 a3:=Tryz.isAgg3
 z3:=Tryz.sizeOf3
 v3:=Tryz.zeroValue3
 t4:=Tryz.underlying4
 a4:=Tryz.isAgg4
 z4:=Tryz.sizeOf4
 v4:=Tryz.zeroValue4
 t9:=Tryz.underlying9
 a9:=Tryz.isAgg9
 z9:=Tryz.sizeOf9
 v9:=Tryz.zeroValue9
 t31:=Tryz.underlying69
 a31:=Tryz.isAgg69
 z31:=Tryz.sizeOf69
 v31:=Tryz.zeroValue69 }
open Go.Lib in
theorem Tryz.slices_Contains_string (b off n c:Nat) (zs:List ByteArray) (x:ByteArray) (w:World) (hz:n<=zs.length) (hbig:n<=9223372036854775807) (hc : ∀ j,j<zs.length->w.cell? ⟨b,off+j,none⟩=some (.string (zs.getD j ByteArray.empty))) :
  Calls Tryz.prog 57 #[.slice (some ⟨b,off,none⟩) n c,.string x] w fun e w'=>e=.returned (.bool (Lib.containsS (zs.take n) x))/\w'=w:=Any.slices_Contains_string Tryz.lays110 b off n c zs x w hz hbig hc
open Go.Lib in
theorem Tryz.slices_Contains_string_empty (a:Option Addr) (c:Nat) (x:ByteArray) (w:World) :
  Calls Tryz.prog 57 #[.slice a 0 c,.string x] w fun e w'=>e=.returned (.bool false)/\w'=w:=Any.slices_Contains_string_empty Tryz.lays110 a c x w
def Tryz.lays111_ren:Go.Shelf.Ren:=⟨fun | 111=>18 | n=>n,fun | 28=>37 | 3=>3 | 4=>4 | 0=>0 | n=>n,fun | n=>n⟩
theorem Tryz.lays111:Go.Proofs.Lays.n111 Tryz.prog Tryz.lays111_ren:= {
 mixed:=by kernel_rfl
 f111:=Tryz.func18.trans (congrArg some (by kernel_rfl))
 t0:=Tryz.underlying0
 a0:=Tryz.isAgg0
 z0:=Tryz.sizeOf0
 v0:=Tryz.zeroValue0
 t3:=Tryz.underlying3
 a3:=Tryz.isAgg3
 z3:=Tryz.sizeOf3
 v3:=Tryz.zeroValue3
 t4:=Tryz.underlying4
 a4:=Tryz.isAgg4
 z4:=Tryz.sizeOf4
 v4:=Tryz.zeroValue4
 t28:=Tryz.underlying37
 a28:=Tryz.isAgg37
 z28:=Tryz.sizeOf37
 v28:=Tryz.zeroValue37 }
open Go.RowKit Go.Lib in
theorem Tryz.slices_Equal_int (b1 o1 n c b2 o2 m d:Nat) (xs ys:List Int) (w:World) (hx:n<=xs.length) (hy:m<=ys.length) (hbig:n<=9223372036854775807) (hbig2:m<=9223372036854775807) (hc1 : ∀ j,j<xs.length->w.cell? ⟨b1,o1+j,none⟩=some (.int .i64 (xs.getD j 0))) (hc2 : ∀ j,j<ys.length->w.cell? ⟨b2,o2+j,none⟩=some (.int .i64 (ys.getD j 0))) :
  Calls Tryz.prog 18 #[.slice (some ⟨b1,o1,none⟩) n c,.slice (some ⟨b2,o2,none⟩) m d] w fun e w'=>e=.returned (.bool (xs.take n==ys.take m))/\∃ q,w'=w.drewN q:=Any.slices_Equal_int Tryz.lays111 b1 o1 n c b2 o2 m d xs ys w hx hy hbig hbig2 hc1 hc2
open Go.RowKit Go.Lib in
theorem Tryz.slices_Equal_int_empty (a1 a2:Option Addr) (c m d:Nat) (w:World) (hbig2:m<=9223372036854775807) :
  Calls Tryz.prog 18 #[.slice a1 0 c,.slice a2 m d] w fun e w'=>e=.returned (.bool (decide (m=0)))/\w'=w:=Any.slices_Equal_int_empty Tryz.lays111 a1 a2 c m d w hbig2
def Tryz.lays194_ren:Go.Shelf.Ren:=⟨fun | 194=>234 | n=>n,fun | 31=>69 | 9=>9 | 3=>3 | 4=>4 | 0=>0 | n=>n,fun | n=>n⟩
theorem Tryz.lays194:Go.Proofs.Lays.n194 Tryz.prog Tryz.lays194_ren:= {
 mixed:=by kernel_rfl
 f194:=Tryz.func234.trans (congrArg some (by kernel_rfl))
 t0:=Tryz.underlying0
 a0:=Tryz.isAgg0
 z0:=Tryz.sizeOf0
 v0:=Tryz.zeroValue0
 t3:=Tryz.underlying3
 a3:=Tryz.isAgg3
 z3:=Tryz.sizeOf3
 v3:=Tryz.zeroValue3
 t4:=Tryz.underlying4
 a4:=Tryz.isAgg4
 z4:=Tryz.sizeOf4
 v4:=Tryz.zeroValue4
 t9:=Tryz.underlying9
 a9:=Tryz.isAgg9
 z9:=Tryz.sizeOf9
 v9:=Tryz.zeroValue9
 t31:=Tryz.underlying69
 a31:=Tryz.isAgg69
 z31:=Tryz.sizeOf69
 v31:=Tryz.zeroValue69 }
open Go.RowKit Go.Lib Go.Sort in
theorem Tryz.slices_Compact_string (blk off cap:Nat) (zs:List (List UInt8)) (w:World) (hH:Holds encStr w blk off zs.toArray) (hsz:zs.length<=9223372036854775807) (hcap:zs.length<=cap) :
  Calls Tryz.prog 234 #[.slice (some ⟨blk,off,none⟩) zs.length cap] w fun e w'=>e=.returned (.slice (some ⟨blk,off,none⟩) (Lib.compact zs).length cap)/\∃ q,w'=putRow encStr (Sort.ahead w q) blk off (Lib.compact zs++List.replicate (zs.length-(Lib.compact zs).length) []).toArray:=Any.slices_Compact_string Tryz.lays194 blk off cap zs w hH hsz hcap
open Go.RowKit Go.Lib Go.Sort in
theorem Tryz.slices_Compact_string_empty (a:Option Addr) (cap:Nat) (w:World) :
  Calls Tryz.prog 234 #[.slice a 0 cap] w fun e w'=>e=.returned (.slice a 0 cap)/\w'=w:=Any.slices_Compact_string_empty Tryz.lays194 a cap w
open Go.RowKit Go.Sort in
theorem Tryz.slices_Sort_string_none (p:Option Addr) (cap:Nat) (w:World) :
  Calls Tryz.prog 163 #[.slice p 0 cap] w fun e w'=>e=.returned (.tuple #[])/\w'=w:=Any.slices_Sort_string_none Tryz.lays190 p cap w
open Go.RowKit Go.Lib in
theorem Tryz.slices_Equal_int_lens (a1 a2:Option Addr) (n c m d:Nat) (w:World) (hnm:n≠m) :
  Calls Tryz.prog 18 #[.slice a1 n c,.slice a2 m d] w fun e w'=>e=.returned (.bool false)/\w'=w:=Any.slices_Equal_int_lens Tryz.lays111 a1 a2 n c m d w hnm
end Go.Proofs
namespace Go.Proofs.YthaaaecmeafofaaGreatDoor
open Go.RowKit
theorem yO:(Tryz.prog.info? 9).map (fun i=>(i.zero,i.size,i.bytes))=some (some (.string ByteArray.empty),1,16):=by kernel_rfl
def eU (B:Nat) (v:Value) (L:List ByteArray) (w:World):Prop:=w.ownsRow B 9 1 v L.length (L.map Value.string)
theorem eU.alloc {B:Nat} {v:Value} {L:List ByteArray} {w:World} (h:eU B v L w) (o:Obj):eU B v L (w.alloc o):=World.ownsRow.alloc h o
theorem cS {B e sz n:Nat} {v:Value} {xs:List Value} {w w':World} (h:w.ownsRow B e sz v n xs) (k:aA w w'):w'.ownsRow B e sz v n xs:=by
 obtain ⟨h1,h2⟩:=h
 refine ⟨h1,h2.imp id ?_⟩
 rintro ⟨g,cap,cur,e1,e2,e3,e4,e5,e6,e7⟩
 exact ⟨g,cap,cur,e1,e2,by rw [k.block g (Array.getElem?_eq_some_iff.1 e3).1];exact e3,e4,e5,e6,e7⟩
theorem eU.keep {B:Nat} {v:Value} {L:List ByteArray} {w w':World} (h:eU B v L w) (k:aA w w'):eU B v L w':=cS h k
theorem cW {B e sz n:Nat} {v:Value} {xs:List Value} {w:World} (h:w.ownsRow B e sz v n xs) {g:Nat} (hg:v.ownBlock=some g):B<=g/\g<w.heap.size:=by
 obtain ⟨-,⟨rfl,-⟩ | ⟨g',cap,cur,rfl,e2,e3,-⟩⟩:=h
 ·cases hg
 ·cases hg
  exact ⟨e2,(Array.getElem?_eq_some_iff.1 e3).1⟩
theorem fO {w:World} {x:Value} {T:TypeId} (j:Nat) (u:Value) (h : [x][j]? = some u):(w.alloc (.cells #[x] T)).cell? ((⟨w.heap.size,0,none⟩:Addr).add j)=some u:=by
 match j,h with
 | 0,h=>simp at h;subst h;simp [Addr.add]
theorem aDk {s:ByteArray} (u:Value) (h:u ∈ [Value.string s]):u.oneCell'=true:=by simp at h;subst h;rfl
theorem tI : ∀ {ts:List NT},okL ts->∀ (i:Nat) (h:i<ts.length),ts[i].ok
 | [],_,_,h=>absurd h (Nat.not_lt_zero _)
 | t :: ts,hok,i,h=>by
  rw [okL] at hok
  cases i with
  | zero=>exact hok.1
  | succ i=>exact tI hok.2 i (by simpa using h)
end Go.Proofs.YthaaaecmeafofaaGreatDoor
