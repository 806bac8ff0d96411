/- Steps of the proof: NeedFlagged, TreeOne. -/
import Derived.Test.YthhhicgjiilgmaaGreatDoorSa07
import Derived.Test.YthhhicgjiilgmaaGreatDoorSa05
import Derived.Sort.OwnSorted
import Derived.Lib.IndexMore
import Derived.BigQuiet
namespace Go.Proofs.YthhhicgjiilgmaaGreatDoor
open Go.RowKit
def CountPost {σ:Type} (Inv:σ->World->Prop) (Live:σ->Nat->Prop) (Own:World->Nat->Prop) (n:Nat) (w:World) (r:σ × Bool) (e:Ending) (w':World):Prop:=
 e=.returned (.bool r.2)/\Inv r.1 w'/\(r.2=true->Live r.1 n)/\Apart Own w w'
structure Counts {σ:Type} (F:Nat) (cap:Array Value) (S:Nat->Prop) (f:σ->NT->Int->σ × Bool) (Inv:σ->World->Prop) (Live:σ->Nat->Prop) (Own:World->Nat->Prop):Prop where
 keep : ∀ s w w',Inv s w->Keep w w'->Inv s w'/\Apart Own w w'/\∀ b,Own w' b->Own w b
 old : ∀ s w,Inv s w->∀ b,S b->b<w.heap.size/\¬ Own w b
 own : ∀ s w,Inv s w->∀ b,Own w b->b<w.heap.size
 call : ∀ n s t d cs w,Inv s w->Live s (n+1)->t.ok->NeedIs S w t cs->Calls Tryz.prog F (#[.agg cs.toArray,.int .i64 d]++cap) w fun e w'=>CountPost Inv Live Own n w (f s t d) e w'
theorem NeedIs.apartC {σ:Type} {F:Nat} {cap:Array Value} {S:Nat->Prop} {f:σ->NT->Int->σ × Bool} {Inv:σ->World->Prop} {Live:σ->Nat->Prop} {Own:World->Nat->Prop} (V:Counts F cap S f Inv Live Own)
  {s:σ} {w w':World} (hi:Inv s w) (ha:Apart Own w w') {t:NT} {cs:List Value} (h:NeedIs S w t cs):NeedIs S w' t cs:=
 NeedIs.mono (fun p hp=>ha.cell p (V.old s w hi _ hp).1 (V.old s w hi _ hp).2) (fun _ h=>h) t cs h
theorem KidsIs.apartC {σ:Type} {F:Nat} {cap:Array Value} {S:Nat->Prop} {f:σ->NT->Int->σ × Bool} {Inv:σ->World->Prop} {Live:σ->Nat->Prop} {Own:World->Nat->Prop} (V:Counts F cap S f Inv Live Own)
  {s:σ} {w w':World} (hi:Inv s w) (ha:Apart Own w w') {ts:List NT} {kp:Option Addr} {i:Nat} (h:KidsIs S w ts kp i):KidsIs S w' ts kp i:=
 KidsIs.mono (fun p hp=>ha.cell p (V.old s w hi _ hp).1 (V.old s w hi _ hp).2) (fun _ h=>h) ts kp i h
set_option maxHeartbeats 4000000 in
set_option maxRecDepth 100000 in
theorem walk_counts {σ:Type} {F:Nat} {cap:Array Value} {S:Nat->Prop} {f:σ->NT->Int->σ × Bool} {Inv:σ->World->Prop} {Live:σ->Nat->Prop} {Own:World->Nat->Prop} (V:Counts F cap S f Inv Live Own)
  (hF : ∀ args w,(callFunc F args).run Tryz.prog w=.ok (.enter F args) w) :
  ∀ (m:Nat) (t:NT),t.size<=m->∀ (n:Nat) (s:σ) (d:Int) (cs:List Value) (w:World),Inv s w->Live s (t.size+n)->t.ok->NeedIs S w t cs->
   Calls Tryz.prog 223 #[.agg cs.toArray,.int .i64 d,.func (.func F) #[] cap] w fun e w'=>CountPost Inv Live Own n w (walkS inc64 f s t d) e w':=by
 intro m
 induction m with
 | zero=>
  rintro ⟨k,a,fl,nt,kids⟩ hm
  rw [NT.size] at hm;omega
 | succ m ih=>
  rintro ⟨k,a,fl,nt,kids⟩ hm n s d cs w hi hl hok hn
  rw [NT.size] at hm hl
  rw [show 1+sizeL kids+n=sizeL kids+n+1 by omega] at hl
  have HOK:Hid (okL kids):=by rw [NT.ok] at hok;exact hok.2
  have hn':=hn
  rw [NeedIs] at hn
  obtain ⟨kp,kc,rfl,hcap,hmax,hkids⟩:=hn
  have hv : ∀ (w:World) (cs:List Value),Inv s w->NeedIs S w (.node k a fl nt kids) cs->Calls Tryz.prog F (#[.agg cs.toArray,.int .i64 d]++cap) w fun e w'=>CountPost Inv Live Own (sizeL kids+n) w (f s (.node k a fl nt kids) d) e w':=fun w cs h1 h2=>V.call _ s _ d cs w h1 hl hok h2
  rw [show walkS inc64 f s (.node k a fl nt kids) d=if (f s (.node k a fl nt kids) d).2=true then kidsS inc64 f (f s (.node k a fl nt kids) d).1 kids (inc64 d) else ((f s (.node k a fl nt kids) d).1,false) from by rw [walkS]]
  generalize f s (.node k a fl nt kids) d=r at hv ⊢
  obtain ⟨s1,b1⟩:=r
  have hb0:=Boxed.new w #[.int .i64 k,.string a.n,.int .i64 a.op,.int .i64 a.v,.int .i64 a.sl,.string a.f,.bool a.on,.string fl,.bool nt,.slice kp kids.length kc] 104
  have K0:=Keep.alloc w (.cells #[.int .i64 k,.string a.n,.int .i64 a.op,.int .i64 a.v,.int .i64 a.sl,.string a.f,.bool a.on,.string fl,.bool nt,.slice kp kids.length kc] 104)
  go_enter Tryz.func223,Tryz.ntmps223
  go_wp2_with fail
  generalize w.alloc (.cells #[.int .i64 k,.string a.n,.int .i64 a.op,.int .i64 a.v,.int .i64 a.sl,.string a.f,.bool a.on,.string fl,.bool nt,.slice kp kids.length kc] 104)=W0 at K0 hb0 ⊢
  obtain ⟨hi0,ha0,ho0⟩:=V.keep s w W0 hi K0
  have HB0:Hid (Boxed w.heap.size #[.int .i64 k,.string a.n,.int .i64 a.op,.int .i64 a.v,.int .i64 a.sl,.string a.f,.bool a.on,.string fl,.bool nt,.slice kp kids.length kc] W0):=hb0
  have hno : ¬ Own W0 w.heap.size:=fun h=>absurd (V.own s w hi _ (ho0 _ h)) (Nat.lt_irrefl _)
  refine (hv W0 _ hi0 (NeedIs.apartC V hi ha0 hn')).mono ?_
  rintro e w1 ⟨rfl,hi1,hl1,ha1⟩
  have HB1:Hid (Boxed w.heap.size #[.int .i64 k,.string a.n,.int .i64 a.op,.int .i64 a.v,.int .i64 a.sl,.string a.f,.bool a.on,.string fl,.bool nt,.slice kp kids.length kc] w1):=
   ⟨Nat.lt_of_lt_of_le HB0.out.1 ha1.size,fun o=>(ha1.cell ⟨w.heap.size,o,none⟩ HB0.out.1 hno).trans (HB0.out.2 o)⟩
  have hk1:KidsIs S w1 kids kp 0:=KidsIs.apartC V hi (ha0.trans ha1) hkids
  have HA1:Hid (Apart Own w w1):=ha0.trans ha1
  have hc1:=HB1.out.2
  have hb1:=HB1.out.1
  clear hn' hkids hb0 K0 hi0 ha0 ho0 HB0 hno ha1 hi hl HB1 hv hok
  cases b1
  ·go_wp2_with fail
   go_ret
   exact (show CountPost Inv Live Own n w (s1,false) _ _ from ⟨rfl,hi1,fun h=>(by cases h),HA1.out⟩)
  ·have HL1:Hid (Live s1 (sizeL kids+n)):=hl1 rfl
   have HI1:Hid (Inv s1 w1):=hi1
   have HK1:Hid (KidsIs S w1 kids kp 0):=hk1
   clear hl1 hi1 hk1
   go_wp2_with fail
   go_loopw [17] (fun i wr=> ∃ j:Nat,j<=kids.length/\i=.int .i64 j/\∃ s',Inv s' wr/\Live s' (sizeL (kids.drop j)+n)/\kidsS inc64 f s1 kids (inc64 d)=kidsS inc64 f s' (kids.drop j) (inc64 d)/\KidsIs S wr kids kp 0/\Apart Own w wr) (fun i _=>kids.length-(intOf i).toNat)
   case atStart=>exact ⟨0,Nat.zero_le _,rfl,s1,HI1.out,by rw [List.drop_zero];exact HL1.out,by simp,HK1.out,HA1.out⟩
   case round=>
    obtain ⟨j,hj,rfl,s',hi',hl',he',hk',ha'⟩:=hrel
    have HI:Hid (Inv s' wr):=hi'
    have HL:Hid (Live s' (sizeL (kids.drop j)+n)):=hl'
    have HE:Hid (kidsS inc64 f s1 kids (inc64 d)=kidsS inc64 f s' (kids.drop j) (inc64 d)):=he'
    have HK:Hid (KidsIs S wr kids kp 0):=hk'
    have HA:Hid (Apart Own w wr):=ha'
    clear hi' hl' he' hk' ha' HL1 HI1 HK1 HA1 hc1
    by_cases hlt:j<kids.length
    ·have HE2:Hid (kidsS inc64 f s1 kids (inc64 d)=if (walkS inc64 f s' kids[j] (inc64 d)).2=true then kidsS inc64 f (walkS inc64 f s' kids[j] (inc64 d)).1 (kids.drop (j+1)) (inc64 d) else ((walkS inc64 f s' kids[j] (inc64 d)).1,false)):=by
      show _=_
      rw [HE.out,kidsS_drop inc64 f s' kids (inc64 d) j hlt]
     obtain ⟨p,cs,hp,hS,hcell,hneed⟩:=kidsIs_get HK.out j hlt
     have hdr:sizeL (kids.drop j)=kids[j].size+sizeL (kids.drop (j+1)):=by rw [List.drop_eq_getElem_cons hlt,sizeL]
     have HLJ:Hid (Live s' (kids[j].size+(sizeL (kids.drop (j+1))+n))):=by have:=HL.out;rw [hdr,Nat.add_assoc] at this;exact this
     have hih:=ih kids[j] (by have:=sizeL_get kids j hlt;omega) (sizeL (kids.drop (j+1))+n) s' (inc64 d)
     clear hdr
     have HN:Hid (NeedIs S wr kids[j] cs):=hneed
     subst hp
     rw [Nat.zero_add] at hcell
     cases hkid:kids[j] with
     | node k' a' fl' nt' kids'=>
     rw [hkid,NeedIs] at hneed
     obtain ⟨kp',kc',rfl,-,-,-⟩:=hneed
     obtain ⟨c0,c1,c2,c3,c4,c5,c6,c7,c8,c9⟩:=cells10 hcell
     clear hcell
     have HIH:Hid (∀ (cs:List Value) (w:World),Inv s' w->Live s' (kids[j].size+(sizeL (kids.drop (j+1))+n))->kids[j].ok->NeedIs S w kids[j] cs->Calls Tryz.prog 223 #[.agg cs.toArray,.int .i64 (inc64 d),.func (.func F) #[] cap] w fun e w'=>CountPost Inv Live Own (sizeL (kids.drop (j+1))+n) w (walkS inc64 f s' kids[j] (inc64 d)) e w'):=hih
     clear hih ih
     have k2:=Keep.alloc wr (.cells #[.int .i64 k',.string a'.n,.int .i64 a'.op,.int .i64 a'.v,.int .i64 a'.sl,.string a'.f,.bool a'.on,.string fl',.bool nt',.slice kp' kids'.length kc'] 104)
     obtain ⟨hi2,ha2,-⟩:=V.keep s' wr _ HI.out k2
     have hn2:=NeedIs.apartC V HI.out ha2 HN.out
     have HI2:Hid (Inv s' (wr.alloc (.cells #[.int .i64 k',.string a'.n,.int .i64 a'.op,.int .i64 a'.v,.int .i64 a'.sl,.string a'.f,.bool a'.on,.string fl',.bool nt',.slice kp' kids'.length kc'] 104))):=hi2
     have HA2:Hid (Apart Own wr (wr.alloc (.cells #[.int .i64 k',.string a'.n,.int .i64 a'.op,.int .i64 a'.v,.int .i64 a'.sl,.string a'.f,.bool a'.on,.string fl',.bool nt',.slice kp' kids'.length kc'] 104))):=ha2
     have HN2:Hid (NeedIs S (wr.alloc (.cells #[.int .i64 k',.string a'.n,.int .i64 a'.op,.int .i64 a'.v,.int .i64 a'.sl,.string a'.f,.bool a'.on,.string fl',.bool nt',.slice kp' kids'.length kc'] 104)) kids[j] [Value.int IntKind.i64 k',Value.string a'.n,Value.int IntKind.i64 a'.op,Value.int IntKind.i64 a'.v,Value.int IntKind.i64 a'.sl,Value.string a'.f,Value.bool a'.on,Value.string fl',Value.bool nt',Value.slice kp' kids'.length kc']):=hn2
     clear hi2 ha2 hn2 k2 hkid
     go_wp2_with fail
     generalize wr.alloc (.cells #[.int .i64 k',.string a'.n,.int .i64 a'.op,.int .i64 a'.v,.int .i64 a'.sl,.string a'.f,.bool a'.on,.string fl',.bool nt',.slice kp' kids'.length kc'] 104)=W2 at HI2 HA2 HN2 ⊢
     clear c0 c1 c2 c3 c4 c5 c6 c7 c8 c9
     rw [show wrap64 (d+1)=inc64 d from rfl]
     refine (HIH.out _ W2 HI2.out HLJ.out (okL_get HOK.out j hlt) HN2.out).mono ?_
     rintro e w3 ⟨rfl,hi3,hl3,ha3⟩
     have HA3:Hid (Apart Own wr w3):=HA2.out.trans ha3
     generalize walkS inc64 f s' kids[j] (inc64 d)=r at HE2 hi3 hl3 ⊢
     obtain ⟨s3,b3⟩:=r
     have HI3:Hid (Inv s3 w3):=hi3
     clear hi3 ha3 HIH HE
     cases b3
     ·clear hl3
      go_wp2_with fail
      go_ret
      show CountPost Inv Live Own n w (kidsS inc64 f s1 kids (inc64 d)) _ _
      rw [HE2.out]
      exact ⟨rfl,HI3.out,fun h=>(by cases h),HA.out.trans HA3.out⟩
     ·have HL3:Hid (Live s3 (sizeL (kids.drop (j+1))+n)):=hl3 rfl
      clear hl3
      go_wp2_with fail
      go_roundw
      case rel=>exact ⟨j+1,by omega,by go_num,s3,HI3.out,HL3.out,HE2.out,KidsIs.apartC V HI.out HA3.out HK.out,HA.out.trans HA3.out⟩
      case measure=>simp [intOf];omega
    ·go_wp2_with fail
     go_ret
     show CountPost Inv Live Own n w (kidsS inc64 f s1 kids (inc64 d)) _ _
     rw [HE.out,List.drop_eq_nil_of_le (by omega),kidsS]
     exact ⟨rfl,HI.out,fun _=>by have:=HL.out;rw [List.drop_eq_nil_of_le (by omega),sizeL,Nat.zero_add] at this;exact this,HA.out⟩
end Go.Proofs.YthhhicgjiilgmaaGreatDoor
namespace Go.Proofs.YthhhicgjiilgmaaGreatDoor
open Go.RowKit
mutual
def NT.flags:NT->List ByteArray
 | .node k _ fl _ kids=>(if k=5 then [fl] else [])++flagsL kids
def flagsL:List NT->List ByteArray
 | []=> []
 | t :: ts=>t.flags++flagsL ts
end
def fF (s:List ByteArray) (t:NT) (_:Int):List ByteArray × Bool:=match t with
 | .node k _ fl _ _=>(if k=5 then s ++ [fl] else s,true)
mutual
theorem walkF (inc:Int->Int) : ∀ (t:NT) (s:List ByteArray) (d:Int),walkS inc fF s t d=(s++t.flags,true)
 | .node k a fl nt kids,s,d=>by
  have e:(fF s (.node k a fl nt kids) d).2=true:=rfl
  rw [walkS,if_pos e,kidsF,NT.flags]
  show ((if k=5 then s ++ [fl] else s)++flagsL kids,true)=_
  split<;>simp
theorem kidsF (inc:Int->Int) : ∀ (ts:List NT) (s:List ByteArray) (d:Int),kidsS inc fF s ts d=(s++flagsL ts,true)
 | [],s,d=>by rw [kidsS,flagsL,List.append_nil]
 | t :: ts,s,d=>by rw [kidsS,walkF,if_pos rfl,kidsF,flagsL,List.append_assoc]
end
mutual
theorem flags_len : ∀ t:NT,t.flags.length<=t.size
 | .node k a fl nt kids=>by
  have:=flagsL_len kids
  rw [NT.flags,NT.size,List.length_append]
  split<;>simp<;>omega
theorem flagsL_len : ∀ ts:List NT,(flagsL ts).length<=sizeL ts
 | []=>Nat.zero_le _
 | t :: ts=>by
  have:=flags_len t
  have:=flagsL_len ts
  rw [flagsL,sizeL,List.length_append];omega
end
def OwnF (c:Nat) (w:World) (b:Nat):Prop:=b=c∨∃ a l k,w.cell? ⟨c,0,none⟩=some (.slice (some a) l k)/\a.block=b
def FlagsIs (c:Nat) (s:List ByteArray) (w:World):Prop:= ∃ v,VarAt c 101 v w/\WordsAt (c+1) v s w
theorem FlagsIs.keep {c:Nat} {s:List ByteArray} {w w':World} (h:FlagsIs c s w) (k:Keep w w'):FlagsIs c s w':=by
 obtain ⟨v,h1,h2⟩:=h
 exact ⟨v,h1.keep k h1.facts.2.2,h2.keep k⟩
theorem FlagsIs.own {c:Nat} {s:List ByteArray} {w:World} (h:FlagsIs c s w) {b:Nat} (ho:OwnF c w b):c<=b/\b<w.heap.size:=by
 obtain ⟨v,h1,h2⟩:=h
 rcases ho with rfl | ⟨a,l,k,e,rfl⟩
 ·exact ⟨Nat.le_refl _,h1.facts.2.2⟩
 ·have hv:v=.slice (some a) l k:=Option.some.inj (h1.facts.1.symm.trans e)
  have:=owns_lt h2 (g:=a.block) (by rw [hv];rfl)
  omega
theorem flags_apart {c:Nat} {s:List ByteArray} {w w':World} (h:FlagsIs c s w) (k:Keep w w'):Apart (OwnF c) w w'/\∀ b,OwnF c w' b->OwnF c w b:=by
 obtain ⟨v,h1,h2⟩:=h
 have hc:w'.cell? ⟨c,0,none⟩=w.cell? ⟨c,0,none⟩:=k.cell (p:=⟨c,0,none⟩) h1.facts.2.2
 have ho : ∀ b,OwnF c w' b->OwnF c w b:=fun b hb=>by
  rcases hb with hb | ⟨a,l,kk,e,hb⟩
  ·exact Or.inl hb
  ·exact Or.inr ⟨a,l,kk,hc.symm.trans e,hb⟩
 exact ⟨⟨k.os,k.tape,k.output,k.size,fun b hb _=>k.block b hb,fun b _ hb=>ho b hb⟩,ho⟩
theorem flags_push {c:Nat} {s:List ByteArray} {fl:ByteArray} {w w1 w2:World} {v v':Value} {o:Obj} (hv:VarAt c 101 v w) (hw:WordsAt (c+1) v s w) (k:Keep w w1) (h1:w2.ownsRow (c+1) 9 1 v' (s.length+1) (s.map Value.string ++ [.string fl])) (h2:(w1.alloc o).grownBy w2 v.ownBlock)
  (h3:v'.ownBlock=v.ownBlock∨v'.ownBlock=some (w1.alloc o).heap.size):FlagsIs c (s ++ [fl]) (w2.setCell ⟨c,0,none⟩ v')/\Apart (OwnF c) w (w2.setCell ⟨c,0,none⟩ v'):=by
 have hlt:=hv.facts.2.2
 have e:=alloc_size w1 o
 have hv1:VarAt c 101 v w1:=hv.keep k hlt
 have hne:v.ownBlock≠some c:=fun e=>by have:=owns_lt hw e;omega
 have k2:Below (c+1) (w1.alloc o) w2:=(Below.refl _ _).grown h2 (by have:=k.size;omega) (fun g hg=>(owns_lt hw hg).1)
 have hv2:VarAt c 101 v w2:=(hv1.keep (Keep.alloc w1 o) hv1.facts.2.2).keep k2 (Nat.lt_succ_self c)
 have hset:=hv2.set v'
 have hbl : ∀ b,b≠c->(w2.setCell ⟨c,0,none⟩ v').heap[b]? = w2.heap[b]? :=set_other w2 c 0 v'
 have hsz:w.heap.size<=w2.heap.size:=by have:=k.size;have:=h2.size;omega
 refine ⟨⟨v',hset,?_⟩,?_⟩
 ·have hw2:WordsAt (c+1) v' (s ++ [fl]) w2:=by unfold WordsAt;simpa using h1
  obtain ⟨a1,a2⟩:=hw2
  refine ⟨a1,a2.imp id ?_⟩
  rintro ⟨g,cap,cur,e1,e2,e3,e4⟩
  exact ⟨g,cap,cur,e1,e2,by rw [hbl g (by omega)];exact e3,e4⟩
 ·have hs:=one_set c w2 v'
  refine ⟨(hs.os.trans h2.os).trans k.os,(hs.tape.trans h2.tape).trans k.tape,(hs.output.trans h2.output).trans k.output,by have:=hs.size;omega,fun b hb ho=> ?_,fun b hb ho=> ?_⟩
  ·have hbc:b≠c:=fun e=>ho (Or.inl e)
   have hbv:v.ownBlock≠some b:=fun e=>by
    refine ho (Or.inr ?_)
    obtain ⟨-,⟨rfl,-⟩ | ⟨g,cap,cur,rfl,-⟩⟩:=hw
    ·cases e
    ·exact ⟨_,_,_,hv.facts.1,Option.some.inj e⟩
   rw [hbl b hbc,h2.block b (by have:=k.size;omega) (fun e=>hbv e.symm),(Keep.alloc w1 o).block b (by have:=k.size;omega),k.block b hb]
  ·rcases ho with ho | ⟨a,l,kk,e2,rfl⟩
   ·exact Or.inl ho
   ·have e3:v'=.slice (some a) l kk:=Option.some.inj (hset.facts.1.symm.trans e2)
    rcases h3 with h3 | h3
    ·refine Or.inr ?_
     have:v.ownBlock=some a.block:=by rw [← h3,e3];rfl
     obtain ⟨-,⟨rfl,-⟩ | ⟨g,cap,cur,rfl,-⟩⟩:=hw
     ·cases this
     ·exact ⟨_,_,_,hv.facts.1,Option.some.inj this⟩
    ·have:some a.block=some (w1.alloc o).heap.size:=by rw [← h3,e3];rfl
     have:=Option.some.inj this
     have:=k.size
     omega
theorem keep_undrew {w w':World} (k:Keep w.drew w'):Keep w w':=⟨k.os,k.tape,k.output,k.size,k.block⟩
theorem VarAt.grown {c:Nat} {T:TypeId} {v:Value} {w w':World} {o:Obj} {row:Option Nat} (h:VarAt c T v w) (hg:(w.alloc o).grownBy w' row) (hne:row≠some c):VarAt c T v w':=by
 have h1:=h.keep (Keep.alloc w o) h.facts.2.2
 have hl:=h1.facts.2.2
 unfold VarAt at *;rw [hg.block c hl (fun e=>hne e.symm)];exact h1
set_option maxHeartbeats 1000000 in
set_option maxRecDepth 100000 in
theorem flags_call (n c:Nat) (s:List ByteArray) (k:Int) (a:At) (fl:ByteArray) (nt:Bool) (kp:Option Addr) (len kc:Nat) (d:Int) (kids:List NT) (w:World) (hi:FlagsIs c s w) (hl:s.length+(n+1)<=1000) (hfl:k=5->fl.size<=8) :
  Calls Tryz.prog 226 #[.agg #[.int .i64 k,.string a.n,.int .i64 a.op,.int .i64 a.v,.int .i64 a.sl,.string a.f,.bool a.on,.string fl,.bool nt,.slice kp len kc],.int .i64 d,.pointer (some ⟨c,0,none⟩)] w
   fun e w'=>CountPost (FlagsIs c) (fun s n=>s.length+n<=1000) (OwnF c) n w (fF s (.node k a fl nt kids) d) e w':=by
 obtain ⟨i0,hi0,hz0,hz1,hz2⟩:=info_parts infoStr
 have k0:=hid (Keep.alloc w (.cells #[.int .i64 k,.string a.n,.int .i64 a.op,.int .i64 a.v,.int .i64 a.sl,.string a.f,.bool a.on,.string fl,.bool nt,.slice kp len kc] 104))
 have hb0:Hid (Boxed w.heap.size #[.int .i64 k,.string a.n,.int .i64 a.op,.int .i64 a.v,.int .i64 a.sl,.string a.f,.bool a.on,.string fl,.bool nt,.slice kp len kc] (w.alloc (.cells #[.int .i64 k,.string a.n,.int .i64 a.op,.int .i64 a.v,.int .i64 a.sl,.string a.f,.bool a.on,.string fl,.bool nt,.slice kp len kc] 104))):=Boxed.new w #[.int .i64 k,.string a.n,.int .i64 a.op,.int .i64 a.v,.int .i64 a.sl,.string a.f,.bool a.on,.string fl,.bool nt,.slice kp len kc] 104
 have HI:=hid hi
 by_cases h5:k=5
 ·have h5':(k==5)=true:=by simp [h5]
  have hfl8:=hfl h5
  have HF:Hid (fF s (.node k a fl nt kids) d=(s ++ [fl],true)):=by show _=_;unfold fF;simp [h5]
  obtain ⟨v,hv,hw⟩:=hi
  clear h5 hfl
  go_enter Tryz.func226,Tryz.ntmps226
  go_upto_region 2 with fail
  generalize w.alloc (.cells #[.int .i64 k,.string a.n,.int .i64 a.op,.int .i64 a.v,.int .i64 a.sl,.string a.f,.bool a.on,.string fl,.bool nt,.slice kp len kc] 104)=W0 at k0 hb0 ⊢
  have HV:=hid hv
  have HW:=hid hw
  have hv0:=hv.keep k0.out hv.facts.2.2
  obtain ⟨hc0,hz00,hl0⟩:=hv0.facts
  have hbc:=hb0.out.2
  have hbl:=hb0.out.1
  have HV0:=hid hv0
  have HW0:=hid (hw.keep k0.out)
  have HNE:Hid (v.ownBlock≠some c):=fun e=>by have:=owns_lt hw e;omega
  clear hv hw hv0
  go_region_law (first | (refine step_append_own rfl _ _ 101 rfl (c+1) 9 i0 (.string ByteArray.empty) 1 16 Tryz.underlying101 hi0 hz0 hz1 hz2 rfl (by decide) v s.length (s.map Value.string) rfl (HW1.out.alloc _) ⟨w1.heap.size,0,none⟩ 1 1 [.string fl] rfl rfl one_news one_cell (by unfold maxLen;omega) (by omega) (by have:=alloc_size w1 (.cells #[.string fl] 9);omega) ?_;intro v2 w2 h1 h2 h3;obtain ⟨g5,cap5,rfl⟩:=owns_shape h1 (Nat.succ_pos _);obtain ⟨hc2,hz20,hl2⟩:=(HV1.out.grown h2 HNE.out).facts) | (go_simp;go_at_call 166;refine (clone_any fl _ (by omega)).mono ?_;rintro e w1 ⟨rfl,k1⟩;have HK1:=hid (keep_undrew k1);have HV1:=hid (HV0.out.keep HK1.out HV0.out.facts.2.2);have HW1:=hid (HW0.out.keep HK1.out);obtain ⟨hc1,hz10,hl1⟩:=HV1.out.facts;have hkl:=HK1.out.size;go_simp))
  all_goals
   have HP:=hid (flags_push (fl:=fl) (w1:=w1) (w2:=w2) (o:= .cells #[.string fl] 9) HV.out HW.out (k0.out.trans HK1.out) h1 h2 (by first | exact h3 | (rw [alloc_size];exact h3)))
   go_wp2_with fail
   go_ret
   show CountPost _ _ _ _ w (fF s (.node k a fl nt kids) d) _ _
   rw [HF.out]
   exact ⟨rfl,HP.out.1,fun _=>by show (s ++ [fl]).length+n<=1000;simp;omega,HP.out.2⟩
 ·have h5':(k==5)=false:=by simp [h5]
  have HF:Hid (fF s (.node k a fl nt kids) d=(s,true)):=by show _=_;unfold fF;simp [h5]
  clear h5 hfl hi
  go_enter Tryz.func226,Tryz.ntmps226
  go_wp2_with fail
  go_ret
  show CountPost _ _ _ _ w (fF s (.node k a fl nt kids) d) _ _
  rw [HF.out]
  exact ⟨rfl,HI.out.keep k0.out,fun _=>by show s.length+n<=1000;omega,(flags_apart HI.out k0.out).1⟩
end Go.Proofs.YthhhicgjiilgmaaGreatDoor
namespace Go.Proofs.YthhhicgjiilgmaaGreatDoor
open Go.RowKit Go.Sort
theorem flags_counts (c:Nat) (S:Nat->Prop) (hS : ∀ b,S b->b<c):Counts 226 #[.pointer (some ⟨c,0,none⟩)] S fF (FlagsIs c) (fun s n=>s.length+n<=1000) (OwnF c) where
 keep s w w' hi k:=⟨hi.keep k,(flags_apart hi k).1,(flags_apart hi k).2⟩
 old s w hi b hb:=by
  refine ⟨?_,fun e=> ?_⟩
  ·obtain ⟨v,h1,-⟩:=hi
   exact Nat.lt_trans (hS b hb) h1.facts.2.2
  ·have:=hi.own e
   have:=hS b hb
   omega
 own s w hi b hb:=(hi.own hb).2
 call n s t d cs w hi hl hok hn:=by
  obtain ⟨k,a,fl,nt,kids⟩:=t
  rw [NeedIs] at hn
  obtain ⟨kp,kc,rfl,-,-,-⟩:=hn
  refine flags_call n c s k a fl nt kp kids.length kc d kids w hi hl (fun h5=> ?_)
  rw [NT.ok] at hok
  rcases nodeE_zero hok.1 with ⟨hk,-⟩ | ⟨hk,-⟩ | ⟨-,-,hn⟩
  ·omega
  ·omega
  ·have:=nameB_le hn
   rw [size_list] at this
   exact this
theorem enter_flags (args:Array Value) (w:World):(callFunc 226 args).run Tryz.prog w=.ok (.enter 226 args) w:=enters_of Tryz.func226 (by kernel_rfl) rfl args w
def NT.sorted (t:NT):List (List UInt8):=Lib.compact ((t.flags.map (·.data.toList)).mergeSort fun x y=>decide (x<=y))
def TextsAt (v:Value) (fs:List (List UInt8)) (w:World):Prop:=(fs = []/\∃ p cap,v=.slice p 0 cap)∨∃ g cap,v=.slice (some ⟨g,0,none⟩) fs.length cap/\g<w.heap.size/\∀ (j:Nat) x,fs[j]? = some x->w.cell? ⟨g,0+j,none⟩=some (.string ⟨x.toArray⟩)
def FlagsDone (t:NT) (w:World) (e:Ending) (w':World):Prop:=
 ∃ v,e=.returned (.tuple #[v,.int .i64 (chkN t)])/\(chkN t≠0->v=.slice none 0 0)/\(chkN t=0->TextsAt v t.sorted w')/\Keep w w'
theorem compact_len (zs:List (List UInt8)):(Lib.compact zs).length<=zs.length:=by
 unfold Lib.compact Lib.compactUpTo
 rw [List.length_map]
 exact Nat.le_trans (List.length_filter_le _ _) (by simp)
theorem compact_nil:Lib.compact ([]:List (List UInt8)) = []:=by rfl
set_option maxHeartbeats 2000000 in
theorem needFlags_any (t:NT) (cs:List Value) (w:World) (S:Nat->Prop) (hS : ∀ b,S b->b<w.heap.size) (hn:NeedIs S w t cs) :
  Calls Tryz.prog 190 #[.agg cs.toArray] w fun e w'=>FlagsDone t w e w':=by
 have HN:Hid (NeedIs S w t cs):=hn
 cases ht:t with
 | node k a fl nt kids=>
 rw [ht,NeedIs] at hn
 obtain ⟨kp,kc,rfl,-,-,-⟩:=hn
 rw [← ht]
 have hmf : ∀ (fn:Fn) (first cap:Array Value) (w:World),(Instr.makeFunc fn first cap).run Tryz.prog w=.ok (.func fn first cap) w:=fun _ _ _ _=>rfl
 have k0:=hid (Keep.alloc w (.cells #[.int .i64 k,.string a.n,.int .i64 a.op,.int .i64 a.v,.int .i64 a.sl,.string a.f,.bool a.on,.string fl,.bool nt,.slice kp kids.length kc] 104))
 have hb0:Hid (Boxed w.heap.size #[.int .i64 k,.string a.n,.int .i64 a.op,.int .i64 a.v,.int .i64 a.sl,.string a.f,.bool a.on,.string fl,.bool nt,.slice kp kids.length kc] (w.alloc (.cells #[.int .i64 k,.string a.n,.int .i64 a.op,.int .i64 a.v,.int .i64 a.sl,.string a.f,.bool a.on,.string fl,.bool nt,.slice kp kids.length kc] 104))):=Boxed.new w #[.int .i64 k,.string a.n,.int .i64 a.op,.int .i64 a.v,.int .i64 a.sl,.string a.f,.bool a.on,.string fl,.bool nt,.slice kp kids.length kc] 104
 clear ht
 go_enter Tryz.func190,Tryz.ntmps190
 go_wp2_with fail
 generalize w.alloc (.cells #[.int .i64 k,.string a.n,.int .i64 a.op,.int .i64 a.v,.int .i64 a.sl,.string a.f,.bool a.on,.string fl,.bool nt,.slice kp kids.length kc] 104)=W0 at k0 hb0 ⊢
 refine (needCheck_any t _ W0 S (fun b hb=>Nat.lt_of_lt_of_le (hS b hb) k0.out.size) (HN.out.keep hS k0.out)).mono ?_
 rintro e w1 ⟨rfl,k1⟩
 have K1:Hid (Keep w w1):=k0.out.trans k1
 have HB1:Hid (Boxed w.heap.size #[.int .i64 k,.string a.n,.int .i64 a.op,.int .i64 a.v,.int .i64 a.sl,.string a.f,.bool a.on,.string fl,.bool nt,.slice kp kids.length kc] w1):=hb0.out.keep k1 hb0.out.1
 have hc1:=HB1.out.2
 have hlt1:=HB1.out.1
 clear k1 hb0 k0
 by_cases hz:chkN t=0
 ·have HZ:Hid (chkN t=0):=hz
  rw [hz]
  clear hz
  obtain ⟨hlarge,hok⟩:=chkN_zero.1 HZ.out
  have hsz:=(small_of hlarge).1
  have HOK:=hid hok
  have V2:Hid (FlagsIs w1.heap.size [] (w1.alloc (.cells #[.slice none 0 0] 101))):=⟨_,VarAt.new w1 _ _,World.ownsRow_nil _ _ _ _⟩
  have K2:=hid (K1.out.alloc' (.cells #[.slice none 0 0] 101))
  clear hlarge hok
  go_wp2_with fail
  clear hc1
  generalize w1.alloc (.cells #[.slice none 0 0] 101)=W2 at V2 K2 ⊢
  refine (walk_counts (flags_counts w1.heap.size S (fun b hb=>Nat.lt_of_lt_of_le (hS b hb) K1.out.size)) enter_flags _ t (Nat.le_refl _) 0 [] 1 _ W2 V2.out (by show 0+(t.size+0)<=1000;omega) HOK.out (HN.out.keep hS K2.out)).mono ?_
  rintro e w3 ⟨rfl,hi3,-,ha3⟩
  rw [walkF] at hi3 ⊢
  obtain ⟨v,hv3,hw3⟩:=hi3
  have hw3':WordsAt (w1.heap.size+1) v t.flags w3:=by simpa using hw3
  have K3:Hid (Keep w w3):=Below.trans K2.out (ha3.below K2.out.size (fun b hb e=>by have:=V2.out.own e;have:=K1.out.size;omega))
  have HV3:=hid hv3
  have hfl:=flags_len t
  have hw1s:=K1.out.size
  obtain ⟨hcv,hzv,hlv⟩:=hv3.facts
  clear ha3 hw3 hv3
  obtain ⟨hlen,⟨rfl,h0⟩ | ⟨g,cap,cur,rfl,hbase,hb,hn1,hn2,hn3,hn4⟩⟩:=hw3'
  ·have hnil:Hid (t.sorted = []):=by
    show _=_
    have:t.flags = []:=List.length_eq_zero_iff.1 h0
    unfold NT.sorted
    rw [this,List.map_nil,List.mergeSort_nil];exact compact_nil
   go_wp2_with fail
   refine (Tryz.slices_Sort_string_none none 0 w3).mono ?_
   rintro e w4 ⟨rfl,hw4⟩
   rw [hw4]
   clear hw4
   go_wp2_with fail
   refine (Tryz.slices_Compact_string_empty none 0 w3).mono ?_
   rintro e w5 ⟨rfl,hw5⟩
   rw [hw5]
   clear hw5
   go_wp2_with fail
   go_ret2
   exact ⟨.slice none 0 0,by rw [HZ.out];rfl,fun h=>absurd HZ.out h,fun _=>Or.inl ⟨hnil.out,none,0,rfl⟩,K3.out⟩
  ·have hss:t.flags.map Value.string=(t.flags.map (·.data.toList)).map encStr:=by
    rw [List.map_map]
    apply List.map_congr_left
    intro x _
    show Value.string x=Value.string _
    rw [bytes_back]
   rw [hss,Nat.mul_one] at hn4
   have hgl:=(Array.getElem?_eq_some_iff.1 hb).1
   have hln:(t.flags.map (·.data.toList)).length=t.flags.length:=by simp
   have hH:Holds encStr w3 g 0 (t.flags.map (·.data.toList)).toArray:=holds_of_block hb (by rw [hln];exact hn4)
   have HSRT:Hid (t.sorted=Lib.compact ((t.flags.map (·.data.toList)).mergeSort fun x y=>decide (x<=y))):=rfl
   generalize hFF:t.flags.map (·.data.toList)=FF at hH hln HSRT
   clear hFF hss hn4 hlen
   have hsort:=Tryz.slices_Sort_string g 0 cap FF w3 hH hgl (by omega)
   rw [hln] at hsort
   have HSORT:=hid hsort
   clear hsort
   go_wp2_with fail
   refine HSORT.out.mono ?_
   rintro e w4 ⟨rfl,nn,os,hw4⟩
   have hml:(FF.mergeSort fun x y=>decide (x<=y)).length=FF.length:=by simp
   have own4:=ownsRow_sorted (n:=nn) (os:=os) (ss:=FF) (ts:=FF.mergeSort fun x y=>decide (x<=y)) hml hbase hb (by omega) hn2 hn3
   have grow4:=grownBy_sorted (w:=w3) (g:=g) (n:=nn) (os:=os) (FF.mergeSort fun x y=>decide (x<=y)).toArray
   rw [← hw4] at own4 grow4
   clear hw4
   have HV4:Hid (VarAt w1.heap.size 101 (.slice (some ⟨g,0,none⟩) t.flags.length cap) w4):=by
    have:=HV3.out
    unfold VarAt at this
    show w4.heap[_]? = _
    rw [grow4.block _ hlv (fun e=>by have:=Option.some.inj e;omega)];exact this
   have K4:Hid (Keep w w4):=Below.grown K3.out grow4 (by have:=K3.out.size;omega) (fun g' hg'=>by have:g=g':=Option.some.inj hg';omega)
   obtain ⟨-,⟨h,-⟩ | ⟨g2,cap2,cur2,e2,-,hb2,hm1,hm2,hm3,hm4⟩⟩:=own4
   ·cases h
   cases e2
   rw [Nat.mul_one] at hm4
   generalize FF.mergeSort (fun x y=>decide (x<=y))=GG at hml hm4 HSRT
   have hH2:Holds encStr w4 g 0 GG.toArray:=holds_of_block hb2 (by rw [hml];exact hm4)
   have hcomp:=Tryz.slices_Compact_string g 0 cap GG w4 hH2 (by omega) (by omega)
   rw [hml,hln] at hcomp
   have HCOMP:=hid hcomp
   obtain ⟨hcv4,hzv4,hlv4⟩:=HV4.out.facts
   have HB2:=hid hb2
   have hgl4:=(Array.getElem?_eq_some_iff.1 hb2).1
   clear hcomp hcv hzv grow4 hm4
   go_wp2_with fail
   refine HCOMP.out.mono ?_
   rintro e w5 ⟨rfl,qq,hw5⟩
   have hcl:=compact_len GG
   have own5:=ownsRow_sorted (n:=qq) (os:=#[]) (ss:=GG) (ts:=Lib.compact GG++List.replicate (GG.length-(Lib.compact GG).length) []) (by simp;omega) hbase HB2.out (cap:=cap) (by omega) hm2 hm3
   have grow5:=grownBy_sorted (w:=w4) (g:=g) (n:=qq) (os:=#[]) (Lib.compact GG++List.replicate (GG.length-(Lib.compact GG).length) []).toArray
   rw [grow_empty,hml,hln] at own5
   rw [grow_empty,hml,hln] at grow5
   rw [← hw5] at own5 grow5
   clear hw5
   have K5:Hid (Keep w w5):=Below.grown K4.out grow5 (by have:=K4.out.size;omega) (fun g' hg'=>by have:g=g':=Option.some.inj hg';omega)
   have HT5:Hid (TextsAt (.slice (some ⟨g,0,none⟩) (Lib.compact GG).length cap) t.sorted w5):=by
    refine Or.inr ⟨g,cap,by rw [HSRT.out],by have:=grow5.size;omega,fun j x hx=> ?_⟩
    rw [HSRT.out] at hx
    have hj:j<(Lib.compact GG).length:=(List.getElem?_eq_some_iff.1 hx).1
    obtain ⟨-,⟨h,-⟩ | ⟨g3,cap3,cur3,e3,-,hb3,-,-,-,hm5⟩⟩:=own5
    ·cases h
    cases e3
    have h1:=congrArg (·[j]?) hm5
    simp only [Nat.mul_one,List.getElem?_take,List.getElem?_map,List.getElem?_append_left hj,hx,Option.map_some] at h1
    rw [if_pos (by omega)] at h1
    simp only [World.cell?,hb3,Nat.zero_add]
    simpa [encStr] using h1
   clear own5 grow5
   go_wp2_with fail
   go_ret2
   exact ⟨_,by rw [HZ.out];rfl,fun h=>absurd HZ.out h,fun _=>HT5.out,K5.out⟩
 ·have hz':(chkN t==0)=false:=by simpa using hz
  have hz2:(chkN t != 0)=true:=by simpa using hz
  have HZ:Hid (chkN t≠0):=hz
  clear hz
  go_wp2_with fail
  go_ret2
  exact ⟨.slice none 0 0,rfl,fun _=>rfl,fun h=>absurd h HZ.out,K1.out⟩
end Go.Proofs.YthhhicgjiilgmaaGreatDoor
namespace Go.Proofs.YthhhicgjiilgmaaGreatDoor
structure PK where
 n:ByteArray
 v:Int
 sl:Int
 fl:List ByteArray
 nd:NT
def NT.kind:NT->Int
 | .node k _ _ _ _=>k
def PK.zero:PK:=⟨⟨#[]⟩,0,0,[],NT.zero⟩
def firstE (f:Nat->Int):Nat->Nat->Int
 | _,0=>0
 | i,m+1=>if f i=0 then firstE f (i+1) m else f i
def leS (x y:ByteArray):Bool:=Op.bytesLess x.toList y.toList||x.toList==y.toList
def flE (fs:List ByteArray) (k:Nat):Int:=
 if nameB (fs.getD k ⟨#[]⟩).data.toList=false then 1 else if 0<k/\leS (fs.getD k ⟨#[]⟩) (fs.getD (k-1) ⟨#[]⟩)=true then 6 else 0
def chkFs (fs:List ByteArray):Int:=if 2<fs.length then 2 else firstE (flE fs) 0 fs.length
def hasF (fs:List ByteArray) (x:List UInt8):Bool:=Lib.containsS fs ⟨x.toArray⟩
def chkNd (t:NT) (fs:List ByteArray):Int:=
 if t.kind≠3 then 4 else if chkN t≠0 then chkN t else if t.sorted.all (hasF fs)=true then 0 else 5
def chkP (p:PK):Int:=
 if nameB p.n.data.toList=false then 1 else if p.v<1∨99<p.v∨p.sl<1∨9<p.sl then 3 else if chkFs p.fl≠0 then chkFs p.fl else chkNd p.nd p.fl
def behindB (p q:PK):Bool:=if p.n=q.n then decide (q.v<p.v) else !leS p.n q.n
def sumF (ps:List PK) (k:Nat):Nat:=((ps.take k).map fun p=>p.fl.length).sum
def pkE (ps:List PK) (k:Nat):Int:=
 if chkP (ps.getD k PK.zero)≠0 then chkP (ps.getD k PK.zero) else if 0<k/\behindB (ps.getD k PK.zero) (ps.getD (k-1) PK.zero)=false then 6 else if 14<ps.length+sumF ps (k+1) then 2 else 0
def chkT (ps:List PK):Int:=if 8<ps.length then 2 else firstE (pkE ps) 0 ps.length
theorem firstE_zero {f:Nat->Int} : ∀ (m i:Nat),firstE f i m=0 ↔ ∀ j,j<m->f (i+j)=0
 | 0,i=>by simp [firstE]
 | m+1,i=>by
  rw [firstE]
  split
  ·rename_i h
   rw [firstE_zero m (i+1)]
   constructor
   ·intro H j hj
    cases j with
    | zero=>exact h
    | succ j=>rw [show i+(j+1)=i+1+j by omega];exact H j (by omega)
   ·intro H j hj
    rw [show i+1+j=i+(j+1) by omega];exact H (j+1) (by omega)
  ·rename_i h
   constructor
   ·intro H;exact absurd H h
   ·intro H;exact absurd (H 0 (by omega)) h
theorem firstE_step {f:Nat->Int} {i n:Nat} (h:i<n):firstE f i (n-i)=if f i=0 then firstE f (i+1) (n-(i+1)) else f i:=by
 rw [show n-i=(n-(i+1))+1 by omega,firstE]
theorem sumF_succ {ps:List PK} {k:Nat} (h:k<ps.length):sumF ps (k+1)=sumF ps k+ps[k].fl.length:=by
 unfold sumF
 rw [List.take_succ_eq_append_getElem h,List.map_append,List.sum_append]
 simp only [List.map_cons,List.map_nil,List.sum_cons,List.sum_nil,Nat.add_zero]
theorem chkT_get {ps:List PK} (h:chkT ps=0):ps.length<=8/\(∀ p∈ps,chkP p=0):=by
 unfold chkT at h
 split at h
 ·cases h
 ·rename_i h8
  refine ⟨by omega,fun p hp=> ?_⟩
  obtain ⟨k,hk,rfl⟩:=List.getElem_of_mem hp
  have:=(firstE_zero _ _).1 h k hk
  rw [Nat.zero_add] at this
  unfold pkE at this
  rw [List.getD_eq_getElem?_getD,List.getElem?_eq_getElem hk,Option.getD_some] at this
  split at this
  ·rename_i hne;exact absurd this hne
  ·rename_i hne;exact Decidable.of_not_not hne
theorem chkFs_get {fs:List ByteArray} (h:chkFs fs=0):fs.length<=2/\∀ f∈fs,nameB f.data.toList=true:=by
 unfold chkFs at h
 split at h
 ·cases h
 ·refine ⟨by omega,fun p hp=> ?_⟩
  obtain ⟨k,hk,rfl⟩:=List.getElem_of_mem hp
  have:=(firstE_zero _ _).1 h k hk
  rw [Nat.zero_add] at this
  unfold flE at this
  rw [List.getD_eq_getElem?_getD,List.getElem?_eq_getElem hk,Option.getD_some] at this
  split at this
  ·cases this
  ·rename_i hne;simpa using hne
theorem chkP_get {p:PK} (h:chkP p=0):nameB p.n.data.toList=true/\(1<=p.v/\p.v<=99/\1<=p.sl/\p.sl<=9)/\chkFs p.fl=0/\p.nd.kind=3/\chkN p.nd=0:=by
 unfold chkP at h
 split at h
 ·cases h
 ·rename_i h1
  split at h
  ·cases h
  ·rename_i h2
   split at h
   ·rename_i h3;exact absurd h h3
   ·rename_i h3
    unfold chkNd at h
    split at h
    ·cases h
    ·rename_i h4
     split at h
     ·rename_i h5;exact absurd h h5
     ·rename_i h5
      exact ⟨by simpa using h1,by omega,Decidable.of_not_not h3,Decidable.of_not_not h4,Decidable.of_not_not h5⟩
section
variable (s:UInt8)
theorem gidx_at : ∀ (x r:List UInt8),(∀ c∈x,c≠s)->Go.Lib.index (x++s :: r) [s]=x.length
 | [],r,_=>by simp [Go.Lib.index,List.isPrefixOf]
 | c :: x,r,h=>by
  have hc:=h c (by simp)
  have ih:=gidx_at x r (fun d hd=>h d (by simp [hd]))
  rw [List.cons_append,Go.Lib.index,if_neg (by simp [List.isPrefixOf,Ne.symm hc]),ih,if_neg (by simp)]
  simp
theorem gidx_none : ∀ x:List UInt8,(∀ c∈x,c≠s)->Go.Lib.index x [s] = -1
 | [],_=>by simp [Go.Lib.index]
 | c :: x,h=>by
  have hc:=h c (by simp)
  rw [Go.Lib.index,if_neg (by simp [List.isPrefixOf,Ne.symm hc]),gidx_none x (fun d hd=>h d (by simp [hd]))]
  rfl
theorem gidx_cases : ∀ l:List UInt8,(∀ c∈l,c≠s)∨∃ x r,l=x++s :: r/\∀ c∈x,c≠s
 | []=>Or.inl (by simp)
 | c :: l=>by
  by_cases hc:c=s
  ·exact Or.inr ⟨[],l,by rw [hc];rfl,by simp⟩
  ·rcases gidx_cases l with h | ⟨x,r,e,h⟩
   ·refine Or.inl fun d hd=> ?_
    rcases List.mem_cons.1 hd with rfl | hd
    ·exact hc
    ·exact h d hd
   ·refine Or.inr ⟨c :: x,r,by rw [e];rfl,fun d hd=> ?_⟩
    rcases List.mem_cons.1 hd with rfl | hd
    ·exact hc
    ·exact h d hd
theorem gjn_cons (x y:Word) (r:List Word):Go.Lib.join (x :: y :: r) [s]=x++s :: Go.Lib.join (y :: r) [s]:=by
 simp [Go.Lib.join,List.intercalate,List.intersperse]
theorem gsplitK_at (k:Nat) (x r:List UInt8) (h : ∀ c∈x,c≠s):Go.Lib.splitK [s] 0 (k+1) (x++s :: r)=x :: Go.Lib.splitK [s] 0 k r:=by
 rw [Go.Lib.splitK,gidx_at s x r h,if_neg (by simp)]
 simp
theorem gsplitK_none (k:Nat) (x:List UInt8) (h : ∀ c∈x,c≠s):Go.Lib.splitK [s] 0 k x = [x]:=by
 cases k with
 | zero=>rfl
 | succ k=>rw [Go.Lib.splitK,gidx_none s x h,if_pos (by decide)]
theorem gsplit_join : ∀ (ws:List Word),ws ≠ []->(∀ x∈ws,∀ c∈x,c≠s)->Go.Lib.split (Go.Lib.join ws [s]) [s]=ws
 | [],h,_=>absurd rfl h
 | [x],_,h=>by
  rw [Go.Lib.join_one];unfold Go.Lib.split
  exact gsplitK_none s _ x (h x (by simp))
 | x :: y :: r,_,h=>by
  have hx:=h x (by simp)
  have ih:=gsplit_join (y :: r) (by simp) (fun z hz=>h z (by simp at hz ⊢;exact Or.inr hz))
  rw [gjn_cons]
  unfold Go.Lib.split at ih ⊢
  rw [Go.Lib.count_hit (i:=x.length) (by simp) (gidx_at s x _ hx),Nat.add_comm,gsplitK_at s _ _ _ hx]
  have e:List.drop (x.length + [s].length) (x++s :: Go.Lib.join (y :: r) [s])=Go.Lib.join (y :: r) [s]:=by
   rw [show x++s :: Go.Lib.join (y :: r) [s]=(x ++ [s])++Go.Lib.join (y :: r) [s] by simp]
   rw [show x.length + [s].length=(x ++ [s]).length by simp]
   exact List.drop_left
  rw [e,ih]
theorem gcut_at (x r:List UInt8) (h : ∀ c∈x,c≠s):Go.Lib.cut (x++s :: r) [s]=(x,r,true):=by
 unfold Go.Lib.cut
 rw [gidx_at s x r h,if_pos (by omega)]
 have e:x++s :: r=(x ++ [s])++r:=by simp
 simp only [Int.toNat_natCast,Prod.mk.injEq,and_true]
 refine ⟨by simp,?_⟩
 rw [e,show x.length + [s].length=(x ++ [s]).length by simp]
 exact List.drop_left
theorem gcut_none (x:List UInt8) (h : ∀ c∈x,c≠s):Go.Lib.cut x [s]=(x,[],false):=by
 unfold Go.Lib.cut
 rw [gidx_none s x h,if_neg (by omega)]
theorem gcut_back {l x r:List UInt8} (h:Go.Lib.cut l [s]=(x,r,true)):l=x++s :: r/\∀ c∈x,c≠s:=by
 rcases gidx_cases s l with h0 | ⟨x',r',rfl,h0⟩
 ·rw [gcut_none s l h0] at h;simp at h
 ·rw [gcut_at s x' r' h0] at h
  simp at h
  obtain ⟨rfl,rfl⟩:=h
  exact ⟨rfl,h0⟩
end
def lineL (p:PK):List UInt8:=Lib.join [p.n.data.toList,Lib.itoa p.v,Lib.itoa p.sl,Lib.join (p.fl.map (·.data.toList)) [44],p.nd.text] [32]
def textT:List PK->List UInt8
 | []=> []
 | p :: ps=>lineL p++10 :: textT ps
def flagsW (wd:Word):List ByteArray:=if wd = [] then [] else (Lib.split wd [44]).map fun x=>⟨x.toArray⟩
def wordsE:List Word->Int
 | [_,b,c,_,n]=>if numB b=false∨numB c=false then 1 else rdE n
 | _=>1
def wordsP:List Word->PK
 | [a,b,c,d,n]=>⟨⟨a.toArray⟩,numV b,numV c,flagsW d,(rdText n).getD NT.zero⟩
 | _=>PK.zero
def lineE (l:List UInt8):Int:=wordsE (Lib.splitN l [32] 5)
def lineP (l:List UInt8):PK:=wordsP (Lib.splitN l [32] 5)
def rdLs:Nat->List UInt8->Nat->List PK->Int × Nat × List PK
 | 0,_,k,acc=>(0,k,acc)
 | m+1,l,k,acc=>if l = [] then (0,k,acc) else if (Lib.cut l [10]).2.2=false then (1,k,[]) else
  if lineE (Lib.cut l [10]).1≠0 then (lineE (Lib.cut l [10]).1,k,[]) else rdLs m (Lib.cut l [10]).2.1 (k+1) (acc ++ [lineP (Lib.cut l [10]).1])
def rdT (l:List UInt8):Int × Nat × List PK:=
 if 20000<l.length then (2,0,[]) else if (rdLs (l.length+1) l 0 []).1≠0 then ((rdLs (l.length+1) l 0 []).1,(rdLs (l.length+1) l 0 []).2.1,[]) else
  if chkT (rdLs (l.length+1) l 0 []).2.2≠0 then (chkT (rdLs (l.length+1) l 0 []).2.2,0,[]) else (0,0,(rdLs (l.length+1) l 0 []).2.2)
theorem itoa_num {i:Int} (h0:0<=i) (h1:i<100):numB (Lib.itoa i)=true/\numV (Lib.itoa i)=i:=by
 obtain ⟨k,rfl⟩ : ∃ k:Nat,i=k:=⟨i.toNat,by omega⟩
 have e:Lib.itoa (k:Int)=Lib.decDigits k:=by unfold Lib.itoa;simp
 rw [e]
 exact num_dig (by omega)
theorem itoa_no {i:Int} (h0:0<=i) (h1:i<100) : ∀ c∈Lib.itoa i,c≠32/\c≠10:=by
 intro c hc
 have:=itoa_txt h0 h1 c hc
 refine ⟨(txt_ne this).1,?_⟩
 rintro rfl
 revert this;decide
theorem name_no {l:List UInt8} (h:nameB l=true) : ∀ c∈l,c≠32/\c≠10/\c≠44:=by
 intro c hc
 have:=okB_txt (name_ok h c hc)
 refine ⟨(txt_ne this).1,?_,?_⟩<;>(rintro rfl;revert this;decide)
theorem join_mem (s:UInt8) : ∀ (ws:List Word) (c:UInt8),c∈Lib.join ws [s]->c=s∨∃ x∈ws,c∈x
 | [],c,h=>by simp [Lib.join] at h
 | [x],c,h=>by rw [Lib.join_one] at h;exact Or.inr ⟨x,by simp,h⟩
 | x :: y :: r,c,h=>by
  rw [gjn_cons] at h
  rcases List.mem_append.1 h with h | h
  ·exact Or.inr ⟨x,by simp,h⟩
  ·rcases List.mem_cons.1 h with h | h
   ·exact Or.inl h
   ·rcases join_mem s (y :: r) c h with h | ⟨z,hz,hc⟩
    ·exact Or.inl h
    ·exact Or.inr ⟨z,by simp at hz ⊢;exact Or.inr hz,hc⟩
theorem joinF_no {fs:List ByteArray} (h : ∀ f∈fs,nameB f.data.toList=true) : ∀ c∈Lib.join (fs.map (·.data.toList)) [44],c≠32/\c≠10:=by
 intro c hc
 rcases join_mem 44 _ c hc with rfl | ⟨x,hx,hcx⟩
 ·decide
 ·obtain ⟨f,hf,rfl⟩:=List.mem_map.1 hx
  have:=name_no (h f hf) c hcx
  exact ⟨this.1,this.2.1⟩
theorem flags_backW {fs:List ByteArray} (h : ∀ f∈fs,nameB f.data.toList=true):flagsW (Lib.join (fs.map (·.data.toList)) [44])=fs:=by
 unfold flagsW
 cases fs with
 | nil=>simp [Lib.join]
 | cons f fs=>
  have hne:Lib.join ((f :: fs).map (·.data.toList)) [44] ≠ []:=by
   have hp:=nameB_pos (h f (by simp))
   cases fs with
   | nil=>rw [List.map_cons,List.map_nil,Lib.join_one];exact hp
   | cons g fs=>rw [List.map_cons,List.map_cons,gjn_cons];simp
  rw [if_neg hne,gsplit_join 44 _ (by simp) (fun x hx c hc=>by obtain ⟨f',hf',rfl⟩:=List.mem_map.1 hx;exact (name_no (h f' hf') c hc).2.2),List.map_map]
  conv=>rhs;rw [← List.map_id (f :: fs)]
  apply List.map_congr_left
  intro x _
  exact bytes_back x
theorem txt_no10 {c:UInt8} (h:txtB c=true):c≠10:=by rintro rfl;revert h;decide
mutual
theorem words_no10' : ∀ (t:NT),t.ok->∀ x∈t.words,∀ c∈x,c≠10
 | .node k a fl nt kids,hok,x,hx=>by
  rw [NT.ok] at hok
  rw [NT.words] at hx
  have hend : ∀ l:List Word,x ∈ [40] :: (wordsL kids ++ [[41]])->∀ c∈x,c≠10:=fun _ hx=>by
   rcases List.mem_cons.1 hx with rfl | hx
   ·decide
   ·rcases List.mem_append.1 hx with hx | hx
    ·exact wordsL_no10' kids hok.2 x hx
    ·rw [List.mem_singleton.1 hx];decide
  rcases nodeE_zero hok.1 with ⟨hk,rfl,rfl,rfl,ha⟩ | ⟨hk,rfl,rfl,rfl⟩ | ⟨rfl,rfl,hn⟩
  ·have ht:=text_txt ha
   rcases hk with rfl | rfl
   ·rw [if_pos rfl] at hx
    rw [List.mem_singleton.1 hx]
    exact fun c hc=>txt_no10 (ht c hc)
   ·rw [if_neg (by decide),if_pos rfl] at hx
    rw [List.mem_singleton.1 hx]
    intro c hc
    rcases List.mem_cons.1 hc with rfl | hc
    ·decide
    ·exact txt_no10 (ht c hc)
  ·rcases hk with rfl | rfl
   ·rw [if_neg (by decide),if_neg (by decide),if_neg (by decide),if_neg (by decide)] at hx
    exact hend [] hx
   ·rw [if_neg (by decide),if_neg (by decide),if_pos rfl] at hx
    rcases List.mem_append.1 hx with hx | hx
    ·rw [List.mem_singleton.1 hx];decide
    ·exact hend [] hx
  ·rw [if_neg (by decide),if_neg (by decide),if_neg (by decide),if_pos rfl] at hx
   rcases List.mem_append.1 hx with hx | hx
   ·rw [List.mem_singleton.1 hx]
    intro c hc
    rcases List.mem_append.1 hc with hc | hc
    ·split at hc
     ·rw [List.mem_singleton.1 hc];decide
     ·cases hc
    ·rcases List.mem_append.1 hc with hc | hc
     ·exact (name_no hn c hc).2.1
     ·rw [List.mem_singleton.1 hc];decide
   ·exact hend [] hx
theorem wordsL_no10' : ∀ (ts:List NT),okL ts->∀ x∈wordsL ts,∀ c∈x,c≠10
 | [],_,x,hx=>by rw [wordsL] at hx;cases hx
 | t :: ts,hok,x,hx=>by
  rw [okL] at hok
  rw [wordsL] at hx
  rcases List.mem_append.1 hx with hx | hx
  ·exact words_no10' t hok.1 x hx
  ·exact wordsL_no10' ts hok.2 x hx
end
theorem words_no10 {t:NT} (h:t.ok) : ∀ c∈t.text,c≠10:=by
 intro c hc
 rcases join_mem 32 _ c hc with rfl | ⟨x,hx,hcx⟩
 ·decide
 ·exact words_no10' t h x hx c hcx
theorem line_back {p:PK} (h:chkP p=0):lineE (lineL p)=0/\lineP (lineL p)=p/\∀ c∈lineL p,c≠10:=by
 obtain ⟨hn,⟨hv1,hv2,hs1,hs2⟩,hf,_,hc⟩:=chkP_get h
 obtain ⟨_,hf⟩:=chkFs_get hf
 have hsm:=(chkN_zero.1 hc)
 obtain ⟨iv1,iv2⟩:=itoa_num (i:=p.v) (by omega) (by omega)
 obtain ⟨is1,is2⟩:=itoa_num (i:=p.sl) (by omega) (by omega)
 obtain ⟨r1,r2⟩:=rdE_text hc
 have e1:lineL p=p.n.data.toList++32 :: (Lib.itoa p.v++32 :: (Lib.itoa p.sl++32 :: (Lib.join (p.fl.map (·.data.toList)) [44]++32 :: p.nd.text))):=by
  unfold lineL
  rw [gjn_cons,gjn_cons,gjn_cons,gjn_cons,Lib.join_one]
 have e2:Lib.splitN (lineL p) [32] 5 = [p.n.data.toList,Lib.itoa p.v,Lib.itoa p.sl,Lib.join (p.fl.map (·.data.toList)) [44],p.nd.text]:=by
  unfold Lib.splitN
  rw [show min 5 ((lineL p).length+1)-1=4 by rw [e1];simp;omega,e1]
  rw [gsplitK_at 32 3 _ _ (fun c hc=>(name_no hn c hc).1),gsplitK_at 32 2 _ _ (fun c hc=>(itoa_no (by omega) (by omega) c hc).1),gsplitK_at 32 1 _ _ (fun c hc=>(itoa_no (by omega) (by omega) c hc).1),gsplitK_at 32 0 _ _ (fun c hc=>(joinF_no hf c hc).1)]
  rfl
 refine ⟨?_,?_,?_⟩
 ·unfold lineE
  rw [e2,wordsE,if_neg (by rw [iv1,is1];simp)]
  exact r1
 ·unfold lineP
  rw [e2,wordsP,iv2,is2,flags_backW hf,r2,bytes_back]
  rfl
 ·rw [e1]
  intro c hc
  simp only [List.mem_append,List.mem_cons] at hc
  rcases hc with hc | rfl | hc | rfl | hc | rfl | hc | rfl | hc
  ·exact (name_no hn c hc).2.1
  ·decide
  ·exact (itoa_no (by omega) (by omega) c hc).2
  ·decide
  ·exact (itoa_no (by omega) (by omega) c hc).2
  ·decide
  ·exact (joinF_no hf c hc).2
  ·decide
  ·exact words_no10 hsm.2 c hc
theorem rdLs_text : ∀ (ps:List PK) (m k:Nat) (acc:List PK),(∀ p∈ps,chkP p=0)->(textT ps).length<m->rdLs m (textT ps) k acc=(0,k+ps.length,acc++ps)
 | [],0,k,acc,_,h=>absurd h (Nat.not_lt_zero _)
 | [],m+1,k,acc,_,_=>by rw [rdLs,if_pos (show textT [] = [] from rfl)];simp
 | p :: ps,0,k,acc,_,h=>absurd h (Nat.not_lt_zero _)
 | p :: ps,m+1,k,acc,h,hm=>by
  obtain ⟨b1,b2,b3⟩:=line_back (h p (by simp))
  have e:textT (p :: ps)=lineL p++10 :: textT ps:=rfl
  rw [rdLs,e,gcut_at 10 _ _ b3,if_neg (by simp),if_neg (by simp),if_neg (by simp [b1])]
  rw [e] at hm
  rw [rdLs_text ps m (k+1) (acc ++ [lineP (lineL p)]) (fun q hq=>h q (by simp [hq])) (by simp at hm;omega),b2]
  simp;omega
theorem rdT_text {ps:List PK} (h:chkT ps=0) (hl:(textT ps).length<=20000):rdT (textT ps)=(0,0,ps):=by
 have hp:=(chkT_get h).2
 unfold rdT
 rw [if_neg (by omega),rdLs_text ps _ 0 [] hp (by omega),if_neg (by simp),if_neg (by simp [h])]
 simp
end Go.Proofs.YthhhicgjiilgmaaGreatDoor
namespace Go.Proofs.YthhhicgjiilgmaaGreatDoor
open Go.RowKit
def StrsIs (S:Nat->Prop) (w:World) (fs:List ByteArray) (v:Value):Prop:=
 (fs = []/\∃ p cap,v=.slice p 0 cap)∨∃ (b off cap:Nat),v=.slice (some ⟨b,off,none⟩) fs.length cap/\(S b/\fs.length<=cap)/\fs.length<=9223372036854775807/\∀ (j:Nat) (x:ByteArray),fs[j]? = some x->w.cell? ⟨b,off+j,none⟩=some (.string x)
def PkgIs (S:Nat->Prop) (w:World) (p:PK) (cs:List Value):Prop:=
 ∃ (fv:Value) (nv:List Value),cs=.string p.n :: .int .i64 p.v :: .int .i64 p.sl :: fv :: nv/\StrsIs S w p.fl fv/\NeedIs S w p.nd nv
def PkgsIs (S:Nat->Prop) (w:World) (ps:List PK) (v:Value):Prop:=
 (ps = []/\∃ p cap,v=.slice p 0 cap)∨∃ (b off cap:Nat),v=.slice (some ⟨b,off,none⟩) ps.length cap/\S b/\ps.length<=9223372036854775807/\
  ∀ (j:Nat) (h:j<ps.length),∃ cs:List Value,(∀ (m:Nat) (x:Value),cs[m]? = some x->w.cell? ⟨b,off+j*14+m,none⟩=some x)/\PkgIs S w ps[j] cs
theorem StrsIs.mono {S S':Nat->Prop} {w w':World} (hw : ∀ p:Addr,S p.block->w'.cell? p=w.cell? p) (hS : ∀ b,S b->S' b) {fs:List ByteArray} {v:Value} (h:StrsIs S w fs v):StrsIs S' w' fs v:=by
 rcases h with h | ⟨b,off,cap,h1,h2,h3,h4⟩
 ·exact Or.inl h
 ·exact Or.inr ⟨b,off,cap,h1,⟨hS _ h2.1,h2.2⟩,h3,fun j x hx=>(hw _ h2.1).trans (h4 j x hx)⟩
theorem PkgIs.mono {S S':Nat->Prop} {w w':World} (hw : ∀ p:Addr,S p.block->w'.cell? p=w.cell? p) (hS : ∀ b,S b->S' b) {p:PK} {cs:List Value} (h:PkgIs S w p cs):PkgIs S' w' p cs:=by
 obtain ⟨fv,nv,h1,h2,h3⟩:=h
 exact ⟨fv,nv,h1,h2.mono hw hS,NeedIs.mono hw hS _ _ h3⟩
theorem PkgsIs.mono {S S':Nat->Prop} {w w':World} (hw : ∀ p:Addr,S p.block->w'.cell? p=w.cell? p) (hS : ∀ b,S b->S' b) {ps:List PK} {v:Value} (h:PkgsIs S w ps v):PkgsIs S' w' ps v:=by
 rcases h with h | ⟨b,off,cap,h1,h2,h3,h4⟩
 ·exact Or.inl h
 ·refine Or.inr ⟨b,off,cap,h1,hS _ h2,h3,fun j hj=> ?_⟩
  obtain ⟨cs,h5,h6⟩:=h4 j hj
  exact ⟨cs,fun m x hx=>(hw _ h2).trans (h5 m x hx),h6.mono hw hS⟩
theorem below_cells {S:Nat->Prop} {B:Nat} {w w':World} (hS : ∀ b,S b->b<B) (k:Below B w w') : ∀ p:Addr,S p.block->w'.cell? p=w.cell? p:=
 fun p hp=>k.cell (p:=p) (hS _ hp)
theorem StrsIs.keep {S:Nat->Prop} {B:Nat} {w w':World} (hS : ∀ b,S b->b<B) (k:Below B w w') {fs:List ByteArray} {v:Value} (h:StrsIs S w fs v):StrsIs S w' fs v:=h.mono (below_cells hS k) fun _ h=>h
theorem PkgIs.keep {S:Nat->Prop} {B:Nat} {w w':World} (hS : ∀ b,S b->b<B) (k:Below B w w') {p:PK} {cs:List Value} (h:PkgIs S w p cs):PkgIs S w' p cs:=h.mono (below_cells hS k) fun _ h=>h
theorem PkgsIs.keep {S:Nat->Prop} {B:Nat} {w w':World} (hS : ∀ b,S b->b<B) (k:Below B w w') {ps:List PK} {v:Value} (h:PkgsIs S w ps v):PkgsIs S w' ps v:=h.mono (below_cells hS k) fun _ h=>h
theorem StrsIs.len {S:Nat->Prop} {w:World} {fs:List ByteArray} {v:Value} (h:StrsIs S w fs v) : ∃ p cap,v=.slice p fs.length cap/\fs.length<=9223372036854775807:=by
 rcases h with ⟨rfl,p,cap,h⟩ | ⟨b,off,cap,h1,_,h3,_⟩
 ·exact ⟨p,cap,h,by simp⟩
 ·exact ⟨_,cap,h1,h3⟩
theorem PkgsIs.len {S:Nat->Prop} {w:World} {ps:List PK} {v:Value} (h:PkgsIs S w ps v) : ∃ p cap,v=.slice p ps.length cap/\ps.length<=9223372036854775807:=by
 rcases h with ⟨rfl,p,cap,h⟩ | ⟨b,off,cap,h1,_,h3,_⟩
 ·exact ⟨p,cap,h,by simp⟩
 ·exact ⟨_,cap,h1,h3⟩
theorem StrsIs.get {S:Nat->Prop} {w:World} {fs:List ByteArray} {v:Value} (h:StrsIs S w fs v) {j:Nat} (hj:j<fs.length) :
  ∃ (b off cap:Nat),v=.slice (some ⟨b,off,none⟩) fs.length cap/\S b/\fs.length<=9223372036854775807/\∀ (j:Nat) (x:ByteArray),fs[j]? = some x->w.cell? ⟨b,off+j,none⟩=some (.string x):=by
 rcases h with ⟨rfl,_⟩ | ⟨b,off,cap,h1,h2,h3,h4⟩
 ·exact absurd hj (Nat.not_lt_zero _)
 ·exact ⟨b,off,cap,h1,h2.1,h3,h4⟩
theorem PkgsIs.get {S:Nat->Prop} {w:World} {ps:List PK} {v:Value} (h:PkgsIs S w ps v) {j:Nat} (hj:j<ps.length) :
  ∃ (b off cap:Nat),v=.slice (some ⟨b,off,none⟩) ps.length cap/\S b/\ps.length<=9223372036854775807/\
  ∀ (j:Nat) (h:j<ps.length),∃ cs:List Value,(∀ (m:Nat) (x:Value),cs[m]? = some x->w.cell? ⟨b,off+j*14+m,none⟩=some x)/\PkgIs S w ps[j] cs:=by
 rcases h with ⟨rfl,_⟩ | h
 ·exact absurd hj (Nat.not_lt_zero _)
 ·exact h
theorem getD_ba (zs:List ByteArray) (j:Nat) (h:j<zs.length):zs.getD j ByteArray.empty=zs[j]:=by
 rw [List.getD_eq_getElem?_getD,List.getElem?_eq_getElem h,Option.getD_some]
theorem StrsIs.getD {w:World} {fs:List ByteArray} {b off:Nat} (h : ∀ (j:Nat) (x:ByteArray),fs[j]? = some x->w.cell? ⟨b,off+j,none⟩=some (.string x)) : ∀ j,j<fs.length->w.cell? ⟨b,off+j,none⟩=some (.string (fs.getD j ByteArray.empty)):=
 fun j hj=>by rw [getD_ba fs j hj];exact h j _ (List.getElem?_eq_getElem hj)
end Go.Proofs.YthhhicgjiilgmaaGreatDoor
namespace Go.Proofs.YthhhicgjiilgmaaGreatDoor
open Go.RowKit
set_option maxHeartbeats 2000000 in
set_option maxRecDepth 100000 in
theorem oneByOne_any {F:Nat} {cap:Array Value} (n:Nat) (f:Nat->Int) (Inv:Nat->World->Prop) (c:Nat) (hn:n<=9223372036854775807)
  (hF : ∀ args w,(callFunc F args).run Tryz.prog w=.ok (.enter F args) w)
  (hc : ∀ k w,k<n->Inv k w->Calls Tryz.prog F (#[.int .i64 k]++cap) w fun e w'=>e=.returned (.int .i64 (f k))/\(f k=0->Inv (k+1) w')/\Apart (One c) w w') (w:World) (h0:Inv 0 w) :
  Calls Tryz.prog 100 #[.int .i64 n,.func (.func F) #[] cap] w fun e w'=>e=.returned (.int .i64 (firstE f 0 n))/\Apart (One c) w w':=by
 have HC:=hid hc
 have HI:=hid h0
 clear hc h0
 go_enter Tryz.func100,Tryz.ntmps100
 go_wp2_with fail
 go_loopg [8] n (fun gk i wr=> ∃ j:Nat,j+gk=n/\i=.int .i64 j/\Inv j wr/\firstE f 0 n=firstE f j (n-j)/\Apart (One c) w wr)
 case atStart=>exact ⟨0,by simp,rfl,HI.out,rfl,Apart.refl _ _⟩
 case round=>
  obtain ⟨j,hj,rfl,hi,he,ha⟩:=hrel
  have HEQ:=hid he
  have HA:=hid ha
  clear he ha HI
  by_cases hlt:j<n
  ·have HCALL:=hid (HC.out j wr hlt hi)
   have HST:=hid (firstE_step (f:=f) hlt)
   clear hi
   go_wp2_with fail
   refine HCALL.out.mono ?_
   rintro e w1 ⟨rfl,hi1,ha1⟩
   have HI1:=hid hi1
   have HA1:=hid (HA.out.trans ha1)
   clear hi1 ha1 HCALL
   by_cases hz:f j=0
   ·have HZ:=hid hz
    have hz1:(f j==0)=true:=by simp [hz]
    have hz2:(f j != 0)=false:=by simp [hz]
    clear hz
    go_wp2_with fail
    go_roundg (n-(j+1))
    case rel=>exact ⟨j+1,by omega,by go_num,HI1.out HZ.out,by rw [HEQ.out,HST.out,if_pos HZ.out],HA1.out⟩
    case measure=>omega
   ·have HZ:=hid hz
    have hz1:(f j==0)=false:=by simp [hz]
    have hz2:(f j != 0)=true:=by simp [hz]
    clear hz
    go_wp2_with fail
    go_ret
    exact ⟨ret_int (by rw [HEQ.out,HST.out,if_neg HZ.out]),HA1.out⟩
  ·go_wp2_with fail
   go_ret
   exact ⟨ret_int (by rw [HEQ.out,show n-j=0 by omega];rfl),HA.out⟩
set_option maxHeartbeats 2000000 in
set_option maxRecDepth 100000 in
theorem flag1_any (S:Nat->Prop) (fs:List ByteArray) (c k:Nat) (v:Value) (w:World) (hk:k<fs.length) (hv:VarAt c 101 v w) (hs:StrsIs S w fs v) :
  Calls Tryz.prog 189 #[.int .i64 k,.pointer (some ⟨c,0,none⟩)] w fun e w'=>e=.returned (.int .i64 (flE fs k))/\Keep w w':=by
 obtain ⟨b,off,cap,rfl,hb,hlen,hcell⟩:=hs.get hk
 obtain ⟨hc0,-,hcl⟩:=hv.facts
 have hck:=hcell k _ (List.getElem?_eq_getElem hk)
 have HFL:Hid (flE fs k=if nameB fs[k].data.toList=false then 1 else if 0<k/\leS fs[k] (fs.getD (k-1) ⟨#[]⟩)=true then 6 else 0):=by
  show _=_
  unfold flE
  rw [List.getD_eq_getElem?_getD,List.getElem?_eq_getElem hk,Option.getD_some]
 have hck1:0<k->∃ x:ByteArray,Hid (fs.getD (k-1) ⟨#[]⟩=x)/\w.cell? ⟨b,off+(k-1),none⟩=some (.string x):=fun h0=>
  ⟨fs[k-1],by show _=_;rw [List.getD_eq_getElem?_getD,List.getElem?_eq_getElem (by omega),Option.getD_some],hcell (k-1) _ (List.getElem?_eq_getElem (by omega))⟩
 clear hcell hs hv
 generalize fs[k]=x at hck HFL
 go_enter Tryz.func189,Tryz.ntmps189
 go_wp2_with fail
 refine (name_any x w).mono ?_
 rintro e w1 ⟨rfl,hw⟩
 subst hw
 cases hnm:nameB x.data.toList
 ·rw [hnm] at HFL
  go_wp2_with fail
  go_ret
  exact ⟨ret_int (by rw [HFL.out];rfl),Keep.refl _⟩
 ·rw [hnm] at HFL
  by_cases h0:0<k
  ·obtain ⟨y,HY,hcy⟩:=hck1 h0
   rw [HY.out] at HFL
   obtain ⟨m,rfl⟩ : ∃ m,k=m+1:=⟨k-1,by omega⟩
   have h0':(0:Int)<((m+1:Nat):Int):=by omega
   have hd:decide ((0:Int)<((m+1:Nat):Int))=true:=decide_eq_true h0'
   have hcy':w1.cell? ⟨b,off+m,none⟩=some (.string y):=hcy
   have e1:((m+1:Nat):Int)-1=(m:Int):=by omega
   have hm:m<fs.length:=by omega
   clear hck1 HY hcy
   go_wp2_with fail
   go_quiet (fail)
   cases hle:leS x y
   ·have HX:Hid (flE fs (m+1)=0):=by show _=_;rw [HFL.out,hle];simp
    have hle':(Op.bytesLess x.toList y.toList||x.toList==y.toList)=false:=hle
    rw [hle']
    clear hle hle' HFL
    go_wp2_with fail
    go_ret
    exact ⟨ret_int HX.out.symm,Keep.drewN (Keep.refl _) _⟩
   ·have HX:Hid (flE fs (m+1)=6):=by show _=_;rw [HFL.out,hle];simp
    have hle':(Op.bytesLess x.toList y.toList||x.toList==y.toList)=true:=hle
    rw [hle']
    clear hle hle' HFL
    go_wp2_with fail
    go_ret
    exact ⟨ret_int HX.out.symm,Keep.drewN (Keep.refl _) _⟩
  ·have hd:decide ((0:Int)<(k:Int))=false:=decide_eq_false (by omega)
   have HX:Hid (flE fs k=0):=by show _=_;rw [HFL.out];simp [h0]
   clear HFL hck1
   go_wp2_with fail
   go_quiet (fail)
   go_wp2_with fail
   go_ret
   exact ⟨ret_int HX.out.symm,Keep.drewN (Keep.refl _) _⟩
theorem enter_flag1 (args:Array Value) (w:World):(callFunc 189 args).run Tryz.prog w=.ok (.enter 189 args) w:=enters_of Tryz.func189 (by kernel_rfl) rfl args w
set_option maxHeartbeats 2000000 in
set_option maxRecDepth 100000 in
theorem flags_any (S:Nat->Prop) (fs:List ByteArray) (v:Value) (w:World) (hS : ∀ b,S b->b<w.heap.size) (hs:StrsIs S w fs v) :
  Calls Tryz.prog 168 #[v] w fun e w'=>e=.returned (.int .i64 (chkFs fs))/\Keep w w':=by
 have HS:=hid hs
 obtain ⟨p,cap,rfl,hlen⟩:=hs.len
 have hmf : ∀ (fn:Fn) (first cap:Array Value) (w:World),(Instr.makeFunc fn first cap).run Tryz.prog w=.ok (.func fn first cap) w:=fun _ _ _ _=>rfl
 have hent:=enter_flag1
 have k0:=hid (Keep.alloc w (.cells #[.slice p fs.length cap] 101))
 have v0:=hid (VarAt.new w 101 (.slice p fs.length cap))
 clear hs
 by_cases h2:2<fs.length
 ·have h2':(2:Int)<(fs.length:Int):=by omega
  have HX:Hid (chkFs fs=2):=by show _=_;unfold chkFs;rw [if_pos h2]
  go_enter Tryz.func168,Tryz.ntmps168
  go_wp2_with fail
  go_ret
  exact ⟨ret_int HX.out.symm,k0.out⟩
 ·have h2' : ¬ (2:Int)<(fs.length:Int):=by omega
  have HX:Hid (chkFs fs=firstE (flE fs) 0 fs.length):=by show _=_;unfold chkFs;rw [if_neg h2]
  have hcall : ∀ (k:Nat) (W':World),k<fs.length->Keep w W'/\VarAt w.heap.size 101 (.slice p fs.length cap) W'->Calls Tryz.prog 189 (#[.int .i64 k]++#[.pointer (some ⟨w.heap.size,0,none⟩)]) W' fun e w'=>e=.returned (.int .i64 (flE fs k))/\(flE fs k=0->Keep w w'/\VarAt w.heap.size 101 (.slice p fs.length cap) w')/\Apart (One w.heap.size) W' w':=by
   rintro k W' hk ⟨h1,h3⟩
   have c:=flag1_any S fs w.heap.size k _ W' hk h3 (HS.out.keep hS h1)
   refine Calls.mono c ?_
   rintro e w' ⟨rfl,h4⟩
   exact ⟨rfl,fun _=>⟨Below.trans h1 (h4.mono h1.size),h3.keep h4 h3.facts.2.2⟩,one_keep h4⟩
  have hone:=hid (fun W h=>oneByOne_any fs.length (flE fs) (fun _ W'=>Keep w W'/\VarAt w.heap.size 101 (.slice p fs.length cap) W') w.heap.size hlen enter_flag1 hcall W h)
  clear hcall
  clear h2
  go_enter Tryz.func168,Tryz.ntmps168
  go_wp2_with fail
  refine (hone.out _ ⟨k0.out,v0.out⟩).mono ?_
  rintro e w1 ⟨rfl,ha1⟩
  have K1:Hid (Keep w w1):=Below.trans k0.out (ha1.below k0.out.size fun b hb e=>by have:b=w.heap.size:=e;omega)
  clear ha1 hone k0 v0
  go_wp2_with fail
  go_ret
  exact ⟨ret_int HX.out.symm,K1.out⟩
end Go.Proofs.YthhhicgjiilgmaaGreatDoor
