/- Steps of the proof: ResMask, ResWithout, ResUnmasks, AtomOpen, NeedOpen, TreeOpen, ValidOpen, EncOpen. -/
import Derived.Test.YtonlloiemgdfkaaGreatDoorRu29
import Derived.Test.YtonlloiemgdfkaaGreatDoorRu17
import Derived.Test.YtonlloiemgdfkaaGreatDoorRu03
import Derived.Lib.LaidTab
import Derived.Stop.LaidErr
import Derived.OpenShut
import Derived.Lib.SmallJoins
import Derived.Deep.DeepWitnessRowRef
import Derived.LaidMore
import Derived.Stop.Joined
import Derived.ChangeOld
import Derived.Test.YtonlloiemgdfkaaGreatDoorRu21
import Derived.Shelf.Vars
import Derived.HandedShaped
import Derived.Test.YtonlloiemgdfkaaGreatDoorRu08
import Derived.Test.YtonlloiemgdfkaaGreatDoorRu10
import Derived.Test.YtonlloiemgdfkaaGreatDoorRu09
set_option maxHeartbeats 16000000
set_option maxRecDepth 100000
namespace Go.Proofs.YtonlloiemgdfkaaGreatDoor
open Go.RowKit
theorem aEe {ps:List PK} {wi:WI} {l l':List Int} (h : ∀ x∈l,x∈l') {ms:List MB} (hv:eK ps (mkW wi l') ms=true):eK ps (mkW wi l) ms=true:=by
 unfold eK at *
 rw [Bool.and_eq_true] at *
 refine ⟨hv.1,oD.2 fun k hk=> ?_⟩
 have h1:=oD.1 hv.2 k hk
 unfold aDe at *
 rw [Bool.and_eq_true,Bool.and_eq_true] at *
 refine ⟨⟨?_,h1.1.2⟩,h1.2⟩
 cases hc:(mkW wi l).ma.contains (ms.getD k MB.zero).pl with
 | false=>rfl
 | true=>
  have h2:(mkW wi l').ma.contains (ms.getD k MB.zero).pl=true:=by
   rw [List.contains_iff_mem] at *
   exact h _ hc
  rw [h2] at h1
  exact h1.1.1
theorem eV {ps:List PK} {wi:WI} {l l':List Int} (h : ∀ x∈l,x∈l') (hn:fS ps (mkW wi l)):fS ps (mkW wi l'):=fun d hd=>by
 cases hv:eK ps (mkW wi l') (bZ ps (mkW wi l') d) with
 | false=>rfl
 | true=>
  have h1:eK ps (mkW wi l) (bZ ps (mkW wi l) d)=true:=aEe h hv
  have:=hn d hd
  rw [h1] at this;cases this
theorem aJq {ps:List PK} {wi:WI} (h:bO ps wi=0) {l:List Int} (hl:l.Sublist wi.ma):bO ps (mkW wi l)=0:=by
 obtain ⟨-,h2,-,-,h5,-,h7,h8⟩:=dD h
 have hma:aV (maE ps l) 0 l.length=0:=by
  refine (cK _ 0).2 fun j hj=> ?_
  rw [Nat.zero_add]
  have hg:l.getD j 0=l[j]:=by rw [List.getD_eq_getElem?_getD,List.getElem?_eq_getElem hj];rfl
  have hb:=h5 l[j] (hl.subset (List.getElem_mem hj))
  unfold maE
  rw [hg,if_neg (by omega),if_neg]
  rintro ⟨h0,hle⟩
  have hg1:l.getD (j-1) 0=l[j-1]:=by rw [List.getD_eq_getElem?_getD,List.getElem?_eq_getElem (by omega)];rfl
  rw [hg1] at hle
  have:=List.pairwise_iff_getElem.1 (h7.sublist hl) (j-1) j (by omega) hj (by omega)
  omega
 have hta:taE wi.ts=0:=by
  unfold bO at h
  rw [if_neg (by simp [h2])] at h
  by_cases e:taE wi.ts=0
  ·exact e
  ·rw [if_pos e] at h;exact h
 unfold bO
 rw [if_neg (by show ¬ eM ps wi.ins≠0;simp [h2]),if_neg (by show ¬ taE wi.ts≠0;simp [hta]),if_neg (by show ¬ aV (maE ps l) 0 l.length≠0;simp [hma])]
 exact h8
theorem jK {ps:List PK} {wi:WI} (h:bO ps wi=0) {l:List Int} (hl:l.Sublist wi.ma):(fJ ps (mkW wi l) 40000=0/\¬ fS ps (mkW wi l))∨(fJ ps (mkW wi l) 40000=7/\fS ps (mkW wi l)):=by
 have h1:=aJq h hl
 rcases aPp h1 with ⟨c,hc⟩ | hn
 ·exact .inl ⟨qD h1 hc,fun hn=>hc.some hn⟩
 ·exact .inr ⟨qE h1 hn,hn⟩
theorem yN {ps:List PK} {wi:WI} (h:bO ps wi=0) (h0 : ¬ fS ps (mkW wi [])) : ∀ j,j<=wi.ma.length->((bY ps wi 40000 j).1.Sublist (wi.ma.take j)/\(bY ps wi 40000 j).2.Sublist (wi.ma.take j))/\(∀ x∈wi.ma.take j,x∈(bY ps wi 40000 j).1∨x∈(bY ps wi 40000 j).2)/\¬ fS ps (mkW wi (bY ps wi 40000 j).1)/\∀ x∈(bY ps wi 40000 j).2,fS ps (mkW wi ((bY ps wi 40000 j).1 ++ [x]))
 | 0,_=>by
  refine ⟨⟨by simp [bY],by simp [bY]⟩,by simp,?_,by simp [bY]⟩
  rw [bY];exact h0
 | j+1,hj=>by
  obtain ⟨⟨i1,i2⟩,i3,i4,i5⟩:=yN h h0 j (by omega)
  have hg:wi.ma.getD j 0=wi.ma[j]:=by rw [List.getD_eq_getElem?_getD,List.getElem?_eq_getElem (by omega)];rfl
  have ht:wi.ma.take (j+1)=wi.ma.take j ++ [wi.ma.getD j 0]:=by rw [List.take_succ_eq_append_getElem (by omega),hg]
  have hs:((bY ps wi 40000 j).1 ++ [wi.ma.getD j 0]).Sublist wi.ma:=(i1.append (List.Sublist.refl _)).trans (by rw [← ht];exact List.take_sublist _ _)
  rw [ht]
  rcases jK h hs with ⟨e,hn⟩ | ⟨e,hn⟩
  ·rw [uG e]
   refine ⟨⟨i1.append (List.Sublist.refl _),i2.trans (List.sublist_append_left _ _)⟩,fun x hx=> ?_,hn,fun x hx=> ?_⟩
   ·rcases List.mem_append.1 hx with hx | hx
    ·rcases i3 x hx with h1 | h1
     ·exact .inl (List.mem_append_left _ h1)
     ·exact .inr h1
    ·exact .inl (List.mem_append_right _ hx)
   ·refine eV (fun y hy=> ?_) (i5 x hx)
    rcases List.mem_append.1 hy with hy | hy
    ·exact List.mem_append_left _ (List.mem_append_left _ hy)
    ·exact List.mem_append_right _ hy
  ·rw [yM (by show lC ps wi 40000 j≠0;rw [show lC ps wi 40000 j=7 from e];decide)]
   refine ⟨⟨i1.trans (List.sublist_append_left _ _),i2.append (List.Sublist.refl _)⟩,fun x hx=> ?_,i4,fun x hx=> ?_⟩
   ·rcases List.mem_append.1 hx with hx | hx
    ·rcases i3 x hx with h1 | h1
     ·exact .inl h1
     ·exact .inr (List.mem_append_left _ h1)
    ·exact .inr (List.mem_append_right _ hx)
   ·rcases List.mem_append.1 hx with hx | hx
    ·exact i5 x hx
    ·rw [List.mem_singleton.1 hx];exact hn
def lH (wi:WI) (u:List Int) (but:Int):List Int:=wi.ma.filter fun k=> !(k != but&&u.contains k)
theorem aAl (wi:WI) (u:List Int) (but:Int):(lH wi u but).Sublist wi.ma:=List.filter_sublist
theorem aIn {ps:List PK} {wi:WI} (h:bO ps wi=0) (h0 : ¬ fS ps (mkW wi [])):((bY ps wi 40000 wi.ma.length).2 = []↔fJ ps wi 40000=0)/\fJ ps (mkW wi (lH wi (bY ps wi 40000 wi.ma.length).2 (-1))) 40000=0/\∀ k∈(bY ps wi 40000 wi.ma.length).2,k∈wi.ma/\fJ ps (mkW wi (lH wi (bY ps wi 40000 wi.ma.length).2 k)) 40000=7:=by
 obtain ⟨⟨i1,i2⟩,i3,i4,i5⟩:=yN h h0 wi.ma.length (Nat.le_refl _)
 rw [List.take_of_length_le (Nat.le_refl _)] at i1 i2 i3
 have hself:mkW wi wi.ma=wi:=rfl
 have hpos:=(dD h).2.2.2.2.1
 refine ⟨?_,?_,fun k hk=>⟨i2.subset hk,?_⟩⟩
 ·have hw:=jK h (List.Sublist.refl wi.ma)
  rw [hself] at hw
  constructor
  ·intro e
   rcases hw with ⟨e1,-⟩ | ⟨-,hn⟩
   ·exact e1
   ·exfalso
    refine i4 (eV (l:=wi.ma) (fun x hx=> ?_) hn)
    rcases i3 x hx with h1 | h1
    ·exact h1
    ·rw [e] at h1;cases h1
  ·intro e
   rcases hw with ⟨-,hn⟩ | ⟨e1,-⟩
   ·match hm:(bY ps wi 40000 wi.ma.length).2 with
    | []=>rfl
    | x :: r=>
     exfalso
     rw [hm] at i5 i2
     refine hn (eV (l':=wi.ma) (fun y hy=> ?_) (i5 x (by simp)))
     rcases List.mem_append.1 hy with hy | hy
     ·exact i1.subset hy
     ·rw [List.mem_singleton.1 hy];exact i2.subset (by simp)
   ·rw [e1] at e;cases e
 ·rcases jK h (aAl wi (bY ps wi 40000 wi.ma.length).2 (-1)) with ⟨e,-⟩ | ⟨-,hn⟩
  ·exact e
  ·exfalso
   refine i4 (eV (fun x hx=> ?_) hn)
   obtain ⟨h1,h2⟩:=List.mem_filter.1 hx
   rcases i3 x h1 with h3 | h3
   ·exact h3
   ·have:=hpos x h1
    have h4:(x != -1)=true:=by simp;omega
    have h5:(bY ps wi 40000 wi.ma.length).2.contains x=true:=List.contains_iff_mem.2 h3
    rw [h4,h5] at h2
    cases h2
 ·rcases jK h (aAl wi (bY ps wi 40000 wi.ma.length).2 k) with ⟨-,hn⟩ | ⟨e,-⟩
  ·exfalso
   refine hn (eV (fun y hy=> ?_) (i5 k hk))
   rcases List.mem_append.1 hy with hy | hy
   ·refine List.mem_filter.2 ⟨i1.subset hy,?_⟩
    cases hc:(bY ps wi 40000 wi.ma.length).2.contains y with
    | false=>simp
    | true=>
     exfalso
     have hn2:=i5 y (List.contains_iff_mem.1 hc)
     refine i4 (eV (fun z hz=> ?_) hn2)
     rcases List.mem_append.1 hz with hz | hz
     ·exact hz
     ·rw [List.mem_singleton.1 hz];exact hy
   ·rw [List.mem_singleton.1 hy]
    exact List.mem_filter.2 ⟨i2.subset hk,by simp⟩
  ·exact e
end Go.Proofs.YtonlloiemgdfkaaGreatDoor
namespace Go.Proofs.YtonlloiemgdfkaaGreatDoor
open Go.RowKit Go.Sort
theorem aGn (args:Array Value) (w:World):(callFunc 57 args).run Tryz.prog w=.ok (.enter 57 args) w:=enters_of Tryz.func57 (by kernel_rfl) rfl args w
theorem aEt (S:Nat->Prop) (u:List Int) (k but:Int) (bb ub:Nat) (uv:Value) (w:World) (hu:aH S w u uv) (hb:aE bb 3 (.int .i64 but) w) (hv:aE ub 27 uv w) :
  Calls Tryz.prog 57 #[.int .i64 k,.pointer (some ⟨bb,0,none⟩),.pointer (some ⟨ub,0,none⟩)] w fun e w'=>e=.returned (.bool (k != but&&u.contains k))/\∃ q,w'=w.drewN q:=by
 have HU:=hid hu
 obtain ⟨hb0,-,hbl⟩:=hb.facts
 obtain ⟨hv0,-,hvl⟩:=hv.facts
 go_enter Tryz.func57,Tryz.ntmps57
 by_cases h:k=but
 ·subst h
  have h1:(k==k)=true:=by simp
  have h2:(k != k)=false:=by simp
  go_wp2_with fail
  go_ret
  exact ⟨by simp,0,rfl⟩
 ·have h1:(k==but)=false:=by simpa using h
  have h2:(k != but)=true:=by simp [bne,h1]
  go_wp2_with fail
  refine (qS S u _ k w HU.out).mono ?_
  rintro e w' ⟨rfl,rfl⟩
  obtain ⟨γ,hγ⟩ : ∃ γ,γ=u.contains k:=⟨_,rfl⟩
  have HG:=hid hγ
  rw [← hγ]
  clear hγ
  go_wp2_with fail
  go_ret
  exact ⟨by rw [h2,Bool.true_and,← HG.out];rfl,0,rfl⟩
theorem lO (w:World) (blk n:Nat) (dk:Array Int) (os:Array Obj) {b:Nat} (hb:b<w.heap.size) (hn:b≠blk):(sortWorld (Value.int .i64) w blk 0 n dk os).heap[b]? = w.heap[b]? :=by
 unfold sortWorld
 rw [Sort.heap_grow_old _ os (by simp [putRow,mapBlock,Sort.ahead];exact hb)]
 simp [putRow,mapBlock,Sort.ahead,Array.getElem?_modify,Ne.symm hn]
theorem wL {b:Nat} {T:TypeId} {v:Value} {w w':World} (h:aE b T v w) (e:w'.heap[b]? = w.heap[b]?):aE b T v w':=by unfold aE at *;rw [e];exact h
theorem aCl (S:Nat->Prop) (u zs:List Int) (but:Int) (bb ub B:Nat) (uv v:Value) (w:World) (hS : ∀ b,S b->b<B) (hu:aH S w u uv) (hb:aE bb 3 (.int .i64 but) w) (hv:aE ub 27 uv w) (hbB:bb<B/\ub<B) (hown:aQ B v zs w) (hz:zs.length<=100) :
  Calls Tryz.prog 56 #[v,.func (.func 57) #[] #[.pointer (some ⟨bb,0,none⟩),.pointer (some ⟨ub,0,none⟩)]] w fun e w'=> ∃ v',e=.returned v'/\aH (fun c=>B<=c/\c<w'.heap.size) w' (zs.filter fun k=> !(k != but&&u.contains k)) v'/\Below B w w':=by
 obtain ⟨hl,⟨rfl,hn⟩ | ⟨g,cap,cur,rfl,hg1,hg2,hnc,hcm,hcs,hct⟩⟩:=hown
 ·have hz0:zs = []:=List.length_eq_zero_iff.1 hn
  subst hz0
  go_enter Tryz.func56,Tryz.ntmps56
  go_wp2_with fail
  have hix:Calls Tryz.prog 94 #[.slice none 0 0,.func (.func 57) #[] #[.pointer (some ⟨bb,0,none⟩),.pointer (some ⟨ub,0,none⟩)]] w fun e w'=>e=.returned (.int .i64 (-1))/\w'=w:=by
   go_enter Tryz.func94,Tryz.ntmps94
   go_wp2_with fail
   go_loopg [8] 0 (fun _ i wr=>i=.int .i64 0/\wr=w)
   case atStart=>exact ⟨rfl,rfl⟩
   case round=>
   obtain ⟨rfl,rfl⟩:=hrel
   go_wp2_with fail
   go_ret
   exact ⟨rfl,rfl⟩
  refine hix.mono ?_
  rintro e w' ⟨rfl,rfl⟩
  go_wp2_with fail
  go_ret
  exact ⟨_,rfl,eN _ _,Below.refl _ _⟩
 ·have hgl:g<w.heap.size:=(Array.getElem?_eq_some_iff.1 hg2).1
  have hH:Holds (Value.int .i64) w g 0 zs.toArray:=by
   intro j hj
   have hj':j<zs.length:=by simpa using hj
   have h1:cur[j]? = some (.int .i64 zs[j]):=by
    have h2:(cur.toList.take (zs.length*1))[j]? = some (.int .i64 zs[j]):=by rw [hct,List.getElem?_map,List.getElem?_eq_getElem hj'];rfl
    rw [List.getElem?_take,if_pos (by omega)] at h2
    simpa using h2
   refine ⟨?_,by simp [World.frozen?,hg2]⟩
   rw [Nat.zero_add]
   simp [World.cell?,hg2,h1,hj']
  have hsz:zs.toArray.size=zs.length:=by simp
  have:=Tryz.slices_DeleteFunc (Value.int .i64) (fun _=>rfl) (fun k=>k != but&&u.contains k) 57 #[.pointer (some ⟨bb,0,none⟩),.pointer (some ⟨ub,0,none⟩)] aGn 0 Tryz.zeroValue3 g 0 cap zs.toArray w
   (fun W x hb'=>aEt S u x but bb ub uv W (hu.keep (fun c hc=>Nat.lt_of_lt_of_le (hS c hc) (by omega)) hb') (hb.keep hb' hb.facts.2.2) (hv.keep hb' hv.facts.2.2))
   (fun k os dk x _=>aEt S u x but bb ub uv _ (hu.mono (fun p hp=>World.cell?_of_block (lO w g k dk os (by have:=hS _ hp;omega) (by have:=hS _ hp;omega))) fun _ h=>h) (wL hb (lO w g k dk os hb.facts.2.2 (by omega))) (wL hv (lO w g k dk os hv.facts.2.2 (by omega)))) hH (by omega) (by omega)
  rw [hsz] at this
  refine this.mono ?_
  rintro e w' ⟨rfl,q,rfl⟩
  simp only
  obtain ⟨F,hF⟩ : ∃ F,F=zs.filter fun x=> !(x != but&&u.contains x):=⟨_,rfl⟩
  rw [← hF]
  have hkl:F.length<=zs.length:=by rw [hF];exact List.length_filter_le _ _
  have hT:=Cn.rA w q g (F++List.replicate (zs.length-F.length) 0).toArray
  refine ⟨_,rfl,⟨_,cap,rfl,by omega,fun _=>⟨g,0,rfl,⟨hg1,Nat.lt_of_lt_of_le hgl hT.size⟩,fun j x hx=> ?_⟩⟩,hT.below (by omega) fun c hc e=>by have e:c=g:=e;omega⟩
  have hsz2:(F++List.replicate (zs.length-F.length) 0).toArray.size=zs.toArray.size:=by simp;omega
  have hH2:=holds_putRow (Value.int .i64) (Sort.ahead w q) g 0 zs.toArray (F++List.replicate (zs.length-F.length) 0).toArray hH hsz2
  have hj:j<F.length:=(List.getElem?_eq_some_iff.1 hx).1
  have:=(hH2 j (by rw [hsz2,hsz];omega)).1
  have hx2:F[j]=x:=by
   have:=List.getElem?_eq_getElem hj
   rw [hx] at this
   exact (Option.some.inj this).symm
  have e2:((F++List.replicate (zs.length-F.length) 0).toArray)[j]! = x:=by
   rw [getElem!_pos _ j (by rw [hsz2,hsz];omega)]
   simp [hj,hx2]
  rw [e2] at this
  exact this
theorem zF {w:World} {b o:Nat} {x:Value} {p:Addr} (h:p.block≠b):(w.setCell ⟨b,o,none⟩ x).cell? p=w.cell? p:=World.cell?_of_block (hD w b o x p.block h)
theorem aBv (S:Nat->Prop) (ps:List PK) (wi:WI) (u:List Int) (but:Int) (b ub:Nat) (pv tsv inv mav onv uv:Value) (w:World) (hS : ∀ b,S b->b<w.heap.size) (hp:bC S w ps pv) (hw:dY S w wi tsv inv mav onv) (hu:aH (fun c=>c<w.heap.size) w u uv) (hcap:iV pv) (hz:bO ps wi=0) (ht:aE b 24 pv w) (hb:aD (b+1) 30 #[tsv,inv,mav,onv] w) (hv:aE ub 27 uv w) :
  Calls Tryz.prog 55 #[.int .i64 but,.pointer (some ⟨b+1,0,none⟩),.pointer (some ⟨ub,0,none⟩),.pointer (some ⟨b,0,none⟩)] w fun e w'=>e=.returned (.int .i64 (fJ ps (mkW wi (lH wi u but)) 40000))/\aA w w':=by
 have hma8:=(dD hz).2.2.2.2.2.1
 obtain ⟨tp,tc,rfl,-⟩:=hw.ts.len
 obtain ⟨ip,ic,rfl,-⟩:=hw.ins.len
 obtain ⟨op,oc,rfl,-⟩:=hw.on.len
 have HP:=hid hp
 have HW:=hid hw
 have HU:=hid hu
 have HT:=hid ht
 have HB:=hid hb
 have HV:=hid hv
 obtain ⟨mp,mc,rfl,-⟩:=hw.ma.len
 have hw0:w.cell? ⟨b+1,0,none⟩=some (.slice tp wi.ts.length tc):=HB.out.facts.1 0
 have hw1:w.cell? ⟨b+1,1,none⟩=some (.slice ip wi.ins.length ic):=HB.out.facts.1 1
 have hw2:w.cell? ⟨b+1,2,none⟩=some (.slice mp wi.ma.length mc):=HB.out.facts.1 2
 have hw3:w.cell? ⟨b+1,3,none⟩=some (.slice op wi.on.length oc):=HB.out.facts.1 3
 have hwl:=HB.out.facts.2.2
 have hbl:b<w.heap.size:=HT.out.facts.2.2
 have hul:ub<w.heap.size:=HV.out.facts.2.2
 clear hp hw hu ht hb hv hz
 go_enter Tryz.func55,Tryz.ntmps55
 go_upto_region 2 with fail
 refine bR (fun W'=>aA w W'/\aE w.heap.size 3 (.int .i64 but) W'/\aD (w.heap.size+1) 30 #[.slice tp wi.ts.length tc,.slice ip wi.ins.length ic,.slice mp wi.ma.length mc,.slice op wi.on.length oc] W') ⟨(aA.alloc _ _).alloc' _,(aE.new _ _ _).keep (aA.alloc _ _) (by simp),?_⟩ ?_
 ·have:=aD.new (w.alloc (.cells #[.int .i64 but] 3)) 30 #[.slice tp wi.ts.length tc,.slice ip wi.ins.length ic,.slice mp wi.ma.length mc,.slice op wi.on.length oc]
  rw [aC] at this;exact this
 rintro W1 ⟨k1,v1,b1⟩
 have K1:=hid k1
 have V1:=hid v1
 have B1:=hid b1
 have h1l:w.heap.size+1<W1.heap.size:=b1.facts.2.2
 have hw2':=(k1.cell (p:=⟨b+1,2,none⟩) hwl).trans hw2
 have hwl1:b+1<W1.heap.size:=Nat.lt_of_lt_of_le hwl k1.size
 clear k1 v1 b1 hw0 hw1 hw2 hw3
 obtain ⟨bb,hbb⟩ : ∃ bb,bb=w.heap.size:=⟨_,rfl⟩
 have hbw:w.heap.size<=bb:=by omega
 rw [← hbb] at V1 B1 h1l ⊢
 clear hbb
 go_wp2_with fail
 refine (Cn.iE S wi.ma mp mc W1 (fun c hc=>Nat.lt_of_lt_of_le (hS c hc) K1.out.size) (HW.out.keep hS K1.out).ma (by omega)).mono ?_
 rintro e W4 ⟨v4,rfl,hown4,k4⟩
 have k4:aA W1 W4:=k4
 have hown4:aQ W1.heap.size v4 wi.ma W4:=hown4
 have HO4:=hid hown4
 have K4:=hid k4
 clear k4 hown4
 go_wp2_with fail
 have k14:=K1.out.trans K4.out
 refine (aCl (fun c=>c<w.heap.size) u wi.ma but bb ub W1.heap.size uv v4 W4 (fun c hc=>Nat.lt_of_lt_of_le hc K1.out.size) (HU.out.keep (fun _ h=>h) k14) (V1.out.keep K4.out V1.out.facts.2.2) (HV.out.keep k14 hul) ⟨by omega,Nat.lt_of_lt_of_le hul K1.out.size⟩ HO4.out (by omega)).mono ?_
 rintro e w5 ⟨v5,rfl,hn5,k5⟩
 have K15:=hid (show aA W1 w5 from Below.trans K4.out k5)
 have hn5:aH (fun c=>W1.heap.size<=c/\c<w5.heap.size) w5 (lH wi u but) v5:=hn5
 obtain ⟨np,nc,rfl,-⟩:=hn5.len
 generalize (lH wi u but).length=nl at hn5 ⊢
 have N5:=hid hn5
 have B5:=hid (B1.out.keep K15.out B1.out.facts.2.2)
 have hx2:w5.cell? ⟨bb+1,2,none⟩=some (.slice mp wi.ma.length mc):=B5.out.facts.1 2
 have hf2:=B5.out.facts.2.1 2
 have hxl:=B5.out.facts.2.2
 have hs15:=K15.out.size
 clear k5 hn5 k14 HO4 K4 B1 V1
 have HQ:=hid (show aA w (w5.setCell ⟨bb+1,2,none⟩ (.slice np nl nc))/\aE b 24 pv (w5.setCell ⟨bb+1,2,none⟩ (.slice np nl nc))/\aD (bb+1) 30 #[.slice tp wi.ts.length tc,.slice ip wi.ins.length ic,.slice np nl nc,.slice op wi.on.length oc] (w5.setCell ⟨bb+1,2,none⟩ (.slice np nl nc))/\aH (fun c=>c<(w5.setCell ⟨bb+1,2,none⟩ (.slice np nl nc)).heap.size) (w5.setCell ⟨bb+1,2,none⟩ (.slice np nl nc)) (lH wi u but) (.slice np nl nc) from by
  have hbs:=aL w5 (bb+1) 2 (.slice np nl nc)
  have hbx:=B5.out.set 2 (.slice np nl nc)
  simp only [List.setIfInBounds_toArray,List.set_cons_zero,List.set_cons_succ] at hbx
  refine ⟨Below.trans (K1.out.trans K15.out) (hbs.mono (by omega)),(HT.out.keep (K1.out.trans K15.out) hbl).keep hbs (by omega),hbx,N5.out.mono (fun p hp=>zF ?_) fun c hc=> ?_⟩
  ·have h1:W1.heap.size<=p.block:=hp.1
   omega
  ·rw [cD];exact hc.2)
 go_upto_region 3 with fail
 refine bR (fun W'=>aA w W'/\aE b 24 pv W'/\aD (bb+1) 30 #[.slice tp wi.ts.length tc,.slice ip wi.ins.length ic,.slice np nl nc,.slice op wi.on.length oc] W'/\aH (fun c=>c<W'.heap.size) W' (lH wi u but) (.slice np nl nc))
  ⟨HQ.out.1,HQ.out.2.1,HQ.out.2.2.1,HQ.out.2.2.2⟩ ?_
 rintro W6 ⟨k6,v6,b6,n6⟩
 have K6:=hid k6
 have N6:=hid n6
 clear hx2 hf2 hxl k6 n6 N5 B5
 have ht0:=v6.facts.1
 have htl:=v6.facts.2.2
 have hw0:W6.cell? ⟨bb+1,0,none⟩=some (.slice tp wi.ts.length tc):=b6.facts.1 0
 have hw1:W6.cell? ⟨bb+1,1,none⟩=some (.slice ip wi.ins.length ic):=b6.facts.1 1
 have hw2:=b6.facts.1 2
 have hw3:W6.cell? ⟨bb+1,3,none⟩=some (.slice op wi.on.length oc):=b6.facts.1 3
 have hwl6:=b6.facts.2.2
 clear v6 b6
 have HW6:=hid ((HW.out.keep hS K6.out).mono (S':=fun c=>c<W6.heap.size) fun c hc=>Nat.lt_of_lt_of_le (hS c hc) K6.out.size)
 go_wp2_with fail
 refine (fG (fun c=>c<W6.heap.size) ps (mkW wi (lH wi u but)) 40000 _ _ _ _ _ W6 (fun _ h=>h) ((HP.out.keep hS K6.out).mono (fun _ _=>rfl) fun c hc=>Nat.lt_of_lt_of_le (hS c hc) K6.out.size) ⟨HW6.out.ts,HW6.out.ins,N6.out,HW6.out.on⟩ hcap).mono ?_
 rintro e W7 h7
 obtain ⟨k7,v7,p7,rfl⟩:=h7.err
 have K7:=hid (K6.out.trans k7)
 clear h7 k7
 go_wp2_with fail
 go_ret
 exact ⟨rfl,K7.out⟩
end Go.Proofs.YtonlloiemgdfkaaGreatDoor
namespace Go.Proofs.YtonlloiemgdfkaaGreatDoor
open Go.RowKit
theorem aIm {ps:List PK} {wi:WI} {w w':World} {e:Ending} (h:aEl ps wi 40000 w e w'):aA w w'/\∃ (v:Value) (er:Int) (u:List Int),e=.returned (.tuple #[v,.int .i64 er])/\aH (fun c=>c<w'.heap.size) w' u v/\((er≠0/\er=fJ ps wi 40000)∨(er=0/\bO ps wi=0/\(u = []↔fJ ps wi 40000=0)/\fJ ps (mkW wi (lH wi u (-1))) 40000=0/\∀ k∈u,k∈wi.ma/\fJ ps (mkW wi (lH wi u k)) 40000=7)):=by
 obtain ⟨k,h⟩:=h
 refine ⟨k,?_⟩
 rcases h with ⟨h1,rfl⟩ | ⟨h1,h2,rfl⟩ | ⟨h1,h2,j,hj,h3,h4,rfl⟩ | ⟨h1,h2,h3,v,rfl,-,h5⟩
 ·exact ⟨_,_,[],rfl,eN _ _,.inl ⟨h1,by unfold fJ;rw [if_pos h1]⟩⟩
 ·have hs:=jK h1 (List.nil_sublist wi.ma)
  rcases hs with ⟨e,-⟩ | ⟨e,hn⟩
  ·exact absurd e h2
  ·refine ⟨_,_,[],rfl,eN _ _,.inl ⟨h2,?_⟩⟩
   rw [e]
   exact (qE h1 (eV (l:= []) (l':=wi.ma) (fun x hx=>by cases hx) hn)).symm
 ·exfalso
  have h0 : ¬ fS ps (mkW wi []):=by
   rcases jK h1 (List.nil_sublist wi.ma) with ⟨-,hn⟩ | ⟨e,-⟩
   ·exact hn
   ·rw [e] at h2;cases h2
  obtain ⟨⟨i1,-⟩,-,-,-⟩:=yN h1 h0 j (by omega)
  have hg:wi.ma.getD j 0=wi.ma[j]:=by rw [List.getD_eq_getElem?_getD,List.getElem?_eq_getElem hj];rfl
  have hs:((bY ps wi 40000 j).1 ++ [wi.ma.getD j 0]).Sublist wi.ma:=(i1.append (List.Sublist.refl _)).trans (by rw [hg,← List.take_succ_eq_append_getElem hj];exact List.take_sublist _ _)
  rcases jK h1 hs with ⟨e,-⟩ | ⟨e,-⟩
  ·exact h3 e
  ·exact h4 e
 ·have h0 : ¬ fS ps (mkW wi []):=by
   rcases jK h1 (List.nil_sublist wi.ma) with ⟨-,hn⟩ | ⟨e,-⟩
   ·exact hn
   ·rw [e] at h2;cases h2
  obtain ⟨g1,g2,g3⟩:=aIn h1 h0
  exact ⟨v,0,_,rfl,h5.mono (fun _ _=>rfl) fun c hc=>hc.2,.inr ⟨rfl,h1,g1,g2,g3⟩⟩
theorem rL (S:Nat->Prop) (ps:List PK) (wi:WI) (pv tsv inv mav onv:Value) (w:World) (hS : ∀ b,S b->b<w.heap.size) (hp:bC S w ps pv) (hw:dY S w wi tsv inv mav onv) (hcap:iV pv) (hE:Env w) (hM:jU w) :
  Calls Tryz.prog 12 #[.agg #[pv],.agg #[tsv,inv,mav,onv]] w fun e w'=>e=.returned (.bool true)/\aA w w':=by
 have HP:=hid hp
 have HW:=hid hw
 have HE:=hid hE
 have HMX:=hid hM
 clear hp hw hE hM
 go_enter Tryz.func12,Tryz.ntmps12
 go_upto_region 1 with fail
 refine bR (fun W'=>aA w W'/\aE w.heap.size 24 pv W'/\aD (w.heap.size+1) 30 #[tsv,inv,mav,onv] W') ⟨(aA.alloc _ _).alloc' _,(aE.new _ _ _).keep (aA.alloc _ _) (by simp),aJo (aC _ _) _ _⟩ ?_
 rintro W1 ⟨k1,v1,b1⟩
 have K1:=hid k1
 have V1:=hid v1
 have B1:=hid b1
 generalize w.heap.size=b at V1 B1 ⊢
 clear k1 v1 b1
 have ht0:=V1.out.facts.1
 have htl:=V1.out.facts.2.2
 have hw0:W1.cell? ⟨b+1,0,none⟩=some tsv:=B1.out.facts.1 0
 have hw1:W1.cell? ⟨b+1,1,none⟩=some inv:=B1.out.facts.1 1
 have hw2:W1.cell? ⟨b+1,2,none⟩=some mav:=B1.out.facts.1 2
 have hw3:W1.cell? ⟨b+1,3,none⟩=some onv:=B1.out.facts.1 3
 have hwl:=B1.out.facts.2.2
 go_wp2_with fail
 refine (uH S ps wi 40000 _ _ _ _ _ W1 (fun c hc=>Nat.lt_of_lt_of_le (hS c hc) K1.out.size) (HP.out.keep hS K1.out) (HW.out.keep hS K1.out) hcap).mono ?_
 rintro e W2 h2
 obtain ⟨k2,uv,er,u,rfl,hu,hcs⟩:=aIm h2
 obtain ⟨up,uc,rfl,hul⟩:=hu.len
 have HCS:=hid hcs
 have HU:=hid hu
 have K2:=hid (K1.out.trans k2)
 have V2:=hid (V1.out.keep k2 V1.out.facts.2.2)
 have B2:=hid (B1.out.keep k2 B1.out.facts.2.2)
 clear ht0 htl hw0 hw1 hw2 hw3 hwl V1 B1 k2 h2 hu hcs
 go_upto_region 2 with fail
 refine bR (fun W'=>aA W2 W'/\aE W2.heap.size 27 (.slice up u.length uc) W') ⟨aA.alloc _ _,aE.new _ _ _⟩ ?_
 rintro W3 ⟨k3,v3⟩
 have U3:=hid v3
 have K3:=hid (K2.out.trans k3)
 have HU3:=hid (HU.out.mono (S':=fun c=>c<W3.heap.size) (fun p hp=>k3.cell (p:=p) hp) fun c hc=>Nat.lt_of_lt_of_le hc k3.size)
 have V3:=hid (V2.out.keep k3 V2.out.facts.2.2)
 have B3:=hid (B2.out.keep k3 B2.out.facts.2.2)
 generalize W2.heap.size=ub at U3 ⊢
 clear k3 v3 V2 B2 HU
 have ht0:=V3.out.facts.1
 have htl:=V3.out.facts.2.2
 have hw0:W3.cell? ⟨b+1,0,none⟩=some tsv:=B3.out.facts.1 0
 have hw1:W3.cell? ⟨b+1,1,none⟩=some inv:=B3.out.facts.1 1
 have hw2:W3.cell? ⟨b+1,2,none⟩=some mav:=B3.out.facts.1 2
 have hw3:W3.cell? ⟨b+1,3,none⟩=some onv:=B3.out.facts.1 3
 have hwl:=B3.out.facts.2.2
 go_wp2_with fail
 refine (fG S ps wi 40000 _ _ _ _ _ W3 (fun c hc=>Nat.lt_of_lt_of_le (hS c hc) K3.out.size) (HP.out.keep hS K3.out) (HW.out.keep hS K3.out) hcap).mono ?_
 rintro e W4 h4
 obtain ⟨k4,lv4,pv4,rfl⟩:=h4.err
 have K4:=hid (K3.out.trans k4)
 have HK34:=hid k4
 have U4:=hid (U3.out.keep k4 U3.out.facts.2.2)
 have V4:=hid (V3.out.keep k4 V3.out.facts.2.2)
 have B4:=hid (B3.out.keep k4 B3.out.facts.2.2)
 clear ht0 htl hw0 hw1 hw2 hw3 hwl V3 B3 U3 k4 h4
 obtain ⟨fr,hfr⟩ : ∃ fr,fr=fJ ps wi 40000:=⟨_,rfl⟩
 rw [← hfr] at HCS
 rw [← hfr]
 clear hfr
 go_wp2_with fail
 refine (pE W4 (HE.out.keep K4.out) (HMX.out.keep K4.out)).mono ?_
 rintro e W5 ⟨rfl,k5⟩
 have K5:=hid (K4.out.trans k5)
 have HK35:=hid (HK34.out.trans k5)
 have U5:=hid (U4.out.keep k5 U4.out.facts.2.2)
 have V5:=hid (V4.out.keep k5 V4.out.facts.2.2)
 have B5:=hid (B4.out.keep k5 B4.out.facts.2.2)
 clear k5 U4 V4 B4 HK34
 rcases HCS.out with ⟨hne,rfl⟩ | ⟨rfl,hz,hiff,hl1,hall⟩
 ·have ha1:(er==0)=false:=by simpa using hne
  have ha2:(er != 0)=true:=by simp [bne,ha1]
  have ha3:(er==er)=true:=by simp
  clear hne HCS
  go_wp2_with fail
  refine (pE W5 (HE.out.keep K5.out) (HMX.out.keep K5.out)).mono ?_
  rintro e W6 ⟨rfl,k6⟩
  have K6:=hid (K5.out.trans k6)
  clear k6
  go_wp2_with fail
  go_ret
  exact ⟨rfl,K6.out⟩
 ·have HZ:=hid hz
  have HL1:=hid hl1
  have HALL:=hid hall
  have hmf : ∀ (fn:Fn) (first cap:Array Value) (w:World),(Instr.makeFunc fn first cap).run Tryz.prog w=.ok (.func fn first cap) w:=fun _ _ _ _=>rfl
  have hu0:=U5.out.facts.1
  have hu1:=U5.out.facts.2.2
  have HIF:=hid hiff
  clear hz hl1 hall HCS hiff
  go_upto_region 5 with fail
  go_cut [51] from 46 to 51 (fun t51 wc=>t51=.bool false/\wc=W5)
  case first=>
   by_cases hn:u = []
   ·obtain rfl:fr=0:=HIF.out.1 hn
    subst hn
    go_wp2_with fail
    go_meet
    exact ⟨rfl,rfl⟩
   ·have hf:fr≠0:=fun e=>hn (HIF.out.2 e)
    have ha1:(fr==0)=false:=by simpa using hf
    have hl:u.length≠0:=fun e=>hn (List.length_eq_zero_iff.1 e)
    have hlI : ¬ ((u.length:Int)=0):=by omega
    have hlb:((u.length:Int)==0)=false:=by simpa using hlI
    clear hf hn
    go_wp2_with fail
    go_meet
    exact ⟨rfl,rfl⟩
  case rest=>
  obtain ⟨rfl,rfl⟩:=hcut
  obtain ⟨W5,rfl⟩ : ∃ W5:World,W5=wc:=⟨_,rfl⟩
  have HWO:=hid (show ∀ W,aA W3 W->aE b 24 pv W->aD (b+1) 30 #[tsv,inv,mav,onv] W->aE ub 27 (.slice up u.length uc) W->∀ but,Calls Tryz.prog 55 #[.int .i64 but,.pointer (some ⟨b+1,0,none⟩),.pointer (some ⟨ub,0,none⟩),.pointer (some ⟨b,0,none⟩)] W fun e w'=>e=.returned (.int .i64 (fJ ps (mkW wi (lH wi u but)) 40000))/\aA W w' from fun W kW hv hb hu but=>by
   have kk:=K3.out.trans kW
   exact aBv S ps wi u but b ub pv tsv inv mav onv _ W (fun c hc=>Nat.lt_of_lt_of_le (hS c hc) kk.size) (HP.out.keep hS kk) (HW.out.keep hS kk) (HU3.out.mono (fun p hp=>kW.cell (p:=p) hp) fun c hc=>Nat.lt_of_lt_of_le hc kW.size) hcap HZ.out hv hb hu)
  have hW0:=HWO.out W5 HK35.out V5.out B5.out U5.out (-1)
  rw [HL1.out] at hW0
  have HW0:=hid hW0
  clear hW0
  go_wp2_with fail
  refine HW0.out.mono ?_
  rintro e W6 ⟨rfl,k6⟩
  have HK36:=hid (HK35.out.trans k6)
  have U6:=hid (U5.out.keep k6 U5.out.facts.2.2)
  have V6:=hid (V5.out.keep k6 V5.out.facts.2.2)
  have B6:=hid (B5.out.keep k6 B5.out.facts.2.2)
  clear k6 hu0 hu1 U5 V5 B5 HW0
  have hu0:=U6.out.facts.1
  have hu1:=U6.out.facts.2.2
  go_wp2_with fail
  clear hu0 hu1
  go_loopg [58] u.length (fun gk i wr=> ∃ j:Nat,j+gk=u.length/\i=.int .i64 j/\aA W6 wr)
  case atStart=>exact ⟨0,by omega,rfl,aA.refl _⟩
  case round=>
  obtain ⟨j,hj,rfl,hk⟩:=hrel
  have HKR:=hid hk
  have HKW:=hid ((K3.out.trans HK36.out).trans hk)
  have HK3R:=hid (HK36.out.trans hk)
  have UR:=hid (U6.out.keep hk U6.out.facts.2.2)
  have VR:=hid (V6.out.keep hk V6.out.facts.2.2)
  have BR:=hid (B6.out.keep hk B6.out.facts.2.2)
  clear hk
  by_cases hlt:j<u.length
  ·have hjI:(j:Int)<(u.length:Int):=by omega
   obtain ⟨gb,go,hgp,hgs,hgc⟩:=HU3.out.get (by omega)
   subst hgp
   have hcx:=(HK3R.out.cell (p:=⟨gb,go+j,none⟩) hgs).trans (hgc j hlt)
   have hgl:gb<wr.heap.size:=Nat.lt_of_lt_of_le hgs HK3R.out.size
   have hin:u.getD j 0∈u:=by rw [List.getD_eq_getElem?_getD,List.getElem?_eq_getElem hlt];exact List.getElem_mem hlt
   obtain ⟨hk1,hk2⟩:=HALL.out _ hin
   have hkc:wi.ma.contains (u.getD j 0)=true:=List.contains_iff_mem.2 hk1
   have hW1:=HWO.out wr HK3R.out VR.out BR.out UR.out (u.getD j 0)
   rw [hk2] at hW1
   generalize u.getD j 0=k at hcx hkc hW1
   have HW1:=hid hW1
   have HKC:=hid hkc
   have hb2:wr.cell? ⟨b+1,2,none⟩=some mav:=BR.out.facts.1 2
   have hbl:=BR.out.facts.2.2
   clear hgc hin hk1 hk2 hW1 hkc
   go_wp2_with fail
   refine (qS S wi.ma mav k wr (HW.out.keep hS HKW.out).ma).mono ?_
   rintro e w7 ⟨rfl,rfl⟩
   rw [HKC.out]
   go_wp2_with fail
   refine HW1.out.mono ?_
   rintro e W8 ⟨rfl,k8⟩
   have HK8:=hid (HKR.out.trans k8)
   clear k8 hcx hgl hb2 hbl
   go_wp2_with fail
   go_roundg (u.length-(j+1))
   case rel=>exact ⟨j+1,by omega,by go_num,HK8.out⟩
   case measure=>omega
  ·have hnl : ¬ ((j:Int)<(u.length:Int)):=by omega
   go_wp2_with fail
   go_ret
   exact ⟨rfl,HKW.out⟩
end Go.Proofs.YtonlloiemgdfkaaGreatDoor
namespace Go.Proofs.YtonlloiemgdfkaaGreatDoor
open Go.RowKit
theorem oB {P:Program} {w:World} : ∀ {l:List (String × DataW Unit)} {ps:List MemPlace} {x:String × DataW Unit},DataW.LaidVars P w l ps->x∈l->∃ qs,DataW.LaidVars P w [x] qs/\qs.Sublist ps
 | [],_,_,_,hx=>by cases hx
 | (n,d) :: r,ps,x,h,hx=>by
  obtain ⟨g,t,cs,fuel,p,q,h1,h2,h3,h4,h5,rfl⟩:=h
  rcases List.mem_cons.1 hx with rfl | hx
  ·exact ⟨MemPlace.row ⟨g,0,none⟩ cs.size++p ++ [],⟨g,t,cs,fuel,p,[],h1,h2,h3,h4,rfl,rfl⟩,by rw [List.append_nil];exact List.sublist_append_left _ _⟩
  ·obtain ⟨qs,h6,h7⟩:=oB h5 hx
   exact ⟨qs,h6,h7.trans (List.sublist_append_right _ _)⟩
theorem jG {P:Program} {w:World} {l:List (String × DataW Unit)} {x:String × DataW Unit} (h:laidMet P l w) (hx:x∈l):laidMet P [x] w:=by
 obtain ⟨ps,h1,h2,h3⟩:=h
 obtain ⟨qs,h4,h5⟩:=oB h1 hx
 exact ⟨qs,h4,h5.nodup h2,fun b off hb=>h3 b off (h5.subset hb)⟩
theorem oH {w:World} {b o:Nat} {v:Value} (h:w.cell? ⟨b,o,none⟩=some v):b<w.heap.size:=by
 rcases Nat.lt_or_ge b w.heap.size with h' | h'
 ·exact h'
 ·simp [World.cell?,Array.getElem?_eq_none h'] at h
theorem aKa : Tryz.prog.globalNamed "quartermaster/atom.signs" = some 8 := by kernel_rfl
theorem aPq:(Tryz.prog.globals[8]?).map (·.type)=some 351:=by kernel_rfl
theorem aRa:(Tryz.prog.globals[1]?).map (·.type)=some 307:=by kernel_rfl
theorem aQx:Tryz.prog.cellsOf 307=20:=by kernel_rfl
theorem aQy:Tryz.prog.cellsOf 277=1:=by kernel_rfl
theorem aCc:Tryz.prog.cellsOf 9=1:=by kernel_rfl
theorem aPx:Tryz.prog.cellsOf 346=1:=by kernel_rfl
theorem aQm : Tryz.prog.globalNamed "strconv.ErrSyntax" = some 4 := by kernel_rfl
theorem aRc:(Tryz.prog.globals[4]?).map (·.type)=some 267:=by kernel_rfl
theorem aQl : Tryz.prog.globalNamed "strconv.ErrRange" = some 5 := by kernel_rfl
theorem aRb:(Tryz.prog.globals[5]?).map (·.type)=some 267:=by kernel_rfl
theorem aQu : "*" ++ "errors.errorString" = "*errors.errorString" := by decide
theorem aLi (u : TypeId) (h : Tryz.prog.typeName? 3 u = some "*errors.errorString") : u = 344 :=
 typeName_ptr_named (nm := "errors.errorString") (by rw [aQu]; kernel_rfl) (by kernel_rfl) (by decide) u (by rw [aQu]; exact h)
theorem aLp {W : World} (h : laidMet Tryz.prog [("quartermaster/atom.signs", Rows.laid_quartermaster_atom_signs)] W) : yW W := by
 obtain ⟨ps,⟨g,t,cs,fuel,p,q,hg,ht,hv,hd,_,_⟩,_⟩:=h
 obtain rfl:=Option.some.inj (aKa.symm.trans hg)
 obtain rfl:=Option.some.inj (aPq.symm.trans ht)
 obtain ⟨xs,m,rfl,hx,hlen,hn,hel⟩:=DataW.trod_array Tryz.underlying351 hd
 simp only [Rows.laid_quartermaster_atom_signs,Prod.mk.injEq,DataW.agg.injEq] at hx
 match xs,hn,hx,hel with
 | [x0,x1,x2,x3],_,hx,hel=>
  have cell : ∀ (k:Nat) (x:DataW Unit × List MemPlace) (l:List UInt8),k<4->[x0,x1,x2,x3][k]? = some x->x.1=.lit (.string l)->W.cell? ⟨8,k,none⟩=some (.string ⟨l.toArray⟩):=by
   intro k x l hk hxk hl
   have h1:=hel k hk
   rw [hxk] at h1
   obtain ⟨s,e1,e2,_⟩:=DataW.trod_string Tryz.underlying9 h1
   rw [e2] at hl
   have hs:s.data.toList=l:=by simpa using hl
   have hs':s=⟨l.toArray⟩:=by cases s;simp at hs;rw [← hs]
   have h2:=World.var?_cell aKa hv k
   rw [aCc,Nat.mul_one] at e1
   have h3:cs[k]? = some (.string s):=by
    have:=congrArg (·[0]?) e1
    simpa [List.getElem?_take,List.getElem?_drop] using this
   rw [h2,h3,hs']
  simp only [List.map_cons,List.map_nil,List.cons.injEq,and_true] at hx
  have c1:=cell 1 x1 [61] (by decide) rfl hx.1.2.1.symm
  refine ⟨oH c1,c1,cell 2 x2 [62,61] (by decide) rfl hx.1.2.2.1.symm,cell 3 x3 [60] (by decide) rfl hx.1.2.2.2.symm⟩
theorem aOv {W : World} {l : List (String × DataW Unit)} (h : laidMet Tryz.prog l W) (h1 : ("quartermaster/atom.signs", Rows.laid_quartermaster_atom_signs) ∈ l) (h2 : ("internal/strconv.uint64pow10", Rows.laid_internal_strconv_uint64pow10) ∈ l)
  (h3 : ("strconv.ErrSyntax", Rows.laid_strconv_ErrSyntax) ∈ l) (h4 : ("strconv.ErrRange", Rows.laid_strconv_ErrRange) ∈ l) : Env W := by
 have tab : Lib.TabIs Tryz.prog W "internal/strconv.uint64pow10" .u64 Lib.pow10Tab := Lib.tabIs_of_head (rest := []) jI aRa Tryz.underlying307 Tryz.underlying277 aQy aQx (jG h h2)
 obtain ⟨a0,s0,hv0,-,-,-⟩:=laid_sentinel (jG h h3) aQm aRc Tryz.underlying267 aLi Tryz.underlying344 Tryz.underlying346 rfl rfl Tryz.underlying9 aPx aCc
 obtain ⟨a1,s1,hv1,-,-,-⟩:=laid_sentinel (jG h h4) aQl aRb Tryz.underlying267 aLi Tryz.underlying344 Tryz.underlying346 rfl rfl Tryz.underlying9 aPx aCc
 have c0:W.cell? ⟨4,0,none⟩=some (.iface 344 (.pointer (some a0))):=by simpa using World.var?_cell aQm hv0 0
 have c1:W.cell? ⟨5,0,none⟩=some (.iface 344 (.pointer (some a1))):=by simpa using World.var?_cell aQl hv1 0
 exact ⟨aLp (jG h h1),⟨oH (tab.cell jI 0 (by decide)),tab⟩,⟨oH c0,_,_,c0⟩,⟨oH c1,_,_,c1⟩⟩
end Go.Proofs.YtonlloiemgdfkaaGreatDoor
namespace Go.Proofs.YtonlloiemgdfkaaGreatDoor
open Go.ChangeShapes Go.WideShapes Go.ChangeAt Go.RowKit Go.Joins
theorem nP:Tryz.prog.cellsOf 48=6:=by kernel_rfl
theorem gW:Tryz.prog.cellsOf 3=1:=by kernel_rfl
theorem nQ:Tryz.prog.cellsOf 4=1:=by kernel_rfl
end Go.Proofs.YtonlloiemgdfkaaGreatDoor
namespace Go.Proofs.YtonlloiemgdfkaaGreatDoor
open Go.ChangeShapes Go.WideShapes Go.ChangeAt Go.RowKit Go.Joins
theorem nR:Tryz.prog.cellsOf 73=10:=by kernel_rfl
theorem sF:Tryz.prog.cellsOf 71=1:=by kernel_rfl
theorem aQq {α:Type} {cs:List α} (h:cs.length=6) : ∃ c0 c1 c2 c3 c4 c5,cs = [c0,c1,c2,c3,c4,c5]:=by
 match cs,h with
 | [c0,c1,c2,c3,c4,c5],_=>exact ⟨c0,c1,c2,c3,c4,c5,rfl⟩
theorem aPc {α:Type} {cs:List α} (h:cs.length=10) : ∃ c0 c1 c2 c3 c4 c5 c6 c7 c8 c9,cs = [c0,c1,c2,c3,c4,c5,c6,c7,c8,c9]:=by
 match cs,h with
 | [c0,c1,c2,c3,c4,c5,c6,c7,c8,c9],_=>exact ⟨c0,c1,c2,c3,c4,c5,c6,c7,c8,c9,rfl⟩
section
variable {H:Type} {enc:TypeId × Value->H} {w:World} {base:Nat} {sp:Nat->Bool} {held:Bool}
theorem wK {fuel:Nat} {cs:List Value} {x:DataW H × List MemPlace} (h:DataW.trod enc Tryz.prog w base sp held fuel 48 cs=some x) : ∃ a:At,cs = [.string a.n,.int .i64 a.op,.int .i64 a.v,.int .i64 a.sl,.string a.f,.bool a.on]:=by
 obtain ⟨xs,m,_,hx,hl,hlen,hel⟩:=DataW.trod_struct Tryz.underlying48 h
 obtain ⟨c0,c1,c2,c3,c4,c5,rfl⟩:=aQq (hl.trans nP)
 match xs,hlen with
 | [y0,y1,y2,y3,y4,y5],_=>
  obtain ⟨n,e0,g0,_⟩:=DataW.trod_string Tryz.underlying9 (by simpa using hel 0 _ rfl)
  obtain ⟨op,e1,g1,_⟩:=DataW.trod_int Tryz.underlying3 (by simpa using hel 1 _ rfl)
  obtain ⟨v,e2,g2,_⟩:=DataW.trod_int Tryz.underlying3 (by simpa using hel 2 _ rfl)
  obtain ⟨sl,e3,g3,_⟩:=DataW.trod_int Tryz.underlying3 (by simpa using hel 3 _ rfl)
  obtain ⟨f,e4,g4,_⟩:=DataW.trod_string Tryz.underlying9 (by simpa using hel 4 _ rfl)
  obtain ⟨on,e5,g5⟩:=DataW.trod_bool Tryz.underlying4 (by simpa using hel 5 _ rfl)
  refine ⟨⟨n,op,v,sl,f,on⟩,?_⟩
  simp [gW,nQ,aCc] at e0 e1 e2 e3 e4 e5
  rw [e0,e1,e2,e3,e4,e5]
theorem aIg : ∀ (fuel:Nat) (cs:List Value) (x:DataW H × List MemPlace),DataW.trod enc Tryz.prog w base sp held fuel 73 cs=some x->∃ t:NT,aJ (fun b=>b<w.heap.size) w t cs:=by
 intro fuel
 induction fuel using Nat.strongRecOn with
 | ind fuel ih=>
 intro cs x h
 obtain ⟨xs,m,hm,hx,hl,hlen,hel⟩:=DataW.trod_struct Tryz.underlying73 h
 obtain ⟨c0,c1,c2,c3,c4,c5,c6,c7,c8,c9,rfl⟩:=aPc (hl.trans nR)
 match xs,hlen with
 | [y0,y1,y2,y3,y4],_=>
  obtain ⟨k,e0,-,-⟩:=DataW.trod_int Tryz.underlying3 (by simpa using hel 0 _ rfl)
  obtain ⟨a,e1⟩:=wK (by simpa using hel 1 _ rfl)
  obtain ⟨fl,e2,-,-⟩:=DataW.trod_string Tryz.underlying9 (by simpa using hel 2 _ rfl)
  obtain ⟨nt,e3,-⟩:=DataW.trod_bool Tryz.underlying4 (by simpa using hel 3 _ rfl)
  have hs:=DataW.trod_slice Tryz.underlying71 (show DataW.trod enc Tryz.prog w base sp held m 71 _=some y4 by simpa using hel 4 _ rfl)
  simp [gW,nQ,aCc,nP] at e0 e1 e2 e3
  obtain ⟨e10,e11,e12,e13,e14,e15⟩:=e1
  rcases hs with ⟨e4,-⟩ | ⟨ad,len,cap,elems,rest,mm,hmm,e4,-,-,hlc,hcm,hle,hcell,-,-⟩
  ·simp [sF] at e4
   refine ⟨.node k a fl nt [],?_⟩
   rw [aJ]
   exact ⟨none,0,by rw [e0,e10,e11,e12,e13,e14,e15,e2,e3,e4];rfl,Nat.le_refl _,by simp,by rw [bB];trivial⟩
  ·simp [sF] at e4
   have key : ∀ (q i:Nat),i+q=len->∃ ts:List NT,ts.length=q/\bB (fun b=>b<w.heap.size) w ts (some ad) i:=by
    intro q
    induction q with
    | zero=>intro i _;exact ⟨[],rfl,by rw [bB];trivial⟩
    | succ q ihq=>
     intro i hi
     obtain ⟨ts,hts,hk⟩:=ihq (i+1) (by omega)
     have hci:=hcell i (by omega)
     rw [nR,List.getElem?_eq_getElem (by omega)] at hci
     obtain ⟨csi,hc1,hc2⟩:=Option.bind_eq_some_iff.1 hci
     obtain ⟨t,ht⟩:=ih mm (by omega) csi _ hc2
     obtain ⟨hb1,hb2,hb3⟩:=World.cells?_some hc1
     have hblk:=World.cells?_block hc1 (by decide)
     refine ⟨t :: ts,by simp [hts],?_⟩
     rw [bB]
     refine ⟨⟨ad,csi,rfl,by rw [mM] at hblk;exact hblk,fun j v hv=> ?_,ht⟩,hk⟩
     have hj:j<10:=by rw [← hb2];exact (List.getElem?_eq_some_iff.1 hv).1
     rw [hb3 j hj];exact hv
   obtain ⟨ts,hts,hk⟩:=key len 0 (by omega)
   refine ⟨.node k a fl nt ts,?_⟩
   rw [aJ]
   exact ⟨some ad,cap,by rw [e0,e10,e11,e12,e13,e14,e15,e2,e3,e4,hts],by omega,by unfold maxLen at hcm;omega,hk⟩
end
theorem aKp {w:World} (h:w.ShapedOpen Tryz.prog):jU w:=by
 obtain ⟨m,hm⟩:=cell_of_shapedOpen_int (g:=0) (t:=3) (zero:=#[.int .i64 0]) (k:= .i64) h (of_decide_eq_true (by kernel_rfl)) (by kernel_rfl) rfl (by kernel_rfl) (by kernel_rfl) Tryz.underlying3
 exact ⟨oH hm,m,hm⟩
theorem uZ {H:Type} {enc:TypeId × Value->H} {a:Assume} {C:Checked} {os:Os} {f:FuncId} {fn:Func} {s:ChangeSpec} {conds:List PathCond} {apart fresh handsOn again:Bool} {X:World->Array Value->Prop}
  (hX : ∀ (w w':World) (args:Array Value),w.heap=w'.heap->X w args->X w' args)
  (own:ownKnob C.prog.godebug=none) (started:os.Started) (noInit:C.prog.inits.idxOf? f=none) (hfn:C.prog.funcs[f]? = some fn)
  (witness : ∃ (w:World) (tape:Tape) (i:Input),w.os=os/\(w.forCall tape i).Shaped C.prog/\i.vars = []/\Input.okWide C.prog (w.forCall tape i) .any w.heap.size f i/\
   ((s.pre enc C.prog fn conds apart (w.forCall tape i).memory i.args/\X (w.forCall tape i).memory i.args)/\sizedMet enc C.prog fn (OpenSpec.ofChange s) apart (w.forCall tape i).memory i.args)/\a.holds C.prog (lone (Frame.enter C.prog f i.args .normal) [] (w.forCall tape i)))
  (sK : ∀ (W:World) (base:Nat) (args:Array Value) (ds gs:List (DataW H)) (before:List MemPlace),
   (∀ (j:Nat) t v,fn.params[j]? = some t->args[j]? = some v->Value.okWide C.prog W .any base t v)->
   DataW.Whole enc C.prog fn.params.toList s.vars apart W args.toList ds gs before->
   X W args->W.ShapedOpen C.prog->
   Calls C.prog f args W fun e W'=> ∃ v,e=.returned v/\s.post enc C.prog fn apart fresh handsOn again W args v W') :
  ReturnsInHanded a C os f .any (fun w args=>(s.pre enc C.prog fn conds apart w args/\X w args)/\sizedMet enc C.prog fn (OpenSpec.ofChange s) apart w args) (s.post enc C.prog fn apart fresh handsOn again):=by
 refine returnsInHanded_of_calls own started noInit witness ?_
 intro w tape i _ hsh _ hok hpre _
 obtain ⟨_,_,_,fn',hfn',_,_,_,_,hval⟩:=hok
 obtain rfl:fn'=fn:=Option.some.inj (hfn'.symm.trans hfn)
 obtain ⟨⟨⟨ds,gs,before,hw,_⟩,hx⟩,_⟩:=hpre
 have hw':=DataW.Whole.of_heap (w':=w.forCall tape i) (by rfl) hw
 refine (sK (w.forCall tape i) w.heap.size i.args ds gs before hval hw' (hX _ _ _ (by rfl) hx) hsh).mono fun e W' ⟨v,he,hp⟩=> ?_
 subst he
 exact ChangeSpec.post_blind hp
end Go.Proofs.YtonlloiemgdfkaaGreatDoor
namespace Go.Proofs.YtonlloiemgdfkaaGreatDoor
open Go.ChangeShapes Go.WideShapes Go.ChangeAt Go.RowKit Go.Joins
theorem vJ:Tryz.prog.cellsOf 75=14:=by kernel_rfl
theorem aCe:Tryz.prog.cellsOf 70=1:=by kernel_rfl
theorem sG:Tryz.prog.cellsOf 22=1:=by kernel_rfl
theorem aCf:Tryz.prog.cellsOf 24=1:=by kernel_rfl
theorem pQ {a:Addr} (h:a.spot=none):a=⟨a.block,a.off,none⟩:=by cases a;simp at h;subst h;rfl
theorem aPd {α:Type} {cs:List α} (h:cs.length=14) : ∃ c0 c1 c2 c3 c4 c5 c6 c7 c8 c9 c10 c11 c12 c13,cs = [c0,c1,c2,c3,c4,c5,c6,c7,c8,c9,c10,c11,c12,c13]:=by
 match cs,h with
 | [c0,c1,c2,c3,c4,c5,c6,c7,c8,c9,c10,c11,c12,c13],_=>exact ⟨c0,c1,c2,c3,c4,c5,c6,c7,c8,c9,c10,c11,c12,c13,rfl⟩
section
variable {H:Type} {enc:TypeId × Value->H} {w:World} {base:Nat} {sp:Nat->Bool} {held:Bool}
theorem rO {α:Type} {P:Nat->α->Prop} : ∀ (n:Nat),(∀ i,i<n->∃ x,P i x)->∃ l:List α,l.length=n/\∀ (i:Nat) (h:i<l.length),P i l[i]
 | 0,_=>⟨[],rfl,fun i h=>absurd h (Nat.not_lt_zero _)⟩
 | n+1,h=>by
  obtain ⟨l,hl,hp⟩:=rO n (fun i hi=>h i (by omega))
  obtain ⟨x,hx⟩:=h n (by omega)
  refine ⟨l ++ [x],by simp [hl],fun i hi=> ?_⟩
  by_cases hlt:i<l.length
  ·rw [List.getElem_append_left hlt];exact hp i hlt
  ·have:i=l.length:=by simp at hi;omega
   subst this
   rw [List.getElem_append_right (Nat.le_refl _)]
   simp only [Nat.sub_self,List.getElem_cons_zero]
   rw [hl];exact hx
theorem aIj {fuel:Nat} {cs:List Value} {x:DataW H × List MemPlace} (h:DataW.trod enc Tryz.prog w base sp held fuel 70 cs=some x) : ∃ (fs:List ByteArray) (v:Value),cs = [v]/\cB (fun b=>b<w.heap.size) w fs v:=by
 rcases DataW.trod_slice Tryz.underlying70 h with ⟨rfl,-⟩ | ⟨ad,len,cap,elems,rest,mm,hmm,rfl,-,-,hlc,hcm,hle,hcell,-,-⟩
 ·exact ⟨[],_,rfl,Or.inl ⟨rfl,none,0,rfl⟩⟩
 ·have one : ∀ i,i<len->∃ y:ByteArray,ad.block<w.heap.size/\w.cell? (ad.add i)=some (.string y):=by
   intro i hi
   have hci:=hcell i hi
   rw [aCc,Nat.mul_one,List.getElem?_eq_getElem (by omega)] at hci
   obtain ⟨csi,hc1,hc2⟩:=Option.bind_eq_some_iff.1 hci
   obtain ⟨y,e0,-,-⟩:=DataW.trod_string Tryz.underlying9 hc2
   obtain ⟨hb1,hb2,hb3⟩:=World.cells?_some hc1
   have hblk:=World.cells?_block hc1 (by decide)
   rw [mM] at hblk
   refine ⟨y,hblk,?_⟩
   have:=hb3 0 (by decide)
   rw [e0] at this
   simpa [Addr.add] using this
  by_cases h0:len=0
  ·subst h0
   exact ⟨[],_,rfl,Or.inl ⟨rfl,_,_,rfl⟩⟩
  ·obtain ⟨fs,hfl,hfs⟩:=rO len one
   have hz:=hfs 0 (by omega)
   have hsp:ad.spot=none:=by
    have:=World.cell?_spot hz.2
    simpa [Addr.add] using this
   have had:=pQ hsp
   refine ⟨fs,_,rfl,Or.inr ⟨ad.block,ad.off,cap,by rw [hfl,← had],⟨hz.1,by omega⟩,by unfold maxLen at hcm;omega,fun j y hy=> ?_⟩⟩
   obtain ⟨hj,rfl⟩:=List.getElem?_eq_some_iff.1 hy
   have:=(hfs j hj).2
   rw [had] at this
   rwa [Addr.add_mid] at this
theorem aLx {fuel:Nat} {cs:List Value} {x:DataW H × List MemPlace} (h:DataW.trod enc Tryz.prog w base sp held fuel 75 cs=some x) : ∃ p:PK,dF (fun b=>b<w.heap.size) w p cs/\cs.length=14:=by
 obtain ⟨xs,m,hm,hx,hl,hlen,hel⟩:=DataW.trod_struct Tryz.underlying75 h
 have hl14:=hl.trans vJ
 obtain ⟨c0,c1,c2,c3,c4,c5,c6,c7,c8,c9,c10,c11,c12,c13,rfl⟩:=aPd hl14
 match xs,hlen with
 | [y0,y1,y2,y3,y4],_=>
  obtain ⟨n,e0,-,-⟩:=DataW.trod_string Tryz.underlying9 (by simpa using hel 0 _ rfl)
  obtain ⟨v,e1,-,-⟩:=DataW.trod_int Tryz.underlying3 (by simpa using hel 1 _ rfl)
  obtain ⟨sl,e2,-,-⟩:=DataW.trod_int Tryz.underlying3 (by simpa using hel 2 _ rfl)
  obtain ⟨fs,fv,e3,hf⟩:=aIj (show DataW.trod enc Tryz.prog w base sp held m 70 _=some y3 by simpa using hel 3 _ rfl)
  obtain ⟨t,ht⟩:=aIg m _ _ (show DataW.trod enc Tryz.prog w base sp held m 73 _=some y4 by simpa using hel 4 _ rfl)
  simp [gW,aCc,aCe,nR] at e0 e1 e2 e3 ht
  refine ⟨⟨n,v,sl,fs,t⟩,⟨fv,[c4,c5,c6,c7,c8,c9,c10,c11,c12,c13],by rw [e0,e1,e2,e3],hf,ht⟩,rfl⟩
theorem aIi {fuel:Nat} {cs:List Value} {x:DataW H × List MemPlace} (h:DataW.trod enc Tryz.prog w base sp held fuel 22 cs=some x) : ∃ (ps:List PK) (v:Value),cs = [v]/\bC (fun b=>b<w.heap.size) w ps v:=by
 rcases DataW.trod_slice Tryz.underlying22 h with ⟨rfl,-⟩ | ⟨ad,len,cap,elems,rest,mm,hmm,rfl,-,-,hlc,hcm,hle,hcell,-,-⟩
 ·exact ⟨[],_,rfl,Or.inl ⟨rfl,none,0,rfl⟩⟩
 ·have one : ∀ i,i<len->∃ y:PK,ad.block<w.heap.size/\∃ cs:List Value,cs.length=14/\(∀ m,m<14->w.cell? ((ad.add (i*14)).add m)=cs[m]?)/\dF (fun b=>b<w.heap.size) w y cs:=by
   intro i hi
   have hci:=hcell i hi
   rw [vJ,List.getElem?_eq_getElem (by omega)] at hci
   obtain ⟨csi,hc1,hc2⟩:=Option.bind_eq_some_iff.1 hci
   obtain ⟨p,hp,hl⟩:=aLx hc2
   obtain ⟨hb1,hb2,hb3⟩:=World.cells?_some hc1
   have hblk:=World.cells?_block hc1 (by decide)
   rw [mM] at hblk
   exact ⟨p,hblk,csi,hl,hb3,hp⟩
  by_cases h0:len=0
  ·subst h0
   exact ⟨[],_,rfl,Or.inl ⟨rfl,_,_,rfl⟩⟩
  ·obtain ⟨ps,hfl,hfs⟩:=rO len one
   obtain ⟨hz,cs0,hl0,hc0,-⟩:=hfs 0 (by omega)
   have hsp:ad.spot=none:=by
    have h1:=hc0 0 (by decide)
    rw [List.getElem?_eq_getElem (by omega)] at h1
    have:=World.cell?_spot h1
    simpa [Addr.add] using this
   have had:=pQ hsp
   refine ⟨ps,_,rfl,Or.inr ⟨ad.block,ad.off,cap,by rw [hfl,← had],hz,by unfold maxLen at hcm;omega,fun j hj=> ?_⟩⟩
   obtain ⟨-,csj,hlj,hcj,hpj⟩:=hfs j hj
   refine ⟨csj,fun m y hy=> ?_,hpj⟩
   have hm:m<14:=by rw [← hlj];exact (List.getElem?_eq_some_iff.1 hy).1
   have:=hcj m hm
   rw [had,Addr.add_mid,Addr.add_mid,hy] at this
   exact this
end
theorem aHp {H:Type} {enc:TypeId × Value->H} {w:World} {base b0:Nat} {sp:Nat->Bool} {held:Bool} {x:Value} {d:DataW H} {p:List MemPlace} (hv:Value.okWide Tryz.prog w .any b0 24 x) (h:DataW.Trod enc Tryz.prog w base sp held 24 x d p) :
  ∃ (ps:List PK) (v:Value),x=.agg #[v]/\bC (fun b=>b<w.heap.size) w ps v:=by
 obtain ⟨cs,rfl,hsz⟩:=okWide_struct Tryz.underlying24 hv
 obtain ⟨fuel,hf⟩:=h
 obtain ⟨xs,m,hm,hx,hl,hlen,hel⟩:=DataW.trod_struct Tryz.underlying24 (show DataW.trod enc Tryz.prog w base sp held fuel 24 cs.toList=some (d,p) from hf)
 match xs,hlen with
 | [y0],_=>
  obtain ⟨ps,v,e,hp⟩:=aIi (show DataW.trod enc Tryz.prog w base sp held m 22 _=some y0 by simpa using hel 0 _ rfl)
  refine ⟨ps,v,?_,hp⟩
  have hl1:=hl.trans aCf
  simp [sG] at e
  obtain ⟨l⟩:=cs
  simp at hl1 e
  match l,hl1 with
  | [c],_=>simp at e;subst e;rfl
end Go.Proofs.YtonlloiemgdfkaaGreatDoor
namespace Go.Proofs.YtonlloiemgdfkaaGreatDoor
open Go.ChangeShapes Go.WideShapes Go.ChangeAt Go.RowKit Go.Joins
theorem zI:Tryz.prog.cellsOf 68=2:=by kernel_rfl
theorem zH:Tryz.prog.cellsOf 66=1:=by kernel_rfl
theorem vK:Tryz.prog.cellsOf 105=2:=by kernel_rfl
theorem aGk:Tryz.prog.cellsOf 26=1:=by kernel_rfl
theorem aGj:Tryz.prog.cellsOf 25=1:=by kernel_rfl
theorem aCd:Tryz.prog.cellsOf 27=1:=by kernel_rfl
theorem aGl:Tryz.prog.cellsOf 28=1:=by kernel_rfl
theorem aCg:Tryz.prog.cellsOf 30=4:=by kernel_rfl
section
variable {H:Type} {enc:TypeId × Value->H} {w:World} {base:Nat} {sp:Nat->Bool} {held:Bool}
theorem mH {T e:TypeId} {k:Nat} (hT:Tryz.prog.underlying T=some (.slice e)) (hk:Tryz.prog.cellsOf e=k) (hk0:0<k) {α:Type} (R:α->List Value->Prop)
  (hel : ∀ (m:Nat) (cs:List Value) (y:DataW H × List MemPlace),DataW.trod enc Tryz.prog w base sp held m e cs=some y->∃ a,R a cs/\cs.length=k)
  {fuel:Nat} {cs:List Value} {x:DataW H × List MemPlace} (h:DataW.trod enc Tryz.prog w base sp held fuel T cs=some x) :
  ∃ (xs:List α) (p:Option Addr) (cap:Nat),cs = [.slice p xs.length cap]/\(xs.length<=cap/\xs.length<=9223372036854775807)/\(0<xs.length->∃ b off,p=some ⟨b,off,none⟩/\b<w.heap.size/\∀ (j:Nat) (a:α),xs[j]? = some a->∃ cs:List Value,cs.length=k/\R a cs/\∀ (m:Nat) (v:Value),cs[m]? = some v->w.cell? ⟨b,off+j*k+m,none⟩=some v):=by
 rcases DataW.trod_slice hT h with ⟨rfl,-⟩ | ⟨ad,len,cap,elems,rest,mm,hmm,rfl,-,-,hlc,hcm,hle,hcell,-,-⟩
 ·exact ⟨[],none,0,rfl,⟨Nat.le_refl _,Nat.zero_le _⟩,fun h=>absurd h (Nat.lt_irrefl 0)⟩
 ·have one : ∀ i,i<len->∃ y:α,ad.block<w.heap.size/\∃ cs:List Value,cs.length=k/\(∀ m,m<k->w.cell? ((ad.add (i*k)).add m)=cs[m]?)/\R y cs:=by
   intro i hi
   have hci:=hcell i hi
   rw [hk,List.getElem?_eq_getElem (by omega)] at hci
   obtain ⟨csi,hc1,hc2⟩:=Option.bind_eq_some_iff.1 hci
   obtain ⟨p,hp,hl⟩:=hel _ _ _ hc2
   obtain ⟨hb1,hb2,hb3⟩:=World.cells?_some hc1
   have hblk:=World.cells?_block hc1 hk0
   rw [mM] at hblk
   exact ⟨p,hblk,csi,hl,hb3,hp⟩
  obtain ⟨ps,hfl,hfs⟩:=rO len one
  refine ⟨ps,some ad,cap,by rw [hfl],⟨by omega,by unfold maxLen at hcm;omega⟩,fun hpos=> ?_⟩
  obtain ⟨hz,cs0,hl0,hc0,-⟩:=hfs 0 hpos
  have hsp:ad.spot=none:=by
   have h1:=hc0 0 hk0
   rw [List.getElem?_eq_getElem (by omega)] at h1
   have:=World.cell?_spot h1
   simpa [Addr.add] using this
  have had:=pQ hsp
  refine ⟨ad.block,ad.off,by rw [← had],hz,fun j a ha=> ?_⟩
  obtain ⟨hj,rfl⟩:=List.getElem?_eq_some_iff.1 ha
  obtain ⟨-,csj,hlj,hcj,hpj⟩:=hfs j hj
  refine ⟨csj,hlj,hpj,fun m y hy=> ?_⟩
  have hm:m<k:=by rw [← hlj];exact (List.getElem?_eq_some_iff.1 hy).1
  have:=hcj m hm
  rw [had,Addr.add_mid,Addr.add_mid,hy] at this
  exact this
theorem aEb {fuel:Nat} {cs:List Value} {x:DataW H × List MemPlace} (h:DataW.trod enc Tryz.prog w base sp held fuel 66 cs=some x) : ∃ (bs:List Bool) (v:Value),cs = [v]/\bA (fun b=>b<w.heap.size) w bs v:=by
 obtain ⟨bs,p,cap,rfl,hl,hr⟩:=mH Tryz.underlying66 nQ (by decide) (fun (b:Bool) cs=>cs = [.bool b]) (fun m cs y hy=>by obtain ⟨b,rfl,-⟩:=DataW.trod_bool Tryz.underlying4 hy;exact ⟨b,rfl,rfl⟩) h
 refine ⟨bs,_,rfl,p,cap,rfl,hl.2,fun h0=> ?_⟩
 obtain ⟨b,off,h1,h2,h3⟩:=hr h0
 refine ⟨b,off,h1,h2,fun j y hy=> ?_⟩
 obtain ⟨cs,-,rfl,h4⟩:=h3 j y hy
 have:=h4 0 _ rfl
 rwa [Nat.mul_one,Nat.add_zero] at this
theorem aIh {fuel:Nat} {cs:List Value} {x:DataW H × List MemPlace} (h:DataW.trod enc Tryz.prog w base sp held fuel 27 cs=some x) : ∃ (zs:List Int) (v:Value),cs = [v]/\aH (fun b=>b<w.heap.size) w zs v:=by
 obtain ⟨bs,p,cap,rfl,hl,hr⟩:=mH Tryz.underlying27 gW (by decide) (fun (z:Int) cs=>cs = [.int .i64 z]) (fun m cs y hy=>by obtain ⟨z,rfl,-,-⟩:=DataW.trod_int Tryz.underlying3 hy;exact ⟨z,rfl,rfl⟩) h
 refine ⟨bs,_,rfl,p,cap,rfl,hl.2,fun h0=> ?_⟩
 obtain ⟨b,off,h1,h2,h3⟩:=hr h0
 refine ⟨b,off,h1,h2,fun j y hy=> ?_⟩
 obtain ⟨cs,-,rfl,h4⟩:=h3 j y hy
 have:=h4 0 _ rfl
 rwa [Nat.mul_one,Nat.add_zero] at this
theorem aLy {fuel:Nat} {cs:List Value} {x:DataW H × List MemPlace} (h:DataW.trod enc Tryz.prog w base sp held fuel 28 cs=some x) : ∃ (zs:List (Int × Int)) (v:Value),cs = [v]/\iY (fun b=>b<w.heap.size) w zs v:=by
 obtain ⟨bs,p,cap,rfl,hl,hr⟩:=mH Tryz.underlying28 vK (by decide) (fun (z:Int × Int) cs=>cs = [.int .i64 z.1,.int .i64 z.2]) (fun m cs y hy=>by
  obtain ⟨xs,n,-,-,hl,hlen,hel⟩:=DataW.trod_array Tryz.underlying105 hy
  rw [vK] at hl
  match xs,hlen,cs,hl with
  | [y0,y1],_,[c0,c1],_=>
   obtain ⟨a,e0,-,-⟩:=DataW.trod_int Tryz.underlying3 (show DataW.trod enc Tryz.prog w base sp held n 3 _=some y0 by simpa using hel 0 (by decide))
   obtain ⟨b,e1,-,-⟩:=DataW.trod_int Tryz.underlying3 (show DataW.trod enc Tryz.prog w base sp held n 3 _=some y1 by simpa using hel 1 (by decide))
   simp [gW] at e0 e1
   exact ⟨(a,b),by rw [e0,e1],rfl⟩) h
 refine ⟨bs,_,rfl,p,cap,rfl,hl.2,fun h0=> ?_⟩
 obtain ⟨b,off,h1,h2,h3⟩:=hr h0
 refine ⟨b,off,h1,h2,fun j y hy=> ?_⟩
 obtain ⟨cs,-,rfl,h4⟩:=h3 j y hy
 exact ⟨by have:=h4 0 _ rfl;rwa [Nat.add_zero] at this,h4 1 _ rfl⟩
theorem aLw {fuel:Nat} {cs:List Value} {x:DataW H × List MemPlace} (h:DataW.trod enc Tryz.prog w base sp held fuel 26 cs=some x) : ∃ (ms:List MB) (v:Value),cs = [v]/\cG (fun b=>b<w.heap.size) w ms v:=by
 obtain ⟨ms,p,cap,rfl,hl,hr⟩:=mH Tryz.underlying26 zI (by decide) (fun (m:MB) cs=> ∃ ov,cs = [.int .i64 m.pl,ov]/\bA (fun b=>b<w.heap.size) w m.on ov) (fun m cs y hy=>by
  obtain ⟨xs,n,-,-,hl,hlen,hel⟩:=DataW.trod_struct Tryz.underlying68 hy
  rw [zI] at hl
  match xs,hlen,cs,hl with
  | [y0,y1],_,[c0,c1],_=>
   obtain ⟨a,e0,-,-⟩:=DataW.trod_int Tryz.underlying3 (show DataW.trod enc Tryz.prog w base sp held n 3 _=some y0 by simpa using hel 0 _ rfl)
   obtain ⟨bs,v,e1,hb⟩:=aEb (show DataW.trod enc Tryz.prog w base sp held n 66 _=some y1 by simpa using hel 1 _ rfl)
   simp [gW,zH] at e0 e1
   exact ⟨⟨a,bs⟩,⟨v,by rw [e0,e1],hb⟩,rfl⟩) h
 refine ⟨ms,_,rfl,p,cap,rfl,hl,fun h0=> ?_⟩
 obtain ⟨b,off,h1,h2,h3⟩:=hr h0
 refine ⟨b,off,h1,h2,fun j y hy=> ?_⟩
 obtain ⟨cs,-,⟨ov,rfl,hb⟩,h4⟩:=h3 j y hy
 exact ⟨ov,by have:=h4 0 _ rfl;rwa [Nat.add_zero] at this,h4 1 _ rfl,hb⟩
theorem aLv {fuel:Nat} {cs:List Value} {x:DataW H × List MemPlace} (h:DataW.trod enc Tryz.prog w base sp held fuel 25 cs=some x) : ∃ (ts:List At) (v:Value),cs = [v]/\iU (fun b=>b<w.heap.size) w ts v:=by
 obtain ⟨ts,p,cap,rfl,hl,hr⟩:=mH Tryz.underlying25 nP (by decide) (fun (a:At) cs=>cs = [.string a.n,.int .i64 a.op,.int .i64 a.v,.int .i64 a.sl,.string a.f,.bool a.on]) (fun m cs y hy=>by
  obtain ⟨a,e⟩:=wK hy
  exact ⟨a,e,by rw [e];rfl⟩) h
 refine ⟨ts,_,rfl,p,cap,rfl,hl.2,fun h0=> ?_⟩
 obtain ⟨b,off,h1,h2,h3⟩:=hr h0
 refine ⟨b,off,h1,h2,fun j y hy=> ?_⟩
 obtain ⟨cs,-,rfl,h4⟩:=h3 j y hy
 exact ⟨by have:=h4 0 _ rfl;rwa [Nat.add_zero] at this,h4 1 _ rfl,h4 2 _ rfl,h4 3 _ rfl,h4 4 _ rfl,h4 5 _ rfl⟩
end
theorem aHq {H:Type} {enc:TypeId × Value->H} {w:World} {base b0:Nat} {sp:Nat->Bool} {held:Bool} {x:Value} {d:DataW H} {p:List MemPlace} (hv:Value.okWide Tryz.prog w .any b0 30 x) (h:DataW.Trod enc Tryz.prog w base sp held 30 x d p) :
  ∃ (wi:WI) (tsv inv mav onv:Value),x=.agg #[tsv,inv,mav,onv]/\dY (fun b=>b<w.heap.size) w wi tsv inv mav onv:=by
 obtain ⟨cs,rfl,hsz⟩:=okWide_struct Tryz.underlying30 hv
 obtain ⟨fuel,hf⟩:=h
 obtain ⟨xs,m,hm,hx,hl,hlen,hel⟩:=DataW.trod_struct Tryz.underlying30 (show DataW.trod enc Tryz.prog w base sp held fuel 30 cs.toList=some (d,p) from hf)
 have hl4:=hl.trans aCg
 obtain ⟨l⟩:=cs
 simp only at hl4 hel
 match xs,hlen,l,hl4 with
 | [y0,y1,y2,y3],_,[c0,c1,c2,c3],_=>
  obtain ⟨ts,v0,e0,h0⟩:=aLv (show DataW.trod enc Tryz.prog w base sp held m 25 _=some y0 by simpa using hel 0 _ rfl)
  obtain ⟨ins,v1,e1,h1⟩:=aLw (show DataW.trod enc Tryz.prog w base sp held m 26 _=some y1 by simpa using hel 1 _ rfl)
  obtain ⟨ma,v2,e2,h2⟩:=aIh (show DataW.trod enc Tryz.prog w base sp held m 27 _=some y2 by simpa using hel 2 _ rfl)
  obtain ⟨on,v3,e3,h3⟩:=aLy (show DataW.trod enc Tryz.prog w base sp held m 28 _=some y3 by simpa using hel 3 _ rfl)
  simp [aGj,aGk,aCd,aGl] at e0 e1 e2 e3
  exact ⟨⟨ts,ins,ma,on⟩,v0,v1,v2,v3,by rw [e0,e1,e2,e3],⟨h0,h1,h2,h3⟩⟩
end Go.Proofs.YtonlloiemgdfkaaGreatDoor
namespace Go.Proofs.YtonlloiemgdfkaaGreatDoor
open Go.RowKit
theorem aLd {H:Type} {enc:TypeId × Value->H} {w:World} {base:Nat} {sp:Nat->Bool} {held:Bool} {v:Value} {d:DataW H} {p:List MemPlace} (h:DataW.Trod enc Tryz.prog w base sp held 24 (.agg #[v]) d p):iV v:=by
 obtain ⟨fuel,hf⟩:=h
 obtain ⟨xs,m,hm,hx,hl,hlen,hel⟩:=DataW.trod_struct Tryz.underlying24 (show DataW.trod enc Tryz.prog w base sp held fuel 24 [v]=some (d,p) from hf)
 match xs,hlen with
 | [y0],_=>
  have h0:DataW.trod enc Tryz.prog w base sp held m 22 [v]=some y0:=by
   have:=hel 0 _ rfl
   simpa [sG] using this
  rcases DataW.trod_slice Tryz.underlying22 h0 with ⟨e,-⟩ | ⟨ad,len,cap,elems,rest,mm,hmm,e,-,-,hlc,-⟩
  ·cases e;exact gV
  ·cases e
   intro p n c e
   cases e
   exact hlc
end Go.Proofs.YtonlloiemgdfkaaGreatDoor
