/- Steps of the proof: AtomRead. -/
import Derived.Test.YthaaaecmeafofaaGreatDoorOs01
import Derived.Lib.AtoiAllCases
import Derived.Lib.SlicesS
import Derived.WalkSmall
import Derived.Sort.Grow
import Derived.Laws.RangeAny
import Derived.Deep.LoopGhost
import Derived.RegionTactic
import Derived.WalkMore
import Derived.Lib.OthersKept
import Derived.BigQuiet
set_option maxHeartbeats 16000000
set_option maxRecDepth 100000
namespace Go.Proofs.YthaaaecmeafofaaGreatDoor
open Go.RowKit Go.Sort
def Env (w : World) : Prop := tX w ∧ (1 < w.heap.size ∧ Lib.TabIs Tryz.prog w "internal/strconv.uint64pow10" .u64 Lib.pow10Tab) ∧ (6 < w.heap.size ∧ ∃ t p, w.cell? ⟨6, 0, none⟩ = some (.iface t p)) ∧ (7 < w.heap.size ∧ ∃ t p, w.cell? ⟨7, 0, none⟩ = some (.iface t p))
theorem hU : Tryz.prog.globalNamed "internal/strconv.uint64pow10" = some 1 := by kernel_rfl
theorem Env.keep {w w':World} (h:Env w) (k:aA w w'):Env w':=by
 obtain ⟨h1,⟨h2,h3⟩,⟨h4,t,p,h5⟩,⟨h6,u,q,h7⟩⟩:=h
 refine ⟨h1.keep k,⟨Nat.lt_of_lt_of_le h2 k.size,var?_below k hU h2 h3⟩,⟨Nat.lt_of_lt_of_le h4 k.size,t,p,?_⟩,⟨Nat.lt_of_lt_of_le h6 k.size,u,q,?_⟩⟩
 ·exact (k.cells.1 _ _ h4).trans h5
 ·exact (k.cells.1 _ _ h6).trans h7
theorem xU {n:Int} {a b:Bool} (h:a=b):Ending.returned (.tuple #[.int .i64 n,.bool a])=.returned (.tuple #[.int .i64 n,.bool b]):=by rw [h]
theorem rQ (w:World) (k:Nat) (os:Array Obj):aA w (grow (w.drewN k) os):=
 ⟨rfl,rfl,rfl,by show w.heap.size<=(w.heap++os).size;simp,fun i hi=>by show (w.heap++os)[i]? = _;rw [Array.getElem?_append_left hi]⟩
theorem aBw (s:ByteArray) (w:World) (hE:Env w) (hs:s.size<=20000) (h : ∀ v,Lib.atoiAll s.data.toList ≠ .ok v) :
  Calls Tryz.prog 222 #[.string s] w fun e w'=> ∃ n p,e=.returned (.tuple #[.int .i64 n,.iface 302 (.pointer (some p))])/\aA w w':=by
 obtain ⟨_,_,⟨_,t,p,h5⟩,⟨_,u,q,h7⟩⟩:=hE
 rcases hh:Lib.atoiAll s.data.toList with v | _ | _
 ·exact absurd hh (h v)
 ·have c:Calls Tryz.prog 222 #[.string s] w fun e w'=> ∃ N,e=.returned (.tuple #[.int .i64 (0),.iface 302 (.pointer (some ⟨N,0,none⟩))])/\w.heap.size<=N/\w'.heap[N]? = some (.cells #[.string ⟨#[65,116,111,105]⟩,.string s,.iface t p] 312 (0,0))/\Below w.heap.size w w':=
   Any.strconv_Atoi_syntax Tryz.laysC172 s (by omega) hh _ w h5 (Or.inr ⟨_,_,rfl⟩)
  refine c.mono ?_
  rintro e w' ⟨N,rfl,_,_,k⟩
  exact ⟨_,_,rfl,k⟩
 ·have c:Calls Tryz.prog 222 #[.string s] w fun e w'=> ∃ N,e=.returned (.tuple #[.int .i64 (Lib.atoiSat s.data.toList),.iface 302 (.pointer (some ⟨N,0,none⟩))])/\w.heap.size<=N/\w'.heap[N]? = some (.cells #[.string ⟨#[65,116,111,105]⟩,.string s,.iface u q] 312 (0,0))/\Below w.heap.size w w':=
   Any.strconv_Atoi_range Tryz.laysC172 s (by omega) hh _ w h7 (Or.inr ⟨_,_,rfl⟩)
  refine c.mono ?_
  rintro e w' ⟨N,rfl,_,_,k⟩
  exact ⟨_,_,rfl,k⟩
theorem fD (s:ByteArray) (w:World) (hE:Env w) (hs:s.size<=20000) :
  Calls Tryz.prog 189 #[.string s] w fun e w'=> ∃ n:Int,e=.returned (.tuple #[.int .i64 n,.bool (eB s.data.toList)])/\(eB s.data.toList=true->n=eJ s.data.toList)/\aA w w':=by
 by_cases hok : ∃ v,Lib.atoiAll s.data.toList=.ok v
 ·obtain ⟨v,hv⟩:=hok
  have bd:=Lib.atoiAll_bounds hv
  have HV:Hid (Lib.atoiAll s.data.toList=.ok v):=hv
  have HN:Hid (eJ s.data.toList=v):=by show _=_;unfold eJ;rw [hv]
  have HE:Hid (Env w):=hE
  by_cases hi:Lib.itoa v=s.data.toList
  ·have HB:Hid (eB s.data.toList=true):=by show _=_;unfold eB;rw [hv];simpa using hi
   have hq:(Lib.itoa v==s.toList)=true:=by rw [Lib.toList_data];simpa using hi
   clear hv hE hi
   go_enter Tryz.func189,Tryz.ntmps189
   go_wp2_with fail
   refine (Tryz.strconv_Atoi_ok s (by omega) v HV.out _).mono ?_
   rintro e w1 ⟨rfl,hw1⟩
   have k1:aA w w1:=by
    rcases hw1 with rfl | ⟨t,rfl⟩
    ·exact aA.refl _
    ·exact Lib.bytesWorld_below _ _ _
   clear hw1
   go_wp2_with fail
   refine (Tryz.strconv_Itoa v bd.1 bd.2 _ (HE.out.keep k1).2.1.2).mono ?_
   rintro e w2 ⟨rfl,k,os,hw2⟩
   have k2:aA w w2:=k1.trans (hw2 ▸ rQ _ _ _)
   clear hw2
   go_wp2_with fail
   go_ret2
   exact ⟨_,xU HB.out.symm,fun _=>HN.out.symm,k2⟩
  ·have HB:Hid (eB s.data.toList=false):=by show _=_;unfold eB;rw [hv];simpa using hi
   have hq:(Lib.itoa v==s.toList)=false:=by rw [Lib.toList_data];simpa using hi
   clear hv hE hi
   go_enter Tryz.func189,Tryz.ntmps189
   go_wp2_with fail
   refine (Tryz.strconv_Atoi_ok s (by omega) v HV.out _).mono ?_
   rintro e w1 ⟨rfl,hw1⟩
   have k1:aA w w1:=by
    rcases hw1 with rfl | ⟨t,rfl⟩
    ·exact aA.refl _
    ·exact Lib.bytesWorld_below _ _ _
   clear hw1
   go_wp2_with fail
   refine (Tryz.strconv_Itoa v bd.1 bd.2 _ (HE.out.keep k1).2.1.2).mono ?_
   rintro e w2 ⟨rfl,k,os,hw2⟩
   have k2:aA w w2:=k1.trans (hw2 ▸ rQ _ _ _)
   clear hw2
   go_wp2_with fail
   go_ret2
   exact ⟨_,xU HB.out.symm,fun h=>by (rw [HB.out] at h;cases h),k2⟩
 ·have hno : ∀ v,Lib.atoiAll s.data.toList ≠ .ok v:=fun v e=>hok ⟨v,e⟩
  have HB:Hid (eB s.data.toList=false):=by
   show _=_
   unfold eB
   rcases hh:Lib.atoiAll s.data.toList with v | _ | _
   ·exact absurd hh (hno v)
   ·rfl
   ·rfl
  have HE:Hid (Env w):=hE
  have HNO:Hid (∀ v,Lib.atoiAll s.data.toList ≠ .ok v):=hno
  clear hok hE hno
  go_enter Tryz.func189,Tryz.ntmps189
  go_wp2_with fail
  refine (aBw s _ HE.out hs HNO.out).mono ?_
  rintro e w1 ⟨n,p,rfl,k1⟩
  go_wp2_with fail
  go_ret2
  exact ⟨_,xU HB.out.symm,fun h=>by (rw [HB.out] at h;cases h),k1⟩
end Go.Proofs.YthaaaecmeafofaaGreatDoor
namespace Go.Proofs.YthaaaecmeafofaaGreatDoor
open Go.RowKit
theorem aFa (s:ByteArray) (l:List UInt8) (hl:s.data.toList=l) (h2:2<=l.length) (h4:l.length<=4) (ha : ∀ x∈l,128<=x.toNat):2<=s.size/\s.size<=4/\∀ (j:Nat) (hj:j<s.size),128<=(s[j]).toNat:=by
 have hs:s.size=l.length:=by rw [← hl];simp
 refine ⟨by omega,by omega,fun j hj=>ha _ ?_⟩
 rw [← hl]
 show s.data[j]∈_
 simp
theorem aCh (r:Nat) (h:128<=r):2<=(Utf8.encode (r:Int)).size/\(Utf8.encode (r:Int)).size<=4/\∀ (j:Nat) (hj:j<(Utf8.encode (r:Int)).size),128<=((Utf8.encode (r:Int))[j]).toNat:=by
 have c1 : ¬ r<128:=by omega
 have key:=aFa (Utf8.encode (r:Int))
 cases v:Utf8.valid (r:Int)
 ·exact key [239,191,189] (by simp [Utf8.encode,v,Utf8.runeError]) (by decide) (by decide) (by decide)
 ·by_cases c2:r<2048
  ·refine key [UInt8.ofNat (192+r / 64),UInt8.ofNat (128+r % 64)] (by simp [Utf8.encode,v,c1,c2]) (by simp) (by simp) ?_
   intro x hx
   simp only [List.mem_cons,List.not_mem_nil,or_false] at hx
   rcases hx with rfl | rfl<;>simp<;>omega
  ·by_cases c3:r<65536
   ·refine key [UInt8.ofNat (224+r / 4096),UInt8.ofNat (128+r / 64 % 64),UInt8.ofNat (128+r % 64)] (by simp [Utf8.encode,v,c1,c2,c3]) (by simp) (by simp) ?_
    intro x hx
    simp only [List.mem_cons,List.not_mem_nil,or_false] at hx
    rcases hx with rfl | rfl | rfl<;>simp<;>omega
   ·have c4:r<=1114111:=by simp [Utf8.valid] at v;omega
    refine key [UInt8.ofNat (240+r / 262144),UInt8.ofNat (128+r / 4096 % 64),UInt8.ofNat (128+r / 64 % 64),UInt8.ofNat (128+r % 64)] (by simp [Utf8.encode,v,c1,c2,c3]) (by simp) (by simp) ?_
    intro x hx
    simp only [List.mem_cons,List.not_mem_nil,or_false] at hx
    rcases hx with rfl | rfl | rfl | rfl<;>simp<;>omega
def Asc (l:List UInt8):Prop:= ∀ (j:Nat) b,l[j]? = some b->b.toNat<128
theorem jN : ∀ (l:List UInt8) (c:UInt8),Asc l->128<=c.toNat->Lib.indexByte l c = -1
 | [],_,_,_=>rfl
 | b :: l,c,h,hc=>by
  have hb:=h 0 b rfl
  have ih:=jN l c (fun j x hx=>h (j+1) x (by simpa using hx)) hc
  have hne:(b==c)=false:=by
   rw [beq_eq_false_iff_ne]
   rintro rfl
   omega
  unfold Lib.indexByte
  simp [hne,ih]
theorem tZ {s:ByteArray} (h:Asc s.data.toList) (a b:Nat):Asc (s.extract a b).data.toList:=by
 rw [Lib.extract_data]
 intro j x hx
 rw [List.getElem?_take] at hx
 split at hx
 ·exact h (a+j) x (by simpa using hx)
 ·cases hx
theorem pJ (s:ByteArray) (c:UInt8) (w:World) (ha:Asc s.data.toList) (hc:128<=c.toNat) :
  Calls Tryz.prog 237 #[.string s,.int .u8 c.toNat] w fun e w'=>e=.returned (.int .i64 (-1))/\w'=w:=by
 have h:=Tryz.strings_IndexByte s c.toNat w
 have e:((c.toNat:Int)).toNat.toUInt8=c:=by simp
 rw [e,jN _ _ ha hc] at h
 exact h
theorem oJ (s:ByteArray) (w:World) (ha:Asc s.data.toList) :
  Calls Tryz.prog 208 #[.string s,.int .i32 65533] w fun e w'=>e=.returned (.int .i64 (-1))/\aA w w':=by
 have HA:Hid (Asc s.data.toList):=ha
 clear ha
 go_enter Tryz.func208,Tryz.ntmps208
 go_wp2_with fail
 go_loopg [5,6] s.size (fun g _ _ wx=> ∃ i:Nat,i+g=s.size/\wx=w.iter s i)
 case atStart=>exact ⟨0,by omega,rfl⟩
 case round=>
  obtain ⟨i,hig,rfl⟩:=hrel
  cases gk with
  | zero=>
   obtain rfl:i=s.size:=by omega
   have hnx:=run_next_end (P:=Tryz.prog) w s s.size
   go_wp2
   go_ret
   exact ⟨rfl,aA.alloc _ _⟩
  | succ g=>
   have hi:i<s.size:=by omega
   obtain ⟨x,hx⟩ : ∃ x:UInt8,s[i]'hi=x:=⟨_,rfl⟩
   have hxl:s.data.toList[i]? = some x:=by rw [← hx];exact Lib.data_getElem? s i hi
   have hx128:x.toNat<128:=HA.out i x hxl
   have hnx:=fun ty=>run_next_ascii (P:=Tryz.prog) w s i ty hi (by rw [hx];exact hx128)
   rw [hx] at hnx
   clear hxl hx
   have hne:((x.toNat:Int)==65533)=false:=by rw [beq_eq_false_iff_ne];omega
   go_wp2
   go_roundg g
   case measure=>omega
   case rel=>exact ⟨i+1,by omega,rfl⟩
theorem pN (s:ByteArray) (r:Nat) (w:World) (ha:Asc s.data.toList) (hr:128<=r) (_hr2:r<=2147483647) :
  Calls Tryz.prog 208 #[.string s,.int .i32 r] w fun e w'=>e=.returned (.int .i64 (-1))/\aA w w':=by
 by_cases h6:r=65533
 ·subst h6
  exact oJ s w ha
 ·have h6':((r:Int)==65533)=false:=by rw [beq_eq_false_iff_ne];omega
  clear h6
  have g1:(0:Int)<=(r:Int):=by omega
  have g2:decide ((r:Int)<128)=false:=decide_eq_false (by omega)
  cases hv:Lib.validRune (r:Int)
  ·have HV:Hid (Lib.validRune (r:Int)=false):=hv
   clear hv
   go_enter Tryz.func208,Tryz.ntmps208
   go_wp2_with (go_at_call 238;refine (Tryz.utf8_ValidRune _ _).mono ?_;rintro e w' ⟨rfl,hw⟩;rw [HV.out,hw];clear hw)
   go_ret
   exact ⟨rfl,aA.refl _⟩
  ·have HV:Hid (Lib.validRune (r:Int)=true):=hv
   clear hv
   obtain ⟨e1,e2,e3⟩:=aCh r hr
   go_enter Tryz.func208,Tryz.ntmps208
   go_wp2_with (go_at_call 238;refine (Tryz.utf8_ValidRune _ _).mono ?_;rintro e w' ⟨rfl,hw⟩;rw [HV.out,hw];clear hw)
   have HA:Hid (Asc s.data.toList):=ha
   clear ha
   go_step3
   go_wp2_with fail
   generalize Utf8.encode (r:Int)=rs at e1 e2 e3 ⊢
   have hcast:((rs.size:Int)-1)=((rs.size-1:Nat):Int):=by omega
   rw [hcast]
   have hm1:rs.size-1<rs.size:=by omega
   have hm2:rs.size-1<=3:=by omega
   generalize rs.size-1=m at hm1 hm2 ⊢
   have hc:128<=(rs[m]).toNat:=e3 m hm1
   clear hcast e3
   go_loopg [9,10] 1 (fun g s9 s10 wx=>g=1/\s9=.int .i64 m/\wx=w)
   case atStart=>exact ⟨rfl,rfl,rfl⟩
   case round=>
    obtain ⟨hg,rfl,rfl⟩:=hrel
    by_cases hlt:m<s.size
    ·have hsm:(s[m]).toNat<128:=HA.out m s[m] (Lib.data_getElem? s m hlt)
     have hne:(((s[m]).toNat:Int) != ((rs[m]).toNat:Int))=true:=by rw [bne_iff_ne];omega
     have q1:(0:Int)<=(m:Int):=by omega
     have q2:(m:Int)<(s.size:Int):=by omega
     have q3:(m:Int)<(rs.size:Int):=by omega
     have q4:(m:Int)+1<=(s.size:Int):=by omega
     have q5:(0:Int)<=(m:Int)+1:=by omega
     go_wp2_with fail
     go_step3
     go_wp2_with fail
     go_quiet (fail)
     have kq:aA wr (wr.drewN nq):=aA.drewN (aA.refl _) nq
     generalize wr.drewN nq=W0 at kq ⊢
     go_wp2_with fail
     refine wp_region_quiet_lit (by kernel_rfl) (by kernel_rfl) ?_
     go_big_quiet_step (fail)
     go_big_quiet_step (fail)
     go_big_quiet_step (fail)
     refine wpQuiet_step (fun K hK=> ?_)
     go_simp
     refine hK _ ?_
     clear hK K
     go_big_quiet_step (fail)
     go_big_quiet_step (fail)
     go_big_quiet_step (fail)
     go_big_quiet_step ((go_at_call 237;exact Calls.quiet_of_same (pJ _ _ _ (tZ HA.out _ _) hc)))
     go_big_quiet_step (fail)
     refine wpQuiet_nil ?_
     intro w9 hw9
     obtain ⟨nq9,hw9⟩:=hw9
     subst hw9
     go_wp2_with fail
     simp only [Exit.noGoto,Exit.inBlock,Exit.then]
     go_ret
     exact ⟨rfl,kq.drewN _⟩
    ·go_wp2_with fail
     rw [Exit.noGoto_ret]
     go_ret
     exact ⟨rfl,aA.refl _⟩
theorem aEy (s:ByteArray) (k:Nat) (h:k<s.size):s.get! k=s[k]:=by
 simp [ByteArray.get!,getElem!_pos,h]
 rfl
theorem sW (s:ByteArray) (pos:Nat) (h:pos<s.size) (ha:128<=(s[pos]).toNat) : ∀ j,j<(Utf8.decode s pos).2->pos+j<s.size/\128<=(s.get! (pos+j)).toNat:=by
 have hn : ¬ (s[pos]).toNat<128:=by omega
 have h0:pos+0<s.size/\128<=(s.get! (pos+0)).toNat:=⟨h,by rw [get_at s pos h];exact ha⟩
 simp only [Utf8.decode,get_at s pos h,hn,if_false]
 intro j hj
 split at hj
 ·rename_i c
  simp at c
  split at hj
  ·have:j=0∨j=1:=by simp at hj;omega
   rcases this with rfl | rfl
   ·exact h0
   ·exact ⟨c.2.1,by omega⟩
  ·have:j=0:=by simp at hj;omega
   subst this;exact h0
 ·split at hj
  ·rename_i c
   simp at c
   split at hj
   ·have:j=0∨j=1∨j=2:=by simp at hj;omega
    rcases this with rfl | rfl | rfl
    ·exact h0
    ·exact ⟨c.1.2.1,by omega⟩
    ·exact ⟨c.2.1,by omega⟩
   ·have:j=0:=by simp at hj;omega
    subst this;exact h0
  ·split at hj
   ·rename_i c
    simp at c
    split at hj
    ·have:j=0∨j=1∨j=2∨j=3:=by simp at hj;omega
     rcases this with rfl | rfl | rfl | rfl
     ·exact h0
     ·exact ⟨c.1.1.2.1,by omega⟩
     ·exact ⟨c.1.2.1,by omega⟩
     ·exact ⟨c.2.1,by omega⟩
    ·have:j=0:=by simp at hj;omega
     subst this;exact h0
   ·have:j=0:=by simp at hj;omega
    subst this;exact h0
theorem aAk {s:ByteArray} {chars:List UInt8} (hc:Asc chars) {i k:Nat} (h:Lib.NoAny s.data.toList chars i) (hk : ∀ j,j<k->i+j<s.size/\128<=(s.get! (i+j)).toNat):Lib.NoAny s.data.toList chars (i+k):=by
 intro j b hj hb
 by_cases hji:j<i
 ·exact h j b hji hb
 ·obtain ⟨h1,h2⟩:=hk (j-i) (by omega)
  rw [show i+(j-i)=j by omega] at h1 h2
  have hbj:b=s[j]:=by rw [Lib.data_getElem? s j h1] at hb;exact (Option.some.inj hb).symm
  rw [aEy s j h1] at h2
  cases e:chars.contains b
  ·rfl
  ·rw [List.contains_iff_mem] at e
   obtain ⟨q,hq,e2⟩:=List.getElem_of_mem e
   have hlow:=hc q b (by rw [← e2];exact List.getElem?_eq_getElem hq)
   rw [hbj] at hlow
   omega
theorem pI (s chars:ByteArray) (w:World) (h2:2<=chars.size) (h8:s.size<=8) (hc:Asc chars.data.toList) :
  Calls Tryz.prog 284 #[.string s,.string chars] w fun e w'=>e=.returned (.int .i64 (Lib.indexAny s.data.toList chars.data.toList))/\aA w w':=by
 have HC:Hid (Asc chars.data.toList):=hc
 clear hc
 have hemp:chars.toList.isEmpty=false:=dH (fun e=>by have:=aO chars;rw [e] at this;simp at this;omega)
 have hn1:((chars.size:Int)==1)=false:=beq_eq_false_iff_ne.2 (by omega)
 have h8z:decide ((8:Int)<(s.size:Int))=false:=decide_eq_false (by omega)
 go_enter Tryz.func284,Tryz.ntmps284
 go_wp2_with (go_at_call 285;refine (Tryz.strings_shouldUseASCIISet _ _).mono ?_;rintro e w' ⟨rfl,hw⟩;rw [hw,h8z];clear hw)
 go_loopg [9,10] s.size (fun g _ _ wx=> ∃ i:Nat,i+g=s.size/\wx.heap[w.heap.size]? = some (.stringIter s i)/\aA w wx/\Lib.NoAny s.data.toList chars.data.toList i)
 case atStart=>exact ⟨0,by omega,World.iter_heap _ _ _,aA.alloc _ _,Lib.NoAny.zero _ _⟩
 case round=>
  obtain ⟨i,hig,hit,hkw,hno⟩:=hrel
  have HN:Hid (Lib.NoAny s.data.toList chars.data.toList i):=hno
  have HI:Hid (wr.heap[w.heap.size]? = some (.stringIter s i)):=hit
  clear hno hit
  by_cases hi:i<s.size
  ·have kw1:aA w (wr.iterAt w.heap.size s (i+(Utf8.decode s i).2)):=Lib.below_iterAt hkw (Nat.le_refl _) _ _
   have hwi:w.heap.size<wr.heap.size:=(Array.getElem?_eq_some_iff.1 HI.out).1
   by_cases hx:(s[i]).toNat<128
   ·have hnx:=fun ty=>Lib.run_next_ascii_at (P:=Tryz.prog) wr w.heap.size s i ty HI.out hi hx
    have hcon:=Lib.contains_iff_indexByte chars.data.toList s[i]
    have hback:(((s[i]).toNat:Int)).toNat.toUInt8=s[i]:=by simp
    have kw2:aA w (wr.iterAt w.heap.size s (i+1)):=Lib.below_iterAt hkw (Nat.le_refl _) _ _
    have HX:Hid (s.data.toList[i]? = some s[i]):=Lib.data_getElem? s i hi
    have hit2:(wr.iterAt w.heap.size s (i+1)).heap[w.heap.size]? = some (.stringIter s (i+1)):=Lib.iterAt_heap wr _ s i (i+1) HI.out
    have HI2:Hid ((wr.iterAt w.heap.size s (i+1)).heap[w.heap.size]? = some (.stringIter s (i+1))):=hit2
    clear hit2
    cases hin:chars.data.toList.contains s[i]
    ·rw [hin] at hcon
     have hlt : ¬ ((0:Int)<=Lib.indexByte chars.data.toList s[i]):=of_decide_eq_false hcon.symm
     have HIN:Hid (chars.data.toList.contains s[i]=false):=hin
     clear hcon hin
     go_wp2_with (go_at_call 208;refine (Tryz.strings_IndexRune_ascii _ _ _ (by omega) (by omega)).mono ?_;rintro e w' ⟨rfl,hw⟩;rw [hw,hback];clear hw)
     go_roundg (gk-1)
     case measure=>omega
     case rel=>exact ⟨i+1,by omega,HI2.out,kw2,HN.out.succ HX.out HIN.out⟩
    ·rw [hin] at hcon
     have hge:(0:Int)<=Lib.indexByte chars.data.toList s[i]:=of_decide_eq_true hcon.symm
     have HIN:Hid (chars.data.toList.contains s[i]=true):=hin
     clear hcon hin
     go_wp2_with (go_at_call 208;refine (Tryz.strings_IndexRune_ascii _ _ _ (by omega) (by omega)).mono ?_;rintro e w' ⟨rfl,hw⟩;rw [hw,hback];clear hw)
     go_ret
     exact ⟨aC (Lib.indexAny_hit HN.out HX.out HIN.out).symm,kw2⟩
   ·have hx':128<=(s[i]).toNat:=by omega
    have hnx:=fun ty=>Lib.run_next_any_at (P:=Tryz.prog) wr w.heap.size s i ty HI.out hi
    obtain ⟨d1,d2⟩:=decode_high s i hi hx'
    have d3:=decode_le s i
    have HD:Hid (∀ j,j<(Utf8.decode s i).2->i+j<s.size/\128<=(s.get! (i+j)).toNat):=sW s i hi hx'
    have d4:i+(Utf8.decode s i).2<=s.size:=by have:=(HD.out ((Utf8.decode s i).2-1) (by omega)).1;omega
    have hit2:(wr.iterAt w.heap.size s (i+(Utf8.decode s i).2)).heap[w.heap.size]? = some (.stringIter s (i+(Utf8.decode s i).2)):=Lib.iterAt_heap wr _ s i _ HI.out
    have HI2:Hid ((wr.iterAt w.heap.size s (i+(Utf8.decode s i).2)).heap[w.heap.size]? = some (.stringIter s (i+(Utf8.decode s i).2))):=hit2
    have hwi2:w.heap.size<(wr.iterAt w.heap.size s (i+(Utf8.decode s i).2)).heap.size:=by rw [Lib.iterAt_size];exact hwi
    clear hit2
    generalize (Utf8.decode s i).2=k at *
    generalize (Utf8.decode s i).1=r at *
    generalize wr.iterAt w.heap.size s (i+k)=W1 at *
    go_wp2_with fail
    refine (pN _ r _ HC.out d1 d3).mono ?_
    rintro e w2 ⟨rfl,hk2⟩
    have HI3:Hid (w2.heap[w.heap.size]? = some (.stringIter s (i+k))):=by show _=_;rw [hk2.block _ hwi2];exact HI2.out
    have kw3:aA w w2:=kw1.trans hk2
    go_wp2_with fail
    go_roundg (gk-k)
    case measure=>omega
    case rel=>exact ⟨i+k,by omega,HI3.out,kw3,aAk HC.out HN.out HD.out⟩
  ·have hnx:=fun ty=>Lib.run_next_end_at (P:=Tryz.prog) wr w.heap.size s i ty HI.out hi
   have hi':i=s.size:=by omega
   have HX:Hid (i=s.size):=hi'
   clear hi'
   go_wp2
   go_ret
   exact ⟨aC (Lib.indexAny_none (by rw [aO,← HX.out];exact HN.out)).symm,hkw⟩
theorem aEl : ∀ w,(zeroValue 204).run Tryz.prog w=.ok (.agg (Array.replicate 256 (.bool false))) w:=fun w=>by kernel_rfl
theorem mI (s chars:ByteArray) (w:World) (hs:s.size<=20000) (h1:1<=chars.size) (h3:chars.size<=100) (hc:Asc chars.data.toList) :
  Calls Tryz.prog 284 #[.string s,.string chars] w fun e w'=>e=.returned (.int .i64 (Lib.indexAny s.data.toList chars.data.toList))/\aA w w':=by
 by_cases e1:chars.size=1
 ·refine (Tryz.strings_IndexAny_one s chars w e1 hc).mono ?_
  rintro e w' ⟨rfl,rfl⟩
  exact ⟨rfl,aA.refl _⟩
 ·by_cases e8:s.size<=8
  ·exact pI s chars w (by omega) e8 hc
  ·refine (Tryz.strings_IndexAny_long aEl s chars w (by omega) (by omega) (by omega) (by omega) hc).mono ?_
   rintro e w' ⟨rfl,rfl⟩
   exact ⟨rfl,(aA.alloc _ _).alloc' _⟩
end Go.Proofs.YthaaaecmeafofaaGreatDoor
namespace Go.Proofs.YthaaaecmeafofaaGreatDoor
open Go.RowKit
theorem nZ (m:List UInt8) : ∀ l:List UInt8,(Lib.indexAny l m = -1/\ahead l m=l/\dD l m = [])∨∃ i:Nat,Lib.indexAny l m=(i:Int)/\i<l.length/\ahead l m=l.take i/\dD l m=l.drop i
 | []=>Or.inl ⟨rfl,rfl,rfl⟩
 | b :: l=>by
  cases hb:m.contains b
  ·have hb':(!m.contains b)=true:=by rw [hb];rfl
   rcases nZ m l with ⟨h1,h2,h3⟩ | ⟨i,h1,h2,h3,h4⟩
   ·left
    unfold ahead at h2;unfold dD at h3
    refine ⟨?_,?_,?_⟩
    ·unfold Lib.indexAny;rw [hb,h1];simp
    ·unfold ahead;rw [List.takeWhile_cons,if_pos hb',h2]
    ·unfold dD;rw [List.dropWhile_cons,if_pos hb',h3]
   ·right
    unfold ahead at h3;unfold dD at h4
    refine ⟨i+1,?_,by simp;omega,?_,?_⟩
    ·unfold Lib.indexAny
     rw [hb,h1,if_neg (by decide),if_neg (by rw [beq_iff_eq];omega)]
     omega
    ·unfold ahead;rw [List.takeWhile_cons,if_pos hb',h3];rfl
    ·unfold dD;rw [List.dropWhile_cons,if_pos hb',h4];rfl
  ·have hb' : ¬ (!m.contains b)=true:=by rw [hb];decide
   right
   refine ⟨0,?_,by simp,?_,?_⟩
   ·unfold Lib.indexAny;rw [hb];rfl
   ·unfold ahead;rw [List.takeWhile_cons,if_neg hb'];rfl
   ·unfold dD;rw [List.dropWhile_cons,if_neg hb'];rfl
theorem qG (s m:ByteArray) (w:World) (hs:s.size<=20000) (h1:1<=m.size) (h3:m.size<=100) (hm:Asc m.data.toList) :
  Calls Tryz.prog 280 #[.string s,.string m] w fun e w'=> ∃ a t:ByteArray,e=.returned (.tuple #[.string a,.string t])/\a.data.toList=ahead s.data.toList m.data.toList/\t.data.toList=dD s.data.toList m.data.toList/\aA w w':=by
 have HM:Hid (Asc m.data.toList):=hm
 clear hm
 have hl:=aO s
 rcases nZ m.data.toList s.data.toList with ⟨e1,e2,e3⟩ | ⟨i,e1,e2,e3,e4⟩
 ·have H1:Hid (Lib.indexAny s.data.toList m.data.toList = -1):=e1
  have H2:Hid (ahead s.data.toList m.data.toList=s.data.toList):=e2
  have H3:Hid (dD s.data.toList m.data.toList = []):=e3
  clear e1 e2 e3 hl
  go_enter Tryz.func280,Tryz.ntmps280
  go_wp2_with fail
  refine (mI _ _ _ hs h1 h3 HM.out).mono ?_
  rintro e w1 ⟨rfl,k1⟩
  rw [H1.out]
  go_wp2_with fail
  go_ret2
  exact ⟨s,⟨#[]⟩,rfl,H2.out.symm,H3.out.symm,k1⟩
 ·rw [hl] at e2
  have H1:Hid (Lib.indexAny s.data.toList m.data.toList=(i:Int)):=e1
  have H2:Hid (ahead s.data.toList m.data.toList=s.data.toList.take i):=e3
  have H3:Hid (dD s.data.toList m.data.toList=s.data.toList.drop i):=e4
  clear e1 e3 e4 hl
  have q1:(0:Int)<=(i:Int):=by omega
  have q2:(i:Int)<=(s.size:Int):=by omega
  have q3 : ¬ ((i:Int)<0):=by omega
  go_enter Tryz.func280,Tryz.ntmps280
  go_wp2_with fail
  refine (mI _ _ _ hs h1 h3 HM.out).mono ?_
  rintro e w1 ⟨rfl,k1⟩
  rw [H1.out]
  go_wp2_with fail
  go_region
  go_wp2
  go_ret2
  exact ⟨s.extract 0 i,s.extract i s.size,rfl,by rw [H2.out,Lib.extract_data];simp,by rw [H3.out,Lib.extract_to_end],k1.drew⟩
def aP (b:Nat) (n:ByteArray) (op v sl:Int) (f:ByteArray) (on:Bool) (w:World):Prop:=w.heap[b]? = some (.cells #[.string n,.int .i64 op,.int .i64 v,.int .i64 sl,.string f,.bool on] 71 (0,0))
theorem aP.facts {b:Nat} {n f:ByteArray} {op v sl:Int} {on:Bool} {w:World} (h:aP b n op v sl f on w) :
  (∀ o,w.cell? ⟨b,o,none⟩=(#[.string n,.int .i64 op,.int .i64 v,.int .i64 sl,.string f,.bool on]:Array Value)[o]?)/\(∀ o,w.frozen? ⟨b,o,none⟩=false)/\b<w.heap.size:=by
 unfold aP at h
 refine ⟨fun o=>by simp [World.cell?,h],fun o=>by simp [World.frozen?,h],(Array.getElem?_eq_some_iff.1 h).1⟩
theorem aF {b:Nat} {cs:Array Value} {T:TypeId} {w:World} (h:w.heap[b]? = some (.cells cs T (0,0))) (i:Nat) (x:Value):(w.setCell ⟨b,i,none⟩ x).heap[b]? = some (.cells (cs.setIfInBounds i x) T (0,0)):=by
 simp [World.setCell,Array.getElem?_modify,h]
theorem aP.below {b B:Nat} {n f:ByteArray} {op v sl:Int} {on:Bool} {w w':World} (h:aP b n op v sl f on w) (k:Below B w w') (hB:b<B):aP b n op v sl f on w':=by
 unfold aP at *;rw [k.block b hB];exact h
theorem aM (w:World) (b i:Nat) (x:Value):Below b w (w.setCell ⟨b,i,none⟩ x):=(Below.refl _ _).setCell (p:=⟨b,i,none⟩) (Nat.le_refl _) x
theorem aEq (c d:UInt8):((c.toNat:Int)==(d.toNat:Int))=decide (some c=some d):=by
 by_cases e:c=d
 ·subst e;simp
 ·have : ¬ c.toNat=d.toNat:=fun h=>e (UInt8.toNat_inj.1 h)
  rw [decide_eq_false (fun h=>e (Option.some.inj h)),beq_eq_false_iff_ne]
  omega
theorem nK (t:ByteArray) (h:0<t.size):t.data.toList=t[0] :: t.data.toList.drop 1:=by
 have:=kV t 0 h
 rw [← List.take_append_drop 1 t.data.toList]
 rw [this]
 simp
theorem tL (b:Nat) (n f:ByteArray) (op v sl:Int) (on:Bool) (t:ByteArray) (w:World) (h:aP b n op v sl f on w) :
  Calls Tryz.prog 281 #[.pointer (some ⟨b,0,none⟩),.string t] w fun e w'=>e=.returned (.bool (hZ t.data.toList))/\(∃ (f':ByteArray) (on':Bool),aP b n op v sl f' on' w'/\(t.data.toList = []->f'=f/\on'=on)/\(t.data.toList ≠ []->f'.data.toList=t.data.toList.drop 1/\on'=onV t.data.toList))/\Below b w w':=by
 by_cases ht:t.data.toList = []
 ·have he:=gK ht
  have HF:Hid (hZ t.data.toList=true):=by show _=_;simp [hZ,ht]
  have HT:Hid (t.data.toList = []):=ht
  clear ht
  go_enter Tryz.func281,Tryz.ntmps281
  go_wp2
  go_ret
  exact ⟨aG HF.out.symm,⟨f,on,h,fun _=>⟨rfl,rfl⟩,fun e=>absurd HT.out e⟩,Below.refl _ _⟩
 ·have he:=dH ht
  have hp:0<t.size:=by
   rcases Nat.eq_zero_or_pos t.size with e | e
   ·exact absurd (List.length_eq_zero_iff.1 (by rw [aO];exact e)) ht
   ·exact e
  have HT:Hid (t.data.toList ≠ []):=ht
  have HH:Hid (t.data.toList=t[0] :: t.data.toList.drop 1):=nK t hp
  obtain ⟨hc,hz,hb⟩:=h.facts
  have H:Hid (aP b n op v sl f on w):=h
  have q1:(1:Int)<=(t.size:Int):=by omega
  have q2:(0:Int)<(t.size:Int):=by omega
  clear ht h
  go_enter Tryz.func281,Tryz.ntmps281
  go_wp2_with fail
  go_region
  go_wp2_with fail
  go_ret
  refine ⟨aG ?_,⟨t.extract 1 t.size,(((t[0]).toNat:Int)==43),?_,fun e=>absurd e HT.out,fun _=>⟨by rw [Lib.extract_to_end],?_⟩⟩,?_⟩
  ·rw [Lib.toList_data,Lib.extract_to_end]
   unfold hZ
   rw [decide_eq_false HT.out]
   cases t.data.toList.drop 1<;>rfl
  ·exact aF (aF H.out 5 _) 4 _
  ·rw [HH.out]
   exact aEq _ 43
  ·exact ((aM w b 5 _).trans (aM _ b 4 _)).drew
theorem tN (b:Nat) (n f:ByteArray) (op v sl:Int) (on:Bool) (t:ByteArray) (w:World) (h:aP b n op v sl f on w) (hE:Env w) (hs:t.size<=20000) :
  Calls Tryz.prog 282 #[.pointer (some ⟨b,0,none⟩),.string t] w fun e w'=>e=.returned (.bool (fH t.data.toList))/\(∃ sl':Int,aP b n op v sl' f on w'/\(t.data.toList = []->sl'=sl)/\(t.data.toList ≠ []->fH t.data.toList=true->sl'=eJ (t.data.toList.drop 1)))/\Below b w w':=by
 by_cases ht:t.data.toList = []
 ·have he:=gK ht
  have HF:Hid (fH t.data.toList=true):=by show _=_;simp [fH,ht]
  have HT:Hid (t.data.toList = []):=ht
  clear ht
  go_enter Tryz.func282,Tryz.ntmps282
  go_wp2
  go_ret
  exact ⟨aG HF.out.symm,⟨sl,h,fun _=>rfl,fun e=>absurd HT.out e⟩,Below.refl _ _⟩
 ·have he:=dH ht
  have hp:0<t.size:=by
   rcases Nat.eq_zero_or_pos t.size with e | e
   ·exact absurd (List.length_eq_zero_iff.1 (by rw [aO];exact e)) ht
   ·exact e
  have HT:Hid (t.data.toList ≠ []):=ht
  have HS:Hid (fH t.data.toList=(eB (t.data.toList.drop 1)&&decide (eJ (t.data.toList.drop 1)≠0))):=by show _=_;unfold fH;rw [decide_eq_false ht];rfl
  have hb:b<w.heap.size:=h.facts.2.2
  have H:Hid (aP b n op v sl f on w):=h
  have HE:Hid (Env w):=hE
  have q1:(1:Int)<=(t.size:Int):=by omega
  have hx:(t.extract 1 t.size).size<=20000:=by rw [← aO,Lib.extract_to_end,List.length_drop,aO];omega
  clear ht h hE
  go_enter Tryz.func282,Tryz.ntmps282
  go_wp2_with fail
  refine (fD _ _ HE.out hx).mono ?_
  rintro e w1 ⟨k,rfl,hk,k1⟩
  rw [Lib.extract_to_end] at hk ⊢
  have H1:Hid (aP b n op v sl f on w1):=H.out.below k1 hb
  obtain ⟨hc,hz,_⟩:=H1.out.facts
  cases hn:eB (t.data.toList.drop 1)
  ·have HN:Hid (eB (t.data.toList.drop 1)=false):=hn
   clear hn hk
   go_wp2
   go_ret
   refine ⟨aG (by rw [HS.out,HN.out];rfl),⟨k,aF H1.out 3 _,fun e=>absurd e HT.out,fun _ e=> ?_⟩,(k1.mono (Nat.le_of_lt hb)).trans (aM w1 b 3 _)⟩
   rw [HS.out,HN.out] at e;cases e
  ·have HN:Hid (eB (t.data.toList.drop 1)=true):=hn
   have hk':=hk hn
   have HK:Hid (k=eJ (t.data.toList.drop 1)):=hk'
   clear hn hk hk'
   go_wp2
   go_ret
   refine ⟨aG (by rw [HS.out,HN.out,← HK.out];simp;rfl),⟨k,aF H1.out 3 _,fun e=>absurd e HT.out,fun _ _=>HK.out⟩,(k1.mono (Nat.le_of_lt hb)).trans (aM w1 b 3 _)⟩
end Go.Proofs.YthaaaecmeafofaaGreatDoor
