/- Steps of the proof: TreeMeant, TreeLine, TreeParse, BoxAt. -/
import Derived.Test.YthaaaecmeafofaaGreatDoorRb08
import Derived.Maps.AppendAt
import Derived.Deep.RegionHeld3
set_option maxHeartbeats 16000000
set_option maxRecDepth 100000
namespace Go.Proofs.YthaaaecmeafofaaGreatDoor
open Go.RowKit Go.Sort
def jI (p:PK) (a:At):Bool:=(p.n.toList==a.n.toList)&&(mN a.op a.v a.sl p.v p.sl&&(a.f.toList.isEmpty||hD p.fl a.f.data.toList))
def bX (ps:List PK) (a:At):Nat->List Int
 | 0=> []
 | k+1=>bX ps a k++(if jI (ps.getD k PK.zero) a=true then [(k:Int)] else [])
def lS (ps:List PK) (a:At):Int:=if dA ps≠0 then dA ps else iE a
def eZ (v:Value) (zs:List Int) (w:World):Prop:=(zs = []/\v=.slice none 0 0)∨∃ g cap,v=.slice (some ⟨g,0,none⟩) zs.length cap/\g<w.heap.size/\∀ (j:Nat) x,zs[j]? = some x->w.cell? ⟨g,j,none⟩=some (.int .i64 x)
theorem eZ.keep {v:Value} {zs:List Int} {w w':World} (h:eZ v zs w) (k:aA w w'):eZ v zs w':=by
 rcases h with h | ⟨g,cap,h1,h2,h3⟩
 ·exact Or.inl h
 ·exact Or.inr ⟨g,cap,h1,Nat.lt_of_lt_of_le h2 k.size,fun j x hx=>(k.cell (p:=⟨g,j,none⟩) h2).trans (h3 j x hx)⟩
theorem eZ.len {v:Value} {zs:List Int} {w:World} (h:eZ v zs w) : ∃ p cap,v=.slice p zs.length cap:=by
 rcases h with ⟨rfl,h⟩ | ⟨g,cap,h,-⟩
 ·exact ⟨none,0,h⟩
 ·exact ⟨_,cap,h⟩
theorem aCf (S:Nat->Prop) (p:PK) (cs:List Value) (an af:ByteArray) (aop av asl:Int) (aon:Bool) (w:World) (hS : ∀ b,S b->b<w.heap.size) (hp:dR S w p cs) :
  Calls Tryz.prog 169 #[.agg cs.toArray,.agg #[.string an,.int .i64 aop,.int .i64 av,.int .i64 asl,.string af,.bool aon]] w fun e w'=>e=.returned (.bool (jI p ⟨an,aop,av,asl,af,aon⟩))/\aA w w':=by
 obtain ⟨k,a,fl,nt,kids,kp,fp,kc,fc,-,hfl,rfl,hf,-⟩:=hp.spelt
 have HF:=hid hf
 clear hp hf
 rcases p with ⟨n,v,sl,fs,nd⟩
 have HM:Hid (jI ⟨n,v,sl,fs,nd⟩ ⟨an,aop,av,asl,af,aon⟩=((n.toList==an.toList)&&(mN aop av asl v sl&&(af.toList.isEmpty||hD fs af.data.toList)))):=rfl
 have KW:=hid ((aA.alloc w (.cells #[.string n,.int .i64 v,.int .i64 sl,.slice fp fs.length fc,.int .i64 k,.string a.n,.int .i64 a.op,.int .i64 a.v,.int .i64 a.sl,.string a.f,.bool a.on,.string fl,.bool nt,.slice kp kids.length kc] 76)).alloc' (.cells #[.string an,.int .i64 aop,.int .i64 av,.int .i64 asl,.string af,.bool aon] 71))
 cases h1:(n.toList==an.toList)
 ·rw [h1] at HM
  go_enter Tryz.func169,Tryz.ntmps169
  go_wp2_with fail
  go_ret
  exact ⟨aK (by rw [HM.out];rfl),KW.out⟩
 ·rw [h1] at HM
  go_enter Tryz.func169,Tryz.ntmps169
  go_wp2_with fail
  refine aX (fun W'=>aA w W'/\aN w.heap.size #[.string n,.int .i64 v,.int .i64 sl,.slice fp fs.length fc,.int .i64 k,.string a.n,.int .i64 a.op,.int .i64 a.v,.int .i64 a.sl,.string a.f,.bool a.on,.string fl,.bool nt,.slice kp kids.length kc] W'/\aN (w.heap.size+1) #[.string an,.int .i64 aop,.int .i64 av,.int .i64 asl,.string af,.bool aon] W') ⟨(aA.alloc _ _).alloc' _,(aN.new _ _ _).keep (aA.alloc _ _) (by simp),?_⟩ ?_
  ·have:=aN.new (w.alloc (.cells #[.string n,.int .i64 v,.int .i64 sl,.slice fp fs.length fc,.int .i64 k,.string a.n,.int .i64 a.op,.int .i64 a.v,.int .i64 a.sl,.string a.f,.bool a.on,.string fl,.bool nt,.slice kp kids.length kc] 76)) #[.string an,.int .i64 aop,.int .i64 av,.int .i64 asl,.string af,.bool aon] 71
   rw [aC] at this;exact this
  rintro W0 ⟨k0,b0,b1⟩
  refine (aBt _ _ _ _ _ _ _ _ W0).mono ?_
  rintro e w1 ⟨rfl,k1⟩
  have K1:=hid (k0.trans k1)
  have B0:=hid (b0.keep k1 b0.1)
  have B1:=hid (b1.keep k1 b1.1)
  clear k0 b0 b1 k1 KW
  generalize mN aop av asl v sl=β at HM ⊢
  have hc0:=B0.out.2
  have hl0:=B0.out.1
  have hc1:=B1.out.2
  have hl1:=B1.out.1
  cases β
  ·go_wp2_with fail
   go_ret
   exact ⟨aK (by rw [HM.out];rfl),K1.out⟩
  ·cases h2:af.toList.isEmpty
   ·rw [h2] at HM
    have h3:(af.toList == [])=false:=by simpa using h2
    go_wp2_with fail
    refine (pV S fs _ af w1 (HF.out.keep hS K1.out)).mono ?_
    rintro e w2 ⟨rfl,hw2⟩
    rw [hw2]
    clear hw2
    go_wp2_with fail
    go_ret
    exact ⟨aK (by rw [HM.out];simp),K1.out⟩
   ·rw [h2] at HM
    have h3:(af.toList == [])=true:=by simpa using h2
    go_wp2_with fail
    go_ret
    exact ⟨aK (by rw [HM.out];rfl),K1.out⟩
theorem dG:(Tryz.prog.info? 3).map (fun i=>(i.zero,i.size,i.bytes))=some (some (.int .i64 0),1,8):=by kernel_rfl
def aU (B:Nat) (v:Value) (zs:List Int) (w:World):Prop:=w.ownsRow B 3 1 v zs.length (zs.map (Value.int .i64))
theorem dB {s:Int} (u:Value) (h:u ∈ [Value.int .i64 s]):u.oneCell'=true:=by rw [List.mem_singleton.1 h];rfl
theorem aU.ints {B:Nat} {v:Value} {zs:List Int} {w:World} (h:aU B v zs w):eZ v zs w:=by
 obtain ⟨hlen,⟨rfl,h0⟩ | ⟨g,cap,cur,rfl,hbase,hb,hn1,hn2,hn3,hn4⟩⟩:=h
 ·exact Or.inl ⟨List.length_eq_zero_iff.1 h0,rfl⟩
 ·refine Or.inr ⟨g,cap,rfl,(Array.getElem?_eq_some_iff.1 hb).1,fun j x hx=> ?_⟩
  have hj:j<zs.length:=(List.getElem?_eq_some_iff.1 hx).1
  have h1:=congrArg (·[j]?) hn4
  simp only [Nat.mul_one,List.getElem?_take,List.getElem?_map,hx,Option.map_some] at h1
  rw [if_pos hj] at h1
  simp only [World.cell?,hb]
  simpa using h1
theorem gN {B:Nat} {v v':Value} {zs:List Int} {x:Int} {w w':World} {o:Obj} (hB:B<=w.heap.size) (hw:aU B v zs w) (h1:w'.ownsRow B 3 1 v' (zs.length+1) (zs.map (Value.int .i64) ++ [.int .i64 x])) (h2:(w.alloc o).grownBy w' v.ownBlock) :
  aU B v' (zs ++ [x]) w'/\Below B w w':=by
 refine ⟨?_,?_⟩
 ·unfold aU
  rw [List.length_append,List.map_append]
  exact h1
 ·exact Below.grown ((Below.refl B w).alloc hB o) h2 (by have:=aC w o;omega) (fun g hg=>(cV hw hg).1)
theorem gO (ps:List PK) (a:At) : ∀ k,(bX ps a k).length<=k
 | 0=>by simp [bX]
 | k+1=>by
  have:=gO ps a k
  rw [bX,List.length_append]
  split<;>simp<;>omega
def aIs (ps:List PK) (a:At) (w:World) (e:Ending) (w':World):Prop:=
 ∃ v,e=.returned (.tuple #[v,.int .i64 (lS ps a)])/\(lS ps a≠0->v=.slice none 0 0)/\(lS ps a=0->aU (w.heap.size+2) v (bX ps a ps.length) w')/\aA w w'
theorem aFn (S:Nat->Prop) (ps:List PK) (v:Value) (an af:ByteArray) (aop av asl:Int) (aon:Bool) (w:World) (hS : ∀ b,S b->b<w.heap.size) (hp:bC S w ps v) :
  Calls Tryz.prog 136 #[.agg #[v],.agg #[.string an,.int .i64 aop,.int .i64 av,.int .i64 asl,.string af,.bool aon]] w fun e w'=>aIs ps ⟨an,aop,av,asl,af,aon⟩ w e w':=by
 obtain ⟨i0,hi,hz0,hz1,hz2⟩:=info_parts dG
 have HP:=hid hp
 obtain ⟨p,cap,rfl,hlen⟩:=hp.len
 have hl8:dA ps=0->ps.length<=8:=fun h=>(dN h).1
 have HE:Hid (lS ps ⟨an,aop,av,asl,af,aon⟩=if dA ps≠0 then dA ps else chk an.data.toList aop av asl af.data.toList aon):=rfl
 clear hp
 go_enter Tryz.func136,Tryz.ntmps136
 go_wp2_with fail
 refine aX (fun W'=>aA w W'/\aE w.heap.size 24 (.slice p ps.length cap) W'/\aN (w.heap.size+1) #[.string an,.int .i64 aop,.int .i64 av,.int .i64 asl,.string af,.bool aon] W') ⟨(aA.alloc _ _).alloc' _,(aE.new _ _ _).keep (aA.alloc _ _) (by simp),?_⟩ ?_
 ·have:=aN.new (w.alloc (.cells #[.slice p ps.length cap] 24)) #[.string an,.int .i64 aop,.int .i64 av,.int .i64 asl,.string af,.bool aon] 71
  rw [aC] at this;exact this
 rintro W0 ⟨k0,v0,b0⟩
 refine (kS S ps _ W0 (fun b hb=>Nat.lt_of_lt_of_le (hS b hb) k0.size) (HP.out.keep hS k0)).mono ?_
 rintro e w1 ⟨rfl,k1⟩
 have K1:=hid (k0.trans k1)
 have V1:=hid (v0.keep k1 v0.facts.2.2)
 have B1:=hid (b0.keep k1 b0.1)
 clear k0 v0 b0 k1
 generalize hct:dA ps=ct at HE hl8 ⊢
 obtain ⟨hcv,-,hlv⟩:=V1.out.facts
 have hcb:=B1.out.2
 have hlb:=B1.out.1
 by_cases hz:ct=0
 ·subst hz
  have h8:=hl8 rfl
  clear hl8
  go_wp2_with fail
  clear hcv hcb
  refine (nO an af aop av asl aon w1).mono ?_
  rintro e w2 ⟨rfl,k2⟩
  have K2:=hid (K1.out.trans k2)
  have V2:=hid (V1.out.keep k2 V1.out.facts.2.2)
  have B2:=hid (B1.out.keep k2 B1.out.1)
  clear k2 K1 V1 B1
  generalize hca:chk an.data.toList aop av asl af.data.toList aon=ca at HE ⊢
  obtain ⟨hcv,-,hlv2⟩:=V2.out.facts
  have hcb:=B2.out.2
  by_cases hza:ca=0
  ·subst hza
   have HE0:Hid (lS ps ⟨an,aop,av,asl,af,aon⟩=0):=by show _=_;rw [HE.out];simp
   clear HE hca hct
   go_wp2_with fail
   go_loopg [8,24] ps.length (fun gk pv i wr=> ∃ j:Nat,j+gk=ps.length/\i=.int .i64 j/\aU (w.heap.size+2) pv (bX ps ⟨an,aop,av,asl,af,aon⟩ j) wr/\aN (w.heap.size+1) #[.string an,.int .i64 aop,.int .i64 av,.int .i64 asl,.string af,.bool aon] wr/\aA w wr)
   case atStart=>exact ⟨0,by simp,rfl,World.ownsRow_nil _ _ _ _,B2.out,K2.out⟩
   case round=>
    obtain ⟨j,hj,rfl,hown,hbx,hkp⟩:=hrel
    have HOWN:=hid hown
    have HBX:=hid hbx
    have HKP:=hid hkp
    clear hown hbx hkp B2 K2 V2 hcv hcb hlv hlb hlv2
    by_cases hlt:j<ps.length
    ·obtain ⟨b,off,cap2,hv2,hb2,-,hrow2⟩:=(HP.out.keep hS HKP.out).get hlt
     cases hv2
     obtain ⟨cs,hcs,hpj⟩:=hrow2 j hlt
     have HML:Hid (bX ps ⟨an,aop,av,asl,af,aon⟩ (j+1)=bX ps ⟨an,aop,av,asl,af,aon⟩ j++(if jI ps[j] ⟨an,aop,av,asl,af,aon⟩=true then [(j:Int)] else [])):=by
      show _=_
      rw [bX,List.getD_eq_getElem?_getD,List.getElem?_eq_getElem hlt,Option.getD_some]
     have hml:=gO ps ⟨an,aop,av,asl,af,aon⟩ j
     generalize ps[j]=q at hpj HML
     have HPJ:=hid hpj
     obtain ⟨k,a,fl,nt,kids,kp,fp,kc,fc,-,hfl,rfl,-,-⟩:=hpj.spelt
     obtain ⟨c0,c1,c2,c3,c4,c5,c6,c7,c8,c9,c10,c11,c12,c13⟩:=eO hcs
     rcases q with ⟨n,v,sl,fs,nd⟩
     simp only at hfl c0 c1 c2 c3
     have hcb:=HBX.out.2
     have hlb:=HBX.out.1
     have hsw:w.heap.size<=wr.heap.size:=HKP.out.size
     have hS2 : ∀ b,S b->b<wr.heap.size:=fun b hb=>Nat.lt_of_lt_of_le (hS b hb) hsw
     clear hrow2 hcs hpj
     go_wp2_with fail
     refine aX (fun W'=>aA wr W') (aA.alloc _ _) ?_
     intro W3 k3
     refine (aCf S _ _ an af aop av asl aon W3 (fun b hb=>Nat.lt_of_lt_of_le (hS2 b hb) k3.size) (HPJ.out.keep hS2 k3)).mono ?_
     rintro e w4 ⟨rfl,k4⟩
     have K4':=hid (k3.trans k4)
     have K4:=hid (HKP.out.trans K4'.out)
     have OWN4:Hid (aU (w.heap.size+2) u8 (bX ps ⟨an,aop,av,asl,af,aon⟩ j) w4):=bK HOWN.out K4'.out
     have BX4:=hid (HBX.out.keep K4'.out HBX.out.1)
     clear k3 k4 c0 c1 c2 c3 c4 c5 c6 c7 c8 c9 c10 c11 c12 c13 hcb
     generalize jI ⟨n,v,sl,fs,nd⟩ ⟨an,aop,av,asl,af,aon⟩=β at HML ⊢
     cases β
     ·have HM2:Hid (bX ps ⟨an,aop,av,asl,af,aon⟩ (j+1)=bX ps ⟨an,aop,av,asl,af,aon⟩ j):=by show _=_;rw [HML.out];simp
      clear HML
      go_wp2_with fail
      go_roundg (ps.length-(j+1))
      case rel=>exact ⟨j+1,by omega,by go_num,by rw [HM2.out];exact OWN4.out,BX4.out,K4.out⟩
      case measure=>omega
     ·have HM2:Hid (bX ps ⟨an,aop,av,asl,af,aon⟩ (j+1)=bX ps ⟨an,aop,av,asl,af,aon⟩ j ++ [(j:Int)]):=by show _=_;rw [HML.out];simp
      have hsw4:w.heap.size+2<=w4.heap.size:=BX4.out.1
      clear HML
      generalize bX ps ⟨an,aop,av,asl,af,aon⟩ j=zs at hml OWN4 HM2
      go_wp2_with (at_builtin;refine wpList_append_own_at _ rfl _ _ 37 rfl (w.heap.size+2) 3 i0 (.int .i64 0) 1 8 Tryz.underlying37 hi hz0 hz1 hz2 rfl (by decide) u8 zs.length (zs.map (Value.int .i64)) rfl (World.ownsRow.alloc OWN4.out _) ⟨w4.heap.size,0,none⟩ 1 1 [.int .i64 j] rfl rfl qN dB (by unfold maxLen;omega) (by omega) (by have:=aC w4 (.cells #[.int .i64 j] 3);omega) ?_)
      intro v' w5 h5 h6 _ _
      obtain ⟨h7,h8'⟩:=gN hsw4 OWN4.out h5 h6
      have H7:=hid h7
      have K5:Hid (aA w w5):=Below.trans K4.out (h8'.mono (by omega))
      have BX5:Hid (aN (w.heap.size+1) #[.string an,.int .i64 aop,.int .i64 av,.int .i64 asl,.string af,.bool aon] w5):=BX4.out.keep h8' (by omega)
      clear h5 h6 h7 h8'
      go_wp2_with fail
      go_roundg (ps.length-(j+1))
      case rel=>exact ⟨j+1,by omega,by go_num,by rw [HM2.out];exact H7.out,BX5.out,K5.out⟩
      case measure=>omega
    ·go_wp2_with fail
     go_ret2
     obtain rfl:j=ps.length:=by omega
     exact ⟨_,by rw [HE0.out];rfl,fun h=>absurd HE0.out h,fun _=>HOWN.out,HKP.out⟩
  ·have HX:Hid (lS ps ⟨an,aop,av,asl,af,aon⟩=ca):=by show _=_;rw [HE.out];simp
   have hz1:(ca==0)=false:=by simp [hza]
   have hz2':(ca != 0)=true:=by simp [hza]
   have HZ:=hid hza
   clear hza HE hca
   go_wp2_with fail
   go_ret2
   exact ⟨_,by rw [HX.out];rfl,fun _=>rfl,fun h=>absurd (HX.out.symm.trans h) HZ.out,K2.out⟩
 ·have HX:Hid (lS ps ⟨an,aop,av,asl,af,aon⟩=ct):=by show _=_;rw [HE.out,if_pos hz]
  have hz1:(ct==0)=false:=by simp [hz]
  have hz2':(ct != 0)=true:=by simp [hz]
  have HZ:=hid hz
  clear hz HE hct hl8
  go_wp2_with fail
  go_ret2
  exact ⟨_,by rw [HX.out];rfl,fun _=>rfl,fun h=>absurd (HX.out.symm.trans h) HZ.out,K1.out⟩
end Go.Proofs.YthaaaecmeafofaaGreatDoor
namespace Go.Proofs.YthaaaecmeafofaaGreatDoor
open Go.RowKit
def iJ (b:Nat) (cs:Array Value) (w:World):Prop:=w.heap[b]? = some (.cells cs 76 (0,0))
theorem iJ.facts {b:Nat} {cs:Array Value} {w:World} (h:iJ b cs w):(∀ o,w.cell? ⟨b,o,none⟩=cs[o]?)/\(∀ o,w.frozen? ⟨b,o,none⟩=false)/\b<w.heap.size:=by
 unfold iJ at h
 refine ⟨fun o=>by simp [World.cell?,h],fun o=>by simp [World.frozen?,h],(Array.getElem?_eq_some_iff.1 h).1⟩
theorem iJ.new (w:World) (cs:Array Value):iJ w.heap.size cs (w.alloc (.cells cs 76)):=by
 show (w.heap.push _)[w.heap.size]? = _
 rw [Array.getElem?_push,if_pos rfl]
theorem iJ.keep {b B:Nat} {cs:Array Value} {w w':World} (h:iJ b cs w) (k:Below B w w') (hB:b<B):iJ b cs w':=by
 unfold iJ at h ⊢;rw [k.block b hB];exact h
theorem aPo {α:Type} {cs:Array α} (h:cs.size=14) : ∃ c0 c1 c2 c3 c4 c5 c6 c7 c8 c9 c10 c11 c12 c13,cs=#[c0,c1,c2,c3,c4,c5,c6,c7,c8,c9,c10,c11,c12,c13]:=by
 obtain ⟨l⟩:=cs
 match l,h with
 | [c0,c1,c2,c3,c4,c5,c6,c7,c8,c9,c10,c11,c12,c13],_=>exact ⟨c0,c1,c2,c3,c4,c5,c6,c7,c8,c9,c10,c11,c12,c13,rfl⟩
theorem iJ.set {b:Nat} {cs:Array Value} {w:World} (h:iJ b cs w) (hs:cs.size=14) (v0 v1 v2 v3 v4 v5 v6 v7 v8 v9 v10 v11 v12 v13:Value) :
  iJ b #[v0,v1,v2,v3,v4,v5,v6,v7,v8,v9,v10,v11,v12,v13] ((((((((((((((w.setCell ⟨b,0,none⟩ v0).setCell ⟨b,1,none⟩ v1).setCell ⟨b,2,none⟩ v2).setCell ⟨b,3,none⟩ v3).setCell ⟨b,4,none⟩ v4).setCell ⟨b,5,none⟩ v5).setCell ⟨b,6,none⟩ v6).setCell ⟨b,7,none⟩ v7).setCell ⟨b,8,none⟩ v8).setCell ⟨b,9,none⟩ v9).setCell ⟨b,10,none⟩ v10).setCell ⟨b,11,none⟩ v11).setCell ⟨b,12,none⟩ v12).setCell ⟨b,13,none⟩ v13)/\Below b w ((((((((((((((w.setCell ⟨b,0,none⟩ v0).setCell ⟨b,1,none⟩ v1).setCell ⟨b,2,none⟩ v2).setCell ⟨b,3,none⟩ v3).setCell ⟨b,4,none⟩ v4).setCell ⟨b,5,none⟩ v5).setCell ⟨b,6,none⟩ v6).setCell ⟨b,7,none⟩ v7).setCell ⟨b,8,none⟩ v8).setCell ⟨b,9,none⟩ v9).setCell ⟨b,10,none⟩ v10).setCell ⟨b,11,none⟩ v11).setCell ⟨b,12,none⟩ v12).setCell ⟨b,13,none⟩ v13)/\((((((((((((((w.setCell ⟨b,0,none⟩ v0).setCell ⟨b,1,none⟩ v1).setCell ⟨b,2,none⟩ v2).setCell ⟨b,3,none⟩ v3).setCell ⟨b,4,none⟩ v4).setCell ⟨b,5,none⟩ v5).setCell ⟨b,6,none⟩ v6).setCell ⟨b,7,none⟩ v7).setCell ⟨b,8,none⟩ v8).setCell ⟨b,9,none⟩ v9).setCell ⟨b,10,none⟩ v10).setCell ⟨b,11,none⟩ v11).setCell ⟨b,12,none⟩ v12).setCell ⟨b,13,none⟩ v13).heap.size=w.heap.size/\∀ k,k≠b->((((((((((((((w.setCell ⟨b,0,none⟩ v0).setCell ⟨b,1,none⟩ v1).setCell ⟨b,2,none⟩ v2).setCell ⟨b,3,none⟩ v3).setCell ⟨b,4,none⟩ v4).setCell ⟨b,5,none⟩ v5).setCell ⟨b,6,none⟩ v6).setCell ⟨b,7,none⟩ v7).setCell ⟨b,8,none⟩ v8).setCell ⟨b,9,none⟩ v9).setCell ⟨b,10,none⟩ v10).setCell ⟨b,11,none⟩ v11).setCell ⟨b,12,none⟩ v12).setCell ⟨b,13,none⟩ v13).heap[k]? = w.heap[k]? :=by
 obtain ⟨c0,c1,c2,c3,c4,c5,c6,c7,c8,c9,c10,c11,c12,c13,rfl⟩:=aPo hs
 refine ⟨?_,?_,?_,?_⟩
 ·have h10:=aG (aG (aG (aG (aG (aG (aG (aG (aG (aG (aG (aG (aG (aG (h) 0 v0) 1 v1) 2 v2) 3 v3) 4 v4) 5 v5) 6 v6) 7 v7) 8 v8) 9 v9) 10 v10) 11 v11) 12 v12) 13 v13
  simp only [List.setIfInBounds_toArray,List.set_cons_zero,List.set_cons_succ] at h10
  exact h10
 ·exact (((((((((((((((Below.refl b w).setCell (p:=⟨b,0,none⟩) (Nat.le_refl _) v0).setCell (p:=⟨b,1,none⟩) (Nat.le_refl _) v1).setCell (p:=⟨b,2,none⟩) (Nat.le_refl _) v2).setCell (p:=⟨b,3,none⟩) (Nat.le_refl _) v3).setCell (p:=⟨b,4,none⟩) (Nat.le_refl _) v4).setCell (p:=⟨b,5,none⟩) (Nat.le_refl _) v5).setCell (p:=⟨b,6,none⟩) (Nat.le_refl _) v6).setCell (p:=⟨b,7,none⟩) (Nat.le_refl _) v7).setCell (p:=⟨b,8,none⟩) (Nat.le_refl _) v8).setCell (p:=⟨b,9,none⟩) (Nat.le_refl _) v9).setCell (p:=⟨b,10,none⟩) (Nat.le_refl _) v10).setCell (p:=⟨b,11,none⟩) (Nat.le_refl _) v11).setCell (p:=⟨b,12,none⟩) (Nat.le_refl _) v12).setCell (p:=⟨b,13,none⟩) (Nat.le_refl _) v13)
 ·simp [World.setCell]
 ·intro k hk
  simp [World.setCell,Array.getElem?_modify,Ne.symm hk]
theorem cE {P:Program} {fn:Func} {R:Ending->World->Prop} {a:Act} {W:World} {v:Value} (T:World->Prop) (hT:T W) (hd:a.defers = []) (h : ∀ W',T W'->(results fn a.tmps).run P W'=.ok v W'/\R (.returned v) W'):bodyPost P fn R .ret a W:=
 bodyPost_ret (h W hT).1 hd (h W hT).2
def yH:List Value:= [.string ⟨#[]⟩,.int .i64 0,.int .i64 0,.slice none 0 0,.int .i64 0,.string ⟨#[]⟩,.int .i64 0,.int .i64 0,.int .i64 0,.string ⟨#[]⟩,.bool false,.string ⟨#[]⟩,.bool false,.slice none 0 0]
theorem aSu {l:List bR} (h:l.length≠5):aAk l=1:=by
 match l,h with
 | [],_=>rfl
 | [_],_=>rfl
 | [_,_],_=>rfl
 | [_,_,_],_=>rfl
 | [_,_,_,_],_=>rfl
 | [_,_,_,_,_],h=>exact absurd rfl h
 | _ :: _ :: _ :: _ :: _ :: _ :: _,_=>rfl
theorem sJ (sep:List UInt8) : ∀ (k:Nat) (l:List UInt8),(Lib.splitK sep 0 k l).length<=k+1
 | 0,_=>by simp [Lib.splitK]
 | k+1,l=>by
  rw [Lib.splitK]
  split
  ·simp
  ·have:=sJ sep k (l.drop ((Lib.index l sep).toNat+sep.length))
   simp only [List.length_cons];omega
theorem aFj (s:ByteArray) : ∃ ws:List ByteArray,ws=Lib.splitB ⟨#[32]⟩ 0 (min 5 (s.size+1)-1) s/\ws.length<=min 5 (s.size+1)/\ws.map (·.data.toList)=Lib.splitN s.data.toList [32] 5/\∀ x∈ws,x.size<=s.size:=by
 have hsz:s.data.toList.length=s.size:=aS s
 have hd:(Lib.splitB ⟨#[32]⟩ 0 (min 5 (s.size+1)-1) s).map (·.data.toList)=Lib.splitN s.data.toList [32] 5:=by
  unfold Lib.splitN;rw [hsz];exact Lib.splitB_data ⟨#[32]⟩ 0 _ s
 refine ⟨_,rfl,?_,hd,fun x hx=> ?_⟩
 ·have:=sJ [32] (min 5 (s.size+1)-1) s.data.toList
  have e:=congrArg List.length hd
  rw [List.length_map] at e
  unfold Lib.splitN at e
  rw [hsz] at e
  omega
 ·have:x.data.toList∈Lib.splitN s.data.toList [32] 5:=by rw [← hd];exact List.mem_map.2 ⟨x,hx,rfl⟩
  have h2:=pI _ _ _ this
  rw [aS,aS] at h2
  exact h2
theorem aBe {ws:List ByteArray} {m j:Nat} {x:ByteArray} (h:ws[j]? = some x):(Lib.cellsOf ws m)[j]? = some (.string x):=by
 have hj:=(List.getElem?_eq_some_iff.1 h).1
 unfold Lib.cellsOf
 rw [List.getElem?_toArray,List.getElem?_append_left (by simpa using hj),List.getElem?_map,h];rfl
theorem wQ (s:ByteArray) (w:World) (hM:kX w) (hs:s.size<=20000) :
  Calls Tryz.prog 192 #[.string s] w fun e w'=> ∃ v,e=.returned v/\cF (fun b=>w.heap.size<=b/\b<w'.heap.size) w' (fH s.data.toList) v/\aA w w':=by
 rcases mD s [] with ⟨h1,h2,h3⟩ | ⟨h1,h2,h3⟩
 ·have HF:Hid (fH s.data.toList = []):=by show _=_;unfold fH;rw [if_pos h1]
  clear h1
  go_enter Tryz.func192,Tryz.ntmps192
  go_wp2_with fail
  go_ret
  exact ⟨_,rfl,Or.inl ⟨HF.out,none,0,rfl⟩,aA.refl _⟩
 ·have HF:Hid (fH s.data.toList=(Lib.split s.data.toList [44]).map fun x=>⟨x.toArray⟩):=by show _=_;unfold fH;rw [if_neg h1]
  obtain ⟨hml,mm,hmm⟩:=hM
  have hl:=Lib.splitB_all ⟨#[44]⟩ (by decide) 0 _ s rfl
  have hc:=Lib.countB_le ⟨#[44]⟩ (by decide) s.size s (Nat.le_refl _)
  have hd:(Lib.splitB ⟨#[44]⟩ 0 (Lib.countB s ⟨#[44]⟩) s).map (·.data.toList)=Lib.split s.data.toList [44]:=Lib.splitB_data ⟨#[44]⟩ 0 _ s
  have HFS:Hid (fH s.data.toList=Lib.splitB ⟨#[44]⟩ 0 (Lib.countB s ⟨#[44]⟩) s):=by
   show _=_
   rw [HF.out,← hd,List.map_map]
   conv=>rhs;rw [← List.map_id (Lib.splitB ⟨#[44]⟩ 0 (Lib.countB s ⟨#[44]⟩) s)]
   apply List.map_congr_left
   intro x _;exact cL x
  have HL:=hid hl
  have HC:=hid hc
  clear h1 hd hl hc HF
  go_enter Tryz.func192,Tryz.ntmps192
  go_wp2_with fail
  refine (Tryz.strings_Split s ⟨#[44]⟩ mm w (by omega) hmm (by decide)).mono ?_
  rintro e w1 ⟨rfl,hw1⟩
  have K1:Hid (aA w w1):=by rw [hw1];exact aA.alloc _ _
  have HS1:Hid (w1.heap.size=w.heap.size+1):=by show _=_;rw [hw1,aC]
  have HC1:Hid (∀ (j:Nat) (x:ByteArray),(Lib.splitB ⟨#[44]⟩ 0 (Lib.countB s ⟨#[44]⟩) s)[j]? = some x->w1.cell? ⟨w.heap.size,0+j,none⟩=some (.string x)):=by
   intro j x hx
   rw [hw1]
   have:=lD (w:=w) (cs:=(Lib.splitB ⟨#[44]⟩ 0 (Lib.countB s ⟨#[44]⟩) s).map Value.string) (T:=9) j (.string x) (by simp [hx])
   rwa [Addr.add_mid] at this
  clear hw1 hmm
  go_wp2_with fail
  go_ret
  refine ⟨_,rfl,Or.inr ⟨w.heap.size,0,Lib.countB s ⟨#[44]⟩+1,?_,⟨⟨Nat.le_refl _,by rw [HS1.out];omega⟩,by rw [HFS.out,HL.out];exact Nat.le_refl _⟩,?_,?_⟩,K1.out⟩
  ·rw [HFS.out,HL.out];rfl
  ·rw [HFS.out,HL.out];have:=HC.out;omega
  ·rw [HFS.out];exact HC1.out
end Go.Proofs.YthaaaecmeafofaaGreatDoor
namespace Go.Proofs.YthaaaecmeafofaaGreatDoor
open Go.RowKit
def aLl (l:List UInt8) (w:World) (e:Ending) (w':World):Prop:=
 ∃ cs:List Value,e=.returned (.tuple #[.agg cs.toArray,.int .i64 (gJ l)])/\(gJ l=0->dR (fun b=>w.heap.size<=b/\b<w'.heap.size) w' (mV l) cs)/\(gJ l≠0->cs=yH)/\aA w w'
def aLr (b:Nat) (ws:List ByteArray) (w:World):Prop:=b<w.heap.size/\∀ (j:Nat) (x:ByteArray),ws[j]? = some x->w.cell? ⟨b,j,none⟩=some (.string x)
theorem aLr.keep {b:Nat} {ws:List ByteArray} {w w':World} (h:aLr b ws w) (k:aA w w'):aLr b ws w':=⟨Nat.lt_of_lt_of_le h.1 k.size,fun j x hx=>(k.cell (p:=⟨b,j,none⟩) h.1).trans (h.2 j x hx)⟩
structure jU (w5:World) (bp bw bn:Nat) (ws:List ByteArray) (nb:Array Value) (W:World):Prop where
 keep:aA w5 W
 pbox:iJ bp #[.string ⟨#[]⟩,.int .i64 0,.int .i64 0,.slice none 0 0,.int .i64 0,.string ⟨#[]⟩,.int .i64 0,.int .i64 0,.int .i64 0,.string ⟨#[]⟩,.bool false,.string ⟨#[]⟩,.bool false,.slice none 0 0] W
 words:aLr bw ws W
 nbox:aN bn nb W
theorem jU.on {w5:World} {bp bw bn:Nat} {ws:List ByteArray} {nb:Array Value} {W W':World} (h:jU w5 bp bw bn ws nb W) (k:aA W W'):jU w5 bp bw bn ws nb W':=
 ⟨h.keep.trans k,h.pbox.keep k h.pbox.facts.2.2,h.words.keep k,h.nbox.keep k h.nbox.1⟩
theorem jU.cells {w5:World} {bp bw bn:Nat} {x0 x1 x2 x3 x4:ByteArray} {nb:Array Value} {W:World} (h:jU w5 bp bw bn [x0,x1,x2,x3,x4] nb W) :
  W.cell? ⟨bw,0,none⟩=some (.string x0)/\W.cell? ⟨bw,3,none⟩=some (.string x3)/\∀ o,W.cell? ⟨bn,o,none⟩=nb[o]? :=
 ⟨h.words.2 0 _ rfl,h.words.2 3 _ rfl,h.nbox.2⟩
theorem jU.after {w5:World} {bp bw bn:Nat} {x0 x1 x2 x3 x4:ByteArray} {nb:Array Value} {w:World} (h:jU w5 bp bw bn [x0,x1,x2,x3,x4] nb w) (h1:bw≠bp) (h2:bn≠bp) (v0 v1 v2 v3 v4 v5 v6 v7 v8 v9 v10 v11 v12 v13:Value) :
  ((((((((((((((w.setCell ⟨bp,0,none⟩ v0).setCell ⟨bp,1,none⟩ v1).setCell ⟨bp,2,none⟩ v2).setCell ⟨bp,3,none⟩ v3).setCell ⟨bp,4,none⟩ v4).setCell ⟨bp,5,none⟩ v5).setCell ⟨bp,6,none⟩ v6).setCell ⟨bp,7,none⟩ v7).setCell ⟨bp,8,none⟩ v8).setCell ⟨bp,9,none⟩ v9).setCell ⟨bp,10,none⟩ v10).setCell ⟨bp,11,none⟩ v11).setCell ⟨bp,12,none⟩ v12).setCell ⟨bp,13,none⟩ v13).cell? ⟨bw,0,none⟩=some (.string x0)/\((((((((((((((w.setCell ⟨bp,0,none⟩ v0).setCell ⟨bp,1,none⟩ v1).setCell ⟨bp,2,none⟩ v2).setCell ⟨bp,3,none⟩ v3).setCell ⟨bp,4,none⟩ v4).setCell ⟨bp,5,none⟩ v5).setCell ⟨bp,6,none⟩ v6).setCell ⟨bp,7,none⟩ v7).setCell ⟨bp,8,none⟩ v8).setCell ⟨bp,9,none⟩ v9).setCell ⟨bp,10,none⟩ v10).setCell ⟨bp,11,none⟩ v11).setCell ⟨bp,12,none⟩ v12).setCell ⟨bp,13,none⟩ v13).cell? ⟨bw,3,none⟩=some (.string x3)/\∀ o,((((((((((((((w.setCell ⟨bp,0,none⟩ v0).setCell ⟨bp,1,none⟩ v1).setCell ⟨bp,2,none⟩ v2).setCell ⟨bp,3,none⟩ v3).setCell ⟨bp,4,none⟩ v4).setCell ⟨bp,5,none⟩ v5).setCell ⟨bp,6,none⟩ v6).setCell ⟨bp,7,none⟩ v7).setCell ⟨bp,8,none⟩ v8).setCell ⟨bp,9,none⟩ v9).setCell ⟨bp,10,none⟩ v10).setCell ⟨bp,11,none⟩ v11).setCell ⟨bp,12,none⟩ v12).setCell ⟨bp,13,none⟩ v13).cell? ⟨bn,o,none⟩=nb[o]? :=by
 have k:=(h.pbox.set rfl v0 v1 v2 v3 v4 v5 v6 v7 v8 v9 v10 v11 v12 v13).2.2.2
 have c:=h.cells
 generalize ((((((((((((((w.setCell ⟨bp,0,none⟩ v0).setCell ⟨bp,1,none⟩ v1).setCell ⟨bp,2,none⟩ v2).setCell ⟨bp,3,none⟩ v3).setCell ⟨bp,4,none⟩ v4).setCell ⟨bp,5,none⟩ v5).setCell ⟨bp,6,none⟩ v6).setCell ⟨bp,7,none⟩ v7).setCell ⟨bp,8,none⟩ v8).setCell ⟨bp,9,none⟩ v9).setCell ⟨bp,10,none⟩ v10).setCell ⟨bp,11,none⟩ v11).setCell ⟨bp,12,none⟩ v12).setCell ⟨bp,13,none⟩ v13)=W' at k ⊢
 exact ⟨(World.cell?_of_block (w:=w) (k bw h1)).trans c.1,(World.cell?_of_block (w:=w) (k bw h1)).trans c.2.1,fun o=>(World.cell?_of_block (w:=w) (k bn h2)).trans (c.2.2 o)⟩
def aSw (w5:World) (fs:List ByteArray) (v:Value) (W:World):Prop:=cF (fun b=>w5.heap.size<=b/\b<W.heap.size) W fs v
theorem aTq {α:Type} {cs:List α} (h:cs.length=5) : ∃ c0 c1 c2 c3 c4,cs = [c0,c1,c2,c3,c4]:=by
 match cs,h with
 | [c0,c1,c2,c3,c4],_=>exact ⟨c0,c1,c2,c3,c4,rfl⟩
theorem zQ (s:ByteArray) (w:World) (hE:Env w) (hM:kX w) (hs:s.size<=20000) :
  Calls Tryz.prog 165 #[.string s] w fun e w'=>aLl s.data.toList w e w':=by
 obtain ⟨ws,hws,hwl,hwd,hwx⟩:=aFj s
 have HLE:Hid (gJ s.data.toList=aAk (ws.map (·.data.toList))):=by show _=_;unfold gJ;rw [hwd]
 have HLP:Hid (mV s.data.toList=aGu (ws.map (·.data.toList))):=by show _=_;unfold mV;rw [hwd]
 have HE:=hid hE
 have HM:=hid hM
 have HWX:=hid hwx
 clear hwd hE hM hwx
 go_enter Tryz.func165,Tryz.ntmps165
 go_wp2_with fail
 refine aX (fun W'=>aA w W'/\iJ w.heap.size #[.string ⟨#[]⟩,.int .i64 0,.int .i64 0,.slice none 0 0,.int .i64 0,.string ⟨#[]⟩,.int .i64 0,.int .i64 0,.int .i64 0,.string ⟨#[]⟩,.bool false,.string ⟨#[]⟩,.bool false,.slice none 0 0] W') ⟨aA.alloc _ _,iJ.new _ _⟩ ?_
 rintro W1 ⟨k1,b1⟩
 obtain ⟨hml,mm,hmm⟩:=HM.out.keep k1
 refine (Tryz.strings_SplitN s ⟨#[32]⟩ 5 mm W1 (by omega) hmm (by decide) (by decide) (by decide)).mono ?_
 rintro e w2 ⟨rfl,hw2⟩
 rw [← hws] at hw2 ⊢
 have K2:Hid (aA w w2):=by rw [hw2];exact k1.trans (aA.alloc _ _)
 have B2:Hid (iJ w.heap.size #[.string ⟨#[]⟩,.int .i64 0,.int .i64 0,.slice none 0 0,.int .i64 0,.string ⟨#[]⟩,.int .i64 0,.int .i64 0,.int .i64 0,.string ⟨#[]⟩,.bool false,.string ⟨#[]⟩,.bool false,.slice none 0 0] w2):=by rw [hw2];exact b1.keep (aA.alloc _ _) b1.facts.2.2
 have WS2:Hid (aLr W1.heap.size ws w2):=by
  rw [hw2]
  refine ⟨by rw [aC];omega,fun j x hx=> ?_⟩
  have:=aBe (m:=min 5 (s.size+1)) hx
  show (match (W1.heap.push _)[W1.heap.size]? with | some (Obj.cells c _ _)=>c[j]? | _=>none)=_
  rw [Array.getElem?_push,if_pos rfl];exact this
 have hw1s:w.heap.size<W1.heap.size:=b1.facts.2.2
 clear hw2 k1 b1 hmm hml hws
 generalize W1.heap.size=bw at WS2 hw1s ⊢
 by_cases h5:ws.length=5
 ·rw [h5]
  obtain ⟨x0,x1,x2,x3,x4,rfl⟩:=aTq h5
  have HW:Hid (gJ s.data.toList=if eV x1.data.toList=false∨eV x2.data.toList=false then 1 else rdE x4.data.toList):=HLE.out
  have HP:Hid (mV s.data.toList=⟨⟨x0.data.toList.toArray⟩,fJ x1.data.toList,fJ x2.data.toList,fH x3.data.toList,(jL x4.data.toList).getD NT.zero⟩):=HLP.out
  have hx0:x0.size<=s.size:=HWX.out x0 (by simp)
  have hx1:x1.size<=s.size:=HWX.out x1 (by simp)
  have hx2:x2.size<=s.size:=HWX.out x2 (by simp)
  have hx3:x3.size<=s.size:=HWX.out x3 (by simp)
  have c1:w2.cell? ⟨bw,1,none⟩=some (.string x1):=WS2.out.2 1 _ rfl
  clear HLE HLP HWX h5 hwl
  go_wp2_with fail
  refine (gR x1 w2 (HE.out.keep K2.out) (by omega)).mono ?_
  rintro e w3 ⟨n1,rfl,hn1,k3⟩
  have K3:=hid (K2.out.trans k3)
  have B3:=hid (B2.out.keep k3 B2.out.facts.2.2)
  have WS3:=hid (WS2.out.keep k3)
  have HN1:=hid hn1
  clear c1 k3 K2 B2 WS2 hn1
  have c2:w3.cell? ⟨bw,2,none⟩=some (.string x2):=WS3.out.2 2 _ rfl
  generalize eV x1.data.toList=β1 at HW HN1 ⊢
  go_wp2_with fail
  refine (gR x2 w3 (HE.out.keep K3.out) (by omega)).mono ?_
  rintro e w4 ⟨n2,rfl,hn2,k4⟩
  have K4:=hid (K3.out.trans k4)
  have B4:=hid (B3.out.keep k4 B3.out.facts.2.2)
  have WS4:=hid (WS3.out.keep k4)
  have HN2:=hid hn2
  clear c2 k4 K3 B3 WS3 hn2
  generalize eV x2.data.toList=β2 at HW HN2 ⊢
  obtain ⟨hc4,hz4,hl4⟩:=B4.out.facts
  cases β1
  ·have HX:Hid (gJ s.data.toList=1):=by show _=_;rw [HW.out];simp
   go_wp2_with fail
   refine cE (v:= .tuple #[.agg #[.string ⟨#[]⟩,.int .i64 0,.int .i64 0,.slice none 0 0,.int .i64 0,.string ⟨#[]⟩,.int .i64 0,.int .i64 0,.int .i64 0,.string ⟨#[]⟩,.bool false,.string ⟨#[]⟩,.bool false,.slice none 0 0],.int .i64 1]) (fun W'=>iJ w.heap.size #[.string ⟨#[]⟩,.int .i64 0,.int .i64 0,.slice none 0 0,.int .i64 0,.string ⟨#[]⟩,.int .i64 0,.int .i64 0,.int .i64 0,.string ⟨#[]⟩,.bool false,.string ⟨#[]⟩,.bool false,.slice none 0 0] W'/\aA w W') ?_ rfl ?_
   ·have h:=B4.out.set rfl (.string ⟨#[]⟩) (.int .i64 0) (.int .i64 0) (.slice none 0 0) (.int .i64 0) (.string ⟨#[]⟩) (.int .i64 0) (.int .i64 0) (.int .i64 0) (.string ⟨#[]⟩) (.bool false) (.string ⟨#[]⟩) (.bool false) (.slice none 0 0)
    exact ⟨h.1,Below.trans K4.out h.2.1⟩
   rintro W ⟨hb,hk⟩
   obtain ⟨hcW,-,-⟩:=hb.facts
   refine ⟨by simp [results,Tryz.results165,go_sem,hcW],yH,by rw [HX.out];rfl,fun h=>absurd (HX.out.symm.trans h) (by decide),fun _=>rfl,hk⟩
  cases β2
  ·have HX:Hid (gJ s.data.toList=1):=by show _=_;rw [HW.out];simp
   go_wp2_with fail
   refine cE (v:= .tuple #[.agg #[.string ⟨#[]⟩,.int .i64 0,.int .i64 0,.slice none 0 0,.int .i64 0,.string ⟨#[]⟩,.int .i64 0,.int .i64 0,.int .i64 0,.string ⟨#[]⟩,.bool false,.string ⟨#[]⟩,.bool false,.slice none 0 0],.int .i64 1]) (fun W'=>iJ w.heap.size #[.string ⟨#[]⟩,.int .i64 0,.int .i64 0,.slice none 0 0,.int .i64 0,.string ⟨#[]⟩,.int .i64 0,.int .i64 0,.int .i64 0,.string ⟨#[]⟩,.bool false,.string ⟨#[]⟩,.bool false,.slice none 0 0] W'/\aA w W') ?_ rfl ?_
   ·have h:=B4.out.set rfl (.string ⟨#[]⟩) (.int .i64 0) (.int .i64 0) (.slice none 0 0) (.int .i64 0) (.string ⟨#[]⟩) (.int .i64 0) (.int .i64 0) (.int .i64 0) (.string ⟨#[]⟩) (.bool false) (.string ⟨#[]⟩) (.bool false) (.slice none 0 0)
    exact ⟨h.1,Below.trans K4.out h.2.1⟩
   rintro W ⟨hb,hk⟩
   obtain ⟨hcW,-,-⟩:=hb.facts
   refine ⟨by simp [results,Tryz.results165,go_sem,hcW],yH,by rw [HX.out];rfl,fun h=>absurd (HX.out.symm.trans h) (by decide),fun _=>rfl,hk⟩
  have HX0:Hid (gJ s.data.toList=rdE x4.data.toList):=by show _=_;rw [HW.out];simp
  obtain rfl:=HN1.out rfl
  obtain rfl:=HN2.out rfl
  have c4:w4.cell? ⟨bw,4,none⟩=some (.string x4):=WS4.out.2 4 _ rfl
  clear HW HN1 HN2 hc4 hz4 hl4
  go_wp2_with fail
  refine (wO x4 w4 (HE.out.keep K4.out) (HM.out.keep K4.out)).mono ?_
  rintro e w5 ⟨cs,rfl,hgood,hbad,k5⟩
  have K5:=hid (K4.out.trans k5)
  have B5:=hid (B4.out.keep k5 B4.out.facts.2.2)
  have WS5:=hid (WS4.out.keep k5)
  have h45:w4.heap.size<=w5.heap.size:=k5.size
  have hww4:w.heap.size<w4.heap.size:=B4.out.facts.2.2
  clear c4 k5 K4 B4 WS4
  generalize hre:rdE x4.data.toList=re at HX0 hgood hbad ⊢
  by_cases hz:re=0
  ·subst hz
   obtain ⟨t,ht,hn⟩:=hgood rfl
   have HT:Hid ((jL x4.data.toList).getD NT.zero=t):=by show _=_;rw [ht];rfl
   have HNI:=hid hn
   cases htt:t with
   | node k a fl nt kids=>
   have hn':=hn
   rw [htt,aI] at hn'
   obtain ⟨kp,kc,rfl,-,-,-⟩:=hn'
   clear hn hbad hgood hre ht
   go_upto_region 11 with fail
   refine bF (fun W'=>jU w5 w.heap.size bw w5.heap.size [x0,x1,x2,x3,x4] #[.int .i64 k,.string a.n,.int .i64 a.op,.int .i64 a.v,.int .i64 a.sl,.string a.f,.bool a.on,.string fl,.bool nt,.slice kp kids.length kc] W') ⟨aA.alloc _ _,B5.out.keep (aA.alloc _ _) B5.out.facts.2.2,WS5.out.keep (aA.alloc _ _),aN.new _ _ _⟩ ?_
   intro W6 le
   have LE:=hid le
   have LD:=hid (LE.out.on (show aA W6 W6.drew from ⟨rfl,rfl,rfl,Nat.le_refl _,fun _ _=>rfl⟩))
   have hne1:bw≠w.heap.size:=by omega
   have hne2:w5.heap.size≠w.heap.size:=by have:=B5.out.facts.2.2;omega
   have e0:W6.cell? ⟨bw,0,none⟩=some (.string x0):=le.words.2 0 _ rfl
   have e3:W6.cell? ⟨bw,3,none⟩=some (.string x3):=le.words.2 3 _ rfl
   have en:=le.nbox.2
   have eb:=le.words.1
   have el:=le.nbox.1
   have ep:=le.pbox.facts.1
   have ez:=le.pbox.facts.2.1
   have ey:=le.pbox.facts.2.2
   clear le
   go_region_held3 (fun W'=>W'.cell? ⟨bw,0,none⟩=some (.string x0)/\W'.cell? ⟨bw,3,none⟩=some (.string x3)/\∀ o,W'.cell? ⟨w5.heap.size,o,none⟩=(#[.int .i64 k,.string a.n,.int .i64 a.op,.int .i64 a.v,.int .i64 a.sl,.string a.f,.bool a.on,.string fl,.bool nt,.slice kp kids.length kc]:Array Value)[o]?) (first | with_reducible exact LE.out.cells | with_reducible exact LD.out.cells | exact LE.out.after hne1 hne2 _ _ _ _ _ _ _ _ _ _ _ _ _ _ | go_keep)
    (first
     | (go_at_call 191;refine (nQ _ _ (by omega)).mono ?_;rintro e w7 ⟨rfl,k7⟩;(first | (have k8:=hJ k7) | (have k8:=k7));have LF:=hid (LE.out.on k8);clear LE k7 k8;have LE:=LF;clear LF;have ep:=LE.out.pbox.facts.1;have ez:=LE.out.pbox.facts.2.1;have ey:=LE.out.pbox.facts.2.2)
     | (go_at_call 192;refine (wQ x3 _ (HM.out.keep (K5.out.trans LE.out.keep)) (by omega)).mono ?_;rintro e w7 ⟨fv,rfl,hf,k7⟩;obtain ⟨fp,fc,rfl,hfl⟩:=hf.len;have FS:Hid (aSw w5 (fH x3.data.toList) (.slice fp (fH x3.data.toList).length fc) w7):=cF.mono (fun _ _=>rfl) (fun _ hb=>⟨Nat.le_trans LE.out.keep.size hb.1,hb.2⟩) hf;have LF:=hid (LE.out.on k7);clear LE k7 hf;have LE:=LF;clear LF;have ep:=LE.out.pbox.facts.1;have ez:=LE.out.pbox.facts.2.1;have ey:=LE.out.pbox.facts.2.2))
   clear ep ez ey en eb el e0 e3 LD
   go_wp2_with fail
   refine cE (v:= .tuple #[.agg #[.string x0,.int .i64 (fJ x1.data.toList),.int .i64 (fJ x2.data.toList),.slice fp (fH x3.data.toList).length fc,.int .i64 k,.string a.n,.int .i64 a.op,.int .i64 a.v,.int .i64 a.sl,.string a.f,.bool a.on,.string fl,.bool nt,.slice kp kids.length kc],.int .i64 0]) (fun W'=>iJ w.heap.size #[.string x0,.int .i64 (fJ x1.data.toList),.int .i64 (fJ x2.data.toList),.slice fp (fH x3.data.toList).length fc,.int .i64 k,.string a.n,.int .i64 a.op,.int .i64 a.v,.int .i64 a.sl,.string a.f,.bool a.on,.string fl,.bool nt,.slice kp kids.length kc] W'/\Below w.heap.size w7 W'/\W'.heap.size=w7.heap.size/\∀ k,k≠w.heap.size->W'.heap[k]? = w7.heap[k]?) (LE.out.pbox.set rfl _ _ _ _ _ _ _ _ _ _ _ _ _ _) rfl ?_
   rintro W ⟨hb,hk,hz,ho⟩
   obtain ⟨hcW,-,-⟩:=hb.facts
   have hco : ∀ p:Addr,p.block≠w.heap.size->W.cell? p=w7.cell? p:=fun p hp=>World.cell?_of_block (w:=w7) (ho _ hp)
   have hz7:=LE.out.keep.size
   refine ⟨by simp [results,Tryz.results165,go_sem,hcW],[.string x0,.int .i64 (fJ x1.data.toList),.int .i64 (fJ x2.data.toList),.slice fp (fH x3.data.toList).length fc,.int .i64 k,.string a.n,.int .i64 a.op,.int .i64 a.v,.int .i64 a.sl,.string a.f,.bool a.on,.string fl,.bool nt,.slice kp kids.length kc],by rw [HX0.out],fun _=> ?_,fun h=>absurd HX0.out h,Below.trans (K5.out.trans LE.out.keep) hk⟩
   rw [HP.out,HT.out,cL]
   refine ⟨_,_,rfl,?_,?_⟩
   ·exact cF.mono (fun p hp=>hco p (by have:=hp.1;omega)) (fun b hb=>⟨by have:=hb.1;omega,by rw [hz];exact hb.2⟩) FS.out
   ·exact aI.mono (fun p hp=>(hco p (by have:=hp.1;omega)).trans (LE.out.keep.cell (p:=p) hp.2)) (fun b hb=>⟨by have:=hb.1;omega,by rw [hz];have:=hb.2;omega⟩) _ _ HNI.out
  ·have HX:Hid (gJ s.data.toList=re):=HX0.out
   obtain rfl:=hbad hz
   have hz1:(re==0)=false:=by simp [hz]
   have hz2:(re != 0)=true:=by simp [hz]
   have HZ:=hid hz
   clear hz hgood hbad hre
   unfold yG
   go_upto_region 10 with fail
   refine bF (fun W'=>aA w W'/\iJ w.heap.size #[.string ⟨#[]⟩,.int .i64 0,.int .i64 0,.slice none 0 0,.int .i64 0,.string ⟨#[]⟩,.int .i64 0,.int .i64 0,.int .i64 0,.string ⟨#[]⟩,.bool false,.string ⟨#[]⟩,.bool false,.slice none 0 0] W') ⟨K5.out.alloc' _,B5.out.keep (aA.alloc _ _) B5.out.facts.2.2⟩ ?_
   rintro W6 ⟨k6,b6⟩
   have K6:=hid k6
   have B6:=hid b6
   obtain ⟨hc6,hz6,hl6⟩:=b6.facts
   clear k6 b6
   go_wp2_with fail
   refine cE (v:= .tuple #[.agg #[.string ⟨#[]⟩,.int .i64 0,.int .i64 0,.slice none 0 0,.int .i64 0,.string ⟨#[]⟩,.int .i64 0,.int .i64 0,.int .i64 0,.string ⟨#[]⟩,.bool false,.string ⟨#[]⟩,.bool false,.slice none 0 0],.int .i64 re]) (fun W'=>iJ w.heap.size #[.string ⟨#[]⟩,.int .i64 0,.int .i64 0,.slice none 0 0,.int .i64 0,.string ⟨#[]⟩,.int .i64 0,.int .i64 0,.int .i64 0,.string ⟨#[]⟩,.bool false,.string ⟨#[]⟩,.bool false,.slice none 0 0] W'/\aA w W') ?_ rfl ?_
   ·have h:=B6.out.set rfl (.string ⟨#[]⟩) (.int .i64 0) (.int .i64 0) (.slice none 0 0) (.int .i64 0) (.string ⟨#[]⟩) (.int .i64 0) (.int .i64 0) (.int .i64 0) (.string ⟨#[]⟩) (.bool false) (.string ⟨#[]⟩) (.bool false) (.slice none 0 0)
    exact ⟨h.1,Below.trans K6.out h.2.1⟩
   rintro W ⟨hb,hk⟩
   obtain ⟨hcW,-,-⟩:=hb.facts
   refine ⟨by simp [results,Tryz.results165,go_sem,hcW],yH,by rw [HX.out];rfl,fun h=>absurd (HX.out.symm.trans h) HZ.out,fun _=>rfl,hk⟩
 ·have h5':(ws.length:Int)<5:=by omega
  have HX:Hid (gJ s.data.toList=1):=by show _=_;rw [HLE.out];exact aSu (by simpa using h5)
  obtain ⟨hc2,hz2,hl2⟩:=B2.out.facts
  go_wp2_with fail
  refine cE (v:= .tuple #[.agg #[.string ⟨#[]⟩,.int .i64 0,.int .i64 0,.slice none 0 0,.int .i64 0,.string ⟨#[]⟩,.int .i64 0,.int .i64 0,.int .i64 0,.string ⟨#[]⟩,.bool false,.string ⟨#[]⟩,.bool false,.slice none 0 0],.int .i64 1]) (fun W'=>iJ w.heap.size #[.string ⟨#[]⟩,.int .i64 0,.int .i64 0,.slice none 0 0,.int .i64 0,.string ⟨#[]⟩,.int .i64 0,.int .i64 0,.int .i64 0,.string ⟨#[]⟩,.bool false,.string ⟨#[]⟩,.bool false,.slice none 0 0] W'/\aA w W') ?_ rfl ?_
  ·have h:=B2.out.set rfl (.string ⟨#[]⟩) (.int .i64 0) (.int .i64 0) (.slice none 0 0) (.int .i64 0) (.string ⟨#[]⟩) (.int .i64 0) (.int .i64 0) (.int .i64 0) (.string ⟨#[]⟩) (.bool false) (.string ⟨#[]⟩) (.bool false) (.slice none 0 0)
   exact ⟨h.1,Below.trans K2.out h.2.1⟩
  rintro W ⟨hb,hk⟩
  obtain ⟨hcW,-,-⟩:=hb.facts
  refine ⟨by simp [results,Tryz.results165,go_sem,hcW],yH,by rw [HX.out];rfl,fun h=>absurd (HX.out.symm.trans h) (by decide),fun _=>rfl,hk⟩
end Go.Proofs.YthaaaecmeafofaaGreatDoor
namespace Go.Proofs.YthaaaecmeafofaaGreatDoor
open Go.RowKit
def dJ (B:Nat) (v:Value) (acc:List PK) (w:World):Prop:=
 ∃ csl:List (List Value),csl.length=acc.length/\(∀ cs∈csl,cs.length=14)/\w.ownsRow B 76 14 v acc.length csl.flatten/\∀ (i:Nat) t cs,acc[i]? = some t->csl[i]? = some cs->dR (fun b=>B<=b/\b<w.heap.size/\v.ownBlock≠some b) w t cs
theorem dJ.nil (B:Nat) (w:World):dJ B (.slice none 0 0) [] w:=⟨[],rfl,by simp,World.ownsRow_nil _ _ _ _,by simp⟩
theorem dJ.other {B:Nat} {v:Value} {acc:List PK} {w w':World} (h:dJ B v acc w) (hs:w.heap.size<=w'.heap.size) (hb : ∀ b,B<=b->b<w.heap.size->w'.heap[b]? = w.heap[b]?):dJ B v acc w':=by
 obtain ⟨csl,h1,h2,⟨h3,h3'⟩,h4⟩:=h
 refine ⟨csl,h1,h2,⟨h3,h3'.imp id ?_⟩,fun i t cs hi hc=>dR.mono (fun p hp=>World.cell?_of_block (w:=w) (hb _ hp.1 hp.2.1)) (fun b hb=>⟨hb.1,Nat.lt_of_lt_of_le hb.2.1 hs,hb.2.2⟩) (h4 i t cs hi hc)⟩
 rintro ⟨g,cap,cur,e1,e2,e3,e4⟩
 exact ⟨g,cap,cur,e1,e2,by rw [hb g e2 (Array.getElem?_eq_some_iff.1 e3).1];exact e3,e4⟩
theorem dJ.keep {B:Nat} {v:Value} {acc:List PK} {w w':World} (h:dJ B v acc w) (k:aA w w'):dJ B v acc w':=h.other k.size fun b _ hb=>k.block b hb
theorem dJ.push {B B':Nat} {v v':Value} {acc:List PK} {csl:List (List Value)} {t:PK} {cs:List Value} {w w':World} {o:Obj} (h1:csl.length=acc.length) (h2 : ∀ cs∈csl,cs.length=14)
  (h4 : ∀ (i:Nat) t cs,acc[i]? = some t->csl[i]? = some cs->dR (fun b=>B<=b/\b<w.heap.size/\v.ownBlock≠some b) w t cs)
  (hB:B<=B') (hv : ∀ g,v.ownBlock=some g->g<B') (hn:dR (fun b=>B'<=b/\b<w.heap.size) w t cs) (hc:cs.length=14)
  (h5:w'.ownsRow B 76 14 v' (acc.length+1) (csl.flatten++cs)) (h6:(w.alloc o).grownBy w' v.ownBlock) (h7:v'.ownBlock=v.ownBlock∨v'.ownBlock=some (w.alloc o).heap.size):dJ B v' (acc ++ [t]) w':=by
 have e:=aC w o
 have hsz:w.heap.size<=w'.heap.size:=by have:=h6.size;omega
 have hcell : ∀ p:Addr,p.block<w.heap.size->v.ownBlock≠some p.block->w'.cell? p=w.cell? p:=fun p hp hne=>by
  rw [World.cell?_of_block (w:=w.alloc o) (a:=p) (h6.block p.block (by omega) (fun e=>hne e.symm))]
  exact (aA.alloc w o).cell hp
 have hne : ∀ b,b<w.heap.size->v.ownBlock≠some b->v'.ownBlock≠some b:=fun b hb hn=>by
  rcases h7 with h7 | h7
  ·rw [h7];exact hn
  ·rw [h7];intro e;have:=Option.some.inj e;omega
 refine ⟨csl ++ [cs],by simp [h1],fun x hx=> ?_,by simpa using h5,fun i u x hu hx=> ?_⟩
 ·rcases List.mem_append.1 hx with hx | hx
  ·exact h2 x hx
  ·rw [List.mem_singleton.1 hx];exact hc
 ·by_cases hi:i<acc.length
  ·rw [List.getElem?_append_left hi] at hu
   rw [List.getElem?_append_left (by omega)] at hx
   exact dR.mono (fun p hp=>hcell p hp.2.1 hp.2.2) (fun b hb=>⟨hb.1,by omega,hne b hb.2.1 hb.2.2⟩) (h4 i u x hu hx)
  ·have hi2:i=acc.length:=by
    have:=(List.getElem?_eq_some_iff.1 hu).1
    simp at this;omega
   subst hi2
   rw [List.getElem?_append_right (Nat.le_refl _),Nat.sub_self] at hu
   rw [← h1,List.getElem?_append_right (Nat.le_refl _),Nat.sub_self] at hx
   cases hu;cases hx
   have hvn : ∀ b,B'<=b->v.ownBlock≠some b:=fun b hb e=>by have:=hv b e;omega
   exact dR.mono (fun p hp=>hcell p hp.2 (hvn _ hp.1)) (fun b hb=>⟨by omega,by omega,hne b hb.2 (hvn b hb.1)⟩) hn
theorem wI {csl:List (List Value)} (h2 : ∀ cs∈csl,cs.length=14) : ∀ (i:Nat) (cs:List Value),csl[i]? = some cs->∀ (m:Nat) (v:Value),cs[m]? = some v->csl.flatten[i*14+m]? = some v:=by
 induction csl with
 | nil=>intro i cs h;simp at h
 | cons c r ih=>
  intro i cs h m v hv
  have hc:c.length=14:=h2 c (by simp)
  cases i with
  | zero=>
   simp at h;subst h
   have hm:m<c.length:=(List.getElem?_eq_some_iff.1 hv).1
   rw [List.flatten_cons,Nat.zero_mul,Nat.zero_add,List.getElem?_append_left hm];exact hv
  | succ i=>
   rw [List.flatten_cons,List.getElem?_append_right (by omega),show (i+1)*14+m-c.length=i*14+m by omega]
   exact ih (fun x hx=>h2 x (by simp [hx])) i cs (by simpa using h) m v hv
theorem dJ.final {B:Nat} {v:Value} {acc:List PK} {w:World} (h:dJ B v acc w):bC (fun b=>B<=b/\b<w.heap.size) w acc v:=by
 obtain ⟨csl,h1,h2,⟨h3,⟨rfl,h0⟩ | ⟨g,cap,cur,rfl,e2,e3,e4,e5,e6,e7⟩⟩,h4⟩:=h
 ·obtain rfl:=List.length_eq_zero_iff.1 h0
  exact Or.inl ⟨rfl,none,0,rfl⟩
 ·have hg:=(Array.getElem?_eq_some_iff.1 e3).1
  refine Or.inr ⟨g,0,cap,rfl,⟨e2,hg⟩,by unfold maxLen at e5;omega,fun i hi=> ?_⟩
  refine ⟨csl[i],fun m u hu=> ?_,?_⟩
  ·have hlen:csl[i].length=14:=h2 _ (List.getElem_mem _)
   have hm:m<14:=by rw [← hlen];exact (List.getElem?_eq_some_iff.1 hu).1
   have hf:=wI h2 i csl[i] (List.getElem?_eq_getElem (by omega)) m u hu
   rw [← e7,List.getElem?_take,if_pos (by omega)] at hf
   simp only [World.cell?,e3,Nat.zero_add]
   simpa using hf
  ·exact dR.mono (fun _ _=>rfl) (fun b hb=>⟨hb.1,hb.2.1⟩) (h4 i _ _ (List.getElem?_eq_getElem hi) (List.getElem?_eq_getElem (by omega)))
def kV (v:Value):Prop:= ∀ (p:Option Addr) (n c:Nat),v=.slice p n c->n<=c
theorem iP:kV (.slice none 0 0):=fun p n c e=>by cases e;exact Nat.le_refl _
theorem dJ.cap {B:Nat} {v:Value} {acc:List PK} {w:World} (h:dJ B v acc w):kV v:=by
 obtain ⟨csl,-,-,⟨-,⟨rfl,-⟩ | ⟨g,cap,cur,rfl,-,-,h4,-⟩⟩,-⟩:=h
 ·exact iP
 ·exact fun p n c e=>by cases e;exact h4
theorem dJ.own {B:Nat} {v:Value} {acc:List PK} {w:World} (h:dJ B v acc w) : ∀ g,v.ownBlock=some g->B<=g/\g<w.heap.size:=fun g hg=>by
 obtain ⟨csl,-,-,o1,-⟩:=h
 exact cV o1 hg
theorem dJ.shape {B:Nat} {v:Value} {acc:List PK} {w:World} (h:dJ B v acc w) : ∃ p cap,v=.slice p acc.length cap:=by
 obtain ⟨p,cap,h,-⟩:=h.final.len
 exact ⟨p,cap,h⟩
theorem aPz:(Tryz.prog.info? 76).map (fun i=>(i.zero,i.size,i.bytes))=some (some (.agg #[.string ⟨#[]⟩,.int .i64 0,.int .i64 0,.slice none 0 0,.int .i64 0,.string ⟨#[]⟩,.int .i64 0,.int .i64 0,.int .i64 0,.string ⟨#[]⟩,.bool false,.string ⟨#[]⟩,.bool false,.slice none 0 0]),14,176):=by kernel_rfl
end Go.Proofs.YthaaaecmeafofaaGreatDoor
namespace Go.Proofs.YthaaaecmeafofaaGreatDoor
open Go.RowKit
def aLq (l:List UInt8) (w:World) (e:Ending) (w':World):Prop:=
 ∃ v,e=.returned (.tuple #[.agg #[v],.int .i64 ((rdT l).2.1:Nat),.int .i64 (rdT l).1])/\((rdT l).1≠0->v=.slice none 0 0)/\bC (fun b=>w.heap.size<=b/\b<w'.heap.size) w' (rdT l).2.2 v/\aA w w'/\kV v
theorem aIg {l:List UInt8} {e:Int} {k:Nat} (h0 : ¬ 20000<l.length) (he:e≠0) (h:lG (l.length+1) l 0 []=(e,k,[])):rdT l=(e,k,[]):=by
 unfold rdT;rw [if_neg h0,h];simp [he]
theorem aQp {l:List UInt8} {k:Nat} {ps:List PK} (h0 : ¬ 20000<l.length) (h:lG (l.length+1) l 0 []=(0,k,ps)):rdT l=if dA ps≠0 then (dA ps,0,[]) else (0,0,ps):=by
 unfold rdT;rw [if_neg h0,h];simp
theorem vR (s:ByteArray) (w:World) (hE:Env w) (hM:kX w) :
  Calls Tryz.prog 123 #[.string s] w fun e w'=>aLq s.data.toList w e w':=by
 obtain ⟨i0,hi,hz0,hz1,hz2⟩:=info_parts aPz
 have hsz:=aS s
 have HE:=hid hE
 have HM:=hid hM
 have V0:=hid (aE.new w 24 (.slice none 0 0))
 have K0:=hid (aA.alloc w (.cells #[.slice none 0 0] 24))
 clear hE hM
 by_cases hlong:20000<s.size
 ·have hl':(20000:Int)<(s.size:Int):=by omega
  have HX:Hid (rdT s.data.toList=(2,0,[])):=by show _=_;unfold rdT;rw [if_pos (by omega)]
  go_enter Tryz.func123,Tryz.ntmps123
  go_wp2_with fail
  refine cE (v:= .tuple #[.agg #[.slice none 0 0],.int .i64 0,.int .i64 2]) (fun W'=>aE w.heap.size 24 (.slice none 0 0) W'/\aA w W') ⟨V0.out,K0.out⟩ rfl ?_
  rintro W ⟨hb,hk⟩
  obtain ⟨hcW,-,-⟩:=hb.facts
  refine ⟨by simp [results,Tryz.results123,go_sem,hcW],.slice none 0 0,by rw [HX.out];rfl,fun _=>rfl,by rw [HX.out];exact Or.inl ⟨rfl,none,0,rfl⟩,hk,iP⟩
 ·have hl' : ¬ (20000:Int)<(s.size:Int):=by omega
  have hlong' : ¬ 20000<s.data.toList.length:=by omega
  go_enter Tryz.func123,Tryz.ntmps123
  go_wp2_with fail
  refine bF (fun W'=>aE w.heap.size 24 (.slice none 0 0) W'/\aA w W') ⟨V0.out,K0.out⟩ ?_
  rintro W1 ⟨v1,k1⟩
  have V1:=hid v1
  have K1:=hid k1
  clear v1 k1 V0 K0
  go_loopg [0,3] (s.size+1) (fun gk sv av wr=> ∃ (l:ByteArray) (k:Nat) (acc:List PK) (tv:Value),sv=.string l/\av=.int .i64 k/\lG (s.data.toList.length+1) s.data.toList 0 []=lG gk l.data.toList k acc/\l.size<gk/\k+gk<=s.size+1/\acc.length=k/\aE w.heap.size 24 tv wr/\dJ (w.heap.size+1) tv acc wr/\aA w wr)
  case atStart=>exact ⟨s,0,[],_,rfl,rfl,by rw [hsz],by omega,by omega,rfl,V1.out,dJ.nil _ _,K1.out⟩
  case round=>
   obtain ⟨l,k,acc,tv,rfl,rfl,heq,hgk,hk,rfl,hv,hrow,hkp⟩:=hrel
   have HEQ:=hid heq
   have HV:=hid hv
   have HROW:=hid hrow
   have HKP:=hid hkp
   have HMW:=hid (HM.out.keep hkp)
   have HEW:=hid (HE.out.keep hkp)
   clear heq hv hrow hkp V1 K1
   obtain ⟨mk,rfl⟩ : ∃ m,gk=m+1:=⟨gk-1,by omega⟩
   rcases mD l [] with ⟨h1,h2,h3⟩ | ⟨h1,h2,h3⟩
   · -- all is read
    have HEND:Hid (rdT s.data.toList=if dA acc≠0 then (dA acc,0,[]) else (0,0,acc)):=aQp hlong' (k:=acc.length) (by rw [HEQ.out,lG,if_pos h1])
    obtain ⟨tp,tc,rfl⟩:=HROW.out.shape
    obtain ⟨hcv,hzv,hlv⟩:=HV.out.facts
    have HFIN:=hid HROW.out.final
    have HCAP:=hid HROW.out.cap
    clear h1
    go_wp2_with fail
    refine (kS (fun b=>w.heap.size+1<=b/\b<wr.heap.size) acc _ wr (fun _ h=>h.2) HFIN.out).mono ?_
    rintro e w2 ⟨rfl,k2⟩
    have K2:=hid (HKP.out.trans k2)
    have V2:=hid (HV.out.keep k2 HV.out.facts.2.2)
    have F2:=hid (HFIN.out.keep (fun _ h=>h.2) k2)
    have hs2:wr.heap.size<=w2.heap.size:=k2.size
    obtain ⟨hc2,hzz2,hl2⟩:=V2.out.facts
    clear k2 hcv hzv
    generalize hct:dA acc=ct at HEND ⊢
    by_cases hz:ct=0
    ·subst hz
     have HX:Hid (rdT s.data.toList=(0,0,acc)):=by show _=_;rw [HEND.out];simp
     clear HEND hct
     go_wp2_with fail
     refine cE (v:= .tuple #[.agg #[.slice tp acc.length tc],.int .i64 0,.int .i64 0]) (fun W'=>aE w.heap.size 24 (.slice tp acc.length tc) W'/\aA w W'/\W'.heap.size=w2.heap.size/\∀ b,b≠w.heap.size->W'.heap[b]? = w2.heap[b]?) ⟨V2.out.set _,Below.trans K2.out (aM _ _ _ _),cT _ _ _ _,gS _ _ _ _⟩ rfl ?_
     rintro W ⟨hb,hk',hzW,hoW⟩
     obtain ⟨hcW,-,-⟩:=hb.facts
     refine ⟨by simp [results,Tryz.results123,go_sem,hcW],.slice tp acc.length tc,by rw [HX.out];rfl,fun h=>absurd (by rw [HX.out]) h,?_,hk',HCAP.out⟩
     rw [HX.out]
     exact bC.mono (fun p hp=>World.cell?_of_block (w:=w2) (hoW _ (by have:=hp.1;omega))) (fun b hb=>⟨by have:=hb.1;omega,by rw [hzW];have:=hb.2;omega⟩) F2.out
    ·have HX:Hid (rdT s.data.toList=(ct,0,[])):=by show _=_;rw [HEND.out];simp [hz]
     have hz1':(ct==0)=false:=by simp [hz]
     have hz2':(ct != 0)=true:=by simp [hz]
     clear HEND hz hct
     go_wp2_with fail
     refine cE (v:= .tuple #[.agg #[.slice none 0 0],.int .i64 0,.int .i64 ct]) (fun W'=>aE w.heap.size 24 (.slice none 0 0) W'/\aA w W') ⟨V2.out.set _,Below.trans K2.out (aM _ _ _ _)⟩ rfl ?_
     rintro W ⟨hb,hk⟩
     obtain ⟨hcW,-,-⟩:=hb.facts
     refine ⟨by simp [results,Tryz.results123,go_sem,hcW],.slice none 0 0,by rw [HX.out];rfl,fun _=>rfl,by rw [HX.out];exact Or.inl ⟨rfl,none,0,rfl⟩,hk,iP⟩
   ·obtain ⟨hml,mm,hmm⟩:=HMW.out
    have hlsz:=aS l
    go_wp2_with fail
    refine (Tryz.strings_Cut l ⟨#[10]⟩ mm wr (by omega) hmm).mono ?_
    rintro e w2 ⟨rfl,nq,hw2⟩
    have k2:aA wr w2:=by rw [hw2];exact aA.drewN (aA.refl _) _
    have K2':=hid k2
    have K2:=hid (HKP.out.trans k2)
    have V2:=hid (HV.out.keep k2 HV.out.facts.2.2)
    have ROW2:=hid (HROW.out.keep k2)
    have HST:Hid (lG (s.data.toList.length+1) s.data.toList 0 []=if (Lib.cut l.data.toList [10]).2.2=false then (1,acc.length,[]) else if gJ (Lib.cut l.data.toList [10]).1≠0 then (gJ (Lib.cut l.data.toList [10]).1,acc.length,[]) else lG mk (Lib.cut l.data.toList [10]).2.1 (acc.length+1) (acc ++ [mV (Lib.cut l.data.toList [10]).1])):=by
     show _=_;rw [HEQ.out,lG,if_neg h1]
    have hback:(Lib.cut l.data.toList [10]).2.2=true->l.data.toList=(Lib.cut l.data.toList [10]).1++10 :: (Lib.cut l.data.toList [10]).2.1:=fun h=>(aJn 10 (show Lib.cut l.data.toList [10]=((Lib.cut l.data.toList [10]).1,(Lib.cut l.data.toList [10]).2.1,true) by rw [← h])).1
    clear hw2 k2 hmm h1 hml
    rw [show (ByteArray.mk #[10]).data.toList = [10] from rfl]
    generalize Lib.cut l.data.toList [10]=ct at HST hback ⊢
    obtain ⟨x,r,b⟩:=ct
    simp only at HST hback ⊢
    obtain ⟨hc2,hzz2,hl2⟩:=V2.out.facts
    cases b
    ·have HX:Hid (rdT s.data.toList=(1,acc.length,[])):=aIg hlong' (by decide) (by rw [HST.out];simp)
     go_wp2_with fail
     refine cE (v:= .tuple #[.agg #[.slice none 0 0],.int .i64 acc.length,.int .i64 1]) (fun W'=>aE w.heap.size 24 (.slice none 0 0) W'/\aA w W') ⟨V2.out.set _,Below.trans K2.out (aM _ _ _ _)⟩ rfl ?_
     rintro W ⟨hb,hk⟩
     obtain ⟨hcW,-,-⟩:=hb.facts
     refine ⟨by simp [results,Tryz.results123,go_sem,hcW],.slice none 0 0,by rw [HX.out],fun _=>rfl,by rw [HX.out];exact Or.inl ⟨rfl,none,0,rfl⟩,hk,iP⟩
    ·have hbl:=congrArg List.length (hback rfl)
     simp only [List.length_append,List.length_cons] at hbl
     have hxs:(⟨x.toArray⟩:ByteArray).size=x.length:=by rw [← aS]
     clear hback hc2 hzz2
     go_wp2_with fail
     refine (zQ ⟨x.toArray⟩ w2 (HE.out.keep K2.out) (HM.out.keep K2.out) (by omega)).mono ?_
     rintro e w3 ⟨cs,rfl,hgood,hbad,k3⟩
     have hxd:(⟨x.toArray⟩:ByteArray).data.toList=x:=by simp
     rw [hxd] at hgood hbad ⊢
     have K3:=hid (K2.out.trans k3)
     have V3:=hid (V2.out.keep k3 V2.out.facts.2.2)
     have ROW3:=hid (ROW2.out.keep k3)
     have hs23:w2.heap.size<=w3.heap.size:=k3.size
     have hsr2:wr.heap.size<=w2.heap.size:=K2'.out.size
     have V2L:Hid (w.heap.size+1<=w2.heap.size):=V2.out.facts.2.2
     clear k3 V2 ROW2
     generalize hle:gJ x=le at HST hgood hbad ⊢
     by_cases hz:le=0
     ·subst hz
      have HS2:Hid (lG (s.data.toList.length+1) s.data.toList 0 []=lG mk r (acc.length+1) (acc ++ [mV x])):=by show _=_;rw [HST.out];simp
      have hpk:=hgood rfl
      have HPK:=hid hpk
      obtain ⟨kk,a,fl,nt,kids,kp,fp,kc,fc,-,-,rfl,-,-⟩:=hpk.spelt
      generalize mV x=pk at HS2 HPK
      clear hpk hgood hbad HST hle
      rcases pk with ⟨n,v,sl,fs,nd⟩
      go_upto_region 10 with fail
      refine bF (fun W'=>aE w.heap.size 24 tv W'/\aA w W'/\aA w3 W'/\iJ w3.heap.size #[.string n,.int .i64 v,.int .i64 sl,.slice fp fs.length fc,.int .i64 kk,.string a.n,.int .i64 a.op,.int .i64 a.v,.int .i64 a.sl,.string a.f,.bool a.on,.string fl,.bool nt,.slice kp kids.length kc] W'/\dJ (w.heap.size+1) tv acc W') ⟨V3.out.keep (aA.alloc _ _) V3.out.facts.2.2,K3.out.alloc' _,aA.alloc _ _,iJ.new _ _,ROW3.out.keep (aA.alloc _ _)⟩ ?_
      rintro W4 ⟨v4,k4,k34,b4,row4⟩
      have V4:=hid v4
      have K4:=hid k4
      have ROW4:=hid row4
      have HOWN:=hid HROW.out.own
      have P4:Hid (dR (fun b=>w2.heap.size<=b/\b<W4.heap.size) W4 ⟨n,v,sl,fs,nd⟩ [.string n,.int .i64 v,.int .i64 sl,.slice fp fs.length fc,.int .i64 kk,.string a.n,.int .i64 a.op,.int .i64 a.v,.int .i64 a.sl,.string a.f,.bool a.on,.string fl,.bool nt,.slice kp kids.length kc]):=dR.mono (fun p hp=>k34.cell (p:=p) hp.2) (fun b hb=>⟨hb.1,Nat.lt_of_lt_of_le hb.2 k34.size⟩) HPK.out
      obtain ⟨hc4,hz4,hl4⟩:=v4.facts
      obtain ⟨hcb,hzb,hlb⟩:=b4.facts
      obtain ⟨csl,c1,c2,c3,c4⟩:=row4
      have HC3:=hid c3
      have HC4:=hid c4
      have hlw2:w.heap.size+1<=w2.heap.size:=V2L.out
      clear v4 k4 k34 b4 c3 c4 HPK V3 K3 ROW3
      go_wp2_with (at_builtin;refine wpList_append_own_at _ rfl _ _ 22 rfl (w.heap.size+1) 76 i0 (.agg #[.string ⟨#[]⟩,.int .i64 0,.int .i64 0,.slice none 0 0,.int .i64 0,.string ⟨#[]⟩,.int .i64 0,.int .i64 0,.int .i64 0,.string ⟨#[]⟩,.bool false,.string ⟨#[]⟩,.bool false,.slice none 0 0]) 14 176 Tryz.underlying22 hi hz0 hz1 hz2 rfl (by decide) tv acc.length csl.flatten rfl (HC3.out.alloc _) ⟨W4.heap.size,0,none⟩ 1 1 [.string n,.int .i64 v,.int .i64 sl,.slice fp fs.length fc,.int .i64 kk,.string a.n,.int .i64 a.op,.int .i64 a.v,.int .i64 a.sl,.string a.f,.bool a.on,.string fl,.bool nt,.slice kp kids.length kc] rfl rfl lD (by intro u hu;simp at hu;rcases hu with rfl | rfl | rfl | rfl | rfl | rfl | rfl | rfl | rfl | rfl | rfl | rfl | rfl | rfl<;>rfl) (by unfold maxLen;omega) (by omega) (by have:=aC W4 (.cells #[.string n,.int .i64 v,.int .i64 sl,.slice fp fs.length fc,.int .i64 kk,.string a.n,.int .i64 a.op,.int .i64 a.v,.int .i64 a.sl,.string a.f,.bool a.on,.string fl,.bool nt,.slice kp kids.length kc] 76);omega) ?_)
      intro v5 w5 h1 h2 _ h4
      obtain ⟨g5,cap5,rfl⟩:=aW h1 (Nat.succ_pos _)
      have hne5:tv.ownBlock≠some w.heap.size:=fun e=>by have:=HOWN.out _ e;omega
      have V5:=hid (V4.out.grown h2 hne5)
      have row5:=hid (dJ.push (B':=w2.heap.size) c1 c2 HC4.out (by omega) (fun g' hg'=>by have:=(HOWN.out g' hg').2;omega) P4.out rfl (by simpa using h1) h2 (by rw [aC];exact h4))
      have L5:Below (w.heap.size+1) W4 w5:=((Below.refl _ W4).alloc (by omega) _).grown h2 (by have:=aC W4 (.cells #[.string n,.int .i64 v,.int .i64 sl,.slice fp fs.length fc,.int .i64 kk,.string a.n,.int .i64 a.op,.int .i64 a.v,.int .i64 a.sl,.string a.f,.bool a.on,.string fl,.bool nt,.slice kp kids.length kc] 76);omega) (fun g' hg'=>(HOWN.out g' hg').1)
      have K5:Hid (aA w w5):=Below.trans K4.out (L5.mono (by omega))
      obtain ⟨hc5,hz5,hl5⟩:=V5.out.facts
      clear h1 h2 h4 L5 hc4 hz4 hcb hzb hne5 HC3 HC4
      have V6:=hid (V5.out.set (.slice (some ⟨g5,0,none⟩) (acc.length+1) cap5))
      have K6:Hid (aA w (w5.setCell ⟨w.heap.size,0,none⟩ (.slice (some ⟨g5,0,none⟩) (acc.length+1) cap5))):=Below.trans K5.out (aM _ _ _ _)
      have ROW6:=hid (row5.out.other (w':=w5.setCell ⟨w.heap.size,0,none⟩ (.slice (some ⟨g5,0,none⟩) (acc.length+1) cap5)) (by rw [cT];exact Nat.le_refl _) (fun b hb _=>gS w5 w.heap.size 0 _ b (by omega)))
      have hrs:(⟨r.toArray⟩:ByteArray).size=r.length:=by rw [← aS]
      go_wp2_with fail
      go_roundg mk
      case measure=>omega
      case rel=>exact ⟨⟨r.toArray⟩,(acc ++ [(⟨n,v,sl,fs,nd⟩:PK)]).length,acc ++ [⟨n,v,sl,fs,nd⟩],_,rfl,by rw [List.length_append];go_num,by rw [List.length_append];exact HS2.out,by omega,by rw [List.length_append];simp;omega,rfl,V6.out,ROW6.out,K6.out⟩
     ·have HX:Hid (rdT s.data.toList=(le,acc.length,[])):=aIg hlong' hz (by rw [HST.out];simp [hz])
      have hz1':(le==0)=false:=by simp [hz]
      have hz2':(le != 0)=true:=by simp [hz]
      obtain rfl:=hbad hz
      clear hz hgood hbad HST hle
      unfold yH
      go_upto_region 9 with fail
      refine bF (fun W'=>aE w.heap.size 24 tv W'/\aA w W') ⟨V3.out.keep (aA.alloc _ _) V3.out.facts.2.2,K3.out.alloc' _⟩ ?_
      rintro W4 ⟨v4,k4⟩
      have V4:=hid v4
      have K4:=hid k4
      obtain ⟨hc4,hz4,hl4⟩:=v4.facts
      clear v4 k4
      go_wp2_with fail
      refine cE (v:= .tuple #[.agg #[.slice none 0 0],.int .i64 acc.length,.int .i64 le]) (fun W'=>aE w.heap.size 24 (.slice none 0 0) W'/\aA w W') ⟨V4.out.set _,Below.trans K4.out (aM _ _ _ _)⟩ rfl ?_
      rintro W ⟨hb,hk⟩
      obtain ⟨hcW,-,-⟩:=hb.facts
      refine ⟨by simp [results,Tryz.results123,go_sem,hcW],.slice none 0 0,by rw [HX.out],fun _=>rfl,by rw [HX.out];exact Or.inl ⟨rfl,none,0,rfl⟩,hk,iP⟩
end Go.Proofs.YthaaaecmeafofaaGreatDoor
namespace Go.Proofs.YthaaaecmeafofaaGreatDoor
open Go.RowKit
def aD (b:Nat) (T:TypeId) (cs:Array Value) (w:World):Prop:=w.heap[b]? = some (.cells cs T (0,0))
theorem aD.facts {b:Nat} {T:TypeId} {cs:Array Value} {w:World} (h:aD b T cs w):(∀ o,w.cell? ⟨b,o,none⟩=cs[o]?)/\(∀ o,w.frozen? ⟨b,o,none⟩=false)/\b<w.heap.size:=by
 unfold aD at h
 refine ⟨fun o=>by simp [World.cell?,h],fun o=>by simp [World.frozen?,h],(Array.getElem?_eq_some_iff.1 h).1⟩
theorem aD.new (w:World) (T:TypeId) (cs:Array Value):aD w.heap.size T cs (w.alloc (.cells cs T)):=by
 show (w.heap.push _)[w.heap.size]? = _
 rw [Array.getElem?_push,if_pos rfl]
theorem aD.keep {b B:Nat} {T:TypeId} {cs:Array Value} {w w':World} (h:aD b T cs w) (k:Below B w w') (hB:b<B):aD b T cs w':=by
 unfold aD at *;rw [k.block b hB];exact h
theorem aD.set {b:Nat} {T:TypeId} {cs:Array Value} {w:World} (h:aD b T cs w) (o:Nat) (x:Value):aD b T (cs.setIfInBounds o x) (w.setCell ⟨b,o,none⟩ x):=by
 have:=aG h o x
 unfold aD
 rw [this]
theorem aE.apart {b c:Nat} {T:TypeId} {v:Value} {w w':World} (h:aE b T v w) (ha:bD (One c) w w') (hb:b≠c):aE b T v w':=by
 have hl:=h.facts.2.2
 unfold aE at *;rw [ha.block b hl (fun e=>hb e)];exact h
end Go.Proofs.YthaaaecmeafofaaGreatDoor
