/- Steps of the proof. -/
import Derived.Test.YthjlcjdlelkkdaaGreatDoorRs03
import Derived.Deep.RegionLaw
import Derived.BigRegion
import Derived.Deep.CutRange
import Derived.Sort.OwnSorted
import Derived.Lib.IndexMore
set_option maxHeartbeats 16000000
set_option maxRecDepth 100000
namespace Go.Proofs.YthjlcjdlelkkdaaGreatDoor
open Go.RowKit
theorem aXg{g:Nat}{wd:bX}{ws:List bX}(h:Lib.hasSuffix wd [63]=true):aY (g+1) wd ws=eQ g 5 At.zero ⟨(jT wd).toArray⟩ (aBb wd) ws:=by
 have e:(⟨(jT wd).toArray⟩:ByteArray).data.toList=jT wd:=by simp
 rw[aY,if_pos h];unfold eQ;rw[e];cases hn:aP (jT wd)
 ·rw[if_neg (by decide),if_pos ⟨rfl,rfl⟩]
 ·rw[if_pos rfl,if_neg (by simp)]
theorem aUe{g:Nat}{wd:bX}{ws:List bX}(h:Lib.hasSuffix wd [63]=false)(h2:wd = [124,124]):aY (g+1) wd ws=eQ g 4 At.zero ⟨#[]⟩ false ws:=by
 rw[aY,if_neg (by rw[h];decide),if_pos h2];unfold eQ;rw[if_neg (by simp)]
theorem aVy{g:Nat}{wd:bX}{ws:List bX}(h:Lib.hasSuffix wd [63]=false)(h2:wd ≠ [124,124])(h3:wd = [40]):aY (g+1) wd ws=eA (aY g) (.node 3 At.zero ⟨#[]⟩ false) ws:=by
 rw[aY,if_neg (by rw[h];decide),if_neg h2,if_pos h3]
theorem aUd{g:Nat}{wd:bX}{ws:List bX}(h:Lib.hasSuffix wd [63]=false)(h2:wd ≠ [124,124])(h3:wd ≠ [40]):aY (g+1) wd ws=(gN wd).map fun t=>(t,ws):=by
 rw[aY,if_neg (by rw[h];decide),if_neg h2,if_neg h3]
theorem aMy:jD 0:=by
 intro rb wd ws d w hd _ _ _ _ _;have R1:Hid (dF w.heap.size #[.int .i64 0,.string ⟨#[]⟩,.int .i64 0,.int .i64 0,.int .i64 0,.string ⟨#[]⟩,.bool false,.string ⟨#[]⟩,.bool false,.slice none 0 0] (w.alloc (.cells #[.int .i64 0,.string ⟨#[]⟩,.int .i64 0,.int .i64 0,.int .i64 0,.string ⟨#[]⟩,.bool false,.string ⟨#[]⟩,.bool false,.slice none 0 0] 96))):=dF.new _ _;have A1:Hid (bD (One rb) w (w.alloc (.cells #[.int .i64 0,.string ⟨#[]⟩,.int .i64 0,.int .i64 0,.int .i64 0,.string ⟨#[]⟩,.bool false,.string ⟨#[]⟩,.bool false,.slice none 0 0] 96))):=eG _ _;have a3:d=5:=by omega
 subst a3;go_enter Tryz.func143,Tryz.ntmps143;go_upto_region 1 with fail;generalize w.alloc (.cells #[.int .i64 0,.string ⟨#[]⟩,.int .i64 0,.int .i64 0,.int .i64 0,.string ⟨#[]⟩,.bool false,.string ⟨#[]⟩,.bool false,.slice none 0 0] 96)=W1 at R1 A1 |-
 obtain⟨a2,a0,a4⟩:=R1.out.facts;go_wp2_with fail;clear a2 a0;refine bM (.bool false) R1.out rfl rfl ?_;intro W BW KW SW OW;obtain⟨a1,_,_⟩:=BW.out.facts;refine⟨by simp[results,Tryz.results143,go_sem,a1],?_⟩;show bS _ _ w _ W;exact⟨rfl,cB A1.out KW.out (Y1 _)⟩
theorem aMx(g:Nat)(H:jD g):jD (g+1):=by
 intro rb wd ws d w hd c0 hE hO hr c8;have c1:d+g=4:=by omega
 have b2:=hr.1.lt;have HE:=hid hE;have HO:=hid hO;have HH:=hid H;have R1:Hid (dF w.heap.size #[.int .i64 0,.string ⟨#[]⟩,.int .i64 0,.int .i64 0,.int .i64 0,.string ⟨#[]⟩,.bool false,.string ⟨#[]⟩,.bool false,.slice none 0 0] (w.alloc (.cells #[.int .i64 0,.string ⟨#[]⟩,.int .i64 0,.int .i64 0,.int .i64 0,.string ⟨#[]⟩,.bool false,.string ⟨#[]⟩,.bool false,.slice none 0 0] 96))):=dF.new _ _;have A1:Hid (bD (One rb) w (w.alloc (.cells #[.int .i64 0,.string ⟨#[]⟩,.int .i64 0,.int .i64 0,.int .i64 0,.string ⟨#[]⟩,.bool false,.string ⟨#[]⟩,.bool false,.slice none 0 0] 96))):=eG _ _;have b7:=hid (hr.keep (aA.alloc w (.cells #[.int .i64 0,.string ⟨#[]⟩,.int .i64 0,.int .i64 0,.int .i64 0,.string ⟨#[]⟩,.bool false,.string ⟨#[]⟩,.bool false,.slice none 0 0] 96)));clear hE hO H hr hd;go_enter Tryz.func143,Tryz.ntmps143;go_wp2_with fail;generalize w.alloc (.cells #[.int .i64 0,.string ⟨#[]⟩,.int .i64 0,.int .i64 0,.int .i64 0,.string ⟨#[]⟩,.bool false,.string ⟨#[]⟩,.bool false,.slice none 0 0] 96)=W1 at R1 A1 b7 |-
 have a9:=R1.out.facts.2.2;refine (Tryz.strings_CutSuffix wd ⟨#[63]⟩ W1 (by omega)).mono ?_;rintro e w2 ⟨rfl,b6⟩;rw[b6,show (⟨#[63]⟩:ByteArray).data.toList = [63] from rfl];clear b6 w2;cases hsuf:Lib.hasSuffix wd.data.toList [63]
 ·have b4:=hid hsuf;clear hsuf;go_upto_region 7 with fail;rcases nA wd [124,124] with ⟨hw1,b6,hw3⟩ | ⟨hw1,b6,hw3⟩
  ·have a3:=hid (aUe (g:=g) (ws:=ws.map (·.data.toList)) b4.out hw1);clear hw1;go_wp2_with fail;refine (vD g HH.out rb 4 ⟨#[]⟩ ⟨#[]⟩ 0 0 0 false ⟨#[]⟩ false ws d W1 c1 c0 (HE.out.apart HO.out b2 A1.out) HO.out b7.out).mono ?_;rintro e w3 a1;have a0:bS rb (aY (g+1) wd.data.toList (ws.map (·.data.toList))) W1 e w3:=by rw[a3.out];exact a1
   clear a1;cases hq:aY (g+1) wd.data.toList (ws.map (·.data.toList)) with
   | none=>
    rw[hq] at a0;obtain⟨rfl,a2⟩:=a0;have R3:=hid (R1.out.apart a2 (by omega));have A3:=hid (A1.out.trans a2);have HQ:=hid hq;clear a2 hq;unfold oM;obtain⟨a4,a5,a7⟩:=R3.out.facts;go_wp2_with fail;clear a4 a5;refine bM (.bool false) R3.out rfl rfl ?_;intro W BW KW SW OW;obtain⟨a6,_,_⟩:=BW.out.facts;refine⟨by simp[results,Tryz.results143,go_sem,a6],?_⟩;show bS _ _ w _ W;rw[HQ.out];exact⟨rfl,cB A3.out KW.out (Y1 _)⟩
   | some r=>
    obtain⟨t,rs⟩:=r;rw[hq] at a0;obtain⟨cs,b8,rfl,a8,b3,b0,a2⟩:=a0;have R3:=hid (R1.out.apart a2 (by omega));have A3:=hid (A1.out.trans a2);have HQ:=hid hq;have b1:=hid a8;have b5:=hid b3;have b9:=hid b0;clear a2 hq b3 b0;cases t with
    | node k' a' fl' nt' kids'=>
    rw[aH] at a8;obtain⟨c3,c2,rfl,-,-,-⟩:=a8;obtain⟨a4,a5,a7⟩:=R3.out.facts;go_wp2_with fail;clear a4 a5;refine bM (.bool true) R3.out rfl rfl ?_;intro W BW KW SW OW;obtain⟨a6,_,_⟩:=BW.out.facts;refine⟨by simp[results,Tryz.results143,go_sem,a6],?_⟩;show bS _ _ w _ W;rw[HQ.out];obtain⟨d1,d2⟩:=jG (X:=w.heap.size) (w:=w) (Y1 _) a9 b1.out b5.out b2 OW.out SW.out;exact⟨_,b8,rfl,d1,d2,b9.out,cB A3.out KW.out (Y1 _)⟩
  ·have c5:=hid hw1;clear hw1;rcases nA wd [40] with ⟨hv1,hv2,hv3⟩ | ⟨hv1,hv2,hv3⟩
   ·have a3:=hid (aVy (g:=g) (ws:=ws.map (·.data.toList)) b4.out c5.out hv1);clear hv1;go_wp2_with fail;refine (vR g HH.out rb 3 ⟨#[]⟩ ⟨#[]⟩ 0 0 0 false ⟨#[]⟩ false ws d W1 c1 c0 (HE.out.apart HO.out b2 A1.out) HO.out b7.out).mono ?_;rintro e w3 a1;have a0:bS rb (aY (g+1) wd.data.toList (ws.map (·.data.toList))) W1 e w3:=by rw[a3.out];exact a1
    clear a1;cases hq:aY (g+1) wd.data.toList (ws.map (·.data.toList)) with
    | none=>
     rw[hq] at a0;obtain⟨rfl,a2⟩:=a0;have R3:=hid (R1.out.apart a2 (by omega));have A3:=hid (A1.out.trans a2);have HQ:=hid hq;clear a2 hq;unfold oM;obtain⟨a4,a5,a7⟩:=R3.out.facts;go_wp2_with fail;clear a4 a5;refine bM (.bool false) R3.out rfl rfl ?_;intro W BW KW SW OW;obtain⟨a6,_,_⟩:=BW.out.facts;refine⟨by simp[results,Tryz.results143,go_sem,a6],?_⟩;show bS _ _ w _ W;rw[HQ.out];exact⟨rfl,cB A3.out KW.out (Y1 _)⟩
    | some r=>
     obtain⟨t,rs⟩:=r;rw[hq] at a0;obtain⟨cs,b8,rfl,a8,b3,b0,a2⟩:=a0;have R3:=hid (R1.out.apart a2 (by omega));have A3:=hid (A1.out.trans a2);have HQ:=hid hq;have b1:=hid a8;have b5:=hid b3;have b9:=hid b0;clear a2 hq b3 b0;cases t with
     | node k' a' fl' nt' kids'=>
     rw[aH] at a8;obtain⟨c3,c2,rfl,-,-,-⟩:=a8;obtain⟨a4,a5,a7⟩:=R3.out.facts;go_wp2_with fail;clear a4 a5;refine bM (.bool true) R3.out rfl rfl ?_;intro W BW KW SW OW;obtain⟨a6,_,_⟩:=BW.out.facts;refine⟨by simp[results,Tryz.results143,go_sem,a6],?_⟩;show bS _ _ w _ W;rw[HQ.out];obtain⟨d1,d2⟩:=jG (X:=w.heap.size) (w:=w) (Y1 _) a9 b1.out b5.out b2 OW.out SW.out;exact⟨_,b8,rfl,d1,d2,b9.out,cB A3.out KW.out (Y1 _)⟩
   ·have a3:=hid (aUd (g:=g) (ws:=ws.map (·.data.toList)) b4.out c5.out hv1);clear hv1;go_wp2_with fail;refine (aQe wd W1 (HE.out.apart HO.out b2 A1.out)).mono ?_;rintro e w3 a1;cases hq:gN wd.data.toList with
    | none=>
     unfold jO at a1;rw[hq] at a1;obtain⟨rfl,k3⟩:=a1;have HQ:Hid (aY (g+1) wd.data.toList (ws.map (·.data.toList))=none):=by show _=_;rw[a3.out,hq];rfl
     have R3:=hid (R1.out.keep k3 a9);have A3:=hid (A1.out.trans (cO k3));clear hq k3;unfold oM;obtain⟨a4,a5,a7⟩:=R3.out.facts;go_wp2_with fail;clear a4 a5;refine bM (.bool false) R3.out rfl rfl ?_;intro W BW KW SW OW;obtain⟨a6,_,_⟩:=BW.out.facts;refine⟨by simp[results,Tryz.results143,go_sem,a6],?_⟩;show bS _ _ w _ W;rw[HQ.out];exact⟨rfl,cB A3.out KW.out (Y1 _)⟩
    | some tt=>
     unfold jO at a1;rw[hq] at a1;obtain⟨cs,rfl,a8,k3⟩:=a1;have HQ:Hid (aY (g+1) wd.data.toList (ws.map (·.data.toList))=some (tt,ws.map (·.data.toList))):=by show _=_;rw[a3.out,hq];rfl
     have R3:=hid (R1.out.keep k3 a9);have A3:=hid (A1.out.trans (cO k3));have b5:=hid (b7.out.keep k3);have b1:=hid (a8 (fun b=>W1.heap.size<=b/\b<w3.heap.size));have c4:=b1.out;clear hq k3 a8;cases tt with
     | node k' a' fl' nt' kids'=>
     rw[aH] at c4;obtain⟨c3,c2,rfl,-,-,-⟩:=c4;obtain⟨a4,a5,a7⟩:=R3.out.facts;go_wp2_with fail;clear a4 a5;refine bM (.bool true) R3.out rfl rfl ?_;intro W BW KW SW OW;obtain⟨a6,_,_⟩:=BW.out.facts;refine⟨by simp[results,Tryz.results143,go_sem,a6],?_⟩;show bS _ _ w _ W;rw[HQ.out];obtain⟨d1,d2⟩:=jG (X:=w.heap.size) (w:=w) (Y1 _) a9 b1.out b5.out b2 OW.out SW.out;exact⟨_,ws,rfl,d1,d2,rfl,cB A3.out KW.out (Y1 _)⟩
 ·have a3:=hid (aXg (g:=g) (ws:=ws.map (·.data.toList)) hsuf);clear hsuf;go_wp2_with fail;refine (Tryz.strings_CutPrefix _ _ _).mono ?_;rintro e w2 ⟨rfl,b6⟩;rw[b6,show (⟨#[33]⟩:ByteArray).data.toList = [33] from rfl,show (⟨(Lib.trimSuffix wd.data.toList [63]).toArray⟩:ByteArray).data.toList=Lib.trimSuffix wd.data.toList [63] by simp];clear b6 w2;have c6:(⟨(jT wd.data.toList).toArray⟩:ByteArray).size<=20000:=by
   rw[oW];have h1:(jT wd.data.toList).length<=(Lib.trimSuffix wd.data.toList [63]).length:=rS _ _;have h2:(Lib.trimSuffix wd.data.toList [63]).length<=wd.data.toList.length:=by unfold Lib.trimSuffix;split<;>simp
   rw[aU] at h2;omega
  rw[show Lib.trimPrefix (Lib.trimSuffix wd.data.toList [63]) [33]=jT wd.data.toList from rfl,show Lib.hasPrefix (Lib.trimSuffix wd.data.toList [63]) [33]=aBb wd.data.toList from rfl];generalize (⟨(jT wd.data.toList).toArray⟩:ByteArray)=flx at a3 c6 |-
  generalize aBb wd.data.toList=ntx at a3 |-
  go_wp2_with fail;refine (oR flx W1 (by omega)).mono ?_;rintro e w2 ⟨rfl,k2⟩;have R2:=hid (R1.out.keep k2 a9);have A2:=hid (A1.out.trans (cO k2));have c7:=hid (b7.out.keep k2);clear k2 a9 R1 A1 b7;have a9:=R2.out.facts.2.2;go_wp2_with fail;refine (vD g HH.out rb 5 ⟨#[]⟩ ⟨#[]⟩ 0 0 0 false flx ntx ws d w2 c1 c0 (HE.out.apart HO.out b2 A2.out) HO.out c7.out).mono ?_;rintro e w3 a1;have a0:bS rb (aY (g+1) wd.data.toList (ws.map (·.data.toList))) w2 e w3:=by rw[a3.out];exact a1
  clear a1;cases hq:aY (g+1) wd.data.toList (ws.map (·.data.toList)) with
  | none=>
   rw[hq] at a0;obtain⟨rfl,a2⟩:=a0;have R3:=hid (R2.out.apart a2 (by omega));have A3:=hid (A2.out.trans a2);have HQ:=hid hq;clear a2 hq;unfold oM;obtain⟨a4,a5,a7⟩:=R3.out.facts;go_wp2_with fail;clear a4 a5;refine bM (.bool false) R3.out rfl rfl ?_;intro W BW KW SW OW;obtain⟨a6,_,_⟩:=BW.out.facts;refine⟨by simp[results,Tryz.results143,go_sem,a6],?_⟩;show bS _ _ w _ W;rw[HQ.out];exact⟨rfl,cB A3.out KW.out (Y1 _)⟩
  | some r=>
   obtain⟨t,rs⟩:=r;rw[hq] at a0;obtain⟨cs,b8,rfl,a8,b3,b0,a2⟩:=a0;have R3:=hid (R2.out.apart a2 (by omega));have A3:=hid (A2.out.trans a2);have HQ:=hid hq;have b1:=hid a8;have b5:=hid b3;have b9:=hid b0;clear a2 hq b3 b0;cases t with
   | node k' a' fl' nt' kids'=>
   rw[aH] at a8;obtain⟨c3,c2,rfl,-,-,-⟩:=a8;obtain⟨a4,a5,a7⟩:=R3.out.facts;go_wp2_with fail;clear a4 a5;refine bM (.bool true) R3.out rfl rfl ?_;intro W BW KW SW OW;obtain⟨a6,_,_⟩:=BW.out.facts;refine⟨by simp[results,Tryz.results143,go_sem,a6],?_⟩;show bS _ _ w _ W;rw[HQ.out];obtain⟨d1,d2⟩:=jG (X:=w.heap.size) (w:=w) (Y1 _) a9 b1.out b5.out b2 OW.out SW.out;exact⟨_,b8,rfl,d1,d2,b9.out,cB A3.out KW.out (Y1 _)⟩
theorem wD:∀g:Nat,jD g
 | 0=>aMy
 | g+1=>aMx g (wD g)
end Go.Proofs.YthjlcjdlelkkdaaGreatDoor
namespace Go.Proofs.YthjlcjdlelkkdaaGreatDoor
open Go.RowKit
def aAd:List Value:= [.int .i64 0,.string ⟨#[]⟩,.int .i64 0,.int .i64 0,.int .i64 0,.string ⟨#[]⟩,.bool false,.string ⟨#[]⟩,.bool false,.slice none 0 0]
def nJ(l:List UInt8)(w:World)(e:Ending)(w':World):Prop:=
 ∃cs:List Value,e=.returned (.tuple #[.agg cs.toArray,.int .i64 (rdE l)])/\(rdE l=0->∃t,kF l=some t/\aH (fun b=>w.heap.size<=b/\b<w'.heap.size) w' t cs)/\(rdE l≠0->cs=aAd)/\aA w w'
def lN(w:World):Prop:=0<w.heap.size/\∃m,w.cell? ⟨0,0,none⟩=some (.int .i64 m)
theorem lN.keep{w w':World}(h:lN w)(k:aA w w'):lN w':=by
 obtain⟨h1,m,h2⟩:=h;exact⟨R8 h1 k.size,m,(k.cell (p:=⟨0,0,none⟩) h1).trans h2⟩
theorem qC:∀(k:Nat) (l x:List UInt8),x∈Lib.splitK [32] 0 k l->x.length<=l.length
 | 0,l,x,h=>by rw[T0.1 h];exact Y1 _
 | k+1,l,x,h=>by
  rw[Lib.splitK] at h;split at h
  ·rw[T0.1 h];exact Y1 _
  ·rcases Q3.1 h with rfl | h
   ·rw[List.length_take];exact Nat.min_le_right _ _
   ·have:=qC k _ x h;simp at this;omega
theorem aSj(s:ByteArray):∃ws:List ByteArray,ws=Lib.splitB ⟨#[32]⟩ 0 (Lib.countB s ⟨#[32]⟩) s/\ws.length=Lib.countB s ⟨#[32]⟩+1/\ws.length<=s.size+1/\ws.map (·.data.toList)=Lib.split s.data.toList [32]/\∀x∈ws,x.size<=s.size:=by
 have h1:1<=(⟨#[32]⟩:ByteArray).size:=by decide
 have hl:=Lib.splitB_all ⟨#[32]⟩ h1 0 _ s rfl;have hc:=Lib.countB_le ⟨#[32]⟩ h1 s.size s (Y1 _);have hd:(Lib.splitB ⟨#[32]⟩ 0 (Lib.countB s ⟨#[32]⟩) s).map (·.data.toList)=Lib.split s.data.toList [32]:=Lib.splitB_data ⟨#[32]⟩ 0 _ s;refine⟨_,rfl,hl,by omega,hd,fun x hx=>?_⟩;have:x.data.toList∈Lib.split s.data.toList [32]:=by rw[<-hd];exact Q4.2 ⟨x,hx,rfl⟩
 have h2:=qC _ _ _ this;rw[aU,aU] at h2;exact h2
theorem aVw{w:World}(h:Env w){b:Nat}(hb:w.heap.size<=b):Old b:=⟨R8 h.1.1 hb,R8 h.2.1.1 hb,R8 h.2.2.1.1 hb,R8 h.2.2.2.1 hb⟩
theorem aWa{w:World}{ws:List ByteArray}(h1:ws.length<=20001)(h2:∀x∈ws,x.size<=20000):
  RdS (w.heap.size+1) ws ((w.alloc (.cells (ws.map Value.string).toArray 9)).alloc (.cells #[.slice (some ⟨w.heap.size,0,none⟩) ws.length ws.length] 207)):=by
 have e:=aC w (.cells (ws.map Value.string).toArray 9);have hv:=aE.new (w.alloc (.cells (ws.map Value.string).toArray 9)) 207 (.slice (some ⟨w.heap.size,0,none⟩) ws.length ws.length);rw[e] at hv;refine⟨⟨_,_,hv,Y1 _,by omega,fun _=>⟨w.heap.size,0,rfl,by omega,fun j x hx=>?_⟩⟩,h2⟩;rw[(aA.alloc (w.alloc (.cells (ws.map Value.string).toArray 9)) _).cell (p:=⟨w.heap.size,0+j,none⟩) (by rw[e];show w.heap.size<_;omega)];have:=jI (w:=w) (cs:=ws.map Value.string) (T:=9) j (.string x) (by simp[hx]);rwa [Addr.add_mid] at this
theorem wC(s:ByteArray)(w:World)(hs:20000<s.size):
  Calls Tryz.prog 120 #[.string s] w fun e w'=>nJ s.data.toList w e w':=by
 have HP:Hid (rdE s.data.toList=2):=by show _=_;unfold rdE;rw[aU,if_pos hs]
 have q1:(20000:Int)<(s.size:Int):=by omega
 have R1:Hid (dF w.heap.size #[.int .i64 0,.string ⟨#[]⟩,.int .i64 0,.int .i64 0,.int .i64 0,.string ⟨#[]⟩,.bool false,.string ⟨#[]⟩,.bool false,.slice none 0 0] (w.alloc (.cells #[.int .i64 0,.string ⟨#[]⟩,.int .i64 0,.int .i64 0,.int .i64 0,.string ⟨#[]⟩,.bool false,.string ⟨#[]⟩,.bool false,.slice none 0 0] 96))):=dF.new _ _;have K1:=hid (aA.alloc w (.cells #[.int .i64 0,.string ⟨#[]⟩,.int .i64 0,.int .i64 0,.int .i64 0,.string ⟨#[]⟩,.bool false,.string ⟨#[]⟩,.bool false,.slice none 0 0] 96));go_enter Tryz.func120,Tryz.ntmps120;go_upto_region 1 with fail;generalize w.alloc (.cells #[.int .i64 0,.string ⟨#[]⟩,.int .i64 0,.int .i64 0,.int .i64 0,.string ⟨#[]⟩,.bool false,.string ⟨#[]⟩,.bool false,.slice none 0 0] 96)=W1 at R1 K1 |-
 obtain⟨a0,a1,a2⟩:=R1.out.facts;go_wp2_with fail;clear a0 a1;refine bM (.int .i64 (2)) R1.out rfl rfl ?_;intro W BW KW SW OW;obtain⟨a3,_,_⟩:=BW.out.facts;refine⟨by simp[results,Tryz.results120,go_sem,a3],?_⟩;show nJ _ w _ W;exact⟨aAd,by rw[HP.out];rfl,fun e=>absurd (HP.out.symm.trans e) (by decide),fun _=>rfl,Below.trans K1.out KW.out⟩
theorem tQ(s:ByteArray)(w:World)(hE:Env w)(hM:lN w)(hs:s.size<=20000):
  Calls Tryz.prog 120 #[.string s] w fun e w'=>nJ s.data.toList w e w':=by
 have q1:¬(20000:Int)<(s.size:Int):=by omega
 have HL:Hid (¬20000<s.data.toList.length):=by show ¬_;rw[aU];omega
 have R1:Hid (dF w.heap.size #[.int .i64 0,.string ⟨#[]⟩,.int .i64 0,.int .i64 0,.int .i64 0,.string ⟨#[]⟩,.bool false,.string ⟨#[]⟩,.bool false,.slice none 0 0] (w.alloc (.cells #[.int .i64 0,.string ⟨#[]⟩,.int .i64 0,.int .i64 0,.int .i64 0,.string ⟨#[]⟩,.bool false,.string ⟨#[]⟩,.bool false,.slice none 0 0] 96))):=dF.new _ _;have K1:=hid (aA.alloc w (.cells #[.int .i64 0,.string ⟨#[]⟩,.int .i64 0,.int .i64 0,.int .i64 0,.string ⟨#[]⟩,.bool false,.string ⟨#[]⟩,.bool false,.slice none 0 0] 96));have d3:=hid (aC w (.cells #[.int .i64 0,.string ⟨#[]⟩,.int .i64 0,.int .i64 0,.int .i64 0,.string ⟨#[]⟩,.bool false,.string ⟨#[]⟩,.bool false,.slice none 0 0] 96));have HE:=hid hE;have HM:=hid hM;obtain⟨ws,c4,d4,d7,d1,a9⟩:=aSj s;have e0:=hid c4;have f0:=hid d1;have e4:=hid a9;have d6:=hid d4;clear hE hM c4 d1 a9 d4;go_enter Tryz.func120,Tryz.ntmps120;go_wp2_with fail;generalize w.alloc (.cells #[.int .i64 0,.string ⟨#[]⟩,.int .i64 0,.int .i64 0,.int .i64 0,.string ⟨#[]⟩,.bool false,.string ⟨#[]⟩,.bool false,.slice none 0 0] 96)=W1 at R1 K1 d3 |-
 have c9:=(HM.out.keep K1.out);obtain⟨mm,d2⟩:=c9.2;refine (Tryz.strings_Split s ⟨#[32]⟩ mm W1 (by omega) d2 (by decide)).mono ?_;rintro e w2 ⟨rfl,d5⟩;rw[d5,<-e0.out,<-d6.out];clear d5 w2 c9 d2;have b8:=hid (aWa (w:=W1) (ws:=ws) (by omega) (fun x hx=>U2 (e4.out x hx) hs));have K3:=hid ((K1.out.alloc' (.cells (ws.map Value.string).toArray 9)).alloc' (.cells #[.slice (some ⟨W1.heap.size,0,none⟩) ws.length ws.length] 207));have R3:=hid ((R1.out.keep (aA.alloc W1 (.cells (ws.map Value.string).toArray 9)) R1.out.facts.2.2).keep (aA.alloc _ (.cells #[.slice (some ⟨W1.heap.size,0,none⟩) ws.length ws.length] 207)) (R1.out.keep (aA.alloc W1 (.cells (ws.map Value.string).toArray 9)) R1.out.facts.2.2).facts.2.2);go_wp2_with fail;generalize (W1.alloc (.cells (ws.map Value.string).toArray 9)).alloc (.cells #[.slice (some ⟨W1.heap.size,0,none⟩) ws.length ws.length] 207)=W3 at b8 K3 R3 |-
 have e5:w.heap.size+1<W1.heap.size+1:=by rw[d3.out];omega
 generalize W1.heap.size+1=rb at b8 e5 |-
 refine (oE rb ws W3 b8.out).mono ?_;rintro e w4 ⟨rfl,b5,c3,b7⟩;have R4:=hid (R3.out.apart b7 (by omega));have K4:Hid (aA w w4):=Below.trans K3.out (b7.below K3.out.size (fun b hb e=>by have:b=rb:=e;omega));have c6:=hid b5;obtain⟨g4,c2⟩:∃g4:Nat,g4=4:=⟨4,rfl⟩;have c0:=hid c2;clear c2;have a8:Hid (kF s.data.toList=match aY g4 (ws.headD ⟨#[]⟩).data.toList (ws.tail.map (·.data.toList)) with
  | some (t,[])=>some t
  | _=>none):=by
  show _=_;unfold kF;rw[<-f0.out,c0.out];cases ws with
  | nil=>exact absurd d6.out (by simp)
  | cons x l=>rfl
 generalize ws.headD ⟨#[]⟩=x4 at c3 a8 |-
 generalize ws.tail=tl4 at c6 b5 a8;clear b5 b7;go_wp2_with fail;refine (wD g4 rb x4 tl4 1 w4 (by have:=c0.out;omega) (by decide) (HE.out.keep K4.out) (aVw HE.out (by omega)) c6.out c3).mono ?_;rintro e w5 a0;have f1:w.heap.size<w4.heap.size:=R4.out.facts.2.2;cases hq:aY g4 x4.data.toList (tl4.map (·.data.toList)) with
 | none=>
  rw[hq] at a0;obtain⟨rfl,a3⟩:=a0;have HP:Hid (rdE s.data.toList=1):=by show _=_;unfold rdE;rw[if_neg HL.out,a8.out,hq]
  have R5:=hid ((R4.out.apart a3 (by omega)).keep (aA.alloc w5 (.cells #[.int .i64 0,.string ⟨#[]⟩,.int .i64 0,.int .i64 0,.int .i64 0,.string ⟨#[]⟩,.bool false,.string ⟨#[]⟩,.bool false,.slice none 0 0] 96)) (R4.out.apart a3 (by omega)).facts.2.2);have K5:Hid (aA w (w5.alloc (.cells #[.int .i64 0,.string ⟨#[]⟩,.int .i64 0,.int .i64 0,.int .i64 0,.string ⟨#[]⟩,.bool false,.string ⟨#[]⟩,.bool false,.slice none 0 0] 96))):=aA.alloc' (Below.trans K4.out (a3.below K4.out.size (fun b hb e=>by have:b=rb:=e;omega))) _;clear a3 hq;unfold oM;go_upto_region 5 with fail;generalize w5.alloc (.cells #[.int .i64 0,.string ⟨#[]⟩,.int .i64 0,.int .i64 0,.int .i64 0,.string ⟨#[]⟩,.bool false,.string ⟨#[]⟩,.bool false,.slice none 0 0] 96)=W5 at R5 K5 |-
  obtain⟨a4,a5,a7⟩:=R5.out.facts;go_wp2_with fail;clear a4 a5;refine bM (.int .i64 (1)) R5.out rfl rfl ?_;intro W BW KW SW OW;obtain⟨a6,_,_⟩:=BW.out.facts;refine⟨by simp[results,Tryz.results120,go_sem,a6],?_⟩;show nJ _ w _ W;exact⟨aAd,by rw[HP.out];rfl,fun e=>absurd (HP.out.symm.trans e) (by decide),fun _=>rfl,Below.trans K5.out KW.out⟩
 | some r=>
  obtain⟨t,rs⟩:=r;rw[hq] at a0;obtain⟨cs,b4,rfl,b6,b9,c5,a3⟩:=a0;have d0:Hid (b4.map (·.data.toList)=rs):=c5;have d9:Hid (aH (fun b=>w4.heap.size<=b/\b<w5.heap.size) w5 t cs):=b6;have HQ:=hid hq;cases t with
  | node k' a' fl' nt' kids'=>
  rw[aH] at b6;obtain⟨a2,a1,rfl,-,-,-⟩:=b6;have R5:=hid ((R4.out.apart a3 (by omega)).keep (aA.alloc w5 (.cells #[.int .i64 k',.string a'.n,.int .i64 a'.op,.int .i64 a'.v,.int .i64 a'.sl,.string a'.f,.bool a'.on,.string fl',.bool nt',.slice a2 kids'.length a1] 96)) (R4.out.apart a3 (by omega)).facts.2.2);have C5:Hid (dF w5.heap.size #[.int .i64 k',.string a'.n,.int .i64 a'.op,.int .i64 a'.v,.int .i64 a'.sl,.string a'.f,.bool a'.on,.string fl',.bool nt',.slice a2 kids'.length a1] (w5.alloc (.cells #[.int .i64 k',.string a'.n,.int .i64 a'.op,.int .i64 a'.v,.int .i64 a'.sl,.string a'.f,.bool a'.on,.string fl',.bool nt',.slice a2 kids'.length a1] 96))):=dF.new _ _;have K5:Hid (aA w (w5.alloc (.cells #[.int .i64 k',.string a'.n,.int .i64 a'.op,.int .i64 a'.v,.int .i64 a'.sl,.string a'.f,.bool a'.on,.string fl',.bool nt',.slice a2 kids'.length a1] 96))):=aA.alloc' (Below.trans K4.out (a3.below K4.out.size (fun b hb e=>by have:b=rb:=e;omega))) _;have c7:=hid (b9.keep (aA.alloc w5 (.cells #[.int .i64 k',.string a'.n,.int .i64 a'.op,.int .i64 a'.v,.int .i64 a'.sl,.string a'.f,.bool a'.on,.string fl',.bool nt',.slice a2 kids'.length a1] 96)));have b3:Hid (aH (fun b=>w4.heap.size<=b/\b<w5.heap.size) (w5.alloc (.cells #[.int .i64 k',.string a'.n,.int .i64 a'.op,.int .i64 a'.v,.int .i64 a'.sl,.string a'.f,.bool a'.on,.string fl',.bool nt',.slice a2 kids'.length a1] 96)) (.node k' a' fl' nt' kids') [.int .i64 k',.string a'.n,.int .i64 a'.op,.int .i64 a'.v,.int .i64 a'.sl,.string a'.f,.bool a'.on,.string fl',.bool nt',.slice a2 kids'.length a1]):=d9.out.keep (fun b hb=>hb.2) (aA.alloc w5 (.cells #[.int .i64 k',.string a'.n,.int .i64 a'.op,.int .i64 a'.v,.int .i64 a'.sl,.string a'.f,.bool a'.on,.string fl',.bool nt',.slice a2 kids'.length a1] 96));have e8:w4.heap.size<=w5.heap.size:=a3.size;clear a3 hq c5 b9;go_upto_region 5 with fail;have b2:=aC w5 (.cells #[.int .i64 k',.string a'.n,.int .i64 a'.op,.int .i64 a'.v,.int .i64 a'.sl,.string a'.f,.bool a'.on,.string fl',.bool nt',.slice a2 kids'.length a1] 96);generalize w5.alloc (.cells #[.int .i64 k',.string a'.n,.int .i64 a'.op,.int .i64 a'.v,.int .i64 a'.sl,.string a'.f,.bool a'.on,.string fl',.bool nt',.slice a2 kids'.length a1] 96)=W5 at R5 C5 K5 c7 b3 b2 |-
  obtain⟨pp,cc,b0,-,-,-⟩:=c7.out.1;obtain⟨e6,-,-⟩:=b0.facts;obtain⟨c1,c8,f2⟩:=C5.out.facts;have b1:=hid b2;clear b0 b2;cases rs with
  | cons y rs'=>
   have HP:Hid (rdE s.data.toList=1):=by show _=_;unfold rdE;rw[if_neg HL.out,a8.out,HQ.out]
   have e2:(0:Int)<(b4.length:Int):=by
    have:=Q0 List.length d0.out;simp at this;omega
   obtain⟨a4,a5,a7⟩:=R5.out.facts;go_wp2_with fail;clear a4 a5;refine bM (.int .i64 (1)) R5.out rfl rfl ?_;intro W BW KW SW OW;obtain⟨a6,_,_⟩:=BW.out.facts;refine⟨by simp[results,Tryz.results120,go_sem,a6],?_⟩;show nJ _ w _ W;exact⟨aAd,by rw[HP.out];rfl,fun e=>absurd (HP.out.symm.trans e) (by decide),fun _=>rfl,Below.trans K5.out KW.out⟩
  | nil=>
   have HP:Hid (rdE s.data.toList=dG (.node k' a' fl' nt' kids')):=by show _=_;unfold rdE;rw[if_neg HL.out,a8.out,HQ.out]
   have e3:Hid (kF s.data.toList=some (.node k' a' fl' nt' kids')):=by show _=_;rw[a8.out,HQ.out]
   obtain rfl:b4 = []:=by
    have:=Q0 List.length d0.out;simp at this;exact this
   go_wp2_with fail;refine (pM (.node k' a' fl' nt' kids') _ W5 (fun b=>w4.heap.size<=b/\b<w5.heap.size) (fun b hb=>by have:=b1.out;omega) b3.out).mono ?_;rintro e w6 ⟨rfl,k6⟩;have R6:=hid (R5.out.keep k6 R5.out.facts.2.2);have C6:=hid (C5.out.keep k6 C5.out.facts.2.2);have K6:=hid (K5.out.trans k6);have e7:Hid (aH (fun b=>w4.heap.size<=b/\b<w5.heap.size) w6 (.node k' a' fl' nt' kids') [.int .i64 k',.string a'.n,.int .i64 a'.op,.int .i64 a'.v,.int .i64 a'.sl,.string a'.f,.bool a'.on,.string fl',.bool nt',.slice a2 kids'.length a1]):=b3.out.keep (fun b hb=>by have:=b1.out;omega) k6;have f3:=k6.size;clear k6 c1 c8 e6;obtain⟨c1,c8,e1⟩:=C6.out.facts;have e9:w.heap.size≠w5.heap.size:=by omega
   by_cases hz:dG (.node k' a' fl' nt' kids')=0
   ·have HZ:=hid hz;rw[hz];clear hz;obtain⟨a4,a5,a7⟩:=R6.out.facts;go_wp2_with fail;clear a4 a5;refine bM (.int .i64 (0)) R6.out rfl rfl ?_;intro W BW KW SW OW;obtain⟨a6,_,_⟩:=BW.out.facts;refine⟨by simp[results,Tryz.results120,go_sem,a6],?_⟩;show nJ _ w _ W;refine⟨[.int .i64 k',.string a'.n,.int .i64 a'.op,.int .i64 a'.v,.int .i64 a'.sl,.string a'.f,.bool a'.on,.string fl',.bool nt',.slice a2 kids'.length a1],by rw[HP.out,HZ.out],fun _=>⟨_,e3.out,?_⟩,fun e=>absurd (HP.out.trans HZ.out) e,Below.trans K6.out KW.out⟩;exact aH.mono (fun p hp=>X0 (w:=w6) (OW.out _ (by have:=b1.out;omega))) (fun b hb=>⟨by omega,by have:=SW.out;have:=b1.out;omega⟩) _ _ e7.out
   ·have d8:(dG (.node k' a' fl' nt' kids') != 0)=true:=by simpa using hz
    have HZ:Hid (rdE s.data.toList≠0):=by show _≠_;rw[HP.out];exact hz
    clear hz;generalize dG (.node k' a' fl' nt' kids')=cc6 at d8 HP |-
    obtain⟨a4,a5,a7⟩:=R6.out.facts;go_wp2_with fail;clear a4 a5;refine bM (.int .i64 (cc6)) R6.out rfl rfl ?_;intro W BW KW SW OW;obtain⟨a6,_,_⟩:=BW.out.facts;refine⟨by simp[results,Tryz.results120,go_sem,a6],?_⟩;show nJ _ w _ W;exact⟨aAd,by rw[HP.out];rfl,fun e=>absurd e HZ.out,fun _=>rfl,Below.trans K6.out KW.out⟩
theorem yC(s:ByteArray)(w:World)(hE:Env w)(hM:lN w):
  Calls Tryz.prog 120 #[.string s] w fun e w'=>nJ s.data.toList w e w':=by
 by_cases h:20000<s.size
 ·exact wC s w h
 ·exact tQ s w hE hM (by omega)
end Go.Proofs.YthjlcjdlelkkdaaGreatDoor
namespace Go.Proofs.YthjlcjdlelkkdaaGreatDoor
open Go.RowKit
end Go.Proofs.YthjlcjdlelkkdaaGreatDoor
namespace Go.Proofs.YthjlcjdlelkkdaaGreatDoor
open Go.RowKit
theorem aW{P:Program}{ops:Array Oper}{o:Oper}{a:Act}{w:World}{K:Act->World->Prop}{Q:Exit->Act->World->Prop}{E:Prop}
  (hg:o.guard=none) (s x:Operand) (t:TypeId) (hop:o.op=Op.call { callee:=Callee.builtin Builtin.append,args:=#[s,x],argTypes:=#[t,t] })
  (base:Nat) (e:TypeId) (i:TypeInfo) (z:Value) (size bytes:Nat) (ht:P.underlying t=some (.slice e)) (hi:P.info? e=some i) (hz:i.zero=some z)
  (hsize:i.size=size) (hby:i.bytes=bytes) (hzs:z.cells.size=size) (hsz:0<size)
  (v:Value) (n:Nat) (xs:List Value) (hs:a.eval s=v) (hown:w.ownsRow base e size v n xs)
  (ad:Addr) (m c:Nat) (news:List Value) (hx:a.eval x=.slice (some ad) m c) (hl:news.length=m*size) (hnews:∀j u,news[j]? = some u->w.cell? (ad.add j)=some u) (h1:∀u∈news,u.oneCell'=true)
  (h63:n+m<=maxLen) (hbytes:(n+m)*bytes<=140737488355328) (hbase:base<=w.heap.size)
  (hK:∀v' w',w'.ownsRow base e size v' (n+m) (xs++news)->w.grownBy w' v.ownBlock->(v'.ownBlock=v.ownBlock\/v'.ownBlock=some w.heap.size)->K (a.put o.dst v') w'):
  if Region.wanted o (yielded ops a.tmps)=true then Oper.wp P o a w K Q else E:=by
 have hw:Region.wanted o (yielded ops a.tmps)=true:=by simp[Region.wanted,hg]
 rw[if_pos hw];obtain⟨v',w',hr,h2,h3,-,h5⟩:=run_append_own_at (P:=P) w base t o.type e i z size bytes ht hi hz hsize hby hzs hsz v n xs hown ad m c news hl hnews h1 h63 hbytes hbase;unfold Oper.wp;simp[execOp,hop,resolve,invoke,builtin,hs,hx,hr,Result.andThen];exact hK v' w' h2 h3 h5
end Go.Proofs.YthjlcjdlelkkdaaGreatDoor
namespace Go.Proofs.YthjlcjdlelkkdaaGreatDoor
open Go.RowKit
end Go.Proofs.YthjlcjdlelkkdaaGreatDoor
namespace Go.Proofs.YthjlcjdlelkkdaaGreatDoor
open Go.RowKit
def eZ{σ:Type}(Inv:σ->World->Prop)(Live:σ->Nat->Prop)(Own:World->Nat->Prop)(n:Nat)(w:World)(r:σ × Bool)(e:Ending)(w':World):Prop:=
 e=.returned (.bool r.2)/\Inv r.1 w'/\(r.2=true->Live r.1 n)/\bD Own w w'
structure aAg {σ:Type} (F:Nat) (cap:Array Value) (S:Nat->Prop) (f:σ->NT->Int->σ × Bool) (Inv:σ->World->Prop) (Live:σ->Nat->Prop) (Own:World->Nat->Prop):Prop where
 keep:∀s w w',Inv s w->aA w w'->Inv s w'/\bD Own w w'/\∀b,Own w' b->Own w b
 old:∀s w,Inv s w->∀b,S b->b<w.heap.size/\¬Own w b
 own:∀s w,Inv s w->∀b,Own w b->b<w.heap.size
 call:∀n s t d cs w,Inv s w->Live s (n+1)->t.ok->aH S w t cs->Calls Tryz.prog F (#[.agg cs.toArray,.int .i64 d]++cap) w fun e w'=>eZ Inv Live Own n w (f s t d) e w'
theorem aH.apartC{σ:Type}{F:Nat}{cap:Array Value}{S:Nat->Prop}{f:σ->NT->Int->σ × Bool}{Inv:σ->World->Prop}{Live:σ->Nat->Prop}{Own:World->Nat->Prop}(V:aAg F cap S f Inv Live Own)
  {s:σ} {w w':World} (hi:Inv s w) (ha:bD Own w w') {t:NT} {cs:List Value} (h:aH S w t cs):aH S w' t cs:=
 aH.mono (fun p hp=>ha.cell p (V.old s w hi _ hp).1 (V.old s w hi _ hp).2) (fun _ h=>h) t cs h
theorem bJ.apartC{σ:Type}{F:Nat}{cap:Array Value}{S:Nat->Prop}{f:σ->NT->Int->σ × Bool}{Inv:σ->World->Prop}{Live:σ->Nat->Prop}{Own:World->Nat->Prop}(V:aAg F cap S f Inv Live Own)
  {s:σ} {w w':World} (hi:Inv s w) (ha:bD Own w w') {ts:List NT} {kp:Option Addr} {i:Nat} (h:bJ S w ts kp i):bJ S w' ts kp i:=
 bJ.mono (fun p hp=>ha.cell p (V.old s w hi _ hp).1 (V.old s w hi _ hp).2) (fun _ h=>h) ts kp i h
theorem aGf{σ:Type}{F:Nat}{cap:Array Value}{S:Nat->Prop}{f:σ->NT->Int->σ × Bool}{Inv:σ->World->Prop}{Live:σ->Nat->Prop}{Own:World->Nat->Prop}(V:aAg F cap S f Inv Live Own)
  (hF:∀args w,(callFunc F args).run Tryz.prog w=.ok (.enter F args) w):
  ∀(m:Nat) (t:NT),t.size<=m->∀(n:Nat) (s:σ) (d:Int) (cs:List Value) (w:World),Inv s w->Live s (t.size+n)->t.ok->aH S w t cs->
   Calls Tryz.prog 181 #[.agg cs.toArray,.int .i64 d,.func (.func F) #[] cap] w fun e w'=>eZ Inv Live Own n w (bZ aR f s t d) e w':=by
 intro m
 induction m with
 | zero=>
  rintro⟨k,a,fl,nt,kids⟩ hm;rw[NT.size] at hm;omega
 | succ m ih=>
  rintro⟨k,a,fl,nt,kids⟩ hm n s d cs w hi hl a9 hn;rw[NT.size] at hm hl;rw[show 1+bA kids+n=bA kids+n+1 by omega] at hl;have f7:Hid (okL kids):=by rw[NT.ok] at a9;exact a9.2
  have e7:=hn;rw[aH] at hn;obtain⟨kp,kc,rfl,f4,f6,a2⟩:=hn;have hv:∀(w:World) (cs:List Value),Inv s w->aH S w (.node k a fl nt kids) cs->Calls Tryz.prog F (#[.agg cs.toArray,.int .i64 d]++cap) w fun e w'=>eZ Inv Live Own (bA kids+n) w (f s (.node k a fl nt kids) d) e w':=fun w cs h1 h2=>V.call _ s _ d cs w h1 hl a9 h2;rw[show bZ aR f s (.node k a fl nt kids) d=if (f s (.node k a fl nt kids) d).2=true then bL aR f (f s (.node k a fl nt kids) d).1 kids (aR d) else ((f s (.node k a fl nt kids) d).1,false) from by rw[bZ]];generalize f s (.node k a fl nt kids) d=r at hv |-
  obtain⟨s1,b1⟩:=r;have b5:=aL.new w #[.int .i64 k,.string a.n,.int .i64 a.op,.int .i64 a.v,.int .i64 a.sl,.string a.f,.bool a.on,.string fl,.bool nt,.slice kp kids.length kc] 96;have K0:=aA.alloc w (.cells #[.int .i64 k,.string a.n,.int .i64 a.op,.int .i64 a.v,.int .i64 a.sl,.string a.f,.bool a.on,.string fl,.bool nt,.slice kp kids.length kc] 96);go_enter Tryz.func181,Tryz.ntmps181;go_wp2_with fail;generalize w.alloc (.cells #[.int .i64 k,.string a.n,.int .i64 a.op,.int .i64 a.v,.int .i64 a.sl,.string a.f,.bool a.on,.string fl,.bool nt,.slice kp kids.length kc] 96)=W0 at K0 b5 |-
  obtain⟨d5,a7,d2⟩:=V.keep s w W0 hi K0;have a6:Hid (aL w.heap.size #[.int .i64 k,.string a.n,.int .i64 a.op,.int .i64 a.v,.int .i64 a.sl,.string a.f,.bool a.on,.string fl,.bool nt,.slice kp kids.length kc] W0):=b5;have e6:¬Own W0 w.heap.size:=fun h=>absurd (V.own s w hi _ (d2 _ h)) (Nat.lt_irrefl _);refine (hv W0 _ d5 (aH.apartC V hi a7 e7)).mono ?_;rintro e w1 ⟨rfl,b0,d3,a5⟩;have b4:Hid (aL w.heap.size #[.int .i64 k,.string a.n,.int .i64 a.op,.int .i64 a.v,.int .i64 a.sl,.string a.f,.bool a.on,.string fl,.bool nt,.slice kp kids.length kc] w1):=
   ⟨R8 a6.out.1 a5.size,fun o=>(a5.cell ⟨w.heap.size,o,none⟩ a6.out.1 e6).trans (a6.out.2 o)⟩
  have f1:bJ S w1 kids kp 0:=bJ.apartC V hi (a7.trans a5) a2;have b2:Hid (bD Own w w1):=a7.trans a5;have f9:=b4.out.2;have g0:=b4.out.1;clear e7 a2 b5 K0 d5 a7 d2 a6 e6 a5 hi hl b4 hv a9;cases b1
  ·go_wp2_with fail;go_ret;exact (show eZ Inv Live Own n w (s1,false) _ _ from⟨rfl,b0,fun h=>(by cases h),b2.out⟩)
  ·have d1:Hid (Live s1 (bA kids+n)):=d3 rfl;have d8:Hid (Inv s1 w1):=b0;have e2:Hid (bJ S w1 kids kp 0):=f1;clear d3 b0 f1;go_wp2_with fail;go_loopw [17] (fun i wr=> ∃j:Nat,j<=kids.length/\i=.int .i64 j/\∃s',Inv s' wr/\Live s' (bA (kids.drop j)+n)/\bL aR f s1 kids (aR d)=bL aR f s' (kids.drop j) (aR d)/\bJ S wr kids kp 0/\bD Own w wr) (fun i _=>kids.length-(intOf i).toNat)
   case atStart=>exact⟨0,Nat.zero_le _,rfl,s1,d8.out,by rw[List.drop_zero];exact d1.out,by simp,e2.out,b2.out⟩
   case round=>
    obtain⟨j,hj,rfl,s',e0,d7,e1,e9,e8⟩:=hrel;have HI:Hid (Inv s' wr):=e0;have HL:Hid (Live s' (bA (kids.drop j)+n)):=d7;have HE:Hid (bL aR f s1 kids (aR d)=bL aR f s' (kids.drop j) (aR d)):=e1;have HK:Hid (bJ S wr kids kp 0):=e9;have HA:Hid (bD Own w wr):=e8;clear e0 d7 e1 e9 e8 d1 d8 e2 b2 f9;by_cases hlt:j<kids.length
    ·have b9:Hid (bL aR f s1 kids (aR d)=if (bZ aR f s' kids[j] (aR d)).2=true then bL aR f (bZ aR f s' kids[j] (aR d)).1 (kids.drop (j+1)) (aR d) else ((bZ aR f s' kids[j] (aR d)).1,false)):=by
      show _=_;rw[HE.out,vQ aR f s' kids (aR d) j hlt]
     obtain⟨p,cs,hp,hS,a0,a1⟩:=dQ HK.out j hlt;have d4:bA (kids.drop j)=kids[j].size+bA (kids.drop (j+1)):=by rw[Z5 hlt,bA]
     have f5:Hid (Live s' (kids[j].size+(bA (kids.drop (j+1))+n))):=by have:=HL.out;rw[d4,Nat.add_assoc] at this;exact this
     have f3:=ih kids[j] (by have:=fA kids j hlt;omega) (bA (kids.drop (j+1))+n) s' (aR d);clear d4;have HN:Hid (aH S wr kids[j] cs):=a1;subst hp;rw[Z6] at a0;cases hkid:kids[j] with
     | node k' a' fl' nt' kids'=>
     rw[hkid,aH] at a1;obtain⟨a4,a3,rfl,-,-,-⟩:=a1;obtain⟨c0,c1,c2,c3,c4,c5,c6,c7,c8,c9⟩:=iF a0;clear a0;have e5:Hid (∀(cs:List Value) (w:World),Inv s' w->Live s' (kids[j].size+(bA (kids.drop (j+1))+n))->kids[j].ok->aH S w kids[j] cs->Calls Tryz.prog 181 #[.agg cs.toArray,.int .i64 (aR d),.func (.func F) #[] cap] w fun e w'=>eZ Inv Live Own (bA (kids.drop (j+1))+n) w (bZ aR f s' kids[j] (aR d)) e w'):=f3;clear f3 ih;have k2:=aA.alloc wr (.cells #[.int .i64 k',.string a'.n,.int .i64 a'.op,.int .i64 a'.v,.int .i64 a'.sl,.string a'.f,.bool a'.on,.string fl',.bool nt',.slice a4 kids'.length a3] 96);obtain⟨f2,b6,-⟩:=V.keep s' wr _ HI.out k2;have d9:=aH.apartC V HI.out b6 HN.out;have e4:Hid (Inv s' (wr.alloc (.cells #[.int .i64 k',.string a'.n,.int .i64 a'.op,.int .i64 a'.v,.int .i64 a'.sl,.string a'.f,.bool a'.on,.string fl',.bool nt',.slice a4 kids'.length a3] 96))):=f2;have f0:Hid (bD Own wr (wr.alloc (.cells #[.int .i64 k',.string a'.n,.int .i64 a'.op,.int .i64 a'.v,.int .i64 a'.sl,.string a'.f,.bool a'.on,.string fl',.bool nt',.slice a4 kids'.length a3] 96))):=b6;have d6:Hid (aH S (wr.alloc (.cells #[.int .i64 k',.string a'.n,.int .i64 a'.op,.int .i64 a'.v,.int .i64 a'.sl,.string a'.f,.bool a'.on,.string fl',.bool nt',.slice a4 kids'.length a3] 96)) kids[j] [Value.int IntKind.i64 k',Value.string a'.n,Value.int IntKind.i64 a'.op,Value.int IntKind.i64 a'.v,Value.int IntKind.i64 a'.sl,Value.string a'.f,Value.bool a'.on,Value.string fl',Value.bool nt',Value.slice a4 kids'.length a3]):=d9;clear f2 b6 d9 k2 hkid;go_wp2_with fail;generalize wr.alloc (.cells #[.int .i64 k',.string a'.n,.int .i64 a'.op,.int .i64 a'.v,.int .i64 a'.sl,.string a'.f,.bool a'.on,.string fl',.bool nt',.slice a4 kids'.length a3] 96)=W2 at e4 f0 d6 |-
     clear c0 c1 c2 c3 c4 c5 c6 c7 c8 c9;rw[show wrap64 (d+1)=aR d from rfl];refine (e5.out _ W2 e4.out f5.out (aBd f7.out j hlt) d6.out).mono ?_;rintro e w3 ⟨rfl,b8,a8,e3⟩;have b7:Hid (bD Own wr w3):=f0.out.trans e3;generalize bZ aR f s' kids[j] (aR d)=r at b9 b8 a8 |-
     obtain⟨s3,b3⟩:=r;have d0:Hid (Inv s3 w3):=b8;clear b8 e3 e5 HE;cases b3
     ·clear a8;go_wp2_with fail;go_ret;show eZ Inv Live Own n w (bL aR f s1 kids (aR d)) _ _;rw[b9.out];exact⟨rfl,d0.out,fun h=>(by cases h),HA.out.trans b7.out⟩
     ·have f8:Hid (Live s3 (bA (kids.drop (j+1))+n)):=a8 rfl;clear a8;go_wp2_with fail;go_roundw
      case rel=>exact⟨j+1,by omega,by go_num,s3,d0.out,f8.out,b9.out,bJ.apartC V HI.out b7.out HK.out,HA.out.trans b7.out⟩
      case measure=>simp[intOf];omega
    ·go_wp2_with fail;go_ret;show eZ Inv Live Own n w (bL aR f s1 kids (aR d)) _ _;rw[HE.out,List.drop_eq_nil_of_le (by omega),bL];exact⟨rfl,HI.out,fun _=>by have:=HL.out;rw[List.drop_eq_nil_of_le (by omega),bA,Z6] at this;exact this,HA.out⟩
end Go.Proofs.YthjlcjdlelkkdaaGreatDoor
namespace Go.Proofs.YthjlcjdlelkkdaaGreatDoor
open Go.RowKit
mutual
def NT.flags:NT->List ByteArray
 | .node k _ fl _ kids=>(if k=5 then [fl] else [])++bR kids
def bR:List NT->List ByteArray
 | []=> []
 | t :: ts=>t.flags++bR ts
end
def fF(s:List ByteArray)(t:NT)(_:Int):List ByteArray × Bool:=match t with
 | .node k _ fl _ _=>(if k=5 then s++[fl] else s,true)
mutual
theorem aUu(inc:Int->Int):∀(t:NT) (s:List ByteArray) (d:Int),bZ inc fF s t d=(s++t.flags,true)
 | .node k a fl nt kids,s,d=>by
  have e:(fF s (.node k a fl nt kids) d).2=true:=rfl;rw[bZ,if_pos e,aUt,NT.flags];show ((if k=5 then s++[fl] else s)++bR kids,true)=_;split<;>simp
theorem aUt(inc:Int->Int):∀(ts:List NT) (s:List ByteArray) (d:Int),bL inc fF s ts d=(s++bR ts,true)
 | [],s,d=>by rw[bL,bR,List.append_nil]
 | t :: ts,s,d=>by rw[bL,aUu,if_pos rfl,aUt,bR,List.append_assoc]
end
mutual
theorem oS:∀t:NT,t.flags.length<=t.size
 | .node k a fl nt kids=>by
  have:=vA kids;rw[NT.flags,NT.size,X9];split<;>simp<;>omega
theorem vA:∀ts:List NT,(bR ts).length<=bA ts
 | []=>Nat.zero_le _
 | t :: ts=>by
  have:=oS t;have:=vA ts;rw[bR,bA,X9];omega
end
def aAh(c:Nat)(w:World)(b:Nat):Prop:=b=c\/∃a l k,w.cell? ⟨c,0,none⟩=some (.slice (some a) l k)/\a.block=b
def gH(c:Nat)(s:List ByteArray)(w:World):Prop:=∃v,aE c 93 v w/\gI (c+1) v s w
theorem gH.keep{c:Nat}{s:List ByteArray}{w w':World}(h:gH c s w)(k:aA w w'):gH c s w':=by
 obtain⟨v,h1,h2⟩:=h;exact⟨v,h1.keep k h1.facts.2.2,h2.keep k⟩
theorem gH.own{c:Nat}{s:List ByteArray}{w:World}(h:gH c s w){b:Nat}(ho:aAh c w b):c<=b/\b<w.heap.size:=by
 obtain⟨v,h1,h2⟩:=h;rcases ho with rfl | ⟨a,l,k,e,rfl⟩
 ·exact⟨Y1 _,h1.facts.2.2⟩
 ·have hv:v=.slice (some a) l k:=U6 (h1.facts.1.symm.trans e);have:=dN h2 (g:=a.block) (by rw[hv];rfl);omega
theorem nP{c:Nat}{s:List ByteArray}{w w':World}(h:gH c s w)(k:aA w w'):bD (aAh c) w w'/\∀b,aAh c w' b->aAh c w b:=by
 obtain⟨v,h1,h2⟩:=h;have hc:w'.cell? ⟨c,0,none⟩=w.cell? ⟨c,0,none⟩:=k.cell (p:=⟨c,0,none⟩) h1.facts.2.2;have ho:∀b,aAh c w' b->aAh c w b:=fun b hb=>by
  rcases hb with hb | ⟨a,l,kk,e,hb⟩
  ·exact Or.inl hb
  ·exact Or.inr ⟨a,l,kk,hc.symm.trans e,hb⟩
 exact⟨⟨k.os,k.tape,k.output,k.size,fun b hb _=>k.block b hb,fun b _ hb=>ho b hb⟩,ho⟩
theorem aHj{c:Nat}{s:List ByteArray}{fl:ByteArray}{w w1 w2:World}{v v':Value}{o:Obj}(hv:aE c 93 v w)(hw:gI (c+1) v s w)(k:aA w w1)(h1:w2.ownsRow (c+1) 9 1 v' (s.length+1) (s.map Value.string++[.string fl]))(h2:(w1.alloc o).grownBy w2 v.ownBlock)
  (h3:v'.ownBlock=v.ownBlock\/v'.ownBlock=some (w1.alloc o).heap.size):gH c (s++[fl]) (w2.setCell ⟨c,0,none⟩ v')/\bD (aAh c) w (w2.setCell ⟨c,0,none⟩ v'):=by
 have b0:=hv.facts.2.2;have e:=aC w1 o;have a5:aE c 93 v w1:=hv.keep k b0;have b1:v.ownBlock≠some c:=fun e=>by have:=dN hw e;omega
 have k2:Below (c+1) (w1.alloc o) w2:=(Below.refl _ _).grown h2 (by have:=k.size;omega) (fun g hg=>(dN hw hg).1);have a9:aE c 93 v w2:=(a5.keep (aA.alloc w1 o) a5.facts.2.2).keep k2 (Nat.lt_succ_self c);have a0:=a9.set v';have a4:∀b,b≠c->(w2.setCell ⟨c,0,none⟩ v').heap[b]? = w2.heap[b]? :=lU w2 c 0 v';have b2:w.heap.size<=w2.heap.size:=by have:=k.size;have:=h2.size;omega
 refine⟨⟨v',a0,?_⟩,?_⟩
 ·have a8:gI (c+1) v' (s++[fl]) w2:=by unfold gI;simpa using h1
  obtain⟨a1,a2⟩:=a8;refine⟨a1,a2.imp id ?_⟩;rintro⟨g,cap,a3,e1,e2,e3,e4⟩;exact⟨g,cap,a3,e1,e2,by rw[a4 g (by omega)];exact e3,e4⟩
 ·have hs:=kV c w2 v';refine⟨(hs.os.trans h2.os).trans k.os,(hs.tape.trans h2.tape).trans k.tape,(hs.output.trans h2.output).trans k.output,by have:=hs.size;omega,fun b hb ho=>?_,fun b hb ho=>?_⟩
  ·have a7:b≠c:=fun e=>ho (Or.inl e);have a6:v.ownBlock≠some b:=fun e=>by
    refine ho (Or.inr ?_);obtain⟨-,⟨rfl,-⟩ | ⟨g,cap,a3,rfl,-⟩⟩:=hw
    ·cases e
    ·exact⟨_,_,_,hv.facts.1,U6 e⟩
   rw[a4 b a7,h2.block b (by have:=k.size;omega) (fun e=>a6 e.symm),(aA.alloc w1 o).block b (by have:=k.size;omega),k.block b hb]
  ·rcases ho with ho | ⟨a,l,kk,e2,rfl⟩
   ·exact Or.inl ho
   ·have e3:v'=.slice (some a) l kk:=U6 (a0.facts.1.symm.trans e2);rcases h3 with h3 | h3
    ·refine Or.inr ?_;have:v.ownBlock=some a.block:=by rw[<-h3,e3];rfl
     obtain⟨-,⟨rfl,-⟩ | ⟨g,cap,a3,rfl,-⟩⟩:=hw
     ·cases this
     ·exact⟨_,_,_,hv.facts.1,U6 this⟩
    ·have:some a.block=some (w1.alloc o).heap.size:=by rw[<-h3,e3];rfl
     have:=U6 this;have:=k.size;omega
theorem iM{w w':World}(k:aA w.drew w'):aA w w':=⟨k.os,k.tape,k.output,k.size,k.block⟩
theorem aE.grown{c:Nat}{T:TypeId}{v:Value}{w w':World}{o:Obj}{row:Option Nat}(h:aE c T v w)(hg:(w.alloc o).grownBy w' row)(hne:row≠some c):aE c T v w':=by
 have h1:=h.keep (aA.alloc w o) h.facts.2.2;have hl:=h1.facts.2.2;unfold aE at *;rw[hg.block c hl (fun e=>hne e.symm)];exact h1
theorem aHi(n c:Nat)(s:List ByteArray)(k:Int)(a:At)(fl:ByteArray)(nt:Bool)(kp:Option Addr)(len kc:Nat)(d:Int)(kids:List NT)(w:World)(hi:gH c s w)(hl:s.length+(n+1)<=1000)(hfl:k=5->fl.size<=8):
  Calls Tryz.prog 188 #[.agg #[.int .i64 k,.string a.n,.int .i64 a.op,.int .i64 a.v,.int .i64 a.sl,.string a.f,.bool a.on,.string fl,.bool nt,.slice kp len kc],.int .i64 d,.pointer (some ⟨c,0,none⟩)] w
   fun e w'=>eZ (gH c) (fun s n=>s.length+n<=1000) (aAh c) n w (fF s (.node k a fl nt kids) d) e w':=by
 obtain⟨i0,b1,a9,a7,b4⟩:=info_parts aJz;have k0:=hid (aA.alloc w (.cells #[.int .i64 k,.string a.n,.int .i64 a.op,.int .i64 a.v,.int .i64 a.sl,.string a.f,.bool a.on,.string fl,.bool nt,.slice kp len kc] 96));have a1:Hid (aL w.heap.size #[.int .i64 k,.string a.n,.int .i64 a.op,.int .i64 a.v,.int .i64 a.sl,.string a.f,.bool a.on,.string fl,.bool nt,.slice kp len kc] (w.alloc (.cells #[.int .i64 k,.string a.n,.int .i64 a.op,.int .i64 a.v,.int .i64 a.sl,.string a.f,.bool a.on,.string fl,.bool nt,.slice kp len kc] 96))):=aL.new w #[.int .i64 k,.string a.n,.int .i64 a.op,.int .i64 a.v,.int .i64 a.sl,.string a.f,.bool a.on,.string fl,.bool nt,.slice kp len kc] 96;have HI:=hid hi;by_cases h5:k=5
 ·have b6:(k==5)=true:=by simp[h5]
  have b3:=hfl h5;have HF:Hid (fF s (.node k a fl nt kids) d=(s++[fl],true)):=by show _=_;unfold fF;simp[h5]
  obtain⟨v,hv,hw⟩:=hi;clear h5 hfl;go_enter Tryz.func188,Tryz.ntmps188;go_upto_region 2 with fail;generalize w.alloc (.cells #[.int .i64 k,.string a.n,.int .i64 a.op,.int .i64 a.v,.int .i64 a.sl,.string a.f,.bool a.on,.string fl,.bool nt,.slice kp len kc] 96)=W0 at k0 a1 |-
  have HV:=hid hv;have HW:=hid hw;have a2:=hv.keep k0.out hv.facts.2.2;obtain⟨b8,b7,c2⟩:=a2.facts;have c1:=a1.out.2;have c5:=a1.out.1;have a3:=hid a2;have b5:=hid (hw.keep k0.out);have a5:Hid (v.ownBlock≠some c):=fun e=>by have:=dN hw e;omega
  clear hv hw a2;go_region_law (first | (refine aW rfl _ _ 93 rfl (c+1) 9 i0 (.string ByteArray.empty) 1 16 Tryz.underlying93 b1 a9 a7 b4 rfl (by decide) v s.length (s.map Value.string) rfl (b2.out.alloc _) ⟨w1.heap.size,0,none⟩ 1 1 [.string fl] rfl rfl iN aQy (by unfold maxLen;omega) (by omega) (by have:=aC w1 (.cells #[.string fl] 9);omega) ?_;intro v2 w2 h1 h2 h3;obtain⟨g5,a6,rfl⟩:=aS h1 (Q2 _);obtain⟨c0,a8,c3⟩:=(a4.out.grown h2 a5.out).facts) | (go_simp;go_at_call 121;refine (oR fl _ (by omega)).mono ?_;rintro e w1 ⟨rfl,k1⟩;have a0:=hid (iM k1);have a4:=hid (a3.out.keep a0.out a3.out.facts.2.2);have b2:=hid (b5.out.keep a0.out);obtain⟨c6,b0,b9⟩:=a4.out.facts;have c4:=a0.out.size;go_simp))
  all_goals
   have HP:=hid (aHj (fl:=fl) (w1:=w1) (w2:=w2) (o:= .cells #[.string fl] 9) HV.out HW.out (k0.out.trans a0.out) h1 h2 (by first | exact h3 | (rw[aC];exact h3)));go_wp2_with fail;go_ret;show eZ _ _ _ _ w (fF s (.node k a fl nt kids) d) _ _;rw[HF.out];exact⟨rfl,HP.out.1,fun _=>by show (s++[fl]).length+n<=1000;simp;omega,HP.out.2⟩
 ·have b6:(k==5)=false:=by simp[h5]
  have HF:Hid (fF s (.node k a fl nt kids) d=(s,true)):=by show _=_;unfold fF;simp[h5]
  clear h5 hfl hi;go_enter Tryz.func188,Tryz.ntmps188;go_wp2_with fail;go_ret;show eZ _ _ _ _ w (fF s (.node k a fl nt kids) d) _ _;rw[HF.out];exact⟨rfl,HI.out.keep k0.out,fun _=>by show s.length+n<=1000;omega,(nP HI.out k0.out).1⟩
end Go.Proofs.YthjlcjdlelkkdaaGreatDoor
namespace Go.Proofs.YthjlcjdlelkkdaaGreatDoor
open Go.RowKit Go.Sort
theorem aAp(c:Nat)(S:Nat->Prop)(hS:∀b,S b->b<c):aAg 188 #[.pointer (some ⟨c,0,none⟩)] S fF (gH c) (fun s n=>s.length+n<=1000) (aAh c) where
 keep s w w' hi k:=⟨hi.keep k,(nP hi k).1,(nP hi k).2⟩
 old s w hi b hb:=by
  refine⟨?_,fun e=>?_⟩
  ·obtain⟨v,h1,-⟩:=hi
   exact Nat.lt_trans (hS b hb) h1.facts.2.2
  ·have:=hi.own e
   have:=hS b hb
   omega
 own s w hi b hb:=(hi.own hb).2
 call n s t d cs w hi hl hok hn:=by
  obtain⟨k,a,fl,nt,kids⟩:=t
  rw[aH] at hn
  obtain⟨kp,kc,rfl,-,-,-⟩:=hn
  refine aHi n c s k a fl nt kp kids.length kc d kids w hi hl (fun h5=>?_)
  rw[NT.ok] at hok
  rcases fW hok.1 with ⟨hk,-⟩ | ⟨hk,-⟩ | ⟨-,-,hn⟩
  ·omega
  ·omega
  ·have:=oA hn
   rw[aU] at this
   exact this
theorem aDi(args:Array Value)(w:World):(callFunc 188 args).run Tryz.prog w=.ok (.enter 188 args) w:=enters_of Tryz.func188 (by kernel_rfl) rfl args w
def NT.sorted(t:NT):List (List UInt8):=Lib.compact ((t.flags.map (·.data.toList)).mergeSort fun x y=>decide (x<=y))
def jA(v:Value)(fs:List (List UInt8))(w:World):Prop:=(fs = []/\∃p cap,v=.slice p 0 cap)\/∃g cap,v=.slice (some ⟨g,0,none⟩) fs.length cap/\g<w.heap.size/\∀(j:Nat) x,fs[j]? = some x->w.cell? ⟨g,0+j,none⟩=some (.string ⟨x.toArray⟩)
def aLd(t:NT)(w:World)(e:Ending)(w':World):Prop:=
 ∃v,e=.returned (.tuple #[v,.int .i64 (dG t)])/\(dG t≠0->v=.slice none 0 0)/\(dG t=0->jA v t.sorted w')/\aA w w'
theorem nN(zs:List (List UInt8)):(Lib.compact zs).length<=zs.length:=by
 unfold Lib.compact Lib.compactUpTo;rw[A0];exact U2 (List.length_filter_le _ _) (by simp)
theorem kQ:Lib.compact ([]:List (List UInt8)) = []:=by rfl
theorem yB(t:NT)(cs:List Value)(w:World)(S:Nat->Prop)(hS:∀b,S b->b<w.heap.size)(hn:aH S w t cs):
  Calls Tryz.prog 152 #[.agg cs.toArray] w fun e w'=>aLd t w e w':=by
 have HN:Hid (aH S w t cs):=hn;cases ht:t with
 | node k a fl nt kids=>
 rw[ht,aH] at hn;obtain⟨kp,kc,rfl,-,-,-⟩:=hn;rw[<-ht];have g5:∀(fn:Fn) (first cap:Array Value) (w:World),(Instr.makeFunc fn first cap).run Tryz.prog w=.ok (.func fn first cap) w:=fun _ _ _ _=>rfl;have k0:=hid (aA.alloc w (.cells #[.int .i64 k,.string a.n,.int .i64 a.op,.int .i64 a.v,.int .i64 a.sl,.string a.f,.bool a.on,.string fl,.bool nt,.slice kp kids.length kc] 96));have b6:Hid (aL w.heap.size #[.int .i64 k,.string a.n,.int .i64 a.op,.int .i64 a.v,.int .i64 a.sl,.string a.f,.bool a.on,.string fl,.bool nt,.slice kp kids.length kc] (w.alloc (.cells #[.int .i64 k,.string a.n,.int .i64 a.op,.int .i64 a.v,.int .i64 a.sl,.string a.f,.bool a.on,.string fl,.bool nt,.slice kp kids.length kc] 96))):=aL.new w #[.int .i64 k,.string a.n,.int .i64 a.op,.int .i64 a.v,.int .i64 a.sl,.string a.f,.bool a.on,.string fl,.bool nt,.slice kp kids.length kc] 96;clear ht;go_enter Tryz.func152,Tryz.ntmps152;go_wp2_with fail;generalize w.alloc (.cells #[.int .i64 k,.string a.n,.int .i64 a.op,.int .i64 a.v,.int .i64 a.sl,.string a.f,.bool a.on,.string fl,.bool nt,.slice kp kids.length kc] 96)=W0 at k0 b6 |-
 refine (pM t _ W0 S (fun b hb=>R8 (hS b hb) k0.out.size) (HN.out.keep hS k0.out)).mono ?_;rintro e w1 ⟨rfl,k1⟩;have K1:Hid (aA w w1):=k0.out.trans k1;have c3:Hid (aL w.heap.size #[.int .i64 k,.string a.n,.int .i64 a.op,.int .i64 a.v,.int .i64 a.sl,.string a.f,.bool a.on,.string fl,.bool nt,.slice kp kids.length kc] w1):=b6.out.keep k1 b6.out.1;have f2:=c3.out.2;have f0:=c3.out.1;clear k1 b6 k0;by_cases hz:dG t=0
 ·have HZ:Hid (dG t=0):=hz;rw[hz];clear hz;obtain⟨a3,c7⟩:=cZ.1 HZ.out;have g6:=(gQ a3).1;have e6:=hid c7;have V2:Hid (gH w1.heap.size [] (w1.alloc (.cells #[.slice none 0 0] 93))):=⟨_,aE.new w1 _ _,Q1 _ _ _ _⟩;have K2:=hid (K1.out.alloc' (.cells #[.slice none 0 0] 93));clear a3 c7;go_wp2_with fail;clear f2;generalize w1.alloc (.cells #[.slice none 0 0] 93)=W2 at V2 K2 |-
  refine (aGf (aAp w1.heap.size S (fun b hb=>R8 (hS b hb) K1.out.size)) aDi _ t (Y1 _) 0 [] 1 _ W2 V2.out (by show 0+(t.size+0)<=1000;omega) e6.out (HN.out.keep hS K2.out)).mono ?_;rintro e w3 ⟨rfl,c8,-,c6⟩;rw[aUu] at c8 |-
  obtain⟨v,c2,c4⟩:=c8;have b9:gI (w1.heap.size+1) v t.flags w3:=by simpa using c4
  have K3:Hid (aA w w3):=Below.trans K2.out (c6.below K2.out.size (fun b hb e=>by have:=V2.out.own e;have:=K1.out.size;omega));have d3:=hid c2;have g4:=oS t;have d8:=K1.out.size;obtain⟨e7,e1,d1⟩:=c2.facts;clear c6 c4 c2;obtain⟨b8,⟨rfl,h0⟩ | ⟨g,cap,g8,rfl,a7,hb,f9,e0,f3,b7⟩⟩:=b9
  ·have c0:Hid (t.sorted = []):=by
    show _=_;have:t.flags = []:=Y4.1 h0;unfold NT.sorted;rw[this,List.map_nil,List.mergeSort_nil];exact kQ
   go_wp2_with fail;refine (Tryz.slices_Sort_string_none none 0 w3).mono ?_;rintro e w4 ⟨rfl,b0⟩;rw[b0];clear b0;go_wp2_with fail;refine (Tryz.slices_Compact_string_empty none 0 w3).mono ?_;rintro e w5 ⟨rfl,b2⟩;rw[b2];clear b2;go_wp2_with fail;go_ret2
   exact⟨.slice none 0 0,by rw[HZ.out];rfl,fun h=>absurd HZ.out h,fun _=>Or.inl ⟨c0.out,none,0,rfl⟩,K3.out⟩
  ·have c5:t.flags.map Value.string=(t.flags.map (·.data.toList)).map encStr:=by
    rw[List.map_map];apply List.map_congr_left;intro x _;show Value.string x=Value.string _;rw[dB]
   rw[c5,Nat.mul_one] at b7;have f1:=(U9.1 hb).1;have a8:(t.flags.map (·.data.toList)).length=t.flags.length:=by simp
   have hH:Holds encStr w3 g 0 (t.flags.map (·.data.toList)).toArray:=holds_of_block hb (by rw[a8];exact b7);have a6:Hid (t.sorted=Lib.compact ((t.flags.map (·.data.toList)).mergeSort fun x y=>decide (x<=y))):=rfl;generalize e5:t.flags.map (·.data.toList)=FF at hH a8 a6;clear e5 c5 b7 b8;have a4:=Tryz.slices_Sort_string g 0 cap FF w3 hH f1 (by omega);rw[a8] at a4;have b1:=hid a4;clear a4;go_wp2_with fail;refine b1.out.mono ?_;rintro e w4 ⟨rfl,nn,os,b0⟩;have a9:(FF.mergeSort fun x y=>decide (x<=y)).length=FF.length:=by simp
   have b3:=ownsRow_sorted (n:=nn) (os:=os) (ss:=FF) (ts:=FF.mergeSort fun x y=>decide (x<=y)) a9 a7 hb (by omega) e0 f3;have a1:=grownBy_sorted (w:=w3) (g:=g) (n:=nn) (os:=os) (FF.mergeSort fun x y=>decide (x<=y)).toArray;rw[<-b0] at b3 a1;clear b0;have f5:Hid (aE w1.heap.size 93 (.slice (some ⟨g,0,none⟩) t.flags.length cap) w4):=by
    have:=d3.out;unfold aE at this;show w4.heap[_]? = _;rw[a1.block _ d1 (fun e=>by have:=U6 e;omega)];exact this
   have K4:Hid (aA w w4):=Below.grown K3.out a1 (by have:=K3.out.size;omega) (fun g' hg'=>by have:g=g':=U6 hg';omega);obtain⟨-,⟨h,-⟩ | ⟨g2,d0,d5,e2,-,c1,g9,f8,c9,b5⟩⟩:=b3
   ·cases h
   cases e2;rw[Nat.mul_one] at b5;generalize FF.mergeSort (fun x y=>decide (x<=y))=GG at a9 b5 a6;have f6:Holds encStr w4 g 0 GG.toArray:=holds_of_block c1 (by rw[a9];exact b5);have a2:=Tryz.slices_Compact_string g 0 cap GG w4 f6 (by omega) (by omega);rw[a9,a8] at a2;have b4:=hid a2;obtain⟨e8,f7,d4⟩:=f5.out.facts;have d2:=hid c1;have e9:=(U9.1 c1).1;clear a2 e7 e1 a1 b5;go_wp2_with fail;refine b4.out.mono ?_;rintro e w5 ⟨rfl,qq,b2⟩;have g1:=nN GG;have a5:=ownsRow_sorted (n:=qq) (os:=#[]) (ss:=GG) (ts:=Lib.compact GG++List.replicate (GG.length-(Lib.compact GG).length) []) (by simp;omega) a7 d2.out (cap:=cap) (by omega) f8 c9;have a0:=grownBy_sorted (w:=w4) (g:=g) (n:=qq) (os:=#[]) (Lib.compact GG++List.replicate (GG.length-(Lib.compact GG).length) []).toArray;rw[grow_empty,a9,a8] at a5;rw[grow_empty,a9,a8] at a0;rw[<-b2] at a5 a0;clear b2;have K5:Hid (aA w w5):=Below.grown K4.out a0 (by have:=K4.out.size;omega) (fun g' hg'=>by have:g=g':=U6 hg';omega);have d6:Hid (jA (.slice (some ⟨g,0,none⟩) (Lib.compact GG).length cap) t.sorted w5):=by
    refine Or.inr ⟨g,cap,by rw[a6.out],by have:=a0.size;omega,fun j x hx=>?_⟩;rw[a6.out] at hx;have hj:j<(Lib.compact GG).length:=(R9.1 hx).1;obtain⟨-,⟨h,-⟩ | ⟨g3,d7,f4,e3,-,e4,-,-,-,d9⟩⟩:=a5
    ·cases h
    cases e3;have h1:=Q0 (·[j]?) d9;simp only[Nat.mul_one,List.getElem?_take,List.getElem?_map,List.getElem?_append_left hj,hx,Option.map_some] at h1;rw[if_pos (by omega)] at h1;simp only[World.cell?,e4,Nat.zero_add];simpa[encStr] using h1
   clear a5 a0;go_wp2_with fail;go_ret2
   exact⟨_,by rw[HZ.out];rfl,fun h=>absurd HZ.out h,fun _=>d6.out,K5.out⟩
 ·have g0:(dG t==0)=false:=by simpa using hz
  have g7:(dG t != 0)=true:=by simpa using hz
  have HZ:Hid (dG t≠0):=hz;clear hz;go_wp2_with fail;go_ret2
  exact⟨.slice none 0 0,rfl,fun _=>rfl,fun h=>absurd h HZ.out,K1.out⟩
end Go.Proofs.YthjlcjdlelkkdaaGreatDoor
namespace Go.Proofs.YthjlcjdlelkkdaaGreatDoor
structure PK where
 n:ByteArray
 v:Int
 sl:Int
 fl:List ByteArray
 nd:NT
def NT.kind:NT->Int
 | .node k _ _ _ _=>k
def PK.zero:PK:=⟨⟨#[]⟩,0,0,[],NT.zero⟩
def aM(f:Nat->Int):Nat->Nat->Int
 | _,0=>0
 | i,m+1=>if f i=0 then aM f (i+1) m else f i
def leS(x y:ByteArray):Bool:=Op.bytesLess x.toList y.toList||x.toList==y.toList
def flE(fs:List ByteArray)(k:Nat):Int:=
 if aP (fs.getD k ⟨#[]⟩).data.toList=false then 1 else if 0<k/\leS (fs.getD k ⟨#[]⟩) (fs.getD (k-1) ⟨#[]⟩)=true then 6 else 0
def cJ(fs:List ByteArray):Int:=if 2<fs.length then 2 else aM (flE fs) 0 fs.length
def fB(fs:List ByteArray)(x:List UInt8):Bool:=Lib.containsS fs ⟨x.toArray⟩
def eH(t:NT)(fs:List ByteArray):Int:=
 if t.kind≠3 then 4 else if dG t≠0 then dG t else if t.sorted.all (fB fs)=true then 0 else 5
def dV(p:PK):Int:=
 if aP p.n.data.toList=false then 1 else if p.v<1\/99<p.v\/p.sl<1\/9<p.sl then 3 else if cJ p.fl≠0 then cJ p.fl else eH p.nd p.fl
def dJ(p q:PK):Bool:=if p.n=q.n then decide (q.v<p.v) else !leS p.n q.n
def bI(ps:List PK)(k:Nat):Nat:=((ps.take k).map fun p=>p.fl.length).sum
def pkE(ps:List PK)(k:Nat):Int:=
 if dV (ps.getD k PK.zero)≠0 then dV (ps.getD k PK.zero) else if 0<k/\dJ (ps.getD k PK.zero) (ps.getD (k-1) PK.zero)=false then 6 else if 14<ps.length+bI ps (k+1) then 2 else 0
def cA(ps:List PK):Int:=if 8<ps.length then 2 else aM (pkE ps) 0 ps.length
theorem cW{f:Nat->Int}:∀(m i:Nat),aM f i m=0 ↔ ∀j,j<m->f (i+j)=0
 | 0,i=>by simp[aM]
 | m+1,i=>by
  rw[aM];split
  ·rename_i h;rw[cW m (i+1)];constructor
   ·intro H j hj;cases j with
    | zero=>exact h
    | succ j=>rw[show i+(j+1)=i+1+j by omega];exact H j (by omega)
   ·intro H j hj;rw[show i+1+j=i+(j+1) by omega];exact H (j+1) (by omega)
  ·rename_i h;constructor
   ·intro H;exact absurd H h
   ·intro H;exact absurd (H 0 (by omega)) h
theorem dO{f:Nat->Int}{i n:Nat}(h:i<n):aM f i (n-i)=if f i=0 then aM f (i+1) (n-(i+1)) else f i:=by
 rw[show n-i=(n-(i+1))+1 by omega,aM]
theorem jM{ps:List PK}{k:Nat}(h:k<ps.length):bI ps (k+1)=bI ps k+ps[k].fl.length:=by
 unfold bI;rw[U4 h,Z9,List.sum_append];simp only[List.map_cons,List.map_nil,List.sum_cons,List.sum_nil,Nat.add_zero]
theorem cL{ps:List PK}(h:cA ps=0):ps.length<=8/\(∀p∈ps,dV p=0):=by
 unfold cA at h;split at h
 ·cases h
 ·rename_i h8;refine⟨by omega,fun p hp=>?_⟩;obtain⟨k,hk,rfl⟩:=List.getElem_of_mem hp;have:=(cW _ _).1 h k hk;rw[Z6] at this;unfold pkE at this;rw[R0,Q9 hk,Q7] at this;split at this
  ·rename_i hne;exact absurd this hne
  ·rename_i hne;exact Decidable.of_not_not hne
theorem gZ{fs:List ByteArray}(h:cJ fs=0):fs.length<=2/\∀f∈fs,aP f.data.toList=true:=by
 unfold cJ at h;split at h
 ·cases h
 ·refine⟨by omega,fun p hp=>?_⟩;obtain⟨k,hk,rfl⟩:=List.getElem_of_mem hp;have:=(cW _ _).1 h k hk;rw[Z6] at this;unfold flE at this;rw[R0,Q9 hk,Q7] at this;split at this
  ·cases this
  ·rename_i hne;simpa using hne
theorem eW{p:PK}(h:dV p=0):aP p.n.data.toList=true/\(1<=p.v/\p.v<=99/\1<=p.sl/\p.sl<=9)/\cJ p.fl=0/\p.nd.kind=3/\dG p.nd=0:=by
 unfold dV at h;split at h
 ·cases h
 ·rename_i h1;split at h
  ·cases h
  ·rename_i h2;split at h
   ·rename_i h3;exact absurd h h3
   ·rename_i h3;unfold eH at h;split at h
    ·cases h
    ·rename_i h4;split at h
     ·rename_i h5;exact absurd h h5
     ·rename_i h5;exact⟨by simpa using h1,by omega,Decidable.of_not_not h3,Decidable.of_not_not h4,Decidable.of_not_not h5⟩
section
variable (s:UInt8)
theorem tX:∀(x r:List UInt8),(∀c∈x,c≠s)->Go.Lib.index (x++s :: r) [s]=x.length
 | [],r,_=>by simp[Go.Lib.index,List.isPrefixOf]
 | c :: x,r,h=>by
  have hc:=h c (by simp);have ih:=tX x r (fun d hd=>h d (by simp[hd]));rw[List.cons_append,Go.Lib.index,if_neg (by simp[List.isPrefixOf,Ne.symm hc]),ih,if_neg (by simp)];simp
theorem sD:∀x:List UInt8,(∀c∈x,c≠s)->Go.Lib.index x [s] = -1
 | [],_=>by simp[Go.Lib.index]
 | c :: x,h=>by
  have hc:=h c (by simp);rw[Go.Lib.index,if_neg (by simp[List.isPrefixOf,Ne.symm hc]),sD x (fun d hd=>h d (by simp[hd]))];rfl
theorem vC:∀l:List UInt8,(∀c∈l,c≠s)\/∃x r,l=x++s :: r/\∀c∈x,c≠s
 | []=>Or.inl (by simp)
 | c :: l=>by
  by_cases hc:c=s
  ·exact Or.inr ⟨[],l,by rw[hc];rfl,by simp⟩
  ·rcases vC l with h | ⟨x,r,e,h⟩
   ·refine Or.inl fun d hd=>?_;rcases Q3.1 hd with rfl | hd
    ·exact hc
    ·exact h d hd
   ·refine Or.inr ⟨c :: x,r,by rw[e];rfl,fun d hd=>?_⟩;rcases Q3.1 hd with rfl | hd
    ·exact hc
    ·exact h d hd
theorem jU(x y:bX)(r:List bX):Go.Lib.join (x :: y :: r) [s]=x++s :: Go.Lib.join (y :: r) [s]:=by
 simp[Go.Lib.join,List.intercalate,List.intersperse]
theorem jW(k:Nat)(x r:List UInt8)(h:∀c∈x,c≠s):Go.Lib.splitK [s] 0 (k+1) (x++s :: r)=x :: Go.Lib.splitK [s] 0 k r:=by
 rw[Go.Lib.splitK,tX s x r h,if_neg (by simp)];simp
theorem aAs(k:Nat)(x:List UInt8)(h:∀c∈x,c≠s):Go.Lib.splitK [s] 0 k x = [x]:=by
 cases k with
 | zero=>rfl
 | succ k=>rw[Go.Lib.splitK,sD s x h,if_pos (by decide)]
theorem sZ:∀(ws:List bX),ws ≠ []->(∀x∈ws,∀c∈x,c≠s)->Go.Lib.split (Go.Lib.join ws [s]) [s]=ws
 | [],h,_=>absurd rfl h
 | [x],_,h=>by
  rw[Go.Lib.join_one];unfold Go.Lib.split;exact aAs s _ x (h x (by simp))
 | x :: y :: r,_,h=>by
  have hx:=h x (by simp);have ih:=sZ (y :: r) (by simp) (fun z hz=>h z (by simp at hz |-;exact Or.inr hz));rw[jU];unfold Go.Lib.split at ih |-
  rw[Go.Lib.count_hit (i:=x.length) (by simp) (tX s x _ hx),Nat.add_comm,jW s _ _ _ hx];have e:List.drop (x.length + [s].length) (x++s :: Go.Lib.join (y :: r) [s])=Go.Lib.join (y :: r) [s]:=by
   rw[show x++s :: Go.Lib.join (y :: r) [s]=(x++[s])++Go.Lib.join (y :: r) [s] by simp];rw[show x.length + [s].length=(x++[s]).length by simp];exact List.drop_left
  rw[e,ih]
theorem aJu(x r:List UInt8)(h:∀c∈x,c≠s):Go.Lib.cut (x++s :: r) [s]=(x,r,true):=by
 unfold Go.Lib.cut;rw[tX s x r h,if_pos (by omega)];have e:x++s :: r=(x++[s])++r:=by simp
 simp only[Int.toNat_natCast,Prod.mk.injEq,and_true];refine⟨by simp,?_⟩;rw[e,show x.length + [s].length=(x++[s]).length by simp];exact List.drop_left
theorem aMh(x:List UInt8)(h:∀c∈x,c≠s):Go.Lib.cut x [s]=(x,[],false):=by
 unfold Go.Lib.cut;rw[sD s x h,if_neg (by omega)]
theorem aMg{l x r:List UInt8}(h:Go.Lib.cut l [s]=(x,r,true)):l=x++s :: r/\∀c∈x,c≠s:=by
 rcases vC s l with h0 | ⟨x',r',rfl,h0⟩
 ·rw[aMh s l h0] at h;simp at h
 ·rw[aJu s x' r' h0] at h;simp at h;obtain⟨rfl,rfl⟩:=h;exact⟨rfl,h0⟩
end
def nV(p:PK):List UInt8:=Lib.join [p.n.data.toList,Lib.itoa p.v,Lib.itoa p.sl,Lib.join (p.fl.map (·.data.toList)) [44],p.nd.text] [32]
def pP:List PK->List UInt8
 | []=> []
 | p :: ps=>nV p++10 :: pP ps
def fV(wd:bX):List ByteArray:=if wd = [] then [] else (Lib.split wd [44]).map fun x=>⟨x.toArray⟩
def aCc:List bX->Int
 | [_,b,c,_,n]=>if fK b=false\/fK c=false then 1 else rdE n
 | _=>1
def aIx:List bX->PK
 | [a,b,c,d,n]=>⟨⟨a.toArray⟩,fX b,fX c,fV d,(kF n).getD NT.zero⟩
 | _=>PK.zero
def gU(l:List UInt8):Int:=aCc (Lib.splitN l [32] 5)
def nW(l:List UInt8):PK:=aIx (Lib.splitN l [32] 5)
def lT:Nat->List UInt8->Nat->List PK->Int × Nat × List PK
 | 0,_,k,acc=>(0,k,acc)
 | m+1,l,k,acc=>if l = [] then (0,k,acc) else if (Lib.cut l [10]).2.2=false then (1,k,[]) else
  if gU (Lib.cut l [10]).1≠0 then (gU (Lib.cut l [10]).1,k,[]) else lT m (Lib.cut l [10]).2.1 (k+1) (acc++[nW (Lib.cut l [10]).1])
def rdT(l:List UInt8):Int × Nat × List PK:=
 if 20000<l.length then (2,0,[]) else if (lT (l.length+1) l 0 []).1≠0 then ((lT (l.length+1) l 0 []).1,(lT (l.length+1) l 0 []).2.1,[]) else
  if cA (lT (l.length+1) l 0 []).2.2≠0 then (cA (lT (l.length+1) l 0 []).2.2,0,[]) else (0,0,(lT (l.length+1) l 0 []).2.2)
theorem aDz{i:Int}(h0:0<=i)(h1:i<100):fK (Lib.itoa i)=true/\fX (Lib.itoa i)=i:=by
 obtain⟨k,rfl⟩:∃k:Nat,i=k:=⟨i.toNat,by omega⟩;have e:Lib.itoa (k:Int)=Lib.decDigits k:=by unfold Lib.itoa;simp
 rw[e];exact aBc (by omega)
theorem tY{i:Int}(h0:0<=i)(h1:i<100):∀c∈Lib.itoa i,c≠32/\c≠10:=by
 intro c hc;have:=vL h0 h1 c hc;refine⟨(lK this).1,?_⟩;rintro rfl;revert this;decide
theorem rF{l:List UInt8}(h:aP l=true):∀c∈l,c≠32/\c≠10/\c≠44:=by
 intro c hc;have:=oZ (oY h c hc);refine⟨(lK this).1,?_,?_⟩<;>(rintro rfl;revert this;decide)
theorem vM(s:UInt8):∀(ws:List bX) (c:UInt8),c∈Lib.join ws [s]->c=s\/∃x∈ws,c∈x
 | [],c,h=>by simp[Lib.join] at h
 | [x],c,h=>by rw[Lib.join_one] at h;exact Or.inr ⟨x,by simp,h⟩
 | x :: y :: r,c,h=>by
  rw[jU] at h;rcases U0.1 h with h | h
  ·exact Or.inr ⟨x,by simp,h⟩
  ·rcases Q3.1 h with h | h
   ·exact Or.inl h
   ·rcases vM s (y :: r) c h with h | ⟨z,hz,hc⟩
    ·exact Or.inl h
    ·exact Or.inr ⟨z,by simp at hz |-;exact Or.inr hz,hc⟩
theorem aEb{fs:List ByteArray}(h:∀f∈fs,aP f.data.toList=true):∀c∈Lib.join (fs.map (·.data.toList)) [44],c≠32/\c≠10:=by
 intro c hc;rcases vM 44 _ c hc with rfl | ⟨x,hx,hcx⟩
 ·decide
 ·obtain⟨f,hf,rfl⟩:=Q4.1 hx;have:=rF (h f hf) c hcx;exact⟨this.1,this.2.1⟩
theorem aDo{fs:List ByteArray}(h:∀f∈fs,aP f.data.toList=true):fV (Lib.join (fs.map (·.data.toList)) [44])=fs:=by
 unfold fV;cases fs with
 | nil=>simp[Lib.join]
 | cons f fs=>
  have a0:Lib.join ((f :: fs).map (·.data.toList)) [44] ≠ []:=by
   have hp:=jJ (h f (by simp));cases fs with
   | nil=>rw[List.map_cons,List.map_nil,Lib.join_one];exact hp
   | cons g fs=>rw[List.map_cons,List.map_cons,jU];simp
  rw[if_neg a0,sZ 44 _ (by simp) (fun x hx c hc=>by obtain⟨f',a1,rfl⟩:=Q4.1 hx;exact (rF (h f' a1) c hc).2.2),List.map_map]
  conv=>rhs;rw[<-List.map_id (f :: fs)]
  apply List.map_congr_left;intro x _;exact dB x
theorem aGd{c:UInt8}(h:aBy c=true):c≠10:=by rintro rfl;revert h;decide
mutual
theorem tK:∀(t:NT),t.ok->∀x∈t.words,∀c∈x,c≠10
 | .node k a fl nt kids,hok,x,hx=>by
  rw[NT.ok] at hok;rw[NT.words] at hx;have a0:∀l:List bX,x ∈ [40] :: (bV kids++[[41]])->∀c∈x,c≠10:=fun _ hx=>by
   rcases Q3.1 hx with rfl | hx
   ·decide
   ·rcases U0.1 hx with hx | hx
    ·exact rV kids hok.2 x hx
    ·rw[T0.1 hx];decide
  rcases fW hok.1 with ⟨hk,rfl,rfl,rfl,ha⟩ | ⟨hk,rfl,rfl,rfl⟩ | ⟨rfl,rfl,hn⟩
  ·have ht:=rQ ha;rcases hk with rfl | rfl
   ·rw[if_pos rfl] at hx;rw[T0.1 hx];exact fun c hc=>aGd (ht c hc)
   ·rw[if_neg (by decide),if_pos rfl] at hx;rw[T0.1 hx];intro c hc;rcases Q3.1 hc with rfl | hc
    ·decide
    ·exact aGd (ht c hc)
  ·rcases hk with rfl | rfl
   ·rw[if_neg (by decide),if_neg (by decide),if_neg (by decide),if_neg (by decide)] at hx;exact a0 [] hx
   ·rw[if_neg (by decide),if_neg (by decide),if_pos rfl] at hx;rcases U0.1 hx with hx | hx
    ·rw[T0.1 hx];decide
    ·exact a0 [] hx
  ·rw[if_neg (by decide),if_neg (by decide),if_neg (by decide),if_pos rfl] at hx;rcases U0.1 hx with hx | hx
   ·rw[T0.1 hx];intro c hc;rcases U0.1 hc with hc | hc
    ·split at hc
     ·rw[T0.1 hc];decide
     ·cases hc
    ·rcases U0.1 hc with hc | hc
     ·exact (rF hn c hc).2.1
     ·rw[T0.1 hc];decide
   ·exact a0 [] hx
theorem rV:∀(ts:List NT),okL ts->∀x∈bV ts,∀c∈x,c≠10
 | [],_,x,hx=>by rw[bV] at hx;cases hx
 | t :: ts,hok,x,hx=>by
  rw[okL] at hok;rw[bV] at hx;rcases U0.1 hx with hx | hx
  ·exact tK t hok.1 x hx
  ·exact rV ts hok.2 x hx
end
theorem aIy{t:NT}(h:t.ok):∀c∈t.text,c≠10:=by
 intro c hc;rcases vM 32 _ c hc with rfl | ⟨x,hx,hcx⟩
 ·decide
 ·exact tK t h x hx c hcx
theorem aMp{p:PK}(h:dV p=0):gU (nV p)=0/\nW (nV p)=p/\∀c∈nV p,c≠10:=by
 obtain⟨hn,⟨a7,a6,a8,a5⟩,hf,_,hc⟩:=eW h;obtain⟨_,hf⟩:=gZ hf;have a3:=(cZ.1 hc);obtain⟨a0,a4⟩:=aDz (i:=p.v) (by omega) (by omega);obtain⟨a1,a2⟩:=aDz (i:=p.sl) (by omega) (by omega);obtain⟨r1,r2⟩:=aRc hc;have e1:nV p=p.n.data.toList++32 :: (Lib.itoa p.v++32 :: (Lib.itoa p.sl++32 :: (Lib.join (p.fl.map (·.data.toList)) [44]++32 :: p.nd.text))):=by
  unfold nV;rw[jU,jU,jU,jU,Lib.join_one]
 have e2:Lib.splitN (nV p) [32] 5 = [p.n.data.toList,Lib.itoa p.v,Lib.itoa p.sl,Lib.join (p.fl.map (·.data.toList)) [44],p.nd.text]:=by
  unfold Lib.splitN;rw[show min 5 ((nV p).length+1)-1=4 by rw[e1];simp;omega,e1];rw[jW 32 3 _ _ (fun c hc=>(rF hn c hc).1),jW 32 2 _ _ (fun c hc=>(tY (by omega) (by omega) c hc).1),jW 32 1 _ _ (fun c hc=>(tY (by omega) (by omega) c hc).1),jW 32 0 _ _ (fun c hc=>(aEb hf c hc).1)];rfl
 refine⟨?_,?_,?_⟩
 ·unfold gU;rw[e2,aCc,if_neg (by rw[a0,a1];simp)];exact r1
 ·unfold nW;rw[e2,aIx,a4,a2,aDo hf,r2,dB];rfl
 ·rw[e1];intro c hc;simp only[List.mem_append,List.mem_cons] at hc;rcases hc with hc | rfl | hc | rfl | hc | rfl | hc | rfl | hc
  ·exact (rF hn c hc).2.1
  ·decide
  ·exact (tY (by omega) (by omega) c hc).2
  ·decide
  ·exact (tY (by omega) (by omega) c hc).2
  ·decide
  ·exact (aEb hf c hc).2
  ·decide
  ·exact aIy a3.2 c hc
theorem zN:∀(ps:List PK) (m k:Nat) (acc:List PK),(∀p∈ps,dV p=0)->(pP ps).length<m->lT m (pP ps) k acc=(0,k+ps.length,acc++ps)
 | [],0,k,acc,_,h=>absurd h (Q5 _)
 | [],m+1,k,acc,_,_=>by rw[lT,if_pos (show pP [] = [] from rfl)];simp
 | p :: ps,0,k,acc,_,h=>absurd h (Q5 _)
 | p :: ps,m+1,k,acc,h,hm=>by
  obtain⟨b1,b2,b3⟩:=aMp (h p (by simp));have e:pP (p :: ps)=nV p++10 :: pP ps:=rfl;rw[lT,e,aJu 10 _ _ b3,if_neg (by simp),if_neg (by simp),if_neg (by simp[b1])];rw[e] at hm;rw[zN ps m (k+1) (acc++[nW (nV p)]) (fun q hq=>h q (by simp[hq])) (by simp at hm;omega),b2];simp;omega
theorem aRd{ps:List PK}(h:cA ps=0)(hl:(pP ps).length<=20000):rdT (pP ps)=(0,0,ps):=by
 have hp:=(cL h).2;unfold rdT;rw[if_neg (by omega),zN ps _ 0 [] hp (by omega),if_neg (by simp),if_neg (by simp[h])];simp
end Go.Proofs.YthjlcjdlelkkdaaGreatDoor
namespace Go.Proofs.YthjlcjdlelkkdaaGreatDoor
open Go.RowKit
def cU(S:Nat->Prop)(w:World)(fs:List ByteArray)(v:Value):Prop:=
 (fs = []/\∃p cap,v=.slice p 0 cap)\/∃(b off cap:Nat),v=.slice (some ⟨b,off,none⟩) fs.length cap/\(S b/\fs.length<=cap)/\fs.length<=9223372036854775807/\∀(j:Nat) (x:ByteArray),fs[j]? = some x->w.cell? ⟨b,off+j,none⟩=some (.string x)
def eB(S:Nat->Prop)(w:World)(p:PK)(cs:List Value):Prop:=
 ∃(fv:Value) (nv:List Value),cs=.string p.n :: .int .i64 p.v :: .int .i64 p.sl :: fv :: nv/\cU S w p.fl fv/\aH S w p.nd nv
def aZ(S:Nat->Prop)(w:World)(ps:List PK)(v:Value):Prop:=
 (ps = []/\∃p cap,v=.slice p 0 cap)\/∃(b off cap:Nat),v=.slice (some ⟨b,off,none⟩) ps.length cap/\S b/\ps.length<=9223372036854775807/\
  ∀(j:Nat) (h:j<ps.length),∃cs:List Value,(∀(m:Nat) (x:Value),cs[m]? = some x->w.cell? ⟨b,off+j*14+m,none⟩=some x)/\eB S w ps[j] cs
theorem cU.mono{S S':Nat->Prop}{w w':World}(hw:∀p:Addr,S p.block->w'.cell? p=w.cell? p)(hS:∀b,S b->S' b){fs:List ByteArray}{v:Value}(h:cU S w fs v):cU S' w' fs v:=by
 rcases h with h | ⟨b,off,cap,h1,h2,h3,h4⟩
 ·exact Or.inl h
 ·exact Or.inr ⟨b,off,cap,h1,⟨hS _ h2.1,h2.2⟩,h3,fun j x hx=>(hw _ h2.1).trans (h4 j x hx)⟩
theorem eB.mono{S S':Nat->Prop}{w w':World}(hw:∀p:Addr,S p.block->w'.cell? p=w.cell? p)(hS:∀b,S b->S' b){p:PK}{cs:List Value}(h:eB S w p cs):eB S' w' p cs:=by
 obtain⟨fv,nv,h1,h2,h3⟩:=h;exact⟨fv,nv,h1,h2.mono hw hS,aH.mono hw hS _ _ h3⟩
theorem aZ.mono{S S':Nat->Prop}{w w':World}(hw:∀p:Addr,S p.block->w'.cell? p=w.cell? p)(hS:∀b,S b->S' b){ps:List PK}{v:Value}(h:aZ S w ps v):aZ S' w' ps v:=by
 rcases h with h | ⟨b,off,cap,h1,h2,h3,h4⟩
 ·exact Or.inl h
 ·refine Or.inr ⟨b,off,cap,h1,hS _ h2,h3,fun j hj=>?_⟩;obtain⟨cs,h5,h6⟩:=h4 j hj;exact⟨cs,fun m x hx=>(hw _ h2).trans (h5 m x hx),h6.mono hw hS⟩
theorem bQ{S:Nat->Prop}{B:Nat}{w w':World}(hS:∀b,S b->b<B)(k:Below B w w'):∀p:Addr,S p.block->w'.cell? p=w.cell? p:=
 fun p hp=>k.cell (p:=p) (hS _ hp)
theorem cU.keep{S:Nat->Prop}{B:Nat}{w w':World}(hS:∀b,S b->b<B)(k:Below B w w'){fs:List ByteArray}{v:Value}(h:cU S w fs v):cU S w' fs v:=h.mono (bQ hS k) fun _ h=>h
theorem eB.keep{S:Nat->Prop}{B:Nat}{w w':World}(hS:∀b,S b->b<B)(k:Below B w w'){p:PK}{cs:List Value}(h:eB S w p cs):eB S w' p cs:=h.mono (bQ hS k) fun _ h=>h
theorem aZ.keep{S:Nat->Prop}{B:Nat}{w w':World}(hS:∀b,S b->b<B)(k:Below B w w'){ps:List PK}{v:Value}(h:aZ S w ps v):aZ S w' ps v:=h.mono (bQ hS k) fun _ h=>h
theorem cU.len{S:Nat->Prop}{w:World}{fs:List ByteArray}{v:Value}(h:cU S w fs v):∃p cap,v=.slice p fs.length cap/\fs.length<=9223372036854775807:=by
 rcases h with ⟨rfl,p,cap,h⟩ | ⟨b,off,cap,h1,_,h3,_⟩
 ·exact⟨p,cap,h,by simp⟩
 ·exact⟨_,cap,h1,h3⟩
theorem aZ.len{S:Nat->Prop}{w:World}{ps:List PK}{v:Value}(h:aZ S w ps v):∃p cap,v=.slice p ps.length cap/\ps.length<=9223372036854775807:=by
 rcases h with ⟨rfl,p,cap,h⟩ | ⟨b,off,cap,h1,_,h3,_⟩
 ·exact⟨p,cap,h,by simp⟩
 ·exact⟨_,cap,h1,h3⟩
theorem cU.get{S:Nat->Prop}{w:World}{fs:List ByteArray}{v:Value}(h:cU S w fs v){j:Nat}(hj:j<fs.length):
  ∃(b off cap:Nat),v=.slice (some ⟨b,off,none⟩) fs.length cap/\S b/\fs.length<=9223372036854775807/\∀(j:Nat) (x:ByteArray),fs[j]? = some x->w.cell? ⟨b,off+j,none⟩=some (.string x):=by
 rcases h with ⟨rfl,_⟩ | ⟨b,off,cap,h1,h2,h3,h4⟩
 ·exact absurd hj (Q5 _)
 ·exact⟨b,off,cap,h1,h2.1,h3,h4⟩
theorem aZ.get{S:Nat->Prop}{w:World}{ps:List PK}{v:Value}(h:aZ S w ps v){j:Nat}(hj:j<ps.length):
  ∃(b off cap:Nat),v=.slice (some ⟨b,off,none⟩) ps.length cap/\S b/\ps.length<=9223372036854775807/\
  ∀(j:Nat) (h:j<ps.length),∃cs:List Value,(∀(m:Nat) (x:Value),cs[m]? = some x->w.cell? ⟨b,off+j*14+m,none⟩=some x)/\eB S w ps[j] cs:=by
 rcases h with ⟨rfl,_⟩ | h
 ·exact absurd hj (Q5 _)
 ·exact h
theorem aTh(zs:List ByteArray)(j:Nat)(h:j<zs.length):zs.getD j ByteArray.empty=zs[j]:=by
 rw[R0,Q9 h,Q7]
theorem cU.getD{w:World}{fs:List ByteArray}{b off:Nat}(h:∀(j:Nat) (x:ByteArray),fs[j]? = some x->w.cell? ⟨b,off+j,none⟩=some (.string x)):∀j,j<fs.length->w.cell? ⟨b,off+j,none⟩=some (.string (fs.getD j ByteArray.empty)):=
 fun j hj=>by rw[aTh fs j hj];exact h j _ (Q9 hj)
end Go.Proofs.YthjlcjdlelkkdaaGreatDoor
namespace Go.Proofs.YthjlcjdlelkkdaaGreatDoor
open Go.RowKit
theorem mP{F:Nat}{cap:Array Value}(n:Nat)(f:Nat->Int)(Inv:Nat->World->Prop)(c:Nat)(hn:n<=9223372036854775807)
  (hF:∀args w,(callFunc F args).run Tryz.prog w=.ok (.enter F args) w)
  (hc:∀k w,k<n->Inv k w->Calls Tryz.prog F (#[.int .i64 k]++cap) w fun e w'=>e=.returned (.int .i64 (f k))/\(f k=0->Inv (k+1) w')/\bD (One c) w w') (w:World) (h0:Inv 0 w):
  Calls Tryz.prog 75 #[.int .i64 n,.func (.func F) #[] cap] w fun e w'=>e=.returned (.int .i64 (aM f 0 n))/\bD (One c) w w':=by
 have HC:=hid hc;have HI:=hid h0;clear hc h0;go_enter Tryz.func75,Tryz.ntmps75;go_wp2_with fail;go_loopg [8] n (fun gk i wr=> ∃j:Nat,j+gk=n/\i=.int .i64 j/\Inv j wr/\aM f 0 n=aM f j (n-j)/\bD (One c) w wr);case atStart=>exact⟨0,by simp,rfl,HI.out,rfl,bD.refl _ _⟩
 case round=>
  obtain⟨j,hj,rfl,hi,he,ha⟩:=hrel;have a1:=hid he;have HA:=hid ha;clear he ha HI;by_cases hlt:j<n
  ·have a0:=hid (HC.out j wr hlt hi);have a3:=hid (dO (f:=f) hlt);clear hi;go_wp2_with fail;refine a0.out.mono ?_;rintro e w1 ⟨rfl,a5,a4⟩;have a7:=hid a5;have a2:=hid (HA.out.trans a4);clear a5 a4 a0;by_cases hz:f j=0
   ·have HZ:=hid hz;have a6:(f j==0)=true:=by simp[hz]
    have a8:(f j != 0)=false:=by simp[hz]
    clear hz;go_wp2_with fail;go_roundg (n-(j+1));case rel=>exact⟨j+1,by omega,by go_num,a7.out HZ.out,by rw[a1.out,a3.out,if_pos HZ.out],a2.out⟩
    case measure=>omega
   ·have HZ:=hid hz;have a6:(f j==0)=false:=by simp[hz]
    have a8:(f j != 0)=true:=by simp[hz]
    clear hz;go_wp2_with fail;go_ret;exact⟨aD (by rw[a1.out,a3.out,if_neg HZ.out]),a2.out⟩
  ·go_wp2_with fail;go_ret;exact⟨aD (by rw[a1.out,show n-j=0 by omega];rfl),HA.out⟩
theorem aMa(S:Nat->Prop)(fs:List ByteArray)(c k:Nat)(v:Value)(w:World)(hk:k<fs.length)(hv:aE c 93 v w)(hs:cU S w fs v):
  Calls Tryz.prog 151 #[.int .i64 k,.pointer (some ⟨c,0,none⟩)] w fun e w'=>e=.returned (.int .i64 (flE fs k))/\aA w w':=by
 obtain⟨b,off,cap,rfl,hb,a7,a2⟩:=hs.get hk;obtain⟨a9,-,b0⟩:=hv.facts;have a5:=a2 k _ (Q9 hk);have a0:Hid (flE fs k=if aP fs[k].data.toList=false then 1 else if 0<k/\leS fs[k] (fs.getD (k-1) ⟨#[]⟩)=true then 6 else 0):=by
  show _=_;unfold flE;rw[R0,Q9 hk,Q7]
 have a3:0<k->∃x:ByteArray,Hid (fs.getD (k-1) ⟨#[]⟩=x)/\w.cell? ⟨b,off+(k-1),none⟩=some (.string x):=fun h0=>
  ⟨fs[k-1],by show _=_;rw[R0,Q9 (by omega),Q7],a2 (k-1) _ (Q9 (by omega))⟩
 clear a2 hs hv;generalize fs[k]=x at a5 a0;go_enter Tryz.func151,Tryz.ntmps151;go_wp2_with fail;refine (dH x w).mono ?_;rintro e w1 ⟨rfl,hw⟩;subst hw;cases hnm:aP x.data.toList
 ·rw[hnm] at a0;go_wp2_with fail;go_ret;exact⟨aD (by rw[a0.out];rfl),aA.refl _⟩
 ·rw[hnm] at a0;by_cases h0:0<k
  ·obtain⟨y,HY,a4⟩:=a3 h0;rw[HY.out] at a0;obtain⟨m,rfl⟩:∃m,k=m+1:=⟨k-1,by omega⟩;have a8:(0:Int)<((m+1:Nat):Int):=by omega
   have hd:decide ((0:Int)<((m+1:Nat):Int))=true:=Y7 a8;have a6:w1.cell? ⟨b,off+m,none⟩=some (.string y):=a4;have e1:((m+1:Nat):Int)-1=(m:Int):=by omega
   have hm:m<fs.length:=by omega
   clear a3 HY a4;go_wp2_with fail;go_quiet (fail)
   cases hle:leS x y
   ·have HX:Hid (flE fs (m+1)=0):=by show _=_;rw[a0.out,hle];simp
    have a1:(Op.bytesLess x.toList y.toList||x.toList==y.toList)=false:=hle;rw[a1];clear hle a1 a0;go_wp2_with fail;go_ret;exact⟨aD HX.out.symm,aA.drewN (aA.refl _) _⟩
   ·have HX:Hid (flE fs (m+1)=6):=by show _=_;rw[a0.out,hle];simp
    have a1:(Op.bytesLess x.toList y.toList||x.toList==y.toList)=true:=hle;rw[a1];clear hle a1 a0;go_wp2_with fail;go_ret;exact⟨aD HX.out.symm,aA.drewN (aA.refl _) _⟩
  ·have hd:decide ((0:Int)<(k:Int))=false:=Y8 (by omega);have HX:Hid (flE fs k=0):=by show _=_;rw[a0.out];simp[h0]
   clear a0 a3;go_wp2_with fail;go_quiet (fail)
   go_wp2_with fail;go_ret;exact⟨aD HX.out.symm,aA.drewN (aA.refl _) _⟩
theorem sX(args:Array Value)(w:World):(callFunc 151 args).run Tryz.prog w=.ok (.enter 151 args) w:=enters_of Tryz.func151 (by kernel_rfl) rfl args w
theorem aMd(S:Nat->Prop)(fs:List ByteArray)(v:Value)(w:World)(hS:∀b,S b->b<w.heap.size)(hs:cU S w fs v):
  Calls Tryz.prog 129 #[v] w fun e w'=>e=.returned (.int .i64 (cJ fs))/\aA w w':=by
 have HS:=hid hs;obtain⟨p,cap,rfl,a2⟩:=hs.len;have a6:∀(fn:Fn) (first cap:Array Value) (w:World),(Instr.makeFunc fn first cap).run Tryz.prog w=.ok (.func fn first cap) w:=fun _ _ _ _=>rfl;have a4:=sX;have k0:=hid (aA.alloc w (.cells #[.slice p fs.length cap] 93));have v0:=hid (aE.new w 93 (.slice p fs.length cap));clear hs;by_cases h2:2<fs.length
 ·have a5:(2:Int)<(fs.length:Int):=by omega
  have HX:Hid (cJ fs=2):=by show _=_;unfold cJ;rw[if_pos h2]
  go_enter Tryz.func129,Tryz.ntmps129;go_wp2_with fail;go_ret;exact⟨aD HX.out.symm,k0.out⟩
 ·have a5:¬(2:Int)<(fs.length:Int):=by omega
  have HX:Hid (cJ fs=aM (flE fs) 0 fs.length):=by show _=_;unfold cJ;rw[if_neg h2]
  have a0:∀(k:Nat) (W':World),k<fs.length->aA w W'/\aE w.heap.size 93 (.slice p fs.length cap) W'->Calls Tryz.prog 151 (#[.int .i64 k]++#[.pointer (some ⟨w.heap.size,0,none⟩)]) W' fun e w'=>e=.returned (.int .i64 (flE fs k))/\(flE fs k=0->aA w w'/\aE w.heap.size 93 (.slice p fs.length cap) w')/\bD (One w.heap.size) W' w':=by
   rintro k W' hk ⟨h1,h3⟩;have c:=aMa S fs w.heap.size k _ W' hk h3 (HS.out.keep hS h1);refine Calls.mono c ?_;rintro e w' ⟨rfl,h4⟩;exact⟨rfl,fun _=>⟨Below.trans h1 (h4.mono h1.size),h3.keep h4 h3.facts.2.2⟩,cO h4⟩
  have a1:=hid (fun W h=>mP fs.length (flE fs) (fun _ W'=>aA w W'/\aE w.heap.size 93 (.slice p fs.length cap) W') w.heap.size a2 sX a0 W h);clear a0;clear h2;go_enter Tryz.func129,Tryz.ntmps129;go_wp2_with fail;refine (a1.out _ ⟨k0.out,v0.out⟩).mono ?_;rintro e w1 ⟨rfl,a3⟩;have K1:Hid (aA w w1):=Below.trans k0.out (a3.below k0.out.size fun b hb e=>by have:b=w.heap.size:=e;omega);clear a3 a1 k0 v0;go_wp2_with fail;go_ret;exact⟨aD HX.out.symm,K1.out⟩
end Go.Proofs.YthjlcjdlelkkdaaGreatDoor
namespace Go.Proofs.YthjlcjdlelkkdaaGreatDoor
open Go.RowKit
theorem aOt{fs:List ByteArray}{l:List (List UInt8)}{j:Nat}(h:j<l.length):(l.take (j+1)).all (fB fs)=((l.take j).all (fB fs)&&fB fs l[j]):=by
 rw[U4 h,List.all_append];simp
theorem aLg{fs:List ByteArray}{l:List (List UInt8)}{j:Nat}(h:j<l.length)(hf:fB fs l[j]=false):l.all (fB fs)=false:=by
 rw[List.all_eq_false];exact⟨l[j],U5 h,by simp[hf]⟩
theorem aBq{t:NT}(h:dG t=0):t.sorted.length<=20:=by
 have h1:=(gQ (cZ.1 h).1).1;have h2:=oS t;have h3:=nN ((t.flags.map (·.data.toList)).mergeSort fun x y=>decide (x<=y));unfold NT.sorted;rw[List.length_mergeSort,A0] at h3;omega
theorem mE(S:Nat->Prop)(fs:List ByteArray)(fv:Value)(x:ByteArray)(w:World)(hf:cU S w fs fv):
  Calls Tryz.prog 44 #[fv,.string x] w fun e w'=>e=.returned (.bool (fB fs x.data.toList))/\w'=w:=by
 have hx:fB fs x.data.toList=Lib.containsS fs x:=by unfold fB;rw[dB]
 rcases hf with ⟨rfl,p,cap,rfl⟩ | ⟨b,off,cap,rfl,-,hl,hc⟩
 ·refine (Tryz.slices_Contains_string_empty p cap x w).mono ?_;rintro e w' ⟨rfl,rfl⟩;exact⟨aK (by rw[hx];rfl),rfl⟩
 ·refine (Tryz.slices_Contains_string b off fs.length cap fs x w (Y1 _) hl (cU.getD hc)).mono ?_;rintro e w' ⟨rfl,rfl⟩;exact⟨aK (by rw[hx,Z7]),rfl⟩
theorem aBw(S:Nat->Prop)(t:NT)(cs:List Value)(fs:List ByteArray)(fv:Value)(w:World)(hS:∀b,S b->b<w.heap.size)(hn:aH S w t cs)(hf:cU S w fs fv):
  Calls Tryz.prog 130 #[.agg cs.toArray,fv] w fun e w'=>e=.returned (.int .i64 (eH t fs))/\aA w w':=by
 have HN:=hid hn;have HF:=hid hf;have a3:Hid (eH t fs=if t.kind≠3 then 4 else if dG t≠0 then dG t else if t.sorted.all (fB fs)=true then 0 else 5):=rfl;cases ht:t with
 | node k a fl nt kids=>
 have HK:Hid (t.kind=k):=by show _=_;rw[ht];rfl
 rw[ht,aH] at hn;obtain⟨kp,kc,rfl,-,-,-⟩:=hn;rw[<-ht];obtain⟨fp,fc,rfl,b6⟩:=hf.len;have k0:=hid (aA.alloc w (.cells #[.int .i64 k,.string a.n,.int .i64 a.op,.int .i64 a.v,.int .i64 a.sl,.string a.f,.bool a.on,.string fl,.bool nt,.slice kp kids.length kc] 96));have b0:=hid (aL.new w #[.int .i64 k,.string a.n,.int .i64 a.op,.int .i64 a.v,.int .i64 a.sl,.string a.f,.bool a.on,.string fl,.bool nt,.slice kp kids.length kc] 96);clear ht hf;by_cases hk:k=3
 ·have h1:(k==3)=true:=by simp[hk]
  have h2:(k != 3)=false:=by simp[hk]
  have a9:Hid (k=3):=hk;clear hk;go_enter Tryz.func130,Tryz.ntmps130;go_wp2_with fail;generalize w.alloc (.cells #[.int .i64 k,.string a.n,.int .i64 a.op,.int .i64 a.v,.int .i64 a.sl,.string a.f,.bool a.on,.string fl,.bool nt,.slice kp kids.length kc] 96)=W0 at k0 b0 |-
  refine (yB t _ W0 S (fun b hb=>R8 (hS b hb) k0.out.size) (HN.out.keep hS k0.out)).mono ?_;rintro e w1 ⟨v,rfl,a2,a1,k1⟩;have K1:Hid (aA w w1):=k0.out.trans k1;have b1:Hid (cU S w1 fs (.slice fp fs.length fc)):=HF.out.keep hS K1.out;clear k1 b0 k0 HF;by_cases hz:dG t=0
  ·have a0:Hid (eH t fs=if t.sorted.all (fB fs)=true then 0 else 5):=by show _=_;rw[a3.out,HK.out,a9.out,hz];simp
   have HG:=hid (a1 hz);have b4:=aBq hz;rw[hz];clear hz a2 a1 a3;obtain⟨vp,vc,rfl⟩:∃p cap,v=.slice p t.sorted.length cap:=by
    rcases HG.out with ⟨h,p,cap,rfl⟩ | ⟨g,cap,rfl,-⟩
    ·exact⟨p,cap,by rw[h];rfl⟩
    ·exact⟨_,cap,rfl⟩
   go_wp2_with fail;go_loopg [22] t.sorted.length (fun gk i wr=> ∃j:Nat,j+gk=t.sorted.length/\i=.int .i64 j/\(t.sorted.take j).all (fB fs)=true/\wr=w1);case atStart=>exact⟨0,by simp,rfl,by simp,rfl⟩
   case round=>
    obtain⟨j,hj,rfl,a4,rfl⟩:=hrel;have a5:=hid a4;clear a4;by_cases hlt:j<t.sorted.length
    ·have a7:∃g,vp=some ⟨g,0,none⟩/\wr.cell? ⟨g,0+j,none⟩=some (.string ⟨t.sorted[j].toArray⟩):=by
      rcases HG.out with ⟨h,-⟩ | ⟨g,cap,h,-,hc⟩
      ·rw[h] at hlt;exact absurd hlt (Q5 _)
      ·cases h;exact⟨g,rfl,hc j _ (Q9 hlt)⟩
     obtain⟨g,rfl,b2⟩:=a7;rw[Z6] at b2;have a6:=hid (mE S fs _ ⟨t.sorted[j].toArray⟩ wr b1.out);go_wp2_with fail;refine a6.out.mono ?_;rintro e w2 ⟨rfl,a8⟩;rw[a8];clear a8;have HT:=hid (aOt (fs:=fs) hlt);cases hb:fB fs t.sorted[j]
     ·have HX:Hid (t.sorted.all (fB fs)=false):=aLg hlt hb;go_wp2_with fail;go_ret;exact⟨aD (by rw[a0.out,HX.out];rfl),K1.out⟩
     ·have HX:Hid ((t.sorted.take (j+1)).all (fB fs)=true):=by show _=_;rw[HT.out,a5.out,hb];rfl
      go_wp2_with fail;go_roundg (t.sorted.length-(j+1));case rel=>exact⟨j+1,by omega,by go_num,HX.out,rfl⟩
      case measure=>omega
    ·have HX:Hid (t.sorted.all (fB fs)=true):=by show _=_;rw[<-Z7 (l:=t.sorted),show t.sorted.length=j by omega];exact a5.out
     go_wp2_with fail;go_ret;exact⟨aD (by rw[a0.out,HX.out];rfl),K1.out⟩
  ·have a0:Hid (eH t fs=dG t):=by show _=_;rw[a3.out,HK.out,a9.out];simp[hz]
   have b3:(dG t==0)=false:=by simp[hz]
   have b5:(dG t != 0)=true:=by simp[hz]
   obtain rfl:=a2 hz;clear hz a1 a2 a3;go_wp2_with fail;go_ret;exact⟨aD a0.out.symm,K1.out⟩
 ·have h1:(k==3)=false:=by simp[hk]
  have h2:(k != 3)=true:=by simp[hk]
  have a0:Hid (eH t fs=4):=by show _=_;rw[a3.out,HK.out];simp[hk]
  clear hk a3;go_enter Tryz.func130,Tryz.ntmps130;go_wp2_with fail;go_ret;exact⟨aD a0.out.symm,k0.out⟩
end Go.Proofs.YthjlcjdlelkkdaaGreatDoor
namespace Go.Proofs.YthjlcjdlelkkdaaGreatDoor
open Go.RowKit
theorem eB.spelt{S:Nat->Prop}{w:World}{p:PK}{cs:List Value}(h:eB S w p cs):∃(k:Int) (a:At) (fl:ByteArray) (nt:Bool) (kids:List NT) (kp fp:Option Addr) (kc fc:Nat),p.nd=.node k a fl nt kids/\p.fl.length<=9223372036854775807/\
  cs = [.string p.n,.int .i64 p.v,.int .i64 p.sl,.slice fp p.fl.length fc,.int .i64 k,.string a.n,.int .i64 a.op,.int .i64 a.v,.int .i64 a.sl,.string a.f,.bool a.on,.string fl,.bool nt,.slice kp kids.length kc]/\cU S w p.fl (.slice fp p.fl.length fc)/\aH S w p.nd [.int .i64 k,.string a.n,.int .i64 a.op,.int .i64 a.v,.int .i64 a.sl,.string a.f,.bool a.on,.string fl,.bool nt,.slice kp kids.length kc]:=by
 obtain⟨fv,nv,rfl,hf,hn⟩:=h;obtain⟨fp,fc,rfl,hl⟩:=hf.len;cases hd:p.nd with
 | node k a fl nt kids=>
 have a0:=hn;rw[hd] at a0;rw[aH] at a0;obtain⟨kp,kc,rfl,-⟩:=a0;exact⟨k,a,fl,nt,kids,kp,fp,kc,fc,rfl,hl,rfl,hf,by rw[<-hd];exact hn⟩
theorem aGj(S:Nat->Prop)(p q:PK)(cs1 cs2:List Value)(w:World)(hp:eB S w p cs1)(hq:eB S w q cs2):
  Calls Tryz.prog 105 #[.agg cs1.toArray,.agg cs2.toArray] w fun e w'=>e=.returned (.bool (dJ p q))/\aA w w':=by
 obtain⟨k,a,fl,nt,kids,kp,fp,kc,fc,-,-,rfl,-,-⟩:=hp.spelt;obtain⟨k1,a1,a5,a8,a0,a4,a7,a3,a6,-,-,rfl,-,-⟩:=hq.spelt;clear hp hq;rcases p with ⟨n,v,sl,fs,nd⟩;rcases q with ⟨n1,v1,sl1,fs1,nd1⟩;have KW:=hid ((aA.alloc w (.cells #[.string n,.int .i64 v,.int .i64 sl,.slice fp fs.length fc,.int .i64 k,.string a.n,.int .i64 a.op,.int .i64 a.v,.int .i64 a.sl,.string a.f,.bool a.on,.string fl,.bool nt,.slice kp kids.length kc] 98)).alloc' (.cells #[.string n1,.int .i64 v1,.int .i64 sl1,.slice a7 fs1.length a6,.int .i64 k1,.string a1.n,.int .i64 a1.op,.int .i64 a1.v,.int .i64 a1.sl,.string a1.f,.bool a1.on,.string a5,.bool a8,.slice a4 a0.length a3] 98));by_cases he:n=n1
 ·subst he;have h1:(n.toList==n.toList)=true:=by simp
  have HB:Hid (dJ ⟨n,v,sl,fs,nd⟩ ⟨n,v1,sl1,fs1,nd1⟩=decide (v1<v)):=by show _=_;simp[dJ]
  go_enter Tryz.func105,Tryz.ntmps105;go_wp2_with fail;go_ret;exact⟨aK (by rw[HB.out]),KW.out⟩
 ·have a2:¬n.data.toList=n1.data.toList:=fun h=>he (gY h);have h1:(n.toList==n1.toList)=false:=by rw[Lib.toList_data,Lib.toList_data];simpa using a2
  have h2:(n.toList != n1.toList)=true:=by rw[Lib.toList_data,Lib.toList_data];simpa using a2
  have HB:Hid (dJ ⟨n,v,sl,fs,nd⟩ ⟨n1,v1,sl1,fs1,nd1⟩ = !leS n n1):=by show _=_;simp[dJ,he]
  go_enter Tryz.func105,Tryz.ntmps105;go_wp2_with fail;go_ret;exact⟨aK (by rw[HB.out];unfold leS;rw[h1,Bool.or_false]),KW.out⟩
theorem aNf(p:PK):(aP p.n.data.toList=false/\Hid (dV p=1))\/(aP p.n.data.toList=true/\p.v<1/\Hid (dV p=3))\/(aP p.n.data.toList=true/\¬p.v<1/\99<p.v/\Hid (dV p=3))
  \/(aP p.n.data.toList=true/\¬p.v<1/\¬99<p.v/\p.sl<1/\Hid (dV p=3))\/(aP p.n.data.toList=true/\¬p.v<1/\¬99<p.v/\¬p.sl<1/\9<p.sl/\Hid (dV p=3))
  \/(aP p.n.data.toList=true/\¬p.v<1/\¬99<p.v/\¬p.sl<1/\¬9<p.sl/\Hid (dV p=if cJ p.fl≠0 then cJ p.fl else eH p.nd p.fl)):=by
 cases h0:aP p.n.data.toList
 ·exact Or.inl ⟨rfl,by show _=_;unfold dV;rw[if_pos h0]⟩
 ·refine Or.inr ?_;have e:dV p=if p.v<1\/99<p.v\/p.sl<1\/9<p.sl then 3 else if cJ p.fl≠0 then cJ p.fl else eH p.nd p.fl:=by unfold dV;rw[if_neg (by simp[h0])]
  by_cases h1:p.v<1
  ·exact Or.inl ⟨rfl,h1,by show _=_;rw[e,if_pos (by omega)]⟩
  ·refine Or.inr ?_;by_cases h2:99<p.v
   ·exact Or.inl ⟨rfl,h1,h2,by show _=_;rw[e,if_pos (by omega)]⟩
   ·refine Or.inr ?_;by_cases h3:p.sl<1
    ·exact Or.inl ⟨rfl,h1,h2,h3,by show _=_;rw[e,if_pos (by omega)]⟩
    ·refine Or.inr ?_;by_cases h4:9<p.sl
     ·exact Or.inl ⟨rfl,h1,h2,h3,h4,by show _=_;rw[e,if_pos (by omega)]⟩
     ·exact Or.inr ⟨rfl,h1,h2,h3,h4,by show _=_;rw[e,if_neg (by omega)]⟩
theorem aEx(S:Nat->Prop)(p:PK)(cs:List Value)(w:World)(hS:∀b,S b->b<w.heap.size)(hp:eB S w p cs):
  Calls Tryz.prog 104 #[.agg cs.toArray] w fun e w'=>e=.returned (.int .i64 (dV p))/\aA w w':=by
 obtain⟨k,a,fl,nt,kids,kp,fp,kc,fc,a5,a1,rfl,hf,hn⟩:=hp.spelt;have HF:=hid hf;have HN:=hid hn;have a0:=aNf p;clear hp hf hn a5;rcases p with ⟨n,v,sl,fs,nd⟩;have K0:=hid (aA.alloc w (.cells #[.string n,.int .i64 v,.int .i64 sl,.slice fp fs.length fc,.int .i64 k,.string a.n,.int .i64 a.op,.int .i64 a.v,.int .i64 a.sl,.string a.f,.bool a.on,.string fl,.bool nt,.slice kp kids.length kc] 98));have B0:=hid (aL.new w #[.string n,.int .i64 v,.int .i64 sl,.slice fp fs.length fc,.int .i64 k,.string a.n,.int .i64 a.op,.int .i64 a.v,.int .i64 a.sl,.string a.f,.bool a.on,.string fl,.bool nt,.slice kp kids.length kc] 98);simp only at a0 a1;go_enter Tryz.func104,Tryz.ntmps104;go_wp2_with fail;generalize w.alloc (.cells #[.string n,.int .i64 v,.int .i64 sl,.slice fp fs.length fc,.int .i64 k,.string a.n,.int .i64 a.op,.int .i64 a.v,.int .i64 a.sl,.string a.f,.bool a.on,.string fl,.bool nt,.slice kp kids.length kc] 98)=W0 at K0 B0 |-
 refine (dH n W0).mono ?_;rintro e w1 ⟨rfl,hw⟩;rw[hw];clear hw;have a4:=B0.out.2;have a3:=B0.out.1;rcases a0 with ⟨h0,HR⟩ | ⟨h0,h1,HR⟩ | ⟨h0,h1,h2,HR⟩ | ⟨h0,h1,h2,h3,HR⟩ | ⟨h0,h1,h2,h3,h4,HR⟩ | ⟨h0,h1,h2,h3,h4,HR⟩
 ·rw[h0];clear h0;go_wp2_with fail;go_ret;exact⟨aD HR.out.symm,K0.out⟩
 ·rw[h0];clear h0;go_wp2_with fail;go_ret;exact⟨aD HR.out.symm,K0.out⟩
 ·rw[h0];clear h0;go_wp2_with fail;go_ret;exact⟨aD HR.out.symm,K0.out⟩
 ·rw[h0];clear h0;go_wp2_with fail;go_ret;exact⟨aD HR.out.symm,K0.out⟩
 ·rw[h0];clear h0;go_wp2_with fail;go_ret;exact⟨aD HR.out.symm,K0.out⟩
 ·rw[h0];clear h0;go_wp2_with fail;refine (aMd S fs _ W0 (fun b hb=>R8 (hS b hb) K0.out.size) (HF.out.keep hS K0.out)).mono ?_;rintro e w2 ⟨rfl,k2⟩;have K2:=hid (K0.out.trans k2);have B2:=hid (B0.out.keep k2 B0.out.1);clear k2 a4 a3;have a9:=B2.out.2;have a7:=B2.out.1;by_cases hz:cJ fs=0
  ·have a2:Hid (dV ⟨n,v,sl,fs,nd⟩=eH nd fs):=by show _=_;rw[HR.out];simp[hz]
   rw[hz];clear hz HR;go_wp2_with fail;refine (aBw S nd _ fs _ w2 (fun b hb=>R8 (hS b hb) K2.out.size) (HN.out.keep hS K2.out) (HF.out.keep hS K2.out)).mono ?_;rintro e w3 ⟨rfl,k3⟩;have K3:=hid (K2.out.trans k3);clear k3;go_wp2_with fail;go_ret;exact⟨aD a2.out.symm,K3.out⟩
  ·have a2:Hid (dV ⟨n,v,sl,fs,nd⟩=cJ fs):=by show _=_;rw[HR.out];simp[hz]
   have a6:(cJ fs==0)=false:=by simp[hz]
   have a8:(cJ fs != 0)=true:=by simp[hz]
   clear hz HR;go_wp2_with fail;go_ret;exact⟨aD a2.out.symm,K2.out⟩
end Go.Proofs.YthjlcjdlelkkdaaGreatDoor
