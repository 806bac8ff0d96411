/- Steps of the proof: ResAts, EncRefCh, EncPair, EncRefSet, EncRefJoin, EncRefOk, ValidHolds, ValidHold. -/
import Derived.Test.YtonlloiemgdfkaaGreatDoorRl10
import Derived.Test.YtonlloiemgdfkaaGreatDoorRl16
import Derived.Lib.SliceRun
import Derived.Maps.AppendAt
import Derived.Test.YtonlloiemgdfkaaGreatDoorRl13
import Derived.Laws.StructEq
import Derived.BigRegion
import Derived.Laws.EntriesVeiled
set_option maxHeartbeats 16000000
set_option maxRecDepth 100000
namespace Go.Proofs.YtonlloiemgdfkaaGreatDoor
open Go.RowKit Go.Lib
def clA (a:At):List Value:= [.string a.n,.int .i64 a.op,.int .i64 a.v,.int .i64 a.sl,.string a.f,.bool a.on]
def cL (ts:List At):List Value:=ts.flatMap clA
theorem qK (a:At) (ts:List At):cL (a :: ts)=clA a++cL ts:=by simp [cL]
theorem dG : ∀ ts:List At,(cL ts).length=ts.length*6
 | []=>rfl
 | a :: ts=>by rw [qK,List.length_append,dG ts,List.length_cons];simp [clA];omega
theorem uD (xs ys:List At):cL (xs++ys)=cL xs++cL ys:=by simp [cL]
theorem sF : ∀ (ts:List At) (j c:Nat),c<6->(cL ts)[j*6+c]? = (ts[j]?).bind fun a=>(clA a)[c]?
 | [],j,c,_=>by simp [cL]
 | a :: ts,0,c,hc=>by
  rw [qK,Nat.zero_mul,Nat.zero_add,List.getElem?_append_left (by simp [clA];omega)];rfl
 | a :: ts,j+1,c,hc=>by
  rw [qK,List.getElem?_append_right (by simp [clA];omega),show (j+1)*6+c-(clA a).length=j*6+c by simp [clA];omega,sF ts j c hc]
  rfl
theorem uE (ts:List At) : ∀ u∈cL ts,u.oneCell'=true:=fun u hu=>by
 obtain ⟨a,-,h⟩:=List.mem_flatMap.1 hu
 simp only [clA,List.mem_cons,List.not_mem_nil,or_false] at h
 rcases h with rfl | rfl | rfl | rfl | rfl | rfl<;>rfl
theorem aHa {S:Nat->Prop} {w:World} {ts:List At} {b off cap n:Nat} (h:eG S w ts (.slice (some ⟨b,off,none⟩) n cap)) : ∀ j u,(cL ts)[j]? = some u->w.cell? ⟨b,off+j,none⟩=some u:=by
 obtain ⟨p,cap',e,-,hc⟩:=h
 cases e
 intro j u hu
 have hj:j<ts.length*6:=by have:=(List.getElem?_eq_some_iff.1 hu).1;rwa [dG] at this
 obtain ⟨b',off',e',-,hc⟩:=hc (by omega)
 cases e'
 have hm:=Nat.div_add_mod j 6
 have hl:=Nat.mod_lt j (show 0<6 by decide)
 generalize j / 6=q at hm
 generalize j % 6=r at hm hl
 obtain rfl:j=q*6+r:=by omega
 rw [sF ts q r hl] at hu
 have hq:q<ts.length:=by omega
 rw [List.getElem?_eq_getElem hq] at hu
 obtain ⟨h0,h1,h2,h3,h4,h5⟩:=hc q _ (List.getElem?_eq_getElem hq)
 rw [← Nat.add_assoc]
 match r,hl with
 | 0,_=>cases hu;exact h0
 | 1,_=>cases hu;exact h1
 | 2,_=>cases hu;exact h2
 | 3,_=>cases hu;exact h3
 | 4,_=>cases hu;exact h4
 | 5,_=>cases hu;exact h5
theorem aGm {S:Nat->Prop} {w:World} {ts:List At} {b off cap:Nat} (hb:0<ts.length->S b) (hl:ts.length<=9223372036854775807) (h : ∀ j u,(cL ts)[j]? = some u->w.cell? ⟨b,off+j,none⟩=some u):eG S w ts (.slice (some ⟨b,off,none⟩) ts.length cap):=by
 refine ⟨_,_,rfl,hl,fun h0=>⟨b,off,rfl,hb h0,fun j a ha=> ?_⟩⟩
 have g : ∀ c u,c<6->(clA a)[c]? = some u->w.cell? ⟨b,off+j*6+c,none⟩=some u:=fun c u hc hu=>by
  rw [Nat.add_assoc]
  exact h (j*6+c) u (by rw [sF ts j c hc,ha];exact hu)
 exact ⟨g 0 _ (by decide) rfl,g 1 _ (by decide) rfl,g 2 _ (by decide) rfl,g 3 _ (by decide) rfl,g 4 _ (by decide) rfl,g 5 _ (by decide) rfl⟩
def jO (B:Nat) (v:Value) (ts:List At) (w:World):Prop:=w.ownsRow B 48 6 v ts.length (cL ts)
theorem jO.is {B:Nat} {v:Value} {ts:List At} {w:World} (h:jO B v ts w):eG (fun b=>B<=b/\b<w.heap.size) w ts v:=by
 obtain ⟨-,⟨rfl,h0⟩ | ⟨g,cap,cur,rfl,hg,ho,hn,hm,hs,ht⟩⟩:=h
 ·obtain rfl:ts = []:=List.length_eq_zero_iff.1 h0
  exact ⟨_,_,rfl,by simp,fun h=>absurd h (by simp)⟩
 ·have hlt:g<w.heap.size:=(Array.getElem?_eq_some_iff.1 ho).1
  refine aGm (fun _=>⟨hg,hlt⟩) (by unfold maxLen at hm;omega) fun j u hu=> ?_
  rw [Nat.zero_add]
  rw [← ht,List.getElem?_take] at hu
  split at hu
  ·rw [Array.getElem?_toList] at hu
   simp only [World.cell?,ho]
   simpa using hu
  ·cases hu
theorem aLb:(Tryz.prog.info? 48).map (fun i=>(i.zero,i.size,i.bytes))=some (some (.agg #[.string ⟨#[]⟩,.int .i64 0,.int .i64 0,.int .i64 0,.string ⟨#[]⟩,.bool false]),6,64):=by kernel_rfl
theorem aKc {S:Nat->Prop} {w:World} {ts:List At} {ad:Addr} {n cap:Nat} (h:eG S w ts (.slice (some ad) n cap)) (hS : ∀ b,S b->b<w.heap.size) (o:Obj) : ∀ j u,(cL ts)[j]? = some u->(w.alloc o).cell? (ad.add j)=some u:=by
 intro j u hu
 have hj:j<ts.length*6:=by have:=(List.getElem?_eq_some_iff.1 hu).1;rwa [dG] at this
 have h':=h
 obtain ⟨p,cap',e,-,hc⟩:=h'
 cases e
 obtain ⟨b,off,e',hb,-⟩:=hc (by omega)
 cases e'
 rw [Addr.add_mid]
 exact ((aA.alloc w o).cell (p:=⟨b,off+j,none⟩) (hS b hb)).trans (aHa h j u hu)
theorem nY (S:Nat->Prop) (ts:List At) (p:Option Addr) (cap:Nat) (w:World) (hS : ∀ b,S b->b<w.heap.size) (hz:eG S w ts (.slice p ts.length cap)) (hb:ts.length<=6) :
  Calls Tryz.prog 23 #[.slice p ts.length cap] w fun e w'=> ∃ v,e=.returned v/\jO w.heap.size v ts w'/\aA w w':=by
 obtain ⟨i0,hi,hz0,hz1,hz2⟩:=info_parts aLb
 have q22 : ∀ (w:World) (a:Option Addr) (n c n' c':Nat),(binOp .eql 25 (.slice a n c) (.slice none n' c')).run Tryz.prog w=.ok (.bool a.isNone) w:=fun w a n c n' c'=>Lib.run_eql_slice_nil w _ _ a n c n' c' Tryz.underlying25
 cases p with
 | none=>
  have h0:ts = []:=by
   obtain ⟨p,cap',e,-,hc⟩:=hz
   cases e
   refine List.length_eq_zero_iff.1 ?_
   by_cases h:0<ts.length
   ·obtain ⟨_,_,e,-⟩:=hc h
    cases e
   ·omega
  subst h0
  clear hz
  go_enter Tryz.func23,Tryz.ntmps23
  go_wp2_with fail
  go_ret
  exact ⟨_,rfl,⟨rfl,.inl ⟨rfl,rfl⟩⟩,aA.refl _⟩
 | some ad=>
  have HNW:=hid (aKc hz hS (.cells #[] 48))
  have HONE:=hid (uE ts)
  have HL:=hid (dG ts)
  clear hz
  obtain ⟨vs,hvs⟩ : ∃ vs,vs=cL ts:=⟨_,rfl⟩
  rw [← hvs] at HNW HONE HL
  have HVS:=hid hvs
  clear hvs
  go_enter Tryz.func23,Tryz.ntmps23
  go_wp2_with (at_builtin;refine wpList_append_own_at _ rfl _ _ 25 rfl w.heap.size 48 i0 (.agg #[.string ⟨#[]⟩,.int .i64 0,.int .i64 0,.int .i64 0,.string ⟨#[]⟩,.bool false]) 6 64 Tryz.underlying25 hi hz0 hz1 hz2 rfl (by decide) (.slice (some ⟨w.heap.size,0,none⟩) 0 0) 0 [] rfl (World.ownsRow_made w #[] 0 (Nat.le_refl _) (Nat.zero_le _) rfl) ad ts.length cap vs rfl HL.out HNW.out HONE.out (by unfold maxLen;omega) (by omega) (by rw [aC];omega) ?_;intro v5 w5 h1 h2 _ _)
  have k5:aA w w5:=Below.grown ((Below.refl w.heap.size w).alloc (Nat.le_refl _) _) h2 (by rw [aC];omega) (fun g hg=>by cases hg;exact Nat.le_refl _)
  go_ret
  refine ⟨_,rfl,?_,k5⟩
  rw [Nat.zero_add,List.nil_append,HVS.out] at h1
  exact h1
def aB (ps:List PK) (wi:WI):Cn.CT:=⟨ps.map fun p=>p.fl.length,wi.ins.map fun m=>m.pl.toNat,fun i k=>wi.on.contains ((i:Int),(k:Int))⟩
def plI (ms:List MB):List Int:=ms.map fun m=>m.pl
theorem mE {B e n:Nat} {v:Value} {xs:List Value} {w:World} (h:w.ownsRow B e 1 v n xs) : ∃ p cap,v=.slice p n cap:=by
 obtain ⟨-,⟨rfl,h0⟩ | ⟨g,cap,cur,rfl,-⟩⟩:=h
 ·exact ⟨none,0,by rw [h0]⟩
 ·exact ⟨_,_,rfl⟩
theorem yF {g T:Nat} {x:Value} {w:World} (h:aE g T x w) (j:Nat) (u:Value) (hu : [x][j]? = some u):w.cell? ((⟨g,0,none⟩:Addr).add j)=some u:=by
 match j,hu with
 | 0,hu=>simp at hu;subst hu;exact h.facts.1
theorem lN {bm k:Nat} {T:TypeId} {p:Value} {mv v':Value} {xs ys:List Value} {W3 w w':World} (hbm:W3.heap.size=bm) (hb:aD bm T #[p,mv] w) (ho:w.ownsRow (bm+1) 4 1 mv k xs) (hg:w.grownBy w' mv.ownBlock) (h1:w'.ownsRow (bm+1) 4 1 v' (k+1) ys) (hk:aA W3 w) :
  aD bm T #[p,mv] w'/\aD bm T #[p,v'] (w'.setCell ⟨bm,1,none⟩ v')/\(w'.setCell ⟨bm,1,none⟩ v').ownsRow (bm+1) 4 1 v' (k+1) ys/\aA W3 (w'.setCell ⟨bm,1,none⟩ v'):=by
 have hb':aD bm T #[p,mv] w':=by
  have h5:=hb
  have h6:=hb.facts.2.2
  unfold aD at *
  rw [hg.block bm h6 fun e=>by have:=(cN ho e.symm).1;omega];exact h5
 refine ⟨hb',hb'.set 1 v',?_,?_⟩
 ·exact Cn.bY h1 fun g hg=>Below.heap_setCell _ _ _ _ (fun e=>by have e2:g=bm:=e;have:=(cN h1 hg).1;omega)
 ·exact Below.setCell (Below.grown hk hg hk.size (fun g hg=>by have:=(cN ho hg).1;omega)) (p:=⟨bm,1,none⟩) (by show W3.heap.size<=bm;omega) _
theorem aCo {B n:Nat} {v:Value} {bs:List Bool} {w:World} (h:w.ownsRow B 4 1 v n (bs.map Value.bool)) (hn:bs.length=n):bA (fun c=>B<=c/\c<w.heap.size) w bs v:=by
 subst hn
 obtain ⟨h3,⟨rfl,h0⟩ | ⟨g,cap,cur,rfl,e2,e3,e4,e5,e6,e7⟩⟩:=h
 ·exact ⟨none,0,by rw [h0],by omega,fun h=>by omega⟩
 ·have hg:=(Array.getElem?_eq_some_iff.1 e3).1
  refine ⟨_,_,rfl,by unfold maxLen at e5;omega,fun _=>⟨g,0,rfl,⟨e2,hg⟩,fun j x hx=> ?_⟩⟩
  have hj:j<bs.length:=(List.getElem?_eq_some_iff.1 hx).1
  have hf:(bs.map Value.bool)[j]? = some (.bool x):=by rw [List.getElem?_map,hx];rfl
  rw [← e7,List.getElem?_take,if_pos (by omega)] at hf
  simp only [World.cell?,e3,Nat.zero_add]
  simpa using hf
theorem xJ {P:Program} {md:Region.Mode} {ops:Array Oper} {Q:Exit->Act->World->Prop} {S:World->Prop} {fuel:Nat} {listed:Array Bool} {a:Act} {W:World} (R:World->Prop) (hR:R W) (h : ∀ W',R W'->wpAnyH P md ops Q S fuel listed a W'):wpAnyH P md ops Q S fuel listed a W:=h W hR
theorem oC {s:Bool} (u:Value) (h:u ∈ [Value.bool s]):u.oneCell'=true:=by rw [List.mem_singleton.1 h];rfl
end Go.Proofs.YtonlloiemgdfkaaGreatDoor
namespace Go.Proofs.YtonlloiemgdfkaaGreatDoor
def aLq (a:Nat × List Bool):MB:=⟨(a.1:Int),a.2⟩
theorem aKt {l:List Int} (h : ∀ k,0<k->k<l.length->l.getD (k-1) 0<l.getD k 0) (i:Nat) : ∀ d,i+d+1<l.length->l.getD i 0<l.getD (i+d+1) 0
 | 0,hl=>by have:=h (i+1) (by omega) hl;simpa using this
 | d+1,hl=>by
  have h1:=aKt h i d (by omega)
  have h2:=h (i+(d+1)+1) (by omega) hl
  rw [show i+(d+1)+1-1=i+d+1 by omega] at h2
  omega
theorem yY {l:List Int} (h : ∀ k,0<k->k<l.length->l.getD (k-1) 0<l.getD k 0):l.Pairwise (· < ·):=by
 rw [List.pairwise_iff_getElem]
 intro i j hi hj hij
 have h1:=aKt h i (j-i-1) (by omega)
 rw [show i+(j-i-1)+1=j by omega] at h1
 rw [List.getD_eq_getElem?_getD,List.getD_eq_getElem?_getD,List.getElem?_eq_getElem hi,List.getElem?_eq_getElem hj] at h1
 exact h1
theorem aGs {l:List Int} (h : ∀ k,0<k->k<l.length->l.getD (k-1) 0<l.getD k 0) (h0 : ∀ x∈l,0<=x) : ∀ k,k<l.length->(k:Int)<=l.getD k 0
 | 0,hk=>by
  have:=h0 (l.getD 0 0) (by rw [List.getD_eq_getElem?_getD,List.getElem?_eq_getElem hk];exact List.getElem_mem hk)
  simpa using this
 | k+1,hk=>by
  have h1:=aGs h h0 k (by omega)
  have h2:=h (k+1) (by omega) hk
  rw [Nat.add_sub_cancel] at h2
  omega
theorem aGh (ms:List MB) (k:Nat):(plI ms).getD k 0=(ms.getD k MB.zero).pl:=by
 unfold plI
 rw [List.getD_eq_getElem?_getD,List.getD_eq_getElem?_getD,List.getElem?_map]
 cases ms[k]? <;> rfl
theorem qL {ps:List PK} {ms:List MB} (h:eK ps ms=0):ps.length<=8/\(∀ p∈ps,p.fl.length<=2)/\(plI ms).Pairwise (· < ·)/\(∀ x∈plI ms,0<=x/\x<ps.length)/\ms.length<=8/\aPl ps ms:=by
 have hok:=aMo h
 have ht:dA ps=0:=by
  unfold eK at h
  by_cases e:dA ps=0
  ·exact e
  ·rw [if_pos e] at h;exact h
 have hs:aOa ps ms=0:=by unfold eK at h;rw [ht] at h;simpa using h
 have hz:=(cG ms.length 0).1 hs
 obtain ⟨h8,hp⟩:=dN ht
 have hup : ∀ k,0<k->k<(plI ms).length->(plI ms).getD (k-1) 0<(plI ms).getD k 0:=fun k h0 hk=>by
  have hk2:k<ms.length:=by simpa [plI] using hk
  have h1:=hz k hk2
  rw [Nat.zero_add] at h1
  rw [aGh,aGh]
  unfold mbE at h1
  by_cases e1:(ms.getD k MB.zero).pl<0∨(ps.length:Int)<=(ms.getD k MB.zero).pl
  ·rw [if_pos e1] at h1;omega
  ·rw [if_neg e1] at h1
   by_cases e2:0<k/\(ms.getD k MB.zero).pl<=(ms.getD (k-1) MB.zero).pl
   ·rw [if_pos e2] at h1;omega
   ·omega
 have hin : ∀ x∈plI ms,0<=x/\x<ps.length:=fun x hx=>by
  obtain ⟨m,hm,rfl⟩:=List.mem_map.1 hx
  obtain ⟨i,hi⟩:=List.mem_iff_getElem?.1 hm
  exact ⟨(hok i m hi).1,(hok i m hi).2.1⟩
 have hlen:ms.length<=8:=by
  by_cases h0:ms.length=0
  ·omega
  ·have hl:(plI ms).length=ms.length:=by simp [plI]
   have h1:=aGs hup (fun x hx=>(hin x hx).1) (ms.length-1) (by omega)
   have h2:=(hin ((plI ms).getD (ms.length-1) 0) (by rw [List.getD_eq_getElem?_getD,List.getElem?_eq_getElem (by omega)];exact List.getElem_mem _)).2
   omega
 refine ⟨h8,fun p hpm=> ?_,yY hup,hin,hlen,hok⟩
 have h1:=hp p hpm
 by_cases h2:2<p.fl.length
 ·have h3:dM p.fl=2:=by unfold dM;rw [if_pos h2]
  unfold eI at h1
  rw [h3] at h1
  split at h1
  ·omega
  ·split at h1
   ·omega
   ·simp at h1
 ·omega
theorem aRc {ms:List MB} (h:(plI ms).Pairwise (· < ·)) (h0 : ∀ x∈plI ms,0<=x):(ms.map fun m=>m.pl.toNat).Pairwise (· < ·):=by
 unfold plI at h
 rw [List.pairwise_map] at h ⊢
 refine h.imp_of_mem fun ha hb hab=> ?_
 have h1:=h0 _ (List.mem_map.2 ⟨_,ha,rfl⟩)
 have h2:=h0 _ (List.mem_map.2 ⟨_,hb,rfl⟩)
 omega
theorem lQ {ps:List PK} {wi:WI} (h:eK ps wi.ins=0):(aB ps wi).Ok:=by
 obtain ⟨-,-,h1,h2,-,-⟩:=qL h
 refine ⟨aRc h1 fun x hx=>(h2 x hx).1,fun i hi=> ?_⟩
 obtain ⟨m,hm,rfl⟩:=List.mem_map.1 hi
 have:=h2 m.pl (List.mem_map.2 ⟨m,hm,rfl⟩)
 show m.pl.toNat<(ps.map fun p=>p.fl.length).length
 rw [List.length_map]
 omega
end Go.Proofs.YtonlloiemgdfkaaGreatDoor
namespace Go.Proofs.YtonlloiemgdfkaaGreatDoor
open Go.RowKit Go.Sort
theorem aAv (w:World):aA w w.drew:=⟨rfl,rfl,rfl,Nat.le_refl _,fun _ _=>rfl⟩
theorem qB {α:Type} [Inhabited α] [DecidableEq α] (d:Array α) : ∀ (m:Nat) (j:Nat),j<m->d[j]! ∈ Lib.compactUpTo d m
 | 0,j,h=>absurd h (Nat.not_lt_zero _)
 | m+1,j,h=>by
  rw [Lib.compactUpTo_succ,List.mem_append]
  by_cases hjm:j<m
  ·exact Or.inl (qB d m j hjm)
  ·obtain rfl:j=m:=by omega
   by_cases h0:j=0
   ·subst h0
    rw [if_pos (Lib.keeps_lt_one d 0 (by omega))]
    exact Or.inr (List.mem_singleton.2 rfl)
   ·by_cases hk:d[j]! = d[j-1]!
    ·rw [hk];exact Or.inl (qB d j (j-1) (by omega))
    ·rw [if_pos (Lib.keeps_pos hk)]
     exact Or.inr (List.mem_singleton.2 rfl)
theorem aAx {t:NT} {f:ByteArray} (h:f∈t.flags):f.data.toList∈t.sorted:=by
 unfold NT.sorted Lib.compact
 have h1:f.data.toList∈(t.flags.map (·.data.toList)).mergeSort fun x y=>decide (x<=y):=(List.mergeSort_perm _ _).mem_iff.2 (List.mem_map.2 ⟨f,h,rfl⟩)
 generalize (t.flags.map (·.data.toList)).mergeSort (fun x y=>decide (x<=y))=M at h1 ⊢
 obtain ⟨j,hj,e⟩:=List.mem_iff_getElem.1 h1
 have:=qB M.toArray M.toArray.size j (by simpa using hj)
 rw [← e]
 simpa [hj] using this
theorem pJ {p:PK} (h:eI p=0) : ∀ f∈p.nd.flags,aP p.fl f<p.fl.length:=by
 intro f hf
 have hn:fU p.nd p.fl=0:=by
  unfold eI at h
  split at h
  ·cases h
  ·split at h
   ·cases h
   ·split at h
    ·rename_i hne;exact absurd h hne
    ·exact h
 unfold fU at hn
 split at hn
 ·cases hn
 ·split at hn
  ·rename_i hne;exact absurd hn hne
  ·split at hn
   ·rename_i hall
    have:=List.all_eq_true.1 hall _ (aAx hf)
    unfold gK at this
    rw [cH,Lib.containsS_iff] at this
    unfold aP
    exact List.findIdx_lt_length_of_exists ⟨f,this,by simp⟩
   ·cases hn
end Go.Proofs.YtonlloiemgdfkaaGreatDoor
