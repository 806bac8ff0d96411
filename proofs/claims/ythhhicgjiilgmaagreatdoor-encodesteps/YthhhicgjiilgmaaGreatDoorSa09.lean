/- Steps of the proof: TreePack, TreeChk, TreeMeant. -/
import Derived.Test.YthhhicgjiilgmaaGreatDoorSa08
import Derived.Lib.QuietBelow
import Derived.Maps.AppendAt
namespace Go.Proofs.YthhhicgjiilgmaaGreatDoor
open Go.RowKit
theorem all_take {fs:List ByteArray} {l:List (List UInt8)} {j:Nat} (h:j<l.length):(l.take (j+1)).all (hasF fs)=((l.take j).all (hasF fs)&&hasF fs l[j]):=by
 rw [List.take_succ_eq_append_getElem h,List.all_append];simp
theorem all_false {fs:List ByteArray} {l:List (List UInt8)} {j:Nat} (h:j<l.length) (hf:hasF fs l[j]=false):l.all (hasF fs)=false:=by
 rw [List.all_eq_false];exact ⟨l[j],List.getElem_mem h,by simp [hf]⟩
theorem sorted_small {t:NT} (h:chkN t=0):t.sorted.length<=20:=by
 have h1:=(small_of (chkN_zero.1 h).1).1
 have h2:=flags_len t
 have h3:=compact_len ((t.flags.map (·.data.toList)).mergeSort fun x y=>decide (x<=y))
 unfold NT.sorted
 rw [List.length_mergeSort,List.length_map] at h3
 omega
theorem contains_any (S:Nat->Prop) (fs:List ByteArray) (fv:Value) (x:ByteArray) (w:World) (hf:StrsIs S w fs fv) :
  Calls Tryz.prog 94 #[fv,.string x] w fun e w'=>e=.returned (.bool (hasF fs x.data.toList))/\w'=w:=by
 have hx:hasF fs x.data.toList=Lib.containsS fs x:=by unfold hasF;rw [bytes_back]
 rcases hf with ⟨rfl,p,cap,rfl⟩ | ⟨b,off,cap,rfl,-,hl,hc⟩
 ·refine (Tryz.slices_Contains_string_empty p cap x w).mono ?_
  rintro e w' ⟨rfl,rfl⟩
  exact ⟨ret_bool (by rw [hx];rfl),rfl⟩
 ·refine (Tryz.slices_Contains_string b off fs.length cap fs x w (Nat.le_refl _) hl (StrsIs.getD hc)).mono ?_
  rintro e w' ⟨rfl,rfl⟩
  exact ⟨ret_bool (by rw [hx,List.take_length]),rfl⟩
set_option maxHeartbeats 4000000 in
set_option maxRecDepth 100000 in
theorem treeNeed_any (S:Nat->Prop) (t:NT) (cs:List Value) (fs:List ByteArray) (fv:Value) (w:World) (hS : ∀ b,S b->b<w.heap.size) (hn:NeedIs S w t cs) (hf:StrsIs S w fs fv) :
  Calls Tryz.prog 169 #[.agg cs.toArray,fv] w fun e w'=>e=.returned (.int .i64 (chkNd t fs))/\Keep w w':=by
 have HN:=hid hn
 have HF:=hid hf
 have hkd:Hid (chkNd t fs=if t.kind≠3 then 4 else if chkN t≠0 then chkN t else if t.sorted.all (hasF fs)=true then 0 else 5):=rfl
 cases ht:t with
 | node k a fl nt kids=>
 have HK:Hid (t.kind=k):=by show _=_;rw [ht];rfl
 rw [ht,NeedIs] at hn
 obtain ⟨kp,kc,rfl,-,-,-⟩:=hn
 rw [← ht]
 obtain ⟨fp,fc,rfl,hfl⟩:=hf.len
 have k0:=hid (Keep.alloc w (.cells #[.int .i64 k,.string a.n,.int .i64 a.op,.int .i64 a.v,.int .i64 a.sl,.string a.f,.bool a.on,.string fl,.bool nt,.slice kp kids.length kc] 104))
 have hb0:=hid (Boxed.new w #[.int .i64 k,.string a.n,.int .i64 a.op,.int .i64 a.v,.int .i64 a.sl,.string a.f,.bool a.on,.string fl,.bool nt,.slice kp kids.length kc] 104)
 clear ht hf
 by_cases hk:k=3
 ·have h1:(k==3)=true:=by simp [hk]
  have h2:(k != 3)=false:=by simp [hk]
  have hk3:Hid (k=3):=hk
  clear hk
  go_enter Tryz.func169,Tryz.ntmps169
  go_wp2_with fail
  generalize w.alloc (.cells #[.int .i64 k,.string a.n,.int .i64 a.op,.int .i64 a.v,.int .i64 a.sl,.string a.f,.bool a.on,.string fl,.bool nt,.slice kp kids.length kc] 104)=W0 at k0 hb0 ⊢
  refine (needFlags_any t _ W0 S (fun b hb=>Nat.lt_of_lt_of_le (hS b hb) k0.out.size) (HN.out.keep hS k0.out)).mono ?_
  rintro e w1 ⟨v,rfl,hbad,hgood,k1⟩
  have K1:Hid (Keep w w1):=k0.out.trans k1
  have HF1:Hid (StrsIs S w1 fs (.slice fp fs.length fc)):=HF.out.keep hS K1.out
  clear k1 hb0 k0 HF
  by_cases hz:chkN t=0
  ·have HRES:Hid (chkNd t fs=if t.sorted.all (hasF fs)=true then 0 else 5):=by show _=_;rw [hkd.out,HK.out,hk3.out,hz];simp
   have HG:=hid (hgood hz)
   have hsl:=sorted_small hz
   rw [hz]
   clear hz hbad hgood hkd
   obtain ⟨vp,vc,rfl⟩ : ∃ p cap,v=.slice p t.sorted.length cap:=by
    rcases HG.out with ⟨h,p,cap,rfl⟩ | ⟨g,cap,rfl,-⟩
    ·exact ⟨p,cap,by rw [h];rfl⟩
    ·exact ⟨_,cap,rfl⟩
   go_wp2_with fail
   go_loopg [22] t.sorted.length (fun gk i wr=> ∃ j:Nat,j+gk=t.sorted.length/\i=.int .i64 j/\(t.sorted.take j).all (hasF fs)=true/\wr=w1)
   case atStart=>exact ⟨0,by simp,rfl,by simp,rfl⟩
   case round=>
    obtain ⟨j,hj,rfl,hall,rfl⟩:=hrel
    have HALL:=hid hall
    clear hall
    by_cases hlt:j<t.sorted.length
    ·have hcell : ∃ g,vp=some ⟨g,0,none⟩/\wr.cell? ⟨g,0+j,none⟩=some (.string ⟨t.sorted[j].toArray⟩):=by
      rcases HG.out with ⟨h,-⟩ | ⟨g,cap,h,-,hc⟩
      ·rw [h] at hlt;exact absurd hlt (Nat.not_lt_zero _)
      ·cases h
       exact ⟨g,rfl,hc j _ (List.getElem?_eq_getElem hlt)⟩
     obtain ⟨g,rfl,hcj⟩:=hcell
     rw [Nat.zero_add] at hcj
     have HCALL:=hid (contains_any S fs _ ⟨t.sorted[j].toArray⟩ wr HF1.out)
     go_wp2_with fail
     refine HCALL.out.mono ?_
     rintro e w2 ⟨rfl,hw2⟩
     rw [hw2]
     clear hw2
     have HT:=hid (all_take (fs:=fs) hlt)
     cases hb:hasF fs t.sorted[j]
     ·have HX:Hid (t.sorted.all (hasF fs)=false):=all_false hlt hb
      go_wp2_with fail
      go_ret
      exact ⟨ret_int (by rw [HRES.out,HX.out];rfl),K1.out⟩
     ·have HX:Hid ((t.sorted.take (j+1)).all (hasF fs)=true):=by show _=_;rw [HT.out,HALL.out,hb];rfl
      go_wp2_with fail
      go_roundg (t.sorted.length-(j+1))
      case rel=>exact ⟨j+1,by omega,by go_num,HX.out,rfl⟩
      case measure=>omega
    ·have HX:Hid (t.sorted.all (hasF fs)=true):=by show _=_;rw [← List.take_length (l:=t.sorted),show t.sorted.length=j by omega];exact HALL.out
     go_wp2_with fail
     go_ret
     exact ⟨ret_int (by rw [HRES.out,HX.out];rfl),K1.out⟩
  ·have HRES:Hid (chkNd t fs=chkN t):=by show _=_;rw [hkd.out,HK.out,hk3.out];simp [hz]
   have hz1:(chkN t==0)=false:=by simp [hz]
   have hz2:(chkN t != 0)=true:=by simp [hz]
   obtain rfl:=hbad hz
   clear hz hgood hbad hkd
   go_wp2_with fail
   go_ret
   exact ⟨ret_int HRES.out.symm,K1.out⟩
 ·have h1:(k==3)=false:=by simp [hk]
  have h2:(k != 3)=true:=by simp [hk]
  have HRES:Hid (chkNd t fs=4):=by show _=_;rw [hkd.out,HK.out];simp [hk]
  clear hk hkd
  go_enter Tryz.func169,Tryz.ntmps169
  go_wp2_with fail
  go_ret
  exact ⟨ret_int HRES.out.symm,k0.out⟩
end Go.Proofs.YthhhicgjiilgmaaGreatDoor
namespace Go.Proofs.YthhhicgjiilgmaaGreatDoor
open Go.RowKit
theorem PkgIs.spelt {S:Nat->Prop} {w:World} {p:PK} {cs:List Value} (h:PkgIs S w p cs) : ∃ (k:Int) (a:At) (fl:ByteArray) (nt:Bool) (kids:List NT) (kp fp:Option Addr) (kc fc:Nat),p.nd=.node k a fl nt kids/\p.fl.length<=9223372036854775807/\
  cs = [.string p.n,.int .i64 p.v,.int .i64 p.sl,.slice fp p.fl.length fc,.int .i64 k,.string a.n,.int .i64 a.op,.int .i64 a.v,.int .i64 a.sl,.string a.f,.bool a.on,.string fl,.bool nt,.slice kp kids.length kc]/\StrsIs S w p.fl (.slice fp p.fl.length fc)/\NeedIs S w p.nd [.int .i64 k,.string a.n,.int .i64 a.op,.int .i64 a.v,.int .i64 a.sl,.string a.f,.bool a.on,.string fl,.bool nt,.slice kp kids.length kc]:=by
 obtain ⟨fv,nv,rfl,hf,hn⟩:=h
 obtain ⟨fp,fc,rfl,hl⟩:=hf.len
 cases hd:p.nd with
 | node k a fl nt kids=>
 have hn':=hn
 rw [hd] at hn'
 rw [NeedIs] at hn'
 obtain ⟨kp,kc,rfl,-⟩:=hn'
 exact ⟨k,a,fl,nt,kids,kp,fp,kc,fc,rfl,hl,rfl,hf,by rw [← hd];exact hn⟩
set_option maxHeartbeats 2000000 in
set_option maxRecDepth 100000 in
theorem behind_any (S:Nat->Prop) (p q:PK) (cs1 cs2:List Value) (w:World) (hp:PkgIs S w p cs1) (hq:PkgIs S w q cs2) :
  Calls Tryz.prog 139 #[.agg cs1.toArray,.agg cs2.toArray] w fun e w'=>e=.returned (.bool (behindB p q))/\Keep w w':=by
 obtain ⟨k,a,fl,nt,kids,kp,fp,kc,fc,-,-,rfl,-,-⟩:=hp.spelt
 obtain ⟨k1,a1,fl1,nt1,kids1,kp1,fp1,kc1,fc1,-,-,rfl,-,-⟩:=hq.spelt
 clear hp hq
 rcases p with ⟨n,v,sl,fs,nd⟩
 rcases q with ⟨n1,v1,sl1,fs1,nd1⟩
 have KW:=hid ((Keep.alloc w (.cells #[.string n,.int .i64 v,.int .i64 sl,.slice fp fs.length fc,.int .i64 k,.string a.n,.int .i64 a.op,.int .i64 a.v,.int .i64 a.sl,.string a.f,.bool a.on,.string fl,.bool nt,.slice kp kids.length kc] 106)).alloc' (.cells #[.string n1,.int .i64 v1,.int .i64 sl1,.slice fp1 fs1.length fc1,.int .i64 k1,.string a1.n,.int .i64 a1.op,.int .i64 a1.v,.int .i64 a1.sl,.string a1.f,.bool a1.on,.string fl1,.bool nt1,.slice kp1 kids1.length kc1] 106))
 by_cases he:n=n1
 ·subst he
  have h1:(n.toList==n.toList)=true:=by simp
  have HB:Hid (behindB ⟨n,v,sl,fs,nd⟩ ⟨n,v1,sl1,fs1,nd1⟩=decide (v1<v)):=by show _=_;simp [behindB]
  go_enter Tryz.func139,Tryz.ntmps139
  go_wp2_with fail
  go_ret
  exact ⟨ret_bool (by rw [HB.out]),KW.out⟩
 ·have hne : ¬ n.data.toList=n1.data.toList:=fun h=>he (bytes_same h)
  have h1:(n.toList==n1.toList)=false:=by rw [Lib.toList_data,Lib.toList_data];simpa using hne
  have h2:(n.toList != n1.toList)=true:=by rw [Lib.toList_data,Lib.toList_data];simpa using hne
  have HB:Hid (behindB ⟨n,v,sl,fs,nd⟩ ⟨n1,v1,sl1,fs1,nd1⟩ = !leS n n1):=by show _=_;simp [behindB,he]
  go_enter Tryz.func139,Tryz.ntmps139
  go_wp2_with fail
  go_ret
  exact ⟨ret_bool (by rw [HB.out];unfold leS;rw [h1,Bool.or_false]),KW.out⟩
theorem pack_ways (p:PK):(nameB p.n.data.toList=false/\Hid (chkP p=1))∨(nameB p.n.data.toList=true/\p.v<1/\Hid (chkP p=3))∨(nameB p.n.data.toList=true/\¬ p.v<1/\99<p.v/\Hid (chkP p=3))
  ∨(nameB p.n.data.toList=true/\¬ p.v<1/\¬ 99<p.v/\p.sl<1/\Hid (chkP p=3))∨(nameB p.n.data.toList=true/\¬ p.v<1/\¬ 99<p.v/\¬ p.sl<1/\9<p.sl/\Hid (chkP p=3))
  ∨(nameB p.n.data.toList=true/\¬ p.v<1/\¬ 99<p.v/\¬ p.sl<1/\¬ 9<p.sl/\Hid (chkP p=if chkFs p.fl≠0 then chkFs p.fl else chkNd p.nd p.fl)):=by
 cases h0:nameB p.n.data.toList
 ·exact Or.inl ⟨rfl,by show _=_;unfold chkP;rw [if_pos h0]⟩
 ·refine Or.inr ?_
  have e:chkP p=if p.v<1∨99<p.v∨p.sl<1∨9<p.sl then 3 else if chkFs p.fl≠0 then chkFs p.fl else chkNd p.nd p.fl:=by unfold chkP;rw [if_neg (by simp [h0])]
  by_cases h1:p.v<1
  ·exact Or.inl ⟨rfl,h1,by show _=_;rw [e,if_pos (by omega)]⟩
  ·refine Or.inr ?_
   by_cases h2:99<p.v
   ·exact Or.inl ⟨rfl,h1,h2,by show _=_;rw [e,if_pos (by omega)]⟩
   ·refine Or.inr ?_
    by_cases h3:p.sl<1
    ·exact Or.inl ⟨rfl,h1,h2,h3,by show _=_;rw [e,if_pos (by omega)]⟩
    ·refine Or.inr ?_
     by_cases h4:9<p.sl
     ·exact Or.inl ⟨rfl,h1,h2,h3,h4,by show _=_;rw [e,if_pos (by omega)]⟩
     ·exact Or.inr ⟨rfl,h1,h2,h3,h4,by show _=_;rw [e,if_neg (by omega)]⟩
set_option maxHeartbeats 4000000 in
set_option maxRecDepth 100000 in
theorem package_any (S:Nat->Prop) (p:PK) (cs:List Value) (w:World) (hS : ∀ b,S b->b<w.heap.size) (hp:PkgIs S w p cs) :
  Calls Tryz.prog 138 #[.agg cs.toArray] w fun e w'=>e=.returned (.int .i64 (chkP p))/\Keep w w':=by
 obtain ⟨k,a,fl,nt,kids,kp,fp,kc,fc,hnd,hlen,rfl,hf,hn⟩:=hp.spelt
 have HF:=hid hf
 have HN:=hid hn
 have hways:=pack_ways p
 clear hp hf hn hnd
 rcases p with ⟨n,v,sl,fs,nd⟩
 have K0:=hid (Keep.alloc w (.cells #[.string n,.int .i64 v,.int .i64 sl,.slice fp fs.length fc,.int .i64 k,.string a.n,.int .i64 a.op,.int .i64 a.v,.int .i64 a.sl,.string a.f,.bool a.on,.string fl,.bool nt,.slice kp kids.length kc] 106))
 have B0:=hid (Boxed.new w #[.string n,.int .i64 v,.int .i64 sl,.slice fp fs.length fc,.int .i64 k,.string a.n,.int .i64 a.op,.int .i64 a.v,.int .i64 a.sl,.string a.f,.bool a.on,.string fl,.bool nt,.slice kp kids.length kc] 106)
 simp only at hways hlen
 go_enter Tryz.func138,Tryz.ntmps138
 go_wp2_with fail
 generalize w.alloc (.cells #[.string n,.int .i64 v,.int .i64 sl,.slice fp fs.length fc,.int .i64 k,.string a.n,.int .i64 a.op,.int .i64 a.v,.int .i64 a.sl,.string a.f,.bool a.on,.string fl,.bool nt,.slice kp kids.length kc] 106)=W0 at K0 B0 ⊢
 refine (name_any n W0).mono ?_
 rintro e w1 ⟨rfl,hw⟩
 rw [hw]
 clear hw
 have hc0:=B0.out.2
 have hl0:=B0.out.1
 rcases hways with ⟨h0,HR⟩ | ⟨h0,h1,HR⟩ | ⟨h0,h1,h2,HR⟩ | ⟨h0,h1,h2,h3,HR⟩ | ⟨h0,h1,h2,h3,h4,HR⟩ | ⟨h0,h1,h2,h3,h4,HR⟩
 ·rw [h0];clear h0
  go_wp2_with fail
  go_ret
  exact ⟨ret_int HR.out.symm,K0.out⟩
 ·rw [h0];clear h0
  go_wp2_with fail
  go_ret
  exact ⟨ret_int HR.out.symm,K0.out⟩
 ·rw [h0];clear h0
  go_wp2_with fail
  go_ret
  exact ⟨ret_int HR.out.symm,K0.out⟩
 ·rw [h0];clear h0
  go_wp2_with fail
  go_ret
  exact ⟨ret_int HR.out.symm,K0.out⟩
 ·rw [h0];clear h0
  go_wp2_with fail
  go_ret
  exact ⟨ret_int HR.out.symm,K0.out⟩
 ·rw [h0];clear h0
  go_wp2_with fail
  refine (flags_any S fs _ W0 (fun b hb=>Nat.lt_of_lt_of_le (hS b hb) K0.out.size) (HF.out.keep hS K0.out)).mono ?_
  rintro e w2 ⟨rfl,k2⟩
  have K2:=hid (K0.out.trans k2)
  have B2:=hid (B0.out.keep k2 B0.out.1)
  clear k2 hc0 hl0
  have hc2:=B2.out.2
  have hl2:=B2.out.1
  by_cases hz:chkFs fs=0
  ·have HR2:Hid (chkP ⟨n,v,sl,fs,nd⟩=chkNd nd fs):=by show _=_;rw [HR.out];simp [hz]
   rw [hz]
   clear hz HR
   go_wp2_with fail
   refine (treeNeed_any S nd _ fs _ w2 (fun b hb=>Nat.lt_of_lt_of_le (hS b hb) K2.out.size) (HN.out.keep hS K2.out) (HF.out.keep hS K2.out)).mono ?_
   rintro e w3 ⟨rfl,k3⟩
   have K3:=hid (K2.out.trans k3)
   clear k3
   go_wp2_with fail
   go_ret
   exact ⟨ret_int HR2.out.symm,K3.out⟩
  ·have HR2:Hid (chkP ⟨n,v,sl,fs,nd⟩=chkFs fs):=by show _=_;rw [HR.out];simp [hz]
   have hz1:(chkFs fs==0)=false:=by simp [hz]
   have hz2:(chkFs fs != 0)=true:=by simp [hz]
   clear hz HR
   go_wp2_with fail
   go_ret
   exact ⟨ret_int HR2.out.symm,K2.out⟩
end Go.Proofs.YthhhicgjiilgmaaGreatDoor
namespace Go.Proofs.YthhhicgjiilgmaaGreatDoor
open Go.RowKit Go.Sort
theorem cells14 {w:World} {b o:Nat} {v0 v1 v2 v3 v4 v5 v6 v7 v8 v9 v10 v11 v12 v13:Value} (h : ∀ (m:Nat) (v:Value),[v0,v1,v2,v3,v4,v5,v6,v7,v8,v9,v10,v11,v12,v13][m]? = some v->w.cell? ⟨b,o+m,none⟩=some v) :
  w.cell? ⟨b,o,none⟩=some v0/\w.cell? ⟨b,o+1,none⟩=some v1/\w.cell? ⟨b,o+2,none⟩=some v2/\w.cell? ⟨b,o+3,none⟩=some v3/\w.cell? ⟨b,o+4,none⟩=some v4/\w.cell? ⟨b,o+5,none⟩=some v5/\w.cell? ⟨b,o+6,none⟩=some v6/\w.cell? ⟨b,o+7,none⟩=some v7/\w.cell? ⟨b,o+8,none⟩=some v8/\w.cell? ⟨b,o+9,none⟩=some v9
   /\w.cell? ⟨b,o+10,none⟩=some v10/\w.cell? ⟨b,o+11,none⟩=some v11/\w.cell? ⟨b,o+12,none⟩=some v12/\w.cell? ⟨b,o+13,none⟩=some v13:=
 ⟨h 0 _ rfl,h 1 _ rfl,h 2 _ rfl,h 3 _ rfl,h 4 _ rfl,h 5 _ rfl,h 6 _ rfl,h 7 _ rfl,h 8 _ rfl,h 9 _ rfl,h 10 _ rfl,h 11 _ rfl,h 12 _ rfl,h 13 _ rfl⟩
structure ChkAt (S:Nat->Prop) (ct cc:Nat) (ps:List PK) (v:Value) (k:Nat) (w:World):Prop where
 tree:VarAt ct 24 v w
 sum:VarAt cc 3 (.int .i64 (ps.length+sumF ps k:Nat)) w
 row:PkgsIs S w ps v
 old : ∀ b,S b->b<ct/\b<cc
 part:ct≠cc
 small:sumF ps k<=2*k
theorem ChkAt.keep {S:Nat->Prop} {ct cc:Nat} {ps:List PK} {v:Value} {k:Nat} {w w':World} (h:ChkAt S ct cc ps v k w) (k':Keep w w'):ChkAt S ct cc ps v k w':=
 ⟨h.tree.keep k' h.tree.facts.2.2,h.sum.keep k' h.sum.facts.2.2,h.row.keep (fun b hb=>Nat.lt_trans (h.old b hb).1 h.tree.facts.2.2) k',h.old,h.part,h.small⟩
theorem ChkAt.next {S:Nat->Prop} {ct cc:Nat} {ps:List PK} {v:Value} {k:Nat} {w w':World} (h:ChkAt S ct cc ps v k w) (ha:Apart (One cc) w w') (hs:VarAt cc 3 (.int .i64 (ps.length+sumF ps (k+1):Nat)) w') (hm:sumF ps (k+1)<=2*(k+1)):ChkAt S ct cc ps v (k+1) w':=by
 refine ⟨?_,hs,h.row.mono (fun p hp=>ha.cell p (Nat.lt_trans (h.old _ hp).1 h.tree.facts.2.2) fun e=> ?_) (fun _ h=>h),h.old,h.part,hm⟩
 ·have:=h.tree
  unfold VarAt at this ⊢
  rw [ha.block ct h.tree.facts.2.2 fun e=>h.part e];exact this
 ·have e':p.block=cc:=e
  have:=(h.old _ hp).2;omega
theorem Boxed.apart {b c:Nat} {cs:Array Value} {w w':World} (h:Boxed b cs w) (ha:Apart (One c) w w') (hb:b≠c):Boxed b cs w':=
 ⟨Nat.lt_of_lt_of_le h.1 ha.size,fun o=>(ha.cell ⟨b,o,none⟩ h.1 (fun e=>hb e)).trans (h.2 o)⟩
theorem at_calls {P:Program} {F:FuncId} {args:Array Value} {W:World} {Q:Ending->World->Prop} (R:World->Prop) (hR:R W) (h : ∀ W',R W'->Calls P F args W' Q):Calls P F args W Q:=h W hR
theorem at_wp {P:Program} {c:Code} {Q:Exit->Act->World->Prop} {a:Act} {W:World} (R:World->Prop) (hR:R W) (h : ∀ W',R W'->c.wp P Q a W'):c.wp P Q a W:=h W hR
set_option maxHeartbeats 4000000 in
set_option maxRecDepth 100000 in
theorem check1_any (S:Nat->Prop) (ct cc:Nat) (ps:List PK) (v:Value) (k:Nat) (w:World) (hk:k<ps.length) (h8:ps.length<=8) (h:ChkAt S ct cc ps v k w) :
  Calls Tryz.prog 137 #[.int .i64 k,.pointer (some ⟨ct,0,none⟩),.pointer (some ⟨cc,0,none⟩)] w fun e w'=>e=.returned (.int .i64 (pkE ps k))/\(pkE ps k=0->ChkAt S ct cc ps v (k+1) w')/\Apart (One cc) w w':=by
 have HH:=hid h
 obtain ⟨b,off,cap,rfl,hb,hlen,hrow⟩:=h.row.get hk
 obtain ⟨cs,hcs,hp⟩:=hrow k hk
 obtain ⟨ht0,-,htl⟩:=h.tree.facts
 obtain ⟨hs0,hsz,hsl⟩:=h.sum.facts
 have HP:=hid hp
 generalize hpk:ps[k]=p at hp HP
 have HPE:Hid (pkE ps k=if chkP p≠0 then chkP p else if 0<k/\behindB p (ps.getD (k-1) PK.zero)=false then 6 else if 14<ps.length+sumF ps (k+1) then 2 else 0):=by
  show _=_
  unfold pkE
  rw [List.getD_eq_getElem?_getD,List.getElem?_eq_getElem hk,Option.getD_some,hpk]
 have HSU:Hid (sumF ps (k+1)=sumF ps k+p.fl.length):=by show _=_;rw [sumF_succ hk,hpk]
 obtain ⟨kk,a,fl,nt,kids,kp,fp,kc,fc,hnd,hfl,rfl,hf,hn⟩:=hp.spelt
 obtain ⟨c0,c1,c2,c3,c4,c5,c6,c7,c8,c9,c10,c11,c12,c13⟩:=cells14 hcs
 have hbo:=h.old b hb
 clear hcs hp hf hn hnd hpk h
 rcases p with ⟨n,v,sl,fs,nd⟩
 simp only at hfl c0 c1 c2 c3
 have hS : ∀ b,S b->b<w.heap.size:=fun b hb=>Nat.lt_trans (HH.out.old b hb).1 htl
 have HSM:Hid (sumF ps k<=2*k):=HH.out.small
 go_enter Tryz.func137,Tryz.ntmps137
 go_wp2_with fail
 refine at_calls (fun W'=>Keep w W'/\Boxed w.heap.size #[.string n,.int .i64 v,.int .i64 sl,.slice fp fs.length fc,.int .i64 kk,.string a.n,.int .i64 a.op,.int .i64 a.v,.int .i64 a.sl,.string a.f,.bool a.on,.string fl,.bool nt,.slice kp kids.length kc] W') ⟨Keep.alloc _ _,Boxed.new _ _ _⟩ ?_
 rintro W0 ⟨k0,b0⟩
 refine (package_any S _ _ W0 (fun b hb=>Nat.lt_of_lt_of_le (hS b hb) k0.size) (HP.out.keep hS k0)).mono ?_
 rintro e w1 ⟨rfl,k1⟩
 have K1:=hid (k0.trans k1)
 have B1:=hid (b0.keep k1 b0.1)
 have H1:=hid (HH.out.keep K1.out)
 clear k1 k0 b0 c0 c1 c2 c3 c4 c5 c6 c7 c8 c9 c10 c11 c12 c13 ht0 hs0 hsz
 generalize hcp:chkP ⟨n,v,sl,fs,nd⟩=cp at HPE ⊢
 by_cases hz:cp=0
 ·subst hz
  have h2:=(chkFs_get (chkP_get hcp).2.2.1).1
  simp only at h2
  have hsm:=HSM.out
  clear hcp
  obtain ⟨hs1,hsz1,hsl1⟩:=H1.out.sum.facts
  have hc1:=B1.out.2
  have hl1:=B1.out.1
  go_wp2_with fail
  clear hs1 hsz1 hc1
  refine at_wp (fun W'=>VarAt cc 3 (.int .i64 (((ps.length+sumF ps k:Nat):Int)+(fs.length:Int))) W'/\Apart (One cc) w1 W') ⟨H1.out.sum.set _,one_set _ _ _⟩ ?_
  rintro W2 ⟨v2,a2⟩
  have e2:((ps.length+sumF ps k:Nat):Int)+(fs.length:Int)=((ps.length+sumF ps (k+1):Nat):Int):=by have:=HSU.out;omega
  rw [e2] at v2
  have hsm2:sumF ps (k+1)<=2*(k+1):=by have:=HSU.out;omega
  have V2:=hid v2
  have H2:=hid (H1.out.next a2 v2 hsm2)
  have A2:=hid ((one_keep K1.out:Apart (One cc) w w1).trans a2)
  have B2:=hid (B1.out.apart a2 (by omega))
  have P2:Hid (PkgIs S W2 ⟨n,v,sl,fs,nd⟩ [.string n,.int .i64 v,.int .i64 sl,.slice fp fs.length fc,.int .i64 kk,.string a.n,.int .i64 a.op,.int .i64 a.v,.int .i64 a.sl,.string a.f,.bool a.on,.string fl,.bool nt,.slice kp kids.length kc]):=HP.out.mono (fun p hp=>A2.out.cell p (hS _ hp) fun e=>by have e':p.block=cc:=e;have:=(HH.out.old _ hp).2;omega) (fun _ h=>h)
  clear v2 a2 e2 B1 H1 K1 HSM hsm
  by_cases h0:0<k
  ·obtain ⟨m,rfl⟩ : ∃ m,k=m+1:=⟨k-1,by omega⟩
   have hm:m<ps.length:=by omega
   obtain ⟨b2,off2,cap2,hv2,hb2,-,hrow2⟩:=H2.out.row.get hm
   cases hv2
   obtain ⟨cs1,hcs1,hp1⟩:=hrow2 m hm
   have HQ:Hid (ps.getD (m+1-1) PK.zero=ps[m]):=by show _=_;rw [List.getD_eq_getElem?_getD,Nat.add_sub_cancel,List.getElem?_eq_getElem hm,Option.getD_some]
   rw [HQ.out] at HPE
   generalize ps[m]=q at hp1 HPE
   obtain ⟨k1,a1,fl1,nt1,kids1,kp1,fp1,kc1,fc1,-,hfl1,rfl,-,-⟩:=hp1.spelt
   have HP1:=hid hp1
   rcases q with ⟨n1,v1,sl1,fs1,nd1⟩
   have hblt:b<W2.heap.size:=Nat.lt_trans hbo.1 H2.out.tree.facts.2.2
   have cb : ∀ (d:Nat) (os:Array Obj) (o:Nat) (x:Value),W2.cell? ⟨b,o,none⟩=some x->(grow (redrawn W2 d) os).cell? ⟨b,o,none⟩=some x:=fun d os o x hx=>((below_regrown W2 d os).cell (p:=⟨b,o,none⟩) hblt).trans hx
   obtain ⟨c0,c1,c2,c3,c4,c5,c6,c7,c8,c9,c10,c11,c12,c13⟩:=cells14 hcs1
   have d0:=fun d os=>cb d os _ _ c0
   have d1:=fun d os=>cb d os _ _ c1
   have d2:=fun d os=>cb d os _ _ c2
   have d3:=fun d os=>cb d os _ _ c3
   have d4:=fun d os=>cb d os _ _ c4
   have d5:=fun d os=>cb d os _ _ c5
   have d6:=fun d os=>cb d os _ _ c6
   have d7:=fun d os=>cb d os _ _ c7
   have d8:=fun d os=>cb d os _ _ c8
   have d9:=fun d os=>cb d os _ _ c9
   have d10:=fun d os=>cb d os _ _ c10
   have d11:=fun d os=>cb d os _ _ c11
   have d12:=fun d os=>cb d os _ _ c12
   have d13:=fun d os=>cb d os _ _ c13
   have dt : ∀ d os,(grow (redrawn W2 d) os).cell? ⟨ct,0,none⟩=some (.slice (some ⟨b,off,none⟩) ps.length cap):=fun d os=>((below_regrown W2 d os).cell (p:=⟨ct,0,none⟩) H2.out.tree.facts.2.2).trans H2.out.tree.facts.1
   have db : ∀ o d os,(grow (redrawn W2 d) os).cell? ⟨w.heap.size,o,none⟩=(#[.string n,.int .i64 v,.int .i64 sl,.slice fp fs.length fc,.int .i64 kk,.string a.n,.int .i64 a.op,.int .i64 a.v,.int .i64 a.sl,.string a.f,.bool a.on,.string fl,.bool nt,.slice kp kids.length kc]:Array Value)[o]? :=fun o d os=>(B2.out.keep (below_regrown W2 d os) B2.out.1).2 o
   have hS2 : ∀ b,S b->b<W2.heap.size:=fun b hb=>Nat.lt_of_lt_of_le (hS b hb) A2.out.size
   generalize hbe:behindB ⟨n,v,sl,fs,nd⟩ ⟨n1,v1,sl1,fs1,nd1⟩=β at HPE
   have cBeh:=hid (show ∀ d os,Calls Tryz.prog 139 #[.agg #[.string n,.int .i64 v,.int .i64 sl,.slice fp fs.length fc,.int .i64 kk,.string a.n,.int .i64 a.op,.int .i64 a.v,.int .i64 a.sl,.string a.f,.bool a.on,.string fl,.bool nt,.slice kp kids.length kc],.agg #[.string n1,.int .i64 v1,.int .i64 sl1,.slice fp1 fs1.length fc1,.int .i64 k1,.string a1.n,.int .i64 a1.op,.int .i64 a1.v,.int .i64 a1.sl,.string a1.f,.bool a1.on,.string fl1,.bool nt1,.slice kp1 kids1.length kc1]] (grow (redrawn W2 d) os) fun e w''=>e=.returned (.bool β)/\∃ p:Regrown,w''=grow (redrawn W2 p.d) p.os from fun d os=>by rw [← hbe];exact Calls.regrown_of (behind_any S _ _ _ _ _ (P2.out.keep hS2 (below_regrown W2 d os)) (HP1.out.keep hS2 (below_regrown W2 d os))))
   have h0':(0:Int)<((m+1:Nat):Int):=by omega
   have hd:decide ((0:Int)<((m+1:Nat):Int))=true:=decide_eq_true h0'
   have e1:((m+1:Nat):Int)-1=(m:Int):=by omega
   clear hcs1 hp1 hrow2 c0 c1 c2 c3 c4 c5 c6 c7 c8 c9 c10 c11 c12 c13 cb hbe
   refine wp_region_quiet_below (by kernel_rfl) (by kernel_rfl) ?_
   repeat (first | go_big_quiet_step (exact cBeh.out _ _) | quiet_step (exact cBeh.out _ _))
   refine wpQuiet_nil ?_
   intro _ hw'
   obtain ⟨⟨dq,osq⟩,hw''⟩:=hw'
   subst hw''
   have k4:=below_regrown W2 dq osq
   generalize grow (redrawn W2 dq) osq=W4 at k4 ⊢
   have K4:=hid k4
   have H4:=hid (H2.out.keep k4)
   have A4:=hid (A2.out.trans (one_keep k4))
   obtain ⟨hs4,-,hsl4⟩:=H4.out.sum.facts
   clear d0 d1 d2 d3 d4 d5 d6 d7 d8 d9 d10 d11 d12 d13 dt db cBeh k4
   cases β
   ·have HY:Hid (pkE ps (m+1)=6):=by show _=_;rw [HPE.out];simp
    clear HPE
    go_wp2_with fail
    go_ret
    exact ⟨ret_int HY.out.symm,fun h=>absurd (HY.out.symm.trans h) (by decide),A4.out⟩
   have HX:Hid (pkE ps (m+1)=if 14<ps.length+sumF ps (m+1+1) then 2 else 0):=by show _=_;rw [HPE.out];simp
   clear HPE
   by_cases h14:14<ps.length+sumF ps (m+1+1)
   ·have h14':(14:Int)<((ps.length+sumF ps (m+1+1):Nat):Int):=by omega
    have HY:Hid (pkE ps (m+1)=2):=by show _=_;rw [HX.out,if_pos h14]
    clear h14 HX
    go_wp2_with fail
    go_ret
    exact ⟨ret_int HY.out.symm,fun h=>absurd (HY.out.symm.trans h) (by decide),A4.out⟩
   ·have h14' : ¬ (14:Int)<((ps.length+sumF ps (m+1+1):Nat):Int):=by omega
    have HY:Hid (pkE ps (m+1)=0):=by show _=_;rw [HX.out,if_neg h14]
    clear h14 HX
    go_wp2_with fail
    go_ret
    exact ⟨ret_int HY.out.symm,fun _=>H4.out,A4.out⟩
  ·have hd:decide ((0:Int)<(k:Int))=false:=decide_eq_false (by omega)
   have HX:Hid (pkE ps k=if 14<ps.length+sumF ps (k+1) then 2 else 0):=by show _=_;rw [HPE.out];simp [h0]
   clear HPE
   go_quiet (fail)
   have k4:Keep W2 (W2.drewN nq):=Keep.drewN (Keep.refl _) _
   generalize W2.drewN nq=W4 at k4 ⊢
   have K4:=hid k4
   have H4:=hid (H2.out.keep k4)
   have A4:=hid (A2.out.trans (one_keep k4))
   obtain ⟨hs4,-,hsl4⟩:=H4.out.sum.facts
   have h14 : ¬ 14<ps.length+sumF ps (k+1):=by omega
   have h14' : ¬ (14:Int)<((ps.length+sumF ps (k+1):Nat):Int):=by omega
   have HY:Hid (pkE ps (k)=0):=by show _=_;rw [HX.out,if_neg h14]
   clear h14 HX
   go_wp2_with fail
   go_ret
   exact ⟨ret_int HY.out.symm,fun _=>H4.out,A4.out⟩
 ·have HX:Hid (pkE ps k=cp):=by show _=_;rw [HPE.out,if_pos hz]
  have hz1:(cp==0)=false:=by simp [hz]
  have hz2:(cp != 0)=true:=by simp [hz]
  have HZ:=hid hz
  clear hz HPE hcp
  go_wp2_with fail
  go_ret
  exact ⟨ret_int HX.out.symm,fun h=>absurd (HX.out.symm.trans h) HZ.out,one_keep K1.out⟩
theorem enter_check1 (args:Array Value) (w:World):(callFunc 137 args).run Tryz.prog w=.ok (.enter 137 args) w:=enters_of Tryz.func137 (by kernel_rfl) rfl args w
set_option maxHeartbeats 4000000 in
set_option maxRecDepth 100000 in
theorem treeCheck_any (S:Nat->Prop) (ps:List PK) (v:Value) (w:World) (hS : ∀ b,S b->b<w.heap.size) (hp:PkgsIs S w ps v) :
  Calls Tryz.prog 99 #[.agg #[v]] w fun e w'=>e=.returned (.int .i64 (chkT ps))/\Keep w w':=by
 have HP:=hid hp
 obtain ⟨p,cap,rfl,hlen⟩:=hp.len
 have hmf : ∀ (fn:Fn) (first cap:Array Value) (w:World),(Instr.makeFunc fn first cap).run Tryz.prog w=.ok (.func fn first cap) w:=fun _ _ _ _=>rfl
 have hent:=enter_check1
 clear hp
 by_cases h8:8<ps.length
 ·have h8':(8:Int)<(ps.length:Int):=by omega
  have HX:Hid (chkT ps=2):=by show _=_;unfold chkT;rw [if_pos h8]
  have k0:=hid (Keep.alloc w (.cells #[.slice p ps.length cap] 24))
  go_enter Tryz.func99,Tryz.ntmps99
  go_wp2_with fail
  go_ret
  exact ⟨ret_int HX.out.symm,k0.out⟩
 ·have h8' : ¬ (8:Int)<(ps.length:Int):=by omega
  have HX:Hid (chkT ps=firstE (pkE ps) 0 ps.length):=by show _=_;unfold chkT;rw [if_neg h8]
  have hcall : ∀ (k:Nat) (W':World),k<ps.length->ChkAt S w.heap.size (w.heap.size+1) ps (.slice p ps.length cap) k W'->Calls Tryz.prog 137 (#[.int .i64 k]++#[.pointer (some ⟨w.heap.size,0,none⟩),.pointer (some ⟨w.heap.size+1,0,none⟩)]) W' fun e w'=>e=.returned (.int .i64 (pkE ps k))/\(pkE ps k=0->ChkAt S w.heap.size (w.heap.size+1) ps (.slice p ps.length cap) (k+1) w')/\Apart (One (w.heap.size+1)) W' w':=by
   intro k W' hk h1
   exact check1_any S _ _ ps _ k W' hk (by omega) h1
  have hone:=hid (fun W h=>oneByOne_any ps.length (pkE ps) (ChkAt S w.heap.size (w.heap.size+1) ps (.slice p ps.length cap)) (w.heap.size+1) hlen enter_check1 hcall W h)
  clear hcall h8
  go_enter Tryz.func99,Tryz.ntmps99
  go_wp2_with fail
  refine at_calls (fun W'=>Keep w W'/\ChkAt S w.heap.size (w.heap.size+1) ps (.slice p ps.length cap) 0 W') ⟨(Keep.alloc _ _).alloc' _,?_⟩ ?_
  ·have hz:=alloc_size w (.cells #[.slice p ps.length cap] 24)
   refine ⟨(VarAt.new w 24 (.slice p ps.length cap)).keep (Keep.alloc _ _) (by rw [hz];omega),?_,HP.out.keep hS ((Keep.alloc _ _).alloc' _),fun b hb=>⟨hS b hb,Nat.lt_succ_of_lt (hS b hb)⟩,by omega,by simp [sumF]⟩
   have:=VarAt.new (w.alloc (.cells #[.slice p ps.length cap] 24)) 3 (.int .i64 ps.length)
   rw [hz] at this
   have e0:(ps.length+sumF ps 0:Nat)=ps.length:=by simp [sumF]
   rw [e0];exact this
  rintro W1 ⟨k1,h1⟩
  refine (hone.out W1 h1).mono ?_
  rintro e w2 ⟨rfl,ha2⟩
  have K2:Hid (Keep w w2):=Below.trans k1 (ha2.below k1.size fun b hb e=>by have:b=w.heap.size+1:=e;omega)
  clear ha2 hone k1 h1
  go_wp2_with fail
  go_ret
  exact ⟨ret_int HX.out.symm,K2.out⟩
end Go.Proofs.YthhhicgjiilgmaaGreatDoor
namespace Go.Proofs.YthhhicgjiilgmaaGreatDoor
open Go.RowKit Go.Sort
def meantB (p:PK) (a:At):Bool:=(p.n.toList==a.n.toList)&&(fitB a.op a.v a.sl p.v p.sl&&(a.f.toList.isEmpty||hasF p.fl a.f.data.toList))
def meansL (ps:List PK) (a:At):Nat->List Int
 | 0=> []
 | k+1=>meansL ps a k++(if meantB (ps.getD k PK.zero) a=true then [(k:Int)] else [])
def meansE (ps:List PK) (a:At):Int:=if chkT ps≠0 then chkT ps else chkA a
def IntsAt (v:Value) (zs:List Int) (w:World):Prop:=(zs = []/\v=.slice none 0 0)∨∃ g cap,v=.slice (some ⟨g,0,none⟩) zs.length cap/\g<w.heap.size/\∀ (j:Nat) x,zs[j]? = some x->w.cell? ⟨g,j,none⟩=some (.int .i64 x)
theorem IntsAt.keep {v:Value} {zs:List Int} {w w':World} (h:IntsAt v zs w) (k:Keep w w'):IntsAt v zs w':=by
 rcases h with h | ⟨g,cap,h1,h2,h3⟩
 ·exact Or.inl h
 ·exact Or.inr ⟨g,cap,h1,Nat.lt_of_lt_of_le h2 k.size,fun j x hx=>(k.cell (p:=⟨g,j,none⟩) h2).trans (h3 j x hx)⟩
theorem IntsAt.len {v:Value} {zs:List Int} {w:World} (h:IntsAt v zs w) : ∃ p cap,v=.slice p zs.length cap:=by
 rcases h with ⟨rfl,h⟩ | ⟨g,cap,h,-⟩
 ·exact ⟨none,0,h⟩
 ·exact ⟨_,cap,h⟩
set_option maxHeartbeats 4000000 in
set_option maxRecDepth 100000 in
theorem isMeant_any (S:Nat->Prop) (p:PK) (cs:List Value) (an af:ByteArray) (aop av asl:Int) (aon:Bool) (w:World) (hS : ∀ b,S b->b<w.heap.size) (hp:PkgIs S w p cs) :
  Calls Tryz.prog 128 #[.agg cs.toArray,.agg #[.string an,.int .i64 aop,.int .i64 av,.int .i64 asl,.string af,.bool aon]] w fun e w'=>e=.returned (.bool (meantB p ⟨an,aop,av,asl,af,aon⟩))/\Keep w w':=by
 obtain ⟨k,a,fl,nt,kids,kp,fp,kc,fc,-,hfl,rfl,hf,-⟩:=hp.spelt
 have HF:=hid hf
 clear hp hf
 rcases p with ⟨n,v,sl,fs,nd⟩
 have HM:Hid (meantB ⟨n,v,sl,fs,nd⟩ ⟨an,aop,av,asl,af,aon⟩=((n.toList==an.toList)&&(fitB aop av asl v sl&&(af.toList.isEmpty||hasF fs af.data.toList)))):=rfl
 have KW:=hid ((Keep.alloc w (.cells #[.string n,.int .i64 v,.int .i64 sl,.slice fp fs.length fc,.int .i64 k,.string a.n,.int .i64 a.op,.int .i64 a.v,.int .i64 a.sl,.string a.f,.bool a.on,.string fl,.bool nt,.slice kp kids.length kc] 106)).alloc' (.cells #[.string an,.int .i64 aop,.int .i64 av,.int .i64 asl,.string af,.bool aon] 85))
 cases h1:(n.toList==an.toList)
 ·rw [h1] at HM
  go_enter Tryz.func128,Tryz.ntmps128
  go_wp2_with fail
  go_ret
  exact ⟨ret_bool (by rw [HM.out];rfl),KW.out⟩
 ·rw [h1] at HM
  go_enter Tryz.func128,Tryz.ntmps128
  go_wp2_with fail
  refine at_calls (fun W'=>Keep w W'/\Boxed w.heap.size #[.string n,.int .i64 v,.int .i64 sl,.slice fp fs.length fc,.int .i64 k,.string a.n,.int .i64 a.op,.int .i64 a.v,.int .i64 a.sl,.string a.f,.bool a.on,.string fl,.bool nt,.slice kp kids.length kc] W'/\Boxed (w.heap.size+1) #[.string an,.int .i64 aop,.int .i64 av,.int .i64 asl,.string af,.bool aon] W') ⟨(Keep.alloc _ _).alloc' _,(Boxed.new _ _ _).keep (Keep.alloc _ _) (by simp),?_⟩ ?_
  ·have:=Boxed.new (w.alloc (.cells #[.string n,.int .i64 v,.int .i64 sl,.slice fp fs.length fc,.int .i64 k,.string a.n,.int .i64 a.op,.int .i64 a.v,.int .i64 a.sl,.string a.f,.bool a.on,.string fl,.bool nt,.slice kp kids.length kc] 106)) #[.string an,.int .i64 aop,.int .i64 av,.int .i64 asl,.string af,.bool aon] 85
   rw [alloc_size] at this;exact this
  rintro W0 ⟨k0,b0,b1⟩
  refine (fits_any _ _ _ _ _ _ _ _ W0).mono ?_
  rintro e w1 ⟨rfl,k1⟩
  have K1:=hid (k0.trans k1)
  have B0:=hid (b0.keep k1 b0.1)
  have B1:=hid (b1.keep k1 b1.1)
  clear k0 b0 b1 k1 KW
  generalize fitB aop av asl v sl=β at HM ⊢
  have hc0:=B0.out.2
  have hl0:=B0.out.1
  have hc1:=B1.out.2
  have hl1:=B1.out.1
  cases β
  ·go_wp2_with fail
   go_ret
   exact ⟨ret_bool (by rw [HM.out];rfl),K1.out⟩
  ·cases h2:af.toList.isEmpty
   ·rw [h2] at HM
    have h3:(af.toList == [])=false:=by simpa using h2
    go_wp2_with fail
    refine (contains_any S fs _ af w1 (HF.out.keep hS K1.out)).mono ?_
    rintro e w2 ⟨rfl,hw2⟩
    rw [hw2]
    clear hw2
    go_wp2_with fail
    go_ret
    exact ⟨ret_bool (by rw [HM.out];simp),K1.out⟩
   ·rw [h2] at HM
    have h3:(af.toList == [])=true:=by simpa using h2
    go_wp2_with fail
    go_ret
    exact ⟨ret_bool (by rw [HM.out];rfl),K1.out⟩
theorem infoInt:(Tryz.prog.info? 3).map (fun i=>(i.zero,i.size,i.bytes))=some (some (.int .i64 0),1,8):=by kernel_rfl
def IntsOwn (B:Nat) (v:Value) (zs:List Int) (w:World):Prop:=w.ownsRow B 3 1 v zs.length (zs.map (Value.int .i64))
theorem one_cellI {s:Int} (u:Value) (h:u ∈ [Value.int .i64 s]):u.oneCell'=true:=by rw [List.mem_singleton.1 h];rfl
theorem IntsOwn.ints {B:Nat} {v:Value} {zs:List Int} {w:World} (h:IntsOwn B v zs w):IntsAt v zs w:=by
 obtain ⟨hlen,⟨rfl,h0⟩ | ⟨g,cap,cur,rfl,hbase,hb,hn1,hn2,hn3,hn4⟩⟩:=h
 ·exact Or.inl ⟨List.length_eq_zero_iff.1 h0,rfl⟩
 ·refine Or.inr ⟨g,cap,rfl,(Array.getElem?_eq_some_iff.1 hb).1,fun j x hx=> ?_⟩
  have hj:j<zs.length:=(List.getElem?_eq_some_iff.1 hx).1
  have h1:=congrArg (·[j]?) hn4
  simp only [Nat.mul_one,List.getElem?_take,List.getElem?_map,hx,Option.map_some] at h1
  rw [if_pos hj] at h1
  simp only [World.cell?,hb]
  simpa using h1
theorem ints_push {B:Nat} {v v':Value} {zs:List Int} {x:Int} {w w':World} {o:Obj} (hB:B<=w.heap.size) (hw:IntsOwn B v zs w) (h1:w'.ownsRow B 3 1 v' (zs.length+1) (zs.map (Value.int .i64) ++ [.int .i64 x])) (h2:(w.alloc o).grownBy w' v.ownBlock) :
  IntsOwn B v' (zs ++ [x]) w'/\Below B w w':=by
 refine ⟨?_,?_⟩
 ·unfold IntsOwn
  rw [List.length_append,List.map_append]
  exact h1
 ·exact Below.grown ((Below.refl B w).alloc hB o) h2 (by have:=alloc_size w o;omega) (fun g hg=>(owns_lt hw hg).1)
theorem meansL_len (ps:List PK) (a:At) : ∀ k,(meansL ps a k).length<=k
 | 0=>by simp [meansL]
 | k+1=>by
  have:=meansL_len ps a k
  rw [meansL,List.length_append]
  split<;>simp<;>omega
def MeansOwnD (ps:List PK) (a:At) (w:World) (e:Ending) (w':World):Prop:=
 ∃ v,e=.returned (.tuple #[v,.int .i64 (meansE ps a)])/\(meansE ps a≠0->v=.slice none 0 0)/\(meansE ps a=0->IntsOwn (w.heap.size+2) v (meansL ps a ps.length) w')/\Keep w w'
set_option maxHeartbeats 4000000 in
set_option maxRecDepth 100000 in
theorem meansO_any (S:Nat->Prop) (ps:List PK) (v:Value) (an af:ByteArray) (aop av asl:Int) (aon:Bool) (w:World) (hS : ∀ b,S b->b<w.heap.size) (hp:PkgsIs S w ps v) :
  Calls Tryz.prog 85 #[.agg #[v],.agg #[.string an,.int .i64 aop,.int .i64 av,.int .i64 asl,.string af,.bool aon]] w fun e w'=>MeansOwnD ps ⟨an,aop,av,asl,af,aon⟩ w e w':=by
 obtain ⟨i0,hi,hz0,hz1,hz2⟩:=info_parts infoInt
 have HP:=hid hp
 obtain ⟨p,cap,rfl,hlen⟩:=hp.len
 have hl8:chkT ps=0->ps.length<=8:=fun h=>(chkT_get h).1
 have HE:Hid (meansE ps ⟨an,aop,av,asl,af,aon⟩=if chkT ps≠0 then chkT ps else chk an.data.toList aop av asl af.data.toList aon):=rfl
 clear hp
 go_enter Tryz.func85,Tryz.ntmps85
 go_wp2_with fail
 refine at_calls (fun W'=>Keep w W'/\VarAt w.heap.size 24 (.slice p ps.length cap) W'/\Boxed (w.heap.size+1) #[.string an,.int .i64 aop,.int .i64 av,.int .i64 asl,.string af,.bool aon] W') ⟨(Keep.alloc _ _).alloc' _,(VarAt.new _ _ _).keep (Keep.alloc _ _) (by simp),?_⟩ ?_
 ·have:=Boxed.new (w.alloc (.cells #[.slice p ps.length cap] 24)) #[.string an,.int .i64 aop,.int .i64 av,.int .i64 asl,.string af,.bool aon] 85
  rw [alloc_size] at this;exact this
 rintro W0 ⟨k0,v0,b0⟩
 refine (treeCheck_any S ps _ W0 (fun b hb=>Nat.lt_of_lt_of_le (hS b hb) k0.size) (HP.out.keep hS k0)).mono ?_
 rintro e w1 ⟨rfl,k1⟩
 have K1:=hid (k0.trans k1)
 have V1:=hid (v0.keep k1 v0.facts.2.2)
 have B1:=hid (b0.keep k1 b0.1)
 clear k0 v0 b0 k1
 generalize hct:chkT ps=ct at HE hl8 ⊢
 obtain ⟨hcv,-,hlv⟩:=V1.out.facts
 have hcb:=B1.out.2
 have hlb:=B1.out.1
 by_cases hz:ct=0
 ·subst hz
  have h8:=hl8 rfl
  clear hl8
  go_wp2_with fail
  clear hcv hcb
  refine (check_any an af aop av asl aon w1).mono ?_
  rintro e w2 ⟨rfl,k2⟩
  have K2:=hid (K1.out.trans k2)
  have V2:=hid (V1.out.keep k2 V1.out.facts.2.2)
  have B2:=hid (B1.out.keep k2 B1.out.1)
  clear k2 K1 V1 B1
  generalize hca:chk an.data.toList aop av asl af.data.toList aon=ca at HE ⊢
  obtain ⟨hcv,-,hlv2⟩:=V2.out.facts
  have hcb:=B2.out.2
  by_cases hza:ca=0
  ·subst hza
   have HE0:Hid (meansE ps ⟨an,aop,av,asl,af,aon⟩=0):=by show _=_;rw [HE.out];simp
   clear HE hca hct
   go_wp2_with fail
   go_loopg [8,24] ps.length (fun gk pv i wr=> ∃ j:Nat,j+gk=ps.length/\i=.int .i64 j/\IntsOwn (w.heap.size+2) pv (meansL ps ⟨an,aop,av,asl,af,aon⟩ j) wr/\Boxed (w.heap.size+1) #[.string an,.int .i64 aop,.int .i64 av,.int .i64 asl,.string af,.bool aon] wr/\Keep w wr)
   case atStart=>exact ⟨0,by simp,rfl,World.ownsRow_nil _ _ _ _,B2.out,K2.out⟩
   case round=>
    obtain ⟨j,hj,rfl,hown,hbx,hkp⟩:=hrel
    have HOWN:=hid hown
    have HBX:=hid hbx
    have HKP:=hid hkp
    clear hown hbx hkp B2 K2 V2 hcv hcb hlv hlb hlv2
    by_cases hlt:j<ps.length
    ·obtain ⟨b,off,cap2,hv2,hb2,-,hrow2⟩:=(HP.out.keep hS HKP.out).get hlt
     cases hv2
     obtain ⟨cs,hcs,hpj⟩:=hrow2 j hlt
     have HML:Hid (meansL ps ⟨an,aop,av,asl,af,aon⟩ (j+1)=meansL ps ⟨an,aop,av,asl,af,aon⟩ j++(if meantB ps[j] ⟨an,aop,av,asl,af,aon⟩=true then [(j:Int)] else [])):=by
      show _=_
      rw [meansL,List.getD_eq_getElem?_getD,List.getElem?_eq_getElem hlt,Option.getD_some]
     have hml:=meansL_len ps ⟨an,aop,av,asl,af,aon⟩ j
     generalize ps[j]=q at hpj HML
     have HPJ:=hid hpj
     obtain ⟨k,a,fl,nt,kids,kp,fp,kc,fc,-,hfl,rfl,-,-⟩:=hpj.spelt
     obtain ⟨c0,c1,c2,c3,c4,c5,c6,c7,c8,c9,c10,c11,c12,c13⟩:=cells14 hcs
     rcases q with ⟨n,v,sl,fs,nd⟩
     simp only at hfl c0 c1 c2 c3
     have hcb:=HBX.out.2
     have hlb:=HBX.out.1
     have hsw:w.heap.size<=wr.heap.size:=HKP.out.size
     have hS2 : ∀ b,S b->b<wr.heap.size:=fun b hb=>Nat.lt_of_lt_of_le (hS b hb) hsw
     clear hrow2 hcs hpj
     go_wp2_with fail
     refine at_calls (fun W'=>Keep wr W') (Keep.alloc _ _) ?_
     intro W3 k3
     refine (isMeant_any S _ _ an af aop av asl aon W3 (fun b hb=>Nat.lt_of_lt_of_le (hS2 b hb) k3.size) (HPJ.out.keep hS2 k3)).mono ?_
     rintro e w4 ⟨rfl,k4⟩
     have K4':=hid (k3.trans k4)
     have K4:=hid (HKP.out.trans K4'.out)
     have OWN4:Hid (IntsOwn (w.heap.size+2) u8 (meansL ps ⟨an,aop,av,asl,af,aon⟩ j) w4):=owns_keep HOWN.out K4'.out
     have BX4:=hid (HBX.out.keep K4'.out HBX.out.1)
     clear k3 k4 c0 c1 c2 c3 c4 c5 c6 c7 c8 c9 c10 c11 c12 c13 hcb
     generalize meantB ⟨n,v,sl,fs,nd⟩ ⟨an,aop,av,asl,af,aon⟩=β at HML ⊢
     cases β
     ·have HM2:Hid (meansL ps ⟨an,aop,av,asl,af,aon⟩ (j+1)=meansL ps ⟨an,aop,av,asl,af,aon⟩ j):=by show _=_;rw [HML.out];simp
      clear HML
      go_wp2_with fail
      go_roundg (ps.length-(j+1))
      case rel=>exact ⟨j+1,by omega,by go_num,by rw [HM2.out];exact OWN4.out,BX4.out,K4.out⟩
      case measure=>omega
     ·have HM2:Hid (meansL ps ⟨an,aop,av,asl,af,aon⟩ (j+1)=meansL ps ⟨an,aop,av,asl,af,aon⟩ j ++ [(j:Int)]):=by show _=_;rw [HML.out];simp
      have hsw4:w.heap.size+2<=w4.heap.size:=BX4.out.1
      clear HML
      generalize meansL ps ⟨an,aop,av,asl,af,aon⟩ j=zs at hml OWN4 HM2
      go_wp2_with (at_builtin;refine wpList_append_own_at _ rfl _ _ 27 rfl (w.heap.size+2) 3 i0 (.int .i64 0) 1 8 Tryz.underlying27 hi hz0 hz1 hz2 rfl (by decide) u8 zs.length (zs.map (Value.int .i64)) rfl (World.ownsRow.alloc OWN4.out _) ⟨w4.heap.size,0,none⟩ 1 1 [.int .i64 j] rfl rfl one_news one_cellI (by unfold maxLen;omega) (by omega) (by have:=alloc_size w4 (.cells #[.int .i64 j] 3);omega) ?_)
      intro v' w5 h5 h6 _ _
      obtain ⟨h7,h8'⟩:=ints_push hsw4 OWN4.out h5 h6
      have H7:=hid h7
      have K5:Hid (Keep w w5):=Below.trans K4.out (h8'.mono (by omega))
      have BX5:Hid (Boxed (w.heap.size+1) #[.string an,.int .i64 aop,.int .i64 av,.int .i64 asl,.string af,.bool aon] w5):=BX4.out.keep h8' (by omega)
      clear h5 h6 h7 h8'
      go_wp2_with fail
      go_roundg (ps.length-(j+1))
      case rel=>exact ⟨j+1,by omega,by go_num,by rw [HM2.out];exact H7.out,BX5.out,K5.out⟩
      case measure=>omega
    ·go_wp2_with fail
     go_ret2
     obtain rfl:j=ps.length:=by omega
     exact ⟨_,by rw [HE0.out];rfl,fun h=>absurd HE0.out h,fun _=>HOWN.out,HKP.out⟩
  ·have HX:Hid (meansE ps ⟨an,aop,av,asl,af,aon⟩=ca):=by show _=_;rw [HE.out];simp
   have hz1:(ca==0)=false:=by simp [hza]
   have hz2':(ca != 0)=true:=by simp [hza]
   have HZ:=hid hza
   clear hza HE hca
   go_wp2_with fail
   go_ret2
   exact ⟨_,by rw [HX.out];rfl,fun _=>rfl,fun h=>absurd (HX.out.symm.trans h) HZ.out,K2.out⟩
 ·have HX:Hid (meansE ps ⟨an,aop,av,asl,af,aon⟩=ct):=by show _=_;rw [HE.out,if_pos hz]
  have hz1:(ct==0)=false:=by simp [hz]
  have hz2':(ct != 0)=true:=by simp [hz]
  have HZ:=hid hz
  clear hz HE hct hl8
  go_wp2_with fail
  go_ret2
  exact ⟨_,by rw [HX.out];rfl,fun _=>rfl,fun h=>absurd (HX.out.symm.trans h) HZ.out,K1.out⟩
end Go.Proofs.YthhhicgjiilgmaaGreatDoor
