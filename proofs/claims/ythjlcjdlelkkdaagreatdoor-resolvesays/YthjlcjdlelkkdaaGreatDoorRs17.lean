/- Steps of the proof. -/
import Derived.Test.YthjlcjdlelkkdaaGreatDoorRs16
import Derived.Shelf.Strings.SlTrimAscii
import Derived.Lib.ParseIntBTie
set_option maxHeartbeats 16000000
set_option maxRecDepth 100000
namespace Go.Proofs.YthjlcjdlelkkdaaGreatDoor
open Go.RowKit Go.Sort
def qZ:List UInt8:= [97,98,99,100,101,102,103,104,105,106,107,108,109,110,111,112,113,114,115,116,117,118,119,120,121,122]
def lH:List UInt8:= [97,98,99,100,101,102,103,104,105,106,107,108,109,110,111,112,113,114,115,116,117,118,119,120,121,122,48,49,50,51,52,53,54,55,56,57]
theorem aEh:∀n:Fin 256,decide (0<=Lib.indexByte qZ (UInt8.ofNat n.val))=jZ (UInt8.ofNat n.val):=by decide +kernel
theorem aNp:∀n:Fin 256,lH.contains (UInt8.ofNat n.val)=okB (UInt8.ofNat n.val):=by decide +kernel
theorem uM(c:UInt8):UInt8.ofNat c.toNat=c:=by simp
theorem vU(c:UInt8):decide (0<=Lib.indexByte qZ c)=jZ c:=by
 have:=aEh ⟨c.toNat,c.toNat_lt⟩;rwa [uM] at this
theorem aFm(c:UInt8):lH.contains c=okB c:=by
 have:=aNp ⟨c.toNat,c.toNat_lt⟩;rwa [uM] at this
theorem iI{p:UInt8->Bool}:∀l:List UInt8,(l.dropWhile p = [])↔l.all p=true
 | []=>by simp
 | c :: l=>by
  rw[List.dropWhile_cons,List.all_cons];cases h:p c
  ·simp
  ·simp[iI l]
theorem aRz(l:List UInt8):(Lib.trimS l lH = [])↔l.all okB=true:=by
 have e:∀l:List UInt8,l.all (lH.contains ·)=l.all okB:=fun l=>by
  induction l with
  | nil=>rfl
  | cons c l ih=>rw[List.all_cons,List.all_cons,aFm,ih]
 unfold Lib.trimS Lib.trimLeftS Lib.trimRightS;rw[iI,e];constructor
 ·intro h;by_cases hh:l.reverse.all okB=true
  ·simpa using hh
  ·exfalso;have a0:l.reverse.dropWhile (lH.contains ·) ≠ []:=fun h0=>hh (by rw[<-e];exact (iI _).1 h0);obtain⟨c,r,hr⟩:=List.exists_cons_of_ne_nil a0;have hc:=List.head?_dropWhile_not (lH.contains ·) l.reverse;rw[hr] at hc h;rw[List.all_reverse,List.all_cons,Z8] at h;have:okB c=false:=by rw[<-aFm];simpa using hc
   rw[this] at h;cases h.1
 ·intro h;have:l.reverse.dropWhile (lH.contains ·) = []:=(iI _).2 (by rw[e,List.all_reverse];exact h);rw[this];rfl
theorem aRy(s:ByteArray)(w:World)(hs:s.size<=8):
  Calls Tryz.prog 80 #[.string s,.string ⟨#[97,98,99,100,101,102,103,104,105,106,107,108,109,110,111,112,113,114,115,116,117,118,119,120,121,122,48,49,50,51,52,53,54,55,56,57]⟩] w fun e w'=> ∃t:ByteArray,e=.returned (.string t)/\t.toList.isEmpty=s.data.toList.all okB/\aA w w':=by
 have c:Calls Tryz.prog 80 #[.string s,.string ⟨#[97,98,99,100,101,102,103,104,105,106,107,108,109,110,111,112,113,114,115,116,117,118,119,120,121,122,48,49,50,51,52,53,54,55,56,57]⟩] w fun e w'=>e=.returned (.string ⟨(Lib.trimS s.data.toList lH).toArray⟩)/\Below w.heap.size w w':=
  Any.strings_Trim_laid Tryz.lays160 (by kernel_rfl) s ⟨lH.toArray⟩ w (by omega) (by decide) (ascii_of_all (by decide))
 refine c.mono ?_;rintro e w' ⟨rfl,k⟩;refine⟨_,rfl,?_,k⟩;rw[Lib.toList_data];show (Lib.trimS s.data.toList lH).isEmpty=_;rw[Bool.eq_iff_iff,List.isEmpty_iff,aRz]
theorem aLo{n m:ByteArray}(h:n.data.toList=m.data.toList):n=m:=by
 cases n;cases m;simp at h;rw[h]
theorem aPu(s:ByteArray)(h:0<s.size):yZ s.data.toList=jZ s[0]:=by rw[sG s h];rfl
theorem aEn(s:ByteArray)(h:0<s.size)(h8:s.size<=8):aP s.data.toList=(jZ s[0]&&s.data.toList.all okB):=by
 unfold aP;rw[aPu s h,Y7 (by rw[aU];exact h8)];rfl
theorem eN(s:ByteArray)(w:World):
  Calls Tryz.prog 41 #[.string s] w fun e w'=>e=.returned (.bool (aP s.data.toList))/\aA w w':=by
 by_cases h1:s.size<1
 ·have H:Hid (aP s.data.toList=false):=oX s (Or.inl h1);have a0:decide ((0:Int)<(s.size:Int))=false:=Y8 (by omega);go_enter Tryz.func41,Tryz.ntmps41;go_wp2
  go_ret;exact⟨aK H.out.symm,aA.refl _⟩
 ·by_cases h8:8<s.size
  ·have H:Hid (aP s.data.toList=false):=oX s (Or.inr h8);have a0:(0:Int)<(s.size:Int):=by omega
   have a2:decide ((s.size:Int)<=8)=false:=Y8 (by omega);go_enter Tryz.func41,Tryz.ntmps41;go_wp2
   go_ret;exact⟨aK H.out.symm,aA.refl _⟩
  ·have hp:0<s.size:=by omega
   have a0:(0:Int)<(s.size:Int):=by omega
   have a2:(s.size:Int)<=8:=by omega
   have q1:(1:Int)<=(s.size:Int):=by omega
   have HN:Hid (aP s.data.toList=(jZ s[0]&&s.data.toList.all okB)):=aEn s hp (by omega);have hx:s.extract 0 1=⟨#[s[0]]⟩:=aLo (by rw[Lib.extract_data,sG s hp];rfl);have HX:Hid (s.extract 0 1=⟨#[s[0]]⟩):=hx;clear hx;cases hl:jZ s[0]
   ·have HL:Hid (jZ s[0]=false):=hl;clear hl;go_enter Tryz.func41,Tryz.ntmps41;go_wp2_with fail;rw[HX.out];refine (Tryz.strings_Contains_one _ _ _).mono ?_;rintro e w' ⟨rfl,hw⟩;rw[hw,show (ByteArray.mk #[97,98,99,100,101,102,103,104,105,106,107,108,109,110,111,112,113,114,115,116,117,118,119,120,121,122]).data.toList=qZ from rfl,vU,HL.out];clear hw;go_wp2_with fail;go_ret;exact⟨aK (by rw[HN.out,HL.out];rfl),aA.refl _⟩
   ·have HL:Hid (jZ s[0]=true):=hl;clear hl;go_enter Tryz.func41,Tryz.ntmps41;go_wp2_with fail;rw[HX.out];refine (Tryz.strings_Contains_one _ _ _).mono ?_;rintro e w' ⟨rfl,hw⟩;rw[hw,show (ByteArray.mk #[97,98,99,100,101,102,103,104,105,106,107,108,109,110,111,112,113,114,115,116,117,118,119,120,121,122]).data.toList=qZ from rfl,vU,HL.out];clear hw;go_wp2_with fail;refine (aRy _ _ (by omega)).mono ?_;rintro e w2 ⟨t,rfl,ht,k2⟩;have a1:Hid (t.toList.isEmpty=s.data.toList.all okB):=ht;clear ht;go_wp2_with fail;go_ret;exact⟨aK (by rw[HN.out,HL.out,<-a1.out];rfl),k2⟩
theorem aHd(n f:ByteArray)(op v sl:Int)(on:Bool)(ver slot:Int)(w:World):
  Calls Tryz.prog 90 #[.agg #[.string n,.int .i64 op,.int .i64 v,.int .i64 sl,.string f,.bool on],.int .i64 ver,.int .i64 slot] w fun e w'=>e=.returned (.bool (gS op v sl ver slot))/\aA w w':=by
 have ho:((op==1)=true/\op=1)\/((op==1)=false/\(op==2)=true/\op=2)\/((op==1)=false/\(op==2)=false/\(op==3)=true/\op=3)\/((op==1)=false/\(op==2)=false/\(op==3)=false):=by
  by_cases e1:op=1
  ·left;simp[e1]
  ·by_cases e2:op=2
   ·right;left;simp[e2]
   ·by_cases e3:op=3
    ·right;right;left;simp[e3]
    ·right;right;right;simp[e1,e2,e3]
 by_cases h:sl≠0/\sl≠slot
 ·have h0:(sl==0)=false:=by simp[h.1]
  have h1:(sl==slot)=false:=by simp[h.2]
  have H:Hid (gS op v sl ver slot=false):=by show gS op v sl ver slot=false;unfold gS;rw[if_pos h]
  clear h;rcases ho with ⟨o1,_⟩ | ⟨o1,o2,_⟩ | ⟨o1,o2,o3,_⟩ | ⟨o1,o2,o3⟩
  all_goals
   go_enter Tryz.func90,Tryz.ntmps90;go_wp2
   go_ret;exact⟨aK H.out.symm,aA.alloc _ _⟩
 ·have H:Hid (gS op v sl ver slot=if op=1 then decide (ver=v) else if op=2 then decide (v<=ver) else if op=3 then decide (ver<v) else true):=by show gS op v sl ver slot=_;unfold gS;rw[if_neg h]
  have hs:(sl==0)=true\/(sl==0)=false/\(sl==slot)=true:=by
   by_cases e:sl=0
   ·left;simp[e]
   ·right;exact⟨by simp[e],by simp;exact Decidable.byContradiction fun e'=>h ⟨e,e'⟩⟩
  clear h ho;have ho:((op==1)=true/\Hid (gS op v sl ver slot=(ver==v)))\/((op==1)=false/\(op==2)=true/\Hid (gS op v sl ver slot=decide (v<=ver)))\/((op==1)=false/\(op==2)=false/\(op==3)=true/\Hid (gS op v sl ver slot=decide (ver<v)))\/((op==1)=false/\(op==2)=false/\(op==3)=false/\Hid (gS op v sl ver slot=true)):=by
   by_cases e1:op=1
   ·left;refine⟨by simp[e1],?_⟩;show _=_;rw[H.out,if_pos e1];rfl
   ·by_cases e2:op=2
    ·right;left;refine⟨by simp[e2],by simp[e2],?_⟩;show _=_;rw[H.out,if_neg e1,if_pos e2]
    ·by_cases e3:op=3
     ·right;right;left;refine⟨by simp[e3],by simp[e3],by simp[e3],?_⟩;show _=_;rw[H.out,if_neg e1,if_neg e2,if_pos e3]
     ·right;right;right;refine⟨by simp[e1],by simp[e2],by simp[e3],?_⟩;show _=_;rw[H.out,if_neg e1,if_neg e2,if_neg e3]
  clear H;rcases hs with hs | ⟨hs,hs2⟩<;>rcases ho with ⟨o1,H⟩ | ⟨o1,o2,H⟩ | ⟨o1,o2,o3,H⟩ | ⟨o1,o2,o3,H⟩
  all_goals
   go_enter Tryz.func90,Tryz.ntmps90;go_wp2
   go_ret;exact⟨aK H.out.symm,aA.alloc _ _⟩
end Go.Proofs.YthjlcjdlelkkdaaGreatDoor
namespace Go.Proofs.YthjlcjdlelkkdaaGreatDoor
open Go.RowKit
theorem aDa(n:List UInt8)(op v sl:Int)(f:List UInt8)(on:Bool)(hn:aP n=true)(hf:f = []\/aP f=true):
  (op<0/\Hid (chk n op v sl f on=3))\/(0<=op/\3<op/\Hid (chk n op v sl f on=3))\/(0<=op/\op<=3/\sl<0/\Hid (chk n op v sl f on=3))\/(0<=op/\op<=3/\0<=sl/\9<sl/\Hid (chk n op v sl f on=3))
  \/(0<=op/\op<=3/\0<=sl/\sl<=9/\(op==0)=true/\(v != 0)=true/\Hid (chk n op v sl f on=3))
  \/(0<=op/\op<=3/\0<=sl/\sl<=9/\(op==0)=false/\0<op/\v<1/\Hid (chk n op v sl f on=3))
  \/(0<=op/\op<=3/\0<=sl/\sl<=9/\(op==0)=false/\0<op/\1<=v/\99<v/\Hid (chk n op v sl f on=3))
  \/(0<=op/\op<=3/\0<=sl/\sl<=9/\(op==0)=true/\(v != 0)=false/\op<=0/\Hid (chk n op v sl f on=if on=true/\f = [] then 4 else 0))
  \/(0<=op/\op<=3/\0<=sl/\sl<=9/\(op==0)=false/\0<op/\1<=v/\v<=99/\Hid (chk n op v sl f on=if on=true/\f = [] then 4 else 0)):=by
 rcases uQ n op v sl f on hn hf with ⟨r1,HC⟩ | ⟨r1,r2,HC⟩ | ⟨r1,r2,r3,HC⟩ | ⟨r1,r2,r3,r4,HC⟩ | ⟨r1,r2,r3,r4,HV,HC⟩ | ⟨r1,r2,r3,r4,HV,HC⟩
 ·exact Or.inl ⟨r1,HC⟩
 ·exact Or.inr (Or.inl ⟨r1,by omega,HC⟩)
 ·exact Or.inr (Or.inr (Or.inl ⟨r1,by omega,r3,HC⟩))
 ·exact Or.inr (Or.inr (Or.inr (Or.inl ⟨r1,by omega,r3,r4,HC⟩)))
 ·have hv:=HV.out;unfold lX at hv;by_cases e:op=0
  ·rw[if_pos e] at hv;exact Or.inr (Or.inr (Or.inr (Or.inr (Or.inl ⟨r1,by omega,r3,r4,by simp[e],by simpa using hv,HC⟩))))
  ·rw[if_neg e] at hv;by_cases e1:v<1
   ·exact Or.inr (Or.inr (Or.inr (Or.inr (Or.inr (Or.inl ⟨r1,by omega,r3,r4,by simp[e],by omega,e1,HC⟩)))))
   ·have e2:99<v:=by
     have h1:decide (1<=v)=true:=Y7 (by omega);rw[h1] at hv;simpa using hv
    exact Or.inr (Or.inr (Or.inr (Or.inr (Or.inr (Or.inr (Or.inl ⟨r1,by omega,r3,r4,by simp[e],by omega,by omega,e2,HC⟩))))))
 ·have hv:=HV.out;by_cases e:op=0
  ·have:v=0:=by subst e;exact lY hv
   exact Or.inr (Or.inr (Or.inr (Or.inr (Or.inr (Or.inr (Or.inr (Or.inl ⟨r1,by omega,r3,r4,by simp[e],by simp[this],by omega,HC⟩)))))))
  ·obtain⟨a,b⟩:=oK e hv;exact Or.inr (Or.inr (Or.inr (Or.inr (Or.inr (Or.inr (Or.inr (Or.inr ⟨r1,by omega,r3,r4,by simp[e],by omega,a,b,HC⟩)))))))
theorem rH(n f:ByteArray)(op v sl:Int)(on:Bool)(w:World)(h:aP n.data.toList=false\/(f.data.toList ≠ []/\aP f.data.toList=false)):
  Calls Tryz.prog 46 #[.agg #[.string n,.int .i64 op,.int .i64 v,.int .i64 sl,.string f,.bool on]] w fun e w'=>e=.returned (.int .i64 (chk n.data.toList op v sl f.data.toList on))/\aA w w':=by
 have HC:Hid (chk n.data.toList op v sl f.data.toList on=1):=by show _=_;unfold chk;rw[if_pos h]
 have k0:=aA.alloc w (.cells #[.string n,.int .i64 op,.int .i64 v,.int .i64 sl,.string f,.bool on] 63);have a0:Hid (aV w.heap.size n op v sl f on (w.alloc (.cells #[.string n,.int .i64 op,.int .i64 v,.int .i64 sl,.string f,.bool on] 63))):=pC _ _;cases hn:aP n.data.toList
 ·have HN:Hid (aP n.data.toList=false):=hn;clear hn h;go_enter Tryz.func46,Tryz.ntmps46;go_wp2_with fail;generalize w.alloc (.cells #[.string n,.int .i64 op,.int .i64 v,.int .i64 sl,.string f,.bool on] 63)=W0 at k0 a0 |-
  refine (eN _ _).mono ?_;rintro e w1 ⟨rfl,k1⟩;rw[HN.out];have K1:aA w w1:=k0.trans k1;go_wp2_with fail;go_ret;exact⟨aD HC.out.symm,K1⟩
 ·have HN:Hid (aP n.data.toList=true):=hn;rw[hn] at h;obtain⟨h1,h2⟩:f.data.toList ≠ []/\aP f.data.toList=false:=h.resolve_left (by simp);have HF:Hid (aP f.data.toList=false):=h2;have a2:=eI h1;clear hn h h1 h2;go_enter Tryz.func46,Tryz.ntmps46;go_wp2_with fail;generalize w.alloc (.cells #[.string n,.int .i64 op,.int .i64 v,.int .i64 sl,.string f,.bool on] 63)=W0 at k0 a0 |-
  refine (eN _ _).mono ?_;rintro e w1 ⟨rfl,k1⟩;rw[HN.out];have K1:aA w w1:=k0.trans k1;have a1:Hid (aV w.heap.size n op v sl f on w1):=a0.out.below k1 a0.out.facts.2.2;obtain⟨a3,_,_⟩:=a1.out.facts;go_wp2_with fail;refine (eN _ _).mono ?_;rintro e w2 ⟨rfl,k2⟩;rw[HF.out];have K2:aA w w2:=K1.trans k2;go_wp2_with fail;go_ret;exact⟨aD HC.out.symm,K2⟩
theorem wM(n f:ByteArray)(op v sl:Int)(on:Bool)(w:World)(hn:aP n.data.toList=true)(hf:f.data.toList = []):
  Calls Tryz.prog 46 #[.agg #[.string n,.int .i64 op,.int .i64 v,.int .i64 sl,.string f,.bool on]] w fun e w'=>e=.returned (.int .i64 (chk n.data.toList op v sl f.data.toList on))/\aA w w':=by
 have hr:=aDa n.data.toList op v sl f.data.toList on hn (Or.inl hf);have HN:Hid (aP n.data.toList=true):=hn;have HF:Hid (f.data.toList = []):=hf;have a4:=jR hf;have k0:=aA.alloc w (.cells #[.string n,.int .i64 op,.int .i64 v,.int .i64 sl,.string f,.bool on] 63);have a0:Hid (aV w.heap.size n op v sl f on (w.alloc (.cells #[.string n,.int .i64 op,.int .i64 v,.int .i64 sl,.string f,.bool on] 63))):=pC _ _;clear hn hf;go_enter Tryz.func46,Tryz.ntmps46;go_wp2_with fail;generalize w.alloc (.cells #[.string n,.int .i64 op,.int .i64 v,.int .i64 sl,.string f,.bool on] 63)=W0 at k0 a0 |-
 refine (eN _ _).mono ?_;rintro e w1 ⟨rfl,k1⟩;rw[HN.out];have K1:aA w w1:=k0.trans k1;have a1:Hid (aV w.heap.size n op v sl f on w1):=a0.out.below k1 a0.out.facts.2.2;obtain⟨a5,_,_⟩:=a1.out.facts;have a2:Hid (∀c:Int,c=(if on=true/\f.data.toList = [] then 4 else 0)->c=if on=true then 4 else 0):=fun c e=>by rw[e];simp[HF.out]
 rcases hr with ⟨r1,HC⟩ | ⟨r1,r2,HC⟩ | ⟨r1,r2,r3,HC⟩ | ⟨r1,r2,r3,r4,HC⟩ | ⟨r1,r2,r3,r4,r5,r6,HC⟩ | ⟨r1,r2,r3,r4,r5,r6,r7,HC⟩ | ⟨r1,r2,r3,r4,r5,r6,r7,r8,HC⟩ | ⟨r1,r2,r3,r4,r5,r6,r7,HC⟩ | ⟨r1,r2,r3,r4,r5,r6,r7,r8,HC⟩
 iterate 7
  ·go_wp2_with fail;go_ret;exact⟨aD HC.out.symm,K1⟩
 iterate 2
  ·cases on
   ·have a3:Hid (chk n.data.toList op v sl f.data.toList false=0):=a2.out _ HC.out;clear HC a2;go_wp2_with fail;go_ret;exact⟨aD a3.out.symm,K1⟩
   ·have a3:Hid (chk n.data.toList op v sl f.data.toList true=4):=a2.out _ HC.out;clear HC a2;go_wp2_with fail;go_ret;exact⟨aD a3.out.symm,K1⟩
theorem yF(n f:ByteArray)(op v sl:Int)(on:Bool)(w:World)(hn:aP n.data.toList=true)(hf:aP f.data.toList=true):
  Calls Tryz.prog 46 #[.agg #[.string n,.int .i64 op,.int .i64 v,.int .i64 sl,.string f,.bool on]] w fun e w'=>e=.returned (.int .i64 (chk n.data.toList op v sl f.data.toList on))/\aA w w':=by
 have hr:=aDa n.data.toList op v sl f.data.toList on hn (Or.inr hf);have HN:Hid (aP n.data.toList=true):=hn;have HF:Hid (aP f.data.toList=true):=hf;have a5:=eI (jJ hf);have HP:Hid (f.data.toList ≠ []):=jJ hf;have k0:=aA.alloc w (.cells #[.string n,.int .i64 op,.int .i64 v,.int .i64 sl,.string f,.bool on] 63);have a0:Hid (aV w.heap.size n op v sl f on (w.alloc (.cells #[.string n,.int .i64 op,.int .i64 v,.int .i64 sl,.string f,.bool on] 63))):=pC _ _;clear hn hf;go_enter Tryz.func46,Tryz.ntmps46;go_wp2_with fail;generalize w.alloc (.cells #[.string n,.int .i64 op,.int .i64 v,.int .i64 sl,.string f,.bool on] 63)=W0 at k0 a0 |-
 refine (eN _ _).mono ?_;rintro e w1 ⟨rfl,k1⟩;rw[HN.out];have K1:aA w w1:=k0.trans k1;have a1:Hid (aV w.heap.size n op v sl f on w1):=a0.out.below k1 a0.out.facts.2.2;obtain⟨a4,_,_⟩:=a1.out.facts;go_wp2_with fail;refine (eN _ _).mono ?_;rintro e w2 ⟨rfl,k2⟩;rw[HF.out];have K2:aA w w2:=K1.trans k2;have a2:Hid (aV w.heap.size n op v sl f on w2):=a1.out.below k2 a1.out.facts.2.2;clear a4;obtain⟨a6,_,_⟩:=a2.out.facts;rcases hr with ⟨r1,HC⟩ | ⟨r1,r2,HC⟩ | ⟨r1,r2,r3,HC⟩ | ⟨r1,r2,r3,r4,HC⟩ | ⟨r1,r2,r3,r4,r5,r6,HC⟩ | ⟨r1,r2,r3,r4,r5,r6,r7,HC⟩ | ⟨r1,r2,r3,r4,r5,r6,r7,r8,HC⟩ | ⟨r1,r2,r3,r4,r5,r6,r7,HC⟩ | ⟨r1,r2,r3,r4,r5,r6,r7,r8,HC⟩
 iterate 7
  ·go_wp2_with fail;go_ret;exact⟨aD HC.out.symm,K2⟩
 iterate 2
  ·have a3:Hid (chk n.data.toList op v sl f.data.toList on=0):=by show _=_;rw[HC.out,if_neg (fun h=>HP.out h.2)]
   clear HC;cases on
   ·go_wp2_with fail;go_ret;exact⟨aD a3.out.symm,K2⟩
   ·go_wp2_with fail;go_ret;exact⟨aD a3.out.symm,K2⟩
theorem mT(n f:ByteArray)(op v sl:Int)(on:Bool)(w:World):
  Calls Tryz.prog 46 #[.agg #[.string n,.int .i64 op,.int .i64 v,.int .i64 sl,.string f,.bool on]] w fun e w'=>e=.returned (.int .i64 (chk n.data.toList op v sl f.data.toList on))/\aA w w':=by
 cases hn:aP n.data.toList
 ·exact rH n f op v sl on w (Or.inl hn)
 ·by_cases hf:f.data.toList = []
  ·exact wM n f op v sl on w hn hf
  ·cases hg:aP f.data.toList
   ·exact rH n f op v sl on w (Or.inr ⟨hf,hg⟩)
   ·exact yF n f op v sl on w hn hg
end Go.Proofs.YthjlcjdlelkkdaaGreatDoor
namespace Go.Proofs.YthjlcjdlelkkdaaGreatDoor
open Go.RowKit
mutual
def cY:NT->Int
 | .node k a fl nt kids=>if bF (.node k a fl nt kids)≠0 then bF (.node k a fl nt kids) else eE kids
def eE:List NT->Int
 | []=>0
 | t :: ts=>if cY t≠0 then cY t else eE ts
end
mutual
theorem aAb(inc:Int->Int):∀(t:NT) (s d:Int),bZ inc fE s t d=(cY t,cY t==0)
 | .node k a fl nt kids,s,d=>by
  rw[bZ,cY];by_cases h:bF (.node k a fl nt kids)=0
  ·have e:(fE s (.node k a fl nt kids) d).2=true:=by simp[fE,h]
   have e1:(fE s (.node k a fl nt kids) d).1=0:=by simp[fE,h]
   rw[if_pos e,e1,if_neg (by simp[h]),zB]
  ·have e:¬(fE s (.node k a fl nt kids) d).2=true:=by simp[fE,h]
   rw[if_neg e,if_pos h];refine Prod.ext rfl ?_;simp[h]
theorem zB(inc:Int->Int):∀(ts:List NT) (d:Int),bL inc fE 0 ts d=(eE ts,eE ts==0)
 | [],d=>by rw[bL,eE];rfl
 | t :: ts,d=>by
  rw[bL,aAb inc t 0 d,eE];by_cases h:cY t=0
  ·rw[if_pos (by simp[h]),if_neg (by simp[h]),h,zB]
  ·rw[if_neg (by simp[h]),if_pos h];refine Prod.ext rfl ?_;simp[h]
end
theorem aPh(t:NT):dG t=if dY t=true then 2 else cY t:=by
 unfold dG;rw[aAb]
theorem aDm(k:Int)(a:At)(fl:ByteArray)(n:Bool):cY (.node k a fl n [])=bF (.node k a fl n []):=by
 rw[cY,eE];split
 ·rfl
 ·rename_i h;simp at h;exact h.symm
theorem zI(k:Int)(a:At)(fl:ByteArray)(n:Bool)(hk:k=1\/k=2):bF (.node k a fl n [])=if (fl.toList.isEmpty && !n)=true then fQ a else 4:=by
 rw[bF];rcases hk with rfl | rfl
 ·cases h:fl.toList.isEmpty<;>cases n<;>simp[bY,cC,h]
 ·cases h:fl.toList.isEmpty<;>cases n<;>simp[bY,cC,h]
def aUx(c:Nat)(w:World):Prop:=aE c 105 (.func (.func 82) #[] #[.pointer (some ⟨c,0,none⟩)]) w
theorem nO(args:Array Value)(w:World):(callFunc 82 args).run Tryz.prog w=.ok (.enter 82 args) w:=enters_of Tryz.func82 (by kernel_rfl) rfl args w
theorem aFe(c:Nat)(S:Nat->Prop):∀(m:Nat) (t:NT),t.size<=m->∀(cs:List Value) (w:World),(∀b,S b->b<w.heap.size)->aUx c w->aH S w t cs->
  Calls Tryz.prog 82 #[.agg cs.toArray,.pointer (some ⟨c,0,none⟩)] w fun e w'=>e=.returned (.int .i64 (cY t))/\aA w w':=by
 intro m
 induction m with
 | zero=>
  rintro⟨k,a,fl,nt,kids⟩ hm;rw[NT.size] at hm;omega
 | succ m ih=>
  rintro⟨k,a,fl,nt,kids⟩ hm cs w hS b2 hn;rw[NT.size] at hm;rw[aH] at hn;obtain⟨kp,kc,rfl,e1,e2,b3⟩:=hn;have e3:=nO;have HK:=hid b3;have d6:=hid ih;have HV:Hid (aE c 105 (.func (.func 82) #[] #[.pointer (some ⟨c,0,none⟩)]) w):=b2;have d3:=hid (aA.alloc w (.cells #[.int .i64 k,.string a.n,.int .i64 a.op,.int .i64 a.v,.int .i64 a.sl,.string a.f,.bool a.on,.string fl,.bool nt,.slice kp kids.length kc] 96));have b8:Hid (aL w.heap.size #[.int .i64 k,.string a.n,.int .i64 a.op,.int .i64 a.v,.int .i64 a.sl,.string a.f,.bool a.on,.string fl,.bool nt,.slice kp kids.length kc] (w.alloc (.cells #[.int .i64 k,.string a.n,.int .i64 a.op,.int .i64 a.v,.int .i64 a.sl,.string a.f,.bool a.on,.string fl,.bool nt,.slice kp kids.length kc] 96))):=aL.new w #[.int .i64 k,.string a.n,.int .i64 a.op,.int .i64 a.v,.int .i64 a.sl,.string a.f,.bool a.on,.string fl,.bool nt,.slice kp kids.length kc] 96;clear ih b3 b2;go_enter Tryz.func82,Tryz.ntmps82;go_upto_region 1 with fail;generalize w.alloc (.cells #[.int .i64 k,.string a.n,.int .i64 a.op,.int .i64 a.v,.int .i64 a.sl,.string a.f,.bool a.on,.string fl,.bool nt,.slice kp kids.length kc] 96)=W0 at d3 b8 |-
  have e0:=b8.out.2;have e4:=b8.out.1;have a3:=d3;by_cases hk1:k<1
  ·have q1:(k==1)=false:=by simp;omega
   have q2:(k==2)=false:=by simp;omega
   have HE:Hid (cY (.node k a fl nt kids)=4):=by
    show _=_;rw[cY,show bF (.node k a fl nt kids)=4 by rw[bF,if_pos];simp[bY];omega];rfl
   go_wp2_with fail;go_ret;exact⟨aD HE.out.symm,a3.out⟩
  ·by_cases hk5:5<k
   ·have q1:(k==1)=false:=by simp;omega
    have q2:(k==2)=false:=by simp;omega
    have HE:Hid (cY (.node k a fl nt kids)=4):=by
     show _=_;rw[cY,show bF (.node k a fl nt kids)=4 by rw[bF,if_pos];simp[bY];omega];rfl
    go_wp2_with fail;go_ret;exact⟨aD HE.out.symm,a3.out⟩
   ·have hk:k=1\/k=2\/k=3\/k=4\/k=5:=by omega
    clear hk1 hk5;rcases hk with rfl | rfl | rfl | rfl | rfl
    ·by_cases hlen:kids = []
     ·have b0:Hid (∀n,cY (.node 1 a fl n kids)=if (fl.toList.isEmpty && !n)=true then fQ a else 4):=fun n=>by
       rw[hlen,aDm,zI 1 a fl n (by decide)]
      have d5:kids.length=0:=by rw[hlen];rfl
      cases hfe:fl.toList.isEmpty<;>cases nt
      ·have HE:=hid (b0.out false);rw[hfe] at HE;go_wp2_with fail;go_ret;exact⟨aD HE.out.symm,a3.out⟩
      ·have HE:=hid (b0.out true);rw[hfe] at HE;go_wp2_with fail;go_ret;exact⟨aD HE.out.symm,a3.out⟩
      ·have HE:=hid (b0.out false);rw[hfe] at HE;go_wp2_with fail;refine (mT _ _ _ _ _ _ _).mono ?_;rintro e w3 ⟨rfl,k3⟩;have K3:=hid (a3.out.trans k3);clear k3;go_wp2_with fail;go_ret;exact⟨aD HE.out.symm,K3.out⟩
      ·have HE:=hid (b0.out true);rw[hfe] at HE;go_wp2_with fail;go_ret;exact⟨aD HE.out.symm,a3.out⟩
     ·have b9:0<kids.length:=List.length_pos_iff.2 hlen;have d4:((kids.length:Int) != 0)=true:=by simp;omega
      have HE:Hid (cY (.node 1 a fl nt kids)=4):=by
       show _=_;rw[cY,show bF (.node 1 a fl nt kids)=4 by rw[bF,if_pos];simp[bY,cC,b9]];rfl
      go_wp2_with fail;go_ret;exact⟨aD HE.out.symm,a3.out⟩
    ·by_cases hlen:kids = []
     ·have b0:Hid (∀n,cY (.node 2 a fl n kids)=if (fl.toList.isEmpty && !n)=true then fQ a else 4):=fun n=>by
       rw[hlen,aDm,zI 2 a fl n (by decide)]
      have d5:kids.length=0:=by rw[hlen];rfl
      cases hfe:fl.toList.isEmpty<;>cases nt
      ·have HE:=hid (b0.out false);rw[hfe] at HE;go_wp2_with fail;go_ret;exact⟨aD HE.out.symm,a3.out⟩
      ·have HE:=hid (b0.out true);rw[hfe] at HE;go_wp2_with fail;go_ret;exact⟨aD HE.out.symm,a3.out⟩
      ·have HE:=hid (b0.out false);rw[hfe] at HE;go_wp2_with fail;refine (mT _ _ _ _ _ _ _).mono ?_;rintro e w3 ⟨rfl,k3⟩;have K3:=hid (a3.out.trans k3);clear k3;go_wp2_with fail;go_ret;exact⟨aD HE.out.symm,K3.out⟩
      ·have HE:=hid (b0.out true);rw[hfe] at HE;go_wp2_with fail;go_ret;exact⟨aD HE.out.symm,a3.out⟩
     ·have b9:0<kids.length:=List.length_pos_iff.2 hlen;have d4:((kids.length:Int) != 0)=true:=by simp;omega
      have HE:Hid (cY (.node 2 a fl nt kids)=4):=by
       show _=_;rw[cY,show bF (.node 2 a fl nt kids)=4 by rw[bF,if_pos];simp[bY,cC,b9]];rfl
      go_wp2_with fail;go_ret;exact⟨aD HE.out.symm,a3.out⟩
    ·have a4:=fun wx=>sC a.n a.op a.v a.sl a.f a.on ⟨#[]⟩ 0 0 0 ⟨#[]⟩ false wx;cases hz:oL a
     ·rw[show kZ a.n a.op a.v a.sl a.f a.on ⟨#[]⟩ 0 0 0 ⟨#[]⟩ false=false from hz] at a4;have HE:Hid (cY (.node 3 a fl nt kids)=4):=by
       show _=_;rw[cY,show bF (.node 3 a fl nt kids)=4 by rw[bF,if_pos];simp[bY,cC,hz]];rfl
      go_wp2_with fail;go_ret;exact⟨aD HE.out.symm,a3.out⟩
     ·rw[show kZ a.n a.op a.v a.sl a.f a.on ⟨#[]⟩ 0 0 0 ⟨#[]⟩ false=true from hz] at a4;cases hfe:fl.toList.isEmpty<;>cases nt
      iterate 2
       ·have HE:Hid (∀n,cY (.node 3 a fl n kids)=4):=fun n=>by
         rw[cY,show bF (.node 3 a fl n kids)=4 by rw[bF,if_pos];simp[bY,cC,hz,hfe]];rfl
        go_wp2_with fail;go_ret;exact⟨aD (HE.out _).symm,a3.out⟩
      rotate_left
      ·have HE:Hid (cY (.node 3 a fl true kids)=4):=by
        show _=_;rw[cY,show bF (.node 3 a fl true kids)=4 by rw[bF,if_pos];simp[bY,cC,hz,hfe]];rfl
       go_wp2_with fail;go_ret;exact⟨aD HE.out.symm,a3.out⟩
      ·have HE:Hid (cY (.node 3 a fl false kids)=eE kids):=by
        show _=_;rw[cY,show bF (.node 3 a fl false kids)=0 by simp[bF,bY,cC,hz,hfe]];rfl
       have a7:Hid (aL w.heap.size #[.int .i64 3,.string a.n,.int .i64 a.op,.int .i64 a.v,.int .i64 a.sl,.string a.f,.bool a.on,.string fl,.bool false,.slice kp kids.length kc] W0):=b8;have d2:=a7.out.2;have d7:=a7.out.1;go_wp2_with fail;clear d2;go_loopg [73] kids.length (fun gk i wr=> ∃j:Nat,j+gk=kids.length/\i=.int .i64 j/\eE kids=eE (kids.drop j)/\aA w wr);case atStart=>exact⟨0,by simp,rfl,by simp,a3.out⟩
       case round=>
        obtain⟨j,hj,rfl,a4,b5⟩:=hrel;have b7:=hid a4;have a5:=hid b5;clear a4 b5 a7 a3;by_cases hlt:j<kids.length
        ·obtain⟨p,cs,hp,d0,a0,a2⟩:=dQ HK.out j hlt;have HN:=hid a2;have a6:Hid (eE kids=if cY kids[j]≠0 then cY kids[j] else eE (kids.drop (j+1))):=by show _=_;rw[b7.out,Z5 hlt,eE]
         have b6:=d6.out kids[j] (by have:=fA kids j hlt;omega);subst hp;rw[Z6] at a0;cases hkid:kids[j] with
         | node k' a' fl' nt' kids'=>
         rw[hkid,aH] at a2;obtain⟨a9,a8,rfl,-,-,-⟩:=a2;have a1:∀m v,([.int .i64 k',.string a'.n,.int .i64 a'.op,.int .i64 a'.v,.int .i64 a'.sl,.string a'.f,.bool a'.on,.string fl',.bool nt',.slice a9 kids'.length a8]:List Value)[m]? = some v->wr.cell? ((p.add (j*10)).add m)=some v:=fun m v hv=>(a5.out.cell (by rw[bW,bW];exact hS _ d0)).trans (a0 m v hv);obtain⟨c0,c1,c2,c3,c4,c5,c6,c7,c8,c9⟩:=iF a1;clear a0 a1 hkid;have K2:=hid (a5.out.alloc' (.cells #[.int .i64 k',.string a'.n,.int .i64 a'.op,.int .i64 a'.v,.int .i64 a'.sl,.string a'.f,.bool a'.on,.string fl',.bool nt',.slice a9 kids'.length a8] 96));have b4:=HV.out.keep a5.out HV.out.facts.2.2;obtain⟨d1,-,d8⟩:=b4.facts;have b1:=hid (b6 [.int .i64 k',.string a'.n,.int .i64 a'.op,.int .i64 a'.v,.int .i64 a'.sl,.string a'.f,.bool a'.on,.string fl',.bool nt',.slice a9 kids'.length a8] _ (fun b hb=>R8 (hS b hb) K2.out.size) (HV.out.keep K2.out HV.out.facts.2.2) (HN.out.keep hS K2.out));clear b6 b4;generalize cY kids[j]=r at a6 b1;go_wp2_with fail;clear c0 c1 c2 c3 c4 c5 c6 c7 c8 c9;refine b1.out.mono ?_;rintro e w3 ⟨rfl,k3⟩;have K3:=hid (K2.out.trans k3);clear k3 d1;by_cases hr:r=0
         ·have HX:Hid (eE kids=eE (kids.drop (j+1))):=by show _=_;rw[a6.out,if_neg (by simp[hr])]
          subst hr;go_wp2_with fail;go_roundg (kids.length-(j+1));case measure=>omega
          case rel=>exact⟨j+1,by omega,by go_num,HX.out,K3.out⟩
         ·have d9:(r != 0)=true:=by simpa using hr
          have HX:Hid (eE kids=r):=by show _=_;rw[a6.out,if_pos hr]
          clear hr;go_wp2_with fail;go_ret;exact⟨aD (by rw[HE.out,HX.out]),K3.out⟩
        ·have HX:Hid (eE kids=0):=by show _=_;rw[b7.out,List.drop_eq_nil_of_le (by omega),eE]
         go_wp2_with fail;go_ret;exact⟨aD (by rw[HE.out,HX.out]),a5.out⟩
    ·have a4:=fun wx=>sC a.n a.op a.v a.sl a.f a.on ⟨#[]⟩ 0 0 0 ⟨#[]⟩ false wx;cases hz:oL a
     ·rw[show kZ a.n a.op a.v a.sl a.f a.on ⟨#[]⟩ 0 0 0 ⟨#[]⟩ false=false from hz] at a4;have HE:Hid (cY (.node 4 a fl nt kids)=4):=by
       show _=_;rw[cY,show bF (.node 4 a fl nt kids)=4 by rw[bF,if_pos];simp[bY,cC,hz]];rfl
      go_wp2_with fail;go_ret;exact⟨aD HE.out.symm,a3.out⟩
     ·rw[show kZ a.n a.op a.v a.sl a.f a.on ⟨#[]⟩ 0 0 0 ⟨#[]⟩ false=true from hz] at a4;cases hfe:fl.toList.isEmpty<;>cases nt
      iterate 2
       ·have HE:Hid (∀n,cY (.node 4 a fl n kids)=4):=fun n=>by
         rw[cY,show bF (.node 4 a fl n kids)=4 by rw[bF,if_pos];simp[bY,cC,hz,hfe]];rfl
        go_wp2_with fail;go_ret;exact⟨aD (HE.out _).symm,a3.out⟩
      rotate_left
      ·have HE:Hid (cY (.node 4 a fl true kids)=4):=by
        show _=_;rw[cY,show bF (.node 4 a fl true kids)=4 by rw[bF,if_pos];simp[bY,cC,hz,hfe]];rfl
       go_wp2_with fail;go_ret;exact⟨aD HE.out.symm,a3.out⟩
      ·have HE:Hid (cY (.node 4 a fl false kids)=eE kids):=by
        show _=_;rw[cY,show bF (.node 4 a fl false kids)=0 by simp[bF,bY,cC,hz,hfe]];rfl
       have a7:Hid (aL w.heap.size #[.int .i64 4,.string a.n,.int .i64 a.op,.int .i64 a.v,.int .i64 a.sl,.string a.f,.bool a.on,.string fl,.bool false,.slice kp kids.length kc] W0):=b8;have d2:=a7.out.2;have d7:=a7.out.1;go_wp2_with fail;clear d2;go_loopg [73] kids.length (fun gk i wr=> ∃j:Nat,j+gk=kids.length/\i=.int .i64 j/\eE kids=eE (kids.drop j)/\aA w wr);case atStart=>exact⟨0,by simp,rfl,by simp,a3.out⟩
       case round=>
        obtain⟨j,hj,rfl,a4,b5⟩:=hrel;have b7:=hid a4;have a5:=hid b5;clear a4 b5 a7 a3;by_cases hlt:j<kids.length
        ·obtain⟨p,cs,hp,d0,a0,a2⟩:=dQ HK.out j hlt;have HN:=hid a2;have a6:Hid (eE kids=if cY kids[j]≠0 then cY kids[j] else eE (kids.drop (j+1))):=by show _=_;rw[b7.out,Z5 hlt,eE]
         have b6:=d6.out kids[j] (by have:=fA kids j hlt;omega);subst hp;rw[Z6] at a0;cases hkid:kids[j] with
         | node k' a' fl' nt' kids'=>
         rw[hkid,aH] at a2;obtain⟨a9,a8,rfl,-,-,-⟩:=a2;have a1:∀m v,([.int .i64 k',.string a'.n,.int .i64 a'.op,.int .i64 a'.v,.int .i64 a'.sl,.string a'.f,.bool a'.on,.string fl',.bool nt',.slice a9 kids'.length a8]:List Value)[m]? = some v->wr.cell? ((p.add (j*10)).add m)=some v:=fun m v hv=>(a5.out.cell (by rw[bW,bW];exact hS _ d0)).trans (a0 m v hv);obtain⟨c0,c1,c2,c3,c4,c5,c6,c7,c8,c9⟩:=iF a1;clear a0 a1 hkid;have K2:=hid (a5.out.alloc' (.cells #[.int .i64 k',.string a'.n,.int .i64 a'.op,.int .i64 a'.v,.int .i64 a'.sl,.string a'.f,.bool a'.on,.string fl',.bool nt',.slice a9 kids'.length a8] 96));have b4:=HV.out.keep a5.out HV.out.facts.2.2;obtain⟨d1,-,d8⟩:=b4.facts;have b1:=hid (b6 [.int .i64 k',.string a'.n,.int .i64 a'.op,.int .i64 a'.v,.int .i64 a'.sl,.string a'.f,.bool a'.on,.string fl',.bool nt',.slice a9 kids'.length a8] _ (fun b hb=>R8 (hS b hb) K2.out.size) (HV.out.keep K2.out HV.out.facts.2.2) (HN.out.keep hS K2.out));clear b6 b4;generalize cY kids[j]=r at a6 b1;go_wp2_with fail;clear c0 c1 c2 c3 c4 c5 c6 c7 c8 c9;refine b1.out.mono ?_;rintro e w3 ⟨rfl,k3⟩;have K3:=hid (K2.out.trans k3);clear k3 d1;by_cases hr:r=0
         ·have HX:Hid (eE kids=eE (kids.drop (j+1))):=by show _=_;rw[a6.out,if_neg (by simp[hr])]
          subst hr;go_wp2_with fail;go_roundg (kids.length-(j+1));case measure=>omega
          case rel=>exact⟨j+1,by omega,by go_num,HX.out,K3.out⟩
         ·have d9:(r != 0)=true:=by simpa using hr
          have HX:Hid (eE kids=r):=by show _=_;rw[a6.out,if_pos hr]
          clear hr;go_wp2_with fail;go_ret;exact⟨aD (by rw[HE.out,HX.out]),K3.out⟩
        ·have HX:Hid (eE kids=0):=by show _=_;rw[b7.out,List.drop_eq_nil_of_le (by omega),eE]
         go_wp2_with fail;go_ret;exact⟨aD (by rw[HE.out,HX.out]),a5.out⟩
    ·have a4:=fun wx=>sC a.n a.op a.v a.sl a.f a.on ⟨#[]⟩ 0 0 0 ⟨#[]⟩ false wx;cases hz:oL a
     ·rw[show kZ a.n a.op a.v a.sl a.f a.on ⟨#[]⟩ 0 0 0 ⟨#[]⟩ false=false from hz] at a4;have HE:Hid (cY (.node 5 a fl nt kids)=4):=by
       show _=_;rw[cY,show bF (.node 5 a fl nt kids)=4 by rw[bF,if_pos];simp[bY,cC,hz]];rfl
      go_wp2_with fail;go_ret;exact⟨aD HE.out.symm,a3.out⟩
     ·rw[show kZ a.n a.op a.v a.sl a.f a.on ⟨#[]⟩ 0 0 0 ⟨#[]⟩ false=true from hz] at a4;go_wp2_with fail;refine (eN _ _).mono ?_;rintro e w1 ⟨rfl,k1⟩;have a7:=hid (b8.out.keep k1 b8.out.1);have a3:=hid (d3.out.trans k1);clear k1 e0;cases hnm:aP fl.data.toList
      ·have HE:Hid (cY (.node 5 a fl nt kids)=1):=by
        show _=_;rw[cY,show bF (.node 5 a fl nt kids)=1 by simp[bF,bY,cC,hz,hnm]];rfl
       go_wp2_with fail;go_ret;exact⟨aD HE.out.symm,a3.out⟩
      ·have HE:Hid (cY (.node 5 a fl nt kids)=eE kids):=by
        show _=_;rw[cY,show bF (.node 5 a fl nt kids)=0 by simp[bF,bY,cC,hz,hnm]];rfl
       have d2:=a7.out.2;have d7:=a7.out.1;go_wp2_with fail;clear d2;go_loopg [73] kids.length (fun gk i wr=> ∃j:Nat,j+gk=kids.length/\i=.int .i64 j/\eE kids=eE (kids.drop j)/\aA w wr);case atStart=>exact⟨0,by simp,rfl,by simp,a3.out⟩
       case round=>
        obtain⟨j,hj,rfl,a4,b5⟩:=hrel;have b7:=hid a4;have a5:=hid b5;clear a4 b5 a7 a3;by_cases hlt:j<kids.length
        ·obtain⟨p,cs,hp,d0,a0,a2⟩:=dQ HK.out j hlt;have HN:=hid a2;have a6:Hid (eE kids=if cY kids[j]≠0 then cY kids[j] else eE (kids.drop (j+1))):=by show _=_;rw[b7.out,Z5 hlt,eE]
         have b6:=d6.out kids[j] (by have:=fA kids j hlt;omega);subst hp;rw[Z6] at a0;cases hkid:kids[j] with
         | node k' a' fl' nt' kids'=>
         rw[hkid,aH] at a2;obtain⟨a9,a8,rfl,-,-,-⟩:=a2;have a1:∀m v,([.int .i64 k',.string a'.n,.int .i64 a'.op,.int .i64 a'.v,.int .i64 a'.sl,.string a'.f,.bool a'.on,.string fl',.bool nt',.slice a9 kids'.length a8]:List Value)[m]? = some v->wr.cell? ((p.add (j*10)).add m)=some v:=fun m v hv=>(a5.out.cell (by rw[bW,bW];exact hS _ d0)).trans (a0 m v hv);obtain⟨c0,c1,c2,c3,c4,c5,c6,c7,c8,c9⟩:=iF a1;clear a0 a1 hkid;have K2:=hid (a5.out.alloc' (.cells #[.int .i64 k',.string a'.n,.int .i64 a'.op,.int .i64 a'.v,.int .i64 a'.sl,.string a'.f,.bool a'.on,.string fl',.bool nt',.slice a9 kids'.length a8] 96));have b4:=HV.out.keep a5.out HV.out.facts.2.2;obtain⟨d1,-,d8⟩:=b4.facts;have b1:=hid (b6 [.int .i64 k',.string a'.n,.int .i64 a'.op,.int .i64 a'.v,.int .i64 a'.sl,.string a'.f,.bool a'.on,.string fl',.bool nt',.slice a9 kids'.length a8] _ (fun b hb=>R8 (hS b hb) K2.out.size) (HV.out.keep K2.out HV.out.facts.2.2) (HN.out.keep hS K2.out));clear b6 b4;generalize cY kids[j]=r at a6 b1;go_wp2_with fail;clear c0 c1 c2 c3 c4 c5 c6 c7 c8 c9;refine b1.out.mono ?_;rintro e w3 ⟨rfl,k3⟩;have K3:=hid (K2.out.trans k3);clear k3 d1;by_cases hr:r=0
         ·have HX:Hid (eE kids=eE (kids.drop (j+1))):=by show _=_;rw[a6.out,if_neg (by simp[hr])]
          subst hr;go_wp2_with fail;go_roundg (kids.length-(j+1));case measure=>omega
          case rel=>exact⟨j+1,by omega,by go_num,HX.out,K3.out⟩
         ·have d9:(r != 0)=true:=by simpa using hr
          have HX:Hid (eE kids=r):=by show _=_;rw[a6.out,if_pos hr]
          clear hr;go_wp2_with fail;go_ret;exact⟨aD (by rw[HE.out,HX.out]),K3.out⟩
        ·have HX:Hid (eE kids=0):=by show _=_;rw[b7.out,List.drop_eq_nil_of_le (by omega),eE]
         go_wp2_with fail;go_ret;exact⟨aD (by rw[HE.out,HX.out]),a5.out⟩
end Go.Proofs.YthjlcjdlelkkdaaGreatDoor
namespace Go.Proofs.YthjlcjdlelkkdaaGreatDoor
open Go.RowKit
theorem sP(t:NT)(cs:List Value)(w:World)(S:Nat->Prop)(hS:∀b,S b->b<w.heap.size)(hn:aH S w t cs):
  Calls Tryz.prog 42 #[.agg cs.toArray] w fun e w'=>e=.returned (.int .i64 (dG t))/\aA w w':=by
 have HN:=hid hn;cases ht:t with
 | node k a fl nt kids=>
 rw[ht,aH] at hn;obtain⟨kp,kc,rfl,-,-,-⟩:=hn;rw[<-ht];have a8:=nO;have b0:∀(fn:Fn) (first cap:Array Value) (w:World),(Instr.makeFunc fn first cap).run Tryz.prog w=.ok (.func fn first cap) w:=fun _ _ _ _=>rfl;have K0:=hid (aA.alloc w (.cells #[.int .i64 k,.string a.n,.int .i64 a.op,.int .i64 a.v,.int .i64 a.sl,.string a.f,.bool a.on,.string fl,.bool nt,.slice kp kids.length kc] 96));have a1:Hid (aL w.heap.size #[.int .i64 k,.string a.n,.int .i64 a.op,.int .i64 a.v,.int .i64 a.sl,.string a.f,.bool a.on,.string fl,.bool nt,.slice kp kids.length kc] (w.alloc (.cells #[.int .i64 k,.string a.n,.int .i64 a.op,.int .i64 a.v,.int .i64 a.sl,.string a.f,.bool a.on,.string fl,.bool nt,.slice kp kids.length kc] 96))):=aL.new w #[.int .i64 k,.string a.n,.int .i64 a.op,.int .i64 a.v,.int .i64 a.sl,.string a.f,.bool a.on,.string fl,.bool nt,.slice kp kids.length kc] 96;have HC:=hid (aPh t);have HL:=hid (aFn t);have hb:=qE t 4;clear ht;go_enter Tryz.func42,Tryz.ntmps42;go_wp2_with fail;generalize w.alloc (.cells #[.int .i64 k,.string a.n,.int .i64 a.op,.int .i64 a.v,.int .i64 a.sl,.string a.f,.bool a.on,.string fl,.bool nt,.slice kp kids.length kc] 96)=W0 at K0 a1 |-
 refine (aNq S _ t (Y1 _) 4 _ W0 (by decide) (fun b hb=>R8 (hS b hb) K0.out.size) (HN.out.keep hS K0.out)).mono ?_;rintro e w1 ⟨rfl,k1⟩;have K1:=hid (K0.out.trans k1);have a2:=hid (a1.out.keep k1 a1.out.1);clear k1 K0 a1;generalize szN t 4=r at HL hb |-
 obtain⟨r1,r2⟩:=r;simp only at hb;have a7:(r1 > 20\/r2 > 4)->Hid (dG t=2):=fun h=>by
  show _=_;rw[HC.out,if_pos (HL.out.1 h)]
 have a5:¬(r1 > 20\/r2 > 4)->Hid (dG t=cY t):=fun h=>by
  show _=_;rw[HC.out,if_neg (fun e=>h (HL.out.2 e))]
 have a0:=hid a7;have a3:=hid a5;clear a7 a5;by_cases h1:r1 > 20
 ·have HX:=a0.out (Or.inl h1);go_wp2_with fail;go_ret;exact⟨aD HX.out.symm,K1.out⟩
 ·by_cases h2:r2 > 4
  ·have HX:=a0.out (Or.inr h2);go_wp2_with fail;go_ret;exact⟨aD HX.out.symm,K1.out⟩
  ·have HX:=a3.out (by omega);have a4:=a2.out.2;have b3:=a2.out.1;have V1:Hid (aE w1.heap.size 105 .nilFunc (w1.alloc (.cells #[.nilFunc] 105))):=aE.new _ _ _;have KA:=hid (K1.out.alloc' (.cells #[.nilFunc] 105));have a6:=hid (a2.out.keep (aA.alloc w1 (.cells #[.nilFunc] 105)) a2.out.1);go_upto_region 5 with fail;generalize w1.alloc (.cells #[.nilFunc] 105)=W1 at V1 KA a6 |-
   clear a4;have a4:=a6.out.2;obtain⟨b2,b5,b4⟩:=V1.out.facts;have a9:=K1.out.size;have V2:=hid (V1.out.set (.func (.func 82) #[] #[.pointer (some ⟨w1.heap.size,0,none⟩)]));have K2:Hid (aA w (W1.setCell ⟨w1.heap.size,0,none⟩ (.func (.func 82) #[] #[.pointer (some ⟨w1.heap.size,0,none⟩)]))):=KA.out.set (p:=⟨w1.heap.size,0,none⟩) a9 _;have b1:w.heap.size≠w1.heap.size:=by omega
   go_wp2_with fail;clear a4;refine (aFe w1.heap.size S _ t (Y1 _) _ _ (fun b hb=>R8 (hS b hb) K2.out.size) V2.out (HN.out.keep hS K2.out)).mono ?_;rintro e w3 ⟨rfl,k3⟩;have K3:=hid (K2.out.trans k3);clear k3;go_wp2_with fail;go_ret;exact⟨aD HX.out.symm,K3.out⟩
end Go.Proofs.YthjlcjdlelkkdaaGreatDoor
namespace Go.Proofs.YthjlcjdlelkkdaaGreatDoor
open Go.RowKit Go.Sort
theorem jA.keep{v:Value}{fs:List (List UInt8)}{w w':World}(h:jA v fs w)(k:aA w w'):jA v fs w':=by
 rcases h with h | ⟨g,cap,h1,h2,h3⟩
 ·exact Or.inl h
 ·exact Or.inr ⟨g,cap,h1,R8 h2 k.size,fun j x hx=>(k.cell (p:=⟨g,0+j,none⟩) h2).trans (h3 j x hx)⟩
theorem jA.len{v:Value}{fs:List (List UInt8)}{w:World}(h:jA v fs w):∃p cap,v=.slice p fs.length cap:=by
 rcases h with ⟨rfl,p,cap,h⟩ | ⟨g,cap,h,-⟩
 ·exact⟨p,cap,h⟩
 ·exact⟨_,cap,h⟩
theorem aTz{a b:Bool}(h:a = !b):b = !a:=by cases a<;>cases b<;>first | rfl | cases h
theorem aQf(l:List UInt8):Op.bytesLess l l=false:=by
 induction l with
 | nil=>rfl
 | cons c l ih=>simp[Op.bytesLess,ih]
theorem aGk(p q:PK):(Op.bytesLess p.n.toList q.n.toList||((p.n.toList==q.n.toList)&&decide (p.v<=q.v))) = !dJ p q:=by
 unfold dJ;by_cases h:p.n=q.n
 ·rw[if_pos h,h,aQf];simp only[beq_self_eq_true,Bool.true_and,Bool.false_or];by_cases hv:p.v<=q.v
  ·rw[Y7 hv,Y8 (by omega)];rfl
  ·rw[Y8 hv,Y7 (by omega)];rfl
 ·have hb:(p.n.toList==q.n.toList)=false:=by
   rw[Q6];intro e;rw[Lib.toList_data,Lib.toList_data] at e;exact h (gY e)
  rw[if_neg h,Bool.not_not];unfold leS;rw[hb];simp
theorem aHh{t:NT}(h:t.ok):∀f∈t.flags,f.size<=maxLen:=by
 intro f hf;have key:∀(m:Nat) (t:NT),t.size<=m->t.ok->∀f∈t.flags,f.size<=maxLen:=by
  intro m
  induction m with
  | zero=>rintro⟨k,a,fl,nt,kids⟩ hm;rw[NT.size] at hm;omega
  | succ m ih=>
   rintro⟨k,a,fl,nt,kids⟩ hm a0 f hf;rw[NT.size] at hm;rw[NT.ok] at a0;rw[NT.flags,U0] at hf;rcases hf with hf | hf
   ·split at hf
    ·rename_i h5;obtain rfl:=T0.1 hf;rcases fW a0.1 with ⟨hk,-⟩ | ⟨hk,-⟩ | ⟨-,-,hn⟩
     ·omega
     ·omega
     ·have:=oA hn;rw[aU] at this;unfold maxLen;omega
    ·cases hf
   ·have hk:∀(ts:List NT),bA ts<=m->okL ts->∀f∈bR ts,f.size<=maxLen:=by
     intro ts
     induction ts with
     | nil=>intro _ _ f hf;simp[bR] at hf
     | cons t ts iht=>
      intro hs ho f hf;rw[bA] at hs;rw[okL] at ho;rw[bR,U0] at hf;rcases hf with hf | hf
      ·exact ih t (by omega) ho.1 f hf
      ·exact iht (by omega) ho.2 f hf
    exact hk kids (by omega) a0.2 f hf
 exact key t.size t (Y1 _) h f hf
theorem sQ(S:Nat->Prop)(ps:List PK)(tv:Value)(w:World)(hS:∀b,S b->b<w.heap.size)(hp:aZ S w ps tv):
  Calls Tryz.prog 18 #[.agg #[tv]] w fun e w'=>e=.returned (.int .i64 (cA ps))/\aA w w':=by
 have HP:=hid hp;obtain⟨tp,tc,rfl,l7⟩:=hp.len;clear hp;by_cases h8:8<ps.length
 ·have l0:(8:Int)<(ps.length:Int):=by omega
  have HX:Hid (cA ps=2):=by show _=_;unfold cA;rw[if_pos h8]
  have k0:=hid (aA.alloc w (.cells #[.slice tp ps.length tc] 24));go_enter Tryz.func18,Tryz.ntmps18;go_wp2_with fail;go_ret;exact⟨aD HX.out.symm,k0.out⟩
 have l0:¬(8:Int)<(ps.length:Int):=by omega
 have HX:Hid (cA ps=aM (pkE ps) 0 ps.length):=by show _=_;unfold cA;rw[if_neg h8]
 go_enter Tryz.func18,Tryz.ntmps18;go_wp2_with fail;go_loopg [19,3] ps.length (fun gk i s wr=> ∃j:Nat,j+gk=ps.length/\i=.int .i64 j/\s=.int .i64 (bI ps j:Nat)/\bI ps j<=2*j/\aM (pkE ps) 0 ps.length=aM (pkE ps) j (ps.length-j)/\aA w wr/\aE w.heap.size 24 (.slice tp ps.length tc) wr);case atStart=>exact⟨0,by simp,rfl,rfl,by simp[bI],rfl,aA.alloc _ _,aE.new _ _ _⟩
 case round=>
  obtain⟨j,hj,rfl,rfl,n8,he,b6,b4⟩:=hrel;have f2:=hid he;have HK:=hid b6;have HV:=hid b4;clear he b6 b4;by_cases hlt:j<ps.length
  ·obtain⟨b,off,cap,l8,hb,-,g0⟩:=HP.out.get hlt;cases l8;obtain⟨cs,j9,hp⟩:=g0 j hlt;have g4:=hid (dO (f:=pkE ps) hlt);have a6:Hid (∀x:Int,x≠0->pkE ps j=x->cA ps=x):=fun x hx hy=>by rw[HX.out,f2.out,g4.out,hy,if_neg hx]
   have g3:Hid (pkE ps j=if dV ps[j]≠0 then dV ps[j] else if 0<j/\dJ ps[j] (ps.getD (j-1) PK.zero)=false then 6 else if 14<ps.length+bI ps (j+1) then 2 else 0):=by
    show _=_;unfold pkE;rw[R0,Q9 hlt,Q7]
   have b3:Hid (bI ps (j+1)=bI ps j+ps[j].fl.length):=jM hlt;generalize ps[j]=p at hp g3 b3;obtain⟨kk,a,fl,nt,kids,kp,fp,kc,fc,i6,m6,rfl,hf,hn⟩:=hp.spelt;obtain⟨c0,c1,c2,c3,c4,c5,c6,c7,c8,c9,f0,f6,f9,g1⟩:=dK j9;have HF:=hid hf;have HN:=hid hn;have gt:∀(o:Nat) (x:Value),w.cell? ⟨b,o,none⟩=some x->wr.cell? ⟨b,o,none⟩=some x:=fun o x h=>(HK.out.cell (p:=⟨b,o,none⟩) (hS b hb)).trans h;have d0:=gt _ _ c0;have d1:=gt _ _ c1;have d2:=gt _ _ c2;have d3:=gt _ _ c3;have d4:=gt _ _ c4;have d5:=gt _ _ c5;have d6:=gt _ _ c6;have d7:=gt _ _ c7;have d8:=gt _ _ c8;have d9:=gt _ _ c9;have h7:=gt _ _ f0;have i7:=gt _ _ f6;have i9:=gt _ _ f9;have i5:=gt _ _ g1;clear j9 hp hf hn g0 gt c0 c1 c2 c3 c4 c5 c6 c7 c8 c9 f0 f6 f9 g1;rcases p with ⟨n,v,sl,fs,nd⟩;simp only at m6 d0 d1 d2 d3 b3 g3 i6 HF HN;have i8:Hid (dV ⟨n,v,sl,fs,nd⟩=if aP n.data.toList=false then 1 else if v<1\/99<v\/sl<1\/9<sl then 3 else if cJ fs≠0 then cJ fs else eH nd fs):=rfl;have e8:Hid (cJ fs=if 2<fs.length then 2 else aM (flE fs) 0 fs.length):=rfl;have g6:Hid (eH nd fs=if kk≠3 then 4 else if dG nd≠0 then dG nd else if nd.sorted.all (fB fs)=true then 0 else 5):=by
    show _=_;unfold eH;rw[show nd.kind=kk by rw[i6];rfl]
   have a0:Hid (∀x:Int,x≠0->dV ⟨n,v,sl,fs,nd⟩=x->cA ps=x):=fun x hx hy=>a6.out x hx (by rw[g3.out,hy,if_pos hx]);clear i6;obtain⟨h4,-,j0⟩:=HV.out.facts;go_wp2_with fail;refine bK (fun W'=>aA wr W'/\aL wr.heap.size #[.string n,.int .i64 v,.int .i64 sl,.slice fp fs.length fc,.int .i64 kk,.string a.n,.int .i64 a.op,.int .i64 a.v,.int .i64 a.sl,.string a.f,.bool a.on,.string fl,.bool nt,.slice kp kids.length kc] W') ⟨aA.alloc _ _,aL.new _ _ _⟩ ?_;rintro W0 ⟨k0,b0⟩;refine (eN n W0).mono ?_;rintro e w1 ⟨rfl,k1⟩;have K1:=hid (HK.out.trans (k0.trans k1));have V1:=hid (HV.out.keep (k0.trans k1) HV.out.facts.2.2);have B1:=hid (b0.keep k1 b0.1);clear k0 b0 k1 d0 d1 d2 d3 d4 d5 d6 d7 d8 d9 h7 i7 i9 i5 h4 j0 HK HV;generalize wr.heap.size=bx at B1 |-
   have b8:=B1.out.2;have b9:=B1.out.1;cases hnm:aP n.data.toList
   ·have HY:=hid (a0.out 1 (by decide) (by rw[i8.out,hnm];rfl));go_wp2_with fail;go_ret;exact⟨aD HY.out.symm,K1.out⟩
   have e6:Hid (dV ⟨n,v,sl,fs,nd⟩=if v<1\/99<v\/sl<1\/9<sl then 3 else if cJ fs≠0 then cJ fs else eH nd fs):=by show _=_;rw[i8.out,hnm];rfl
   clear i8 hnm;by_cases r1:v<1
   ·have HY:=hid (a0.out 3 (by decide) (by rw[e6.out,if_pos (Or.inl r1)]));go_wp2_with fail;go_ret;exact⟨aD HY.out.symm,K1.out⟩
   by_cases r2:99<v
   ·have HY:=hid (a0.out 3 (by decide) (by rw[e6.out,if_pos (Or.inr (Or.inl r2))]));go_wp2_with fail;go_ret;exact⟨aD HY.out.symm,K1.out⟩
   by_cases r3:sl<1
   ·have HY:=hid (a0.out 3 (by decide) (by rw[e6.out,if_pos (Or.inr (Or.inr (Or.inl r3)))]));go_wp2_with fail;go_ret;exact⟨aD HY.out.symm,K1.out⟩
   by_cases r4:9<sl
   ·have HY:=hid (a0.out 3 (by decide) (by rw[e6.out,if_pos (Or.inr (Or.inr (Or.inr r4)))]));go_wp2_with fail;go_ret;exact⟨aD HY.out.symm,K1.out⟩
   have g5:Hid (dV ⟨n,v,sl,fs,nd⟩=if cJ fs≠0 then cJ fs else eH nd fs):=by show _=_;rw[e6.out,if_neg (by omega)]
   clear e6;by_cases r5:2<fs.length
   ·have HY:=hid (a0.out 2 (by decide) (by rw[g5.out,e8.out,if_pos r5];rfl));have n0:(2:Int)<(fs.length:Int):=by omega
    go_wp2_with fail;go_ret;exact⟨aD HY.out.symm,K1.out⟩
   have n0:¬(2:Int)<(fs.length:Int):=by omega
   have i2:Hid (cJ fs=aM (flE fs) 0 fs.length):=by show _=_;rw[e8.out,if_neg r5]
   clear e8;go_wp2_with fail;clear b8 b9;go_loopg [56] fs.length (fun gk' i wr'=> ∃m:Nat,m+gk'=fs.length/\i=.int .i64 m/\aM (flE fs) 0 fs.length=aM (flE fs) m (fs.length-m)/\aA w wr'/\aE w.heap.size 24 (.slice (some ⟨b,off,none⟩) ps.length tc) wr'/\aL bx #[.string n,.int .i64 v,.int .i64 sl,.slice fp fs.length fc,.int .i64 kk,.string a.n,.int .i64 a.op,.int .i64 a.v,.int .i64 a.sl,.string a.f,.bool a.on,.string fl,.bool nt,.slice kp kids.length kc] wr');case atStart=>exact⟨0,by simp,rfl,rfl,K1.out,V1.out,B1.out⟩
   case round=>
    obtain⟨m,hm,rfl,j8,b6,b4,e2⟩:=hrel;have a5:=hid j8;have HK:=hid b6;have HV:=hid b4;have HB:=hid e2;clear j8 b6 b4 e2 K1 V1 B1;by_cases hml:m<fs.length
    ·obtain⟨fb,e4,m0,m8,j1,-,k7⟩:=(HF.out.keep hS HK.out).get hml;cases m8;have e7:=k7 m _ (Q9 hml);have l3:fb<wr.heap.size:=R8 (hS fb j1) HK.out.size;have a2:=hid (dO (f:=flE fs) hml);have g8:Hid (flE fs m=if aP fs[m].data.toList=false then 1 else if 0<m/\leS fs[m] (fs.getD (m-1) ⟨#[]⟩)=true then 6 else 0):=by
      show _=_;unfold flE;rw[R0,Q9 hml,Q7]
     have a4:0<m->∃y:ByteArray,Hid (fs.getD (m-1) ⟨#[]⟩=y)/\w.cell? ⟨fb,e4+(m-1),none⟩=some (.string y):=fun h0=>by
      obtain⟨n9,k4,k6,i4,-,-,i3⟩:=HF.out.get hml;cases i4;exact⟨fs[m-1],by show _=_;rw[R0,Q9 (by omega),Q7],i3 (m-1) _ (Q9 (by omega))⟩
     have f3:Hid (∀x:Int,x≠0->flE fs m=x->cA ps=x):=fun x hx hy=>a0.out x hx (by
      have:cJ fs=x:=by rw[i2.out,a5.out,a2.out,hy,if_neg hx]
      rw[g5.out,this,if_pos hx])
     generalize fs[m]=x at e7 g8;have f1:fb<w.heap.size:=hS fb j1;clear k7;go_wp2_with fail;refine (eN x wr).mono ?_;rintro e w2 ⟨rfl,k2⟩;have K2:=hid (HK.out.trans k2);have V2:=hid (HV.out.keep k2 HV.out.facts.2.2);have B2:=hid (HB.out.keep k2 HB.out.1);have b8:=B2.out.2;have b9:=B2.out.1;clear k2 e7 HK HV HB;cases hnm:aP x.data.toList
     ·have HY:=hid (f3.out 1 (by decide) (by rw[g8.out,hnm];rfl));go_wp2_with fail;go_ret;exact⟨aD HY.out.symm,K2.out⟩
     have e0:Hid (flE fs m=if 0<m/\leS x (fs.getD (m-1) ⟨#[]⟩)=true then 6 else 0):=by show _=_;rw[g8.out,hnm];rfl
     clear g8 hnm;by_cases hm0:0<m
     ·obtain⟨y,j4,j7⟩:=a4 hm0;rw[j4.out] at e0;obtain⟨q,rfl⟩:∃q,m=q+1:=⟨m-1,by omega⟩;have n4:w2.cell? ⟨fb,e4+q,none⟩=some (.string y):=(K2.out.cell (p:=⟨fb,e4+q,none⟩) f1).trans j7;have n2:fb<w2.heap.size:=R8 f1 K2.out.size;have h6:(0:Int)<((q+1:Nat):Int):=by omega
      have hd:decide ((0:Int)<((q+1:Nat):Int))=true:=Y7 h6;have e1:((q+1:Nat):Int)-1=(q:Int):=by omega
      have hq:q<fs.length:=by omega
      clear a4 j4 j7;cases hle:leS x y
      ·have HY:Hid (flE fs (q+1)=0):=by show _=_;rw[e0.out,hle];simp
       have h9:(Op.bytesLess x.toList y.toList||x.toList==y.toList)=false:=hle;clear e0 hle f3;go_wp2_with fail;go_roundg (fs.length-(q+1+1));case rel=>exact⟨q+1+1,by omega,by go_num,by rw[a5.out,a2.out,HY.out];rfl,K2.out,V2.out,B2.out⟩
       case measure=>omega
      ·have HY:=hid (f3.out 6 (by decide) (by rw[e0.out,hle,if_pos ⟨by omega,rfl⟩]));have h9:(Op.bytesLess x.toList y.toList||x.toList==y.toList)=true:=hle;clear e0 hle f3;go_wp2_with fail;go_ret;exact⟨aD HY.out.symm,K2.out⟩
     ·have HY:Hid (flE fs m=0):=by show _=_;rw[e0.out,if_neg (fun h=>hm0 h.1)]
      obtain rfl:m=0:=by omega
      clear e0 f3 a4;go_wp2_with fail;go_roundg (fs.length-(0+1));case rel=>exact⟨0+1,by omega,by go_num,by rw[a5.out,a2.out,HY.out];rfl,K2.out,V2.out,B2.out⟩
      case measure=>omega
    ·have n6:Hid (cJ fs=0):=by show _=_;rw[i2.out,a5.out,show fs.length-m=0 by omega];rfl
     have f7:Hid (dV ⟨n,v,sl,fs,nd⟩=eH nd fs):=by show _=_;rw[g5.out,n6.out];rfl
     have b8:=HB.out.2;have b9:=HB.out.1;clear g5 i2 a5;by_cases b1:kk=3
     ·subst b1;have g7:Hid (eH nd fs=if dG nd≠0 then dG nd else if nd.sorted.all (fB fs)=true then 0 else 5):=g6.out;clear g6;go_wp2_with fail;refine (sP nd _ wr S (fun b hb=>R8 (hS b hb) HK.out.size) (HN.out.keep hS HK.out)).mono ?_;rintro e w2 ⟨rfl,k2⟩;have K2:=hid (HK.out.trans k2);have V2:=hid (HV.out.keep k2 HV.out.facts.2.2);have B2:=hid (HB.out.keep k2 HB.out.1);clear k2 HK HV HB b8 b9;by_cases hcn:dG nd=0
      ·rw[hcn];have i0:Hid (eH nd fs=if nd.sorted.all (fB fs)=true then 0 else 5):=by show _=_;rw[g7.out,if_neg (fun h=>h hcn)]
       have e5:=cZ.1 hcn;have j5:nd.size<=1048576:=by have:=(gQ e5.1).1;omega
       have e8:=hid (aHh e5.2);have b8:=B2.out.2;have b9:=B2.out.1;clear g7 hcn e5;go_wp2_with fail;refine (aBi S nd _ w2 (fun b hb=>R8 (hS b hb) K2.out.size) j5 e8.out (HN.out.keep hS K2.out)).mono ?_;rintro e w3 ⟨v3,rfl,g9,k3⟩;have T3:=hid g9;have K3:=hid (K2.out.trans k3);have V3:=hid (V2.out.keep k3 V2.out.facts.2.2);have B3:=hid (B2.out.keep k3 B2.out.1);obtain⟨p3,c3,rfl⟩:=g9.len;have o1:nd.sorted.length<=9223372036854775807:=by
        have h1:=nN ((nd.flags.map (·.data.toList)).mergeSort fun x y=>decide (x<=y));have h2:=oS nd;have h3:nd.sorted.length<=nd.flags.length:=by simpa[NT.sorted] using h1
        omega
       clear g9 k3 K2 V2 B2 b8 b9 e8 j5;go_wp2_with fail;go_loopg [91] nd.sorted.length (fun gk' i wr'=> ∃m:Nat,m+gk'=nd.sorted.length/\i=.int .i64 m/\(nd.sorted.take m).all (fB fs)=true/\aA w wr'/\aA w3 wr'/\aE w.heap.size 24 (.slice (some ⟨b,off,none⟩) ps.length tc) wr'/\aL bx #[.string n,.int .i64 v,.int .i64 sl,.slice fp fs.length fc,.int .i64 3,.string a.n,.int .i64 a.op,.int .i64 a.v,.int .i64 a.sl,.string a.f,.bool a.on,.string fl,.bool nt,.slice kp kids.length kc] wr');case atStart=>exact⟨0,by simp,rfl,by simp,K3.out,aA.refl _,V3.out,B3.out⟩
       case round=>
        obtain⟨m,hm,rfl,f4,b6,b1,b4,e2⟩:=hrel;have a9:=hid f4;have HK:=hid b6;have HV:=hid b4;have HB:=hid e2;have TX:=hid (T3.out.keep b1);have j6:=hid b1;have b8:=e2.2;have b9:=e2.1;clear f4 b6 b4 e2 b1 V3 B3;by_cases hml:m<nd.sorted.length
        ·rcases TX.out with ⟨h0,-⟩ | ⟨g,tcap,e3,hgl,hgc⟩
         ·rw[h0] at hml;exact absurd hml (Q5 _)
         cases e3;have e7:=hgc m _ (Q9 hml);rw[Z6] at e7;have a2:Hid ((nd.sorted.take (m+1)).all (fB fs)=fB fs nd.sorted[m]):=by
          show _=_;rw[U4 hml,List.all_append,a9.out];simp
         have g2:Hid (fB fs nd.sorted[m]=false->cA ps=5):=fun h=>a0.out 5 (by decide) (by
          have:nd.sorted.all (fB fs)=false:=List.all_eq_false.2 ⟨nd.sorted[m],U5 hml,by rw[h];decide⟩;rw[f7.out,i0.out,this];rfl)
         generalize nd.sorted[m]=x at e7 a2 g2;clear hgc a9;go_wp2_with fail;refine (mE S fs _ ⟨x.toArray⟩ wr (HF.out.keep hS HK.out)).mono ?_;rintro e w4 ⟨rfl,k8⟩;rw[k8];clear k8;have j2:fB fs (ByteArray.mk x.toArray).data.toList=fB fs x:=by simp
         rw[j2];generalize fB fs x=β at a2 g2 |-
         clear e7 j2;cases β
         ·have HY:=hid (g2.out (by trivial));clear g2;go_wp2_with fail;go_ret;exact⟨aD HY.out.symm,HK.out⟩
         ·clear g2;go_wp2_with fail;go_roundg (nd.sorted.length-(m+1));case rel=>exact⟨m+1,by omega,by go_num,a2.out,HK.out,j6.out,HV.out,HB.out⟩
          case measure=>omega
        ·have j3:Hid (dV ⟨n,v,sl,fs,nd⟩=0):=by
          show _=_;have h:=a9.out;rw[List.take_of_length_le (by omega)] at h;rw[f7.out,i0.out,if_pos h]
         have a7:Hid (pkE ps j=if 0<j/\dJ ⟨n,v,sl,fs,nd⟩ (ps.getD (j-1) PK.zero)=false then 6 else if 14<ps.length+bI ps (j+1) then 2 else 0):=by show _=_;rw[g3.out,j3.out];rfl
         obtain⟨h4,-,j0⟩:=HV.out.facts;clear g3 j3 f7 i0 a9 a0 TX T3 j6;by_cases hj0:0<j
         ·obtain⟨q,rfl⟩:∃q,j=q+1:=⟨j-1,by omega⟩;have hq:q<ps.length:=by omega
          have HQ:Hid (ps.getD (q+1-1) PK.zero=ps[q]):=by show _=_;rw[R0,Nat.add_sub_cancel,Q9 hq,Q7]
          rw[HQ.out] at a7;obtain⟨b2,l2,l6,n3,o0,-,b7⟩:=HP.out.get hq;cases n3;obtain⟨o3,e9,i1⟩:=b7 q hq;generalize ps[q]=pq at i1 a7;obtain⟨k1,a1,l4,m3,f8,l9,m4,m1,m9,-,h5,rfl,-,-⟩:=i1.spelt;rcases pq with ⟨n1,v1,sl1,fs1,nd1⟩;obtain⟨c0,c1,c2,c3,c4,c5,c6,c7,c8,c9,f0,f6,f9,g1⟩:=dK e9;have gt:∀(o:Nat) (x:Value),w.cell? ⟨b,o,none⟩=some x->wr.cell? ⟨b,o,none⟩=some x:=fun o x h=>(HK.out.cell (p:=⟨b,o,none⟩) (hS b hb)).trans h;have d0:=gt _ _ c0;have d1:=gt _ _ c1;have d2:=gt _ _ c2;have d3:=gt _ _ c3;have d4:=gt _ _ c4;have d5:=gt _ _ c5;have d6:=gt _ _ c6;have d7:=gt _ _ c7;have d8:=gt _ _ c8;have d9:=gt _ _ c9;have h7:=gt _ _ f0;have i7:=gt _ _ f6;have i9:=gt _ _ f9;have i5:=gt _ _ g1;have o2:b<wr.heap.size:=R8 (hS b hb) HK.out.size;have a3:=hid (aGk ⟨n,v,sl,fs,nd⟩ ⟨n1,v1,sl1,fs1,nd1⟩);have h6:(0:Int)<((q+1:Nat):Int):=by omega
          have hd:decide ((0:Int)<((q+1:Nat):Int))=true:=Y7 h6;have e1:((q+1:Nat):Int)-1=(q:Int):=by omega
          clear e9 i1 b7 c0 c1 c2 c3 c4 c5 c6 c7 c8 c9 f0 f6 f9 g1 gt HQ;simp only at h5 d0 d1 d2 d3 a3;generalize dJ ⟨n,v,sl,fs,nd⟩ ⟨n1,v1,sl1,fs1,nd1⟩=β at a7 a3;go_upto_region 34 with fail;refine bE (fun W'=>aA w W'/\aE w.heap.size 24 (.slice (some ⟨b,off,none⟩) ps.length tc) W'/\aL bx #[.string n,.int .i64 v,.int .i64 sl,.slice fp fs.length fc,.int .i64 3,.string a.n,.int .i64 a.op,.int .i64 a.v,.int .i64 a.sl,.string a.f,.bool a.on,.string fl,.bool nt,.slice kp kids.length kc] W'/\aL wr.heap.size #[.string n1,.int .i64 v1,.int .i64 sl1,.slice m4 fs1.length m9,.int .i64 k1,.string a1.n,.int .i64 a1.op,.int .i64 a1.v,.int .i64 a1.sl,.string a1.f,.bool a1.on,.string l4,.bool m3,.slice l9 f8.length m1] W') ⟨HK.out.alloc' _,HV.out.keep (aA.alloc _ _) HV.out.facts.2.2,HB.out.keep (aA.alloc _ _) HB.out.1,aL.new _ _ _⟩ ?_;rintro W5 ⟨k5,v5,b5,q5⟩;have K5:=hid k5;have V5:=hid v5;have m2:=b5.2;have k9:=b5.1;have n5:=q5.2;have l1:=q5.1;obtain⟨n7,-,l5⟩:=v5.facts;clear k5 v5 b5 q5 d0 d1 d2 d3 d4 d5 d6 d7 d8 d9 h7 i7 i9 i5 b8 b9 h4 j0;cases hbl:Op.bytesLess n.toList n1.toList
          ·cases heq:(n.toList==n1.toList)
           ·rw[hbl,heq] at a3;have hβ:β=true:=aTz a3.out;subst hβ;clear a3;have HT:Hid (pkE ps (q+1)=if 14<ps.length+bI ps ((q+1)+1) then 2 else 0):=by show _=_;rw[a7.out,if_neg (fun h=>by cases h.2)]
            have f5:bI ps ((q+1)+1)<=2*((q+1)+1):=by have:=b3.out;omega
            have es:((bI ps (q+1):Nat):Int)+(fs.length:Int)=((bI ps ((q+1)+1):Nat):Int):=by have:=b3.out;omega
            by_cases h14:14<ps.length+bI ps ((q+1)+1)
            ·have HY:=hid (a6.out 2 (by decide) (by rw[HT.out,if_pos h14]));have a8:(14:Int)<(ps.length:Int)+((bI ps ((q+1)+1):Nat):Int):=by omega
             clear h14 HT;go_wp2_with fail;go_ret;exact⟨aD HY.out.symm,K5.out⟩
            ·have HY:Hid (pkE ps (q+1)=0):=by show _=_;rw[HT.out,if_neg h14]
             have a8:¬(14:Int)<(ps.length:Int)+((bI ps ((q+1)+1):Nat):Int):=by omega
             clear h14 HT;go_wp2_with fail;go_roundg (ps.length-((q+1)+1));case rel=>exact⟨(q+1)+1,by omega,by go_num,by go_num,f5,by rw[f2.out,g4.out,HY.out];rfl,K5.out,V5.out⟩
             case measure=>omega
           ·rw[hbl,heq] at a3;by_cases hvv:v<=v1
            ·have hβ:β=false:=by have h:=a3.out;rw[Y7 hvv] at h;exact aTz h
             subst hβ;have HY:=hid (a6.out 6 (by decide) (by rw[a7.out,if_pos ⟨by omega,rfl⟩]));clear a3 a7;go_wp2_with fail;go_ret;exact⟨aD HY.out.symm,K5.out⟩
            ·have hβ:β=true:=by have h:=a3.out;rw[Y8 hvv] at h;exact aTz h
             subst hβ;clear a3;have HT:Hid (pkE ps (q+1)=if 14<ps.length+bI ps ((q+1)+1) then 2 else 0):=by show _=_;rw[a7.out,if_neg (fun h=>by cases h.2)]
             have f5:bI ps ((q+1)+1)<=2*((q+1)+1):=by have:=b3.out;omega
             have es:((bI ps (q+1):Nat):Int)+(fs.length:Int)=((bI ps ((q+1)+1):Nat):Int):=by have:=b3.out;omega
             by_cases h14:14<ps.length+bI ps ((q+1)+1)
             ·have HY:=hid (a6.out 2 (by decide) (by rw[HT.out,if_pos h14]));have a8:(14:Int)<(ps.length:Int)+((bI ps ((q+1)+1):Nat):Int):=by omega
              clear h14 HT;go_wp2_with fail;go_ret;exact⟨aD HY.out.symm,K5.out⟩
             ·have HY:Hid (pkE ps (q+1)=0):=by show _=_;rw[HT.out,if_neg h14]
              have a8:¬(14:Int)<(ps.length:Int)+((bI ps ((q+1)+1):Nat):Int):=by omega
              clear h14 HT;go_wp2_with fail;go_roundg (ps.length-((q+1)+1));case rel=>exact⟨(q+1)+1,by omega,by go_num,by go_num,f5,by rw[f2.out,g4.out,HY.out];rfl,K5.out,V5.out⟩
              case measure=>omega
          ·rw[hbl] at a3;have hβ:β=false:=aTz a3.out;subst hβ;have HY:=hid (a6.out 6 (by decide) (by rw[a7.out,if_pos ⟨by omega,rfl⟩]));clear a3 a7;go_wp2_with fail;go_ret;exact⟨aD HY.out.symm,K5.out⟩
         ·have hd:¬(0:Int)<(j:Int):=by omega
          have HT:Hid (pkE ps j=if 14<ps.length+bI ps (j+1) then 2 else 0):=by show _=_;rw[a7.out,if_neg (fun h=>hj0 h.1)]
          have f5:bI ps (j+1)<=2*(j+1):=by have:=b3.out;omega
          have es:((bI ps j:Nat):Int)+(fs.length:Int)=((bI ps (j+1):Nat):Int):=by have:=b3.out;omega
          by_cases h14:14<ps.length+bI ps (j+1)
          ·omega
          ·have HY:Hid (pkE ps j=0):=by show _=_;rw[HT.out,if_neg h14]
           have a8:¬(14:Int)<(ps.length:Int)+((bI ps (j+1):Nat):Int):=by omega
           clear h14 HT;go_wp2_with fail;go_roundg (ps.length-(j+1));case rel=>exact⟨j+1,by omega,by go_num,by go_num,f5,by rw[f2.out,g4.out,HY.out];rfl,HK.out,HV.out⟩
           case measure=>omega
      ·have HY:=hid (a0.out (dG nd) hcn (by rw[f7.out,g7.out,if_pos hcn]));generalize dG nd=cn at hcn HY |-
       have m5:(cn==0)=false:=by simp[hcn]
       have m7:(cn != 0)=true:=by simp[hcn]
       clear hcn g7;go_wp2_with fail;go_ret;exact⟨aD HY.out.symm,K2.out⟩
     ·have HY:=hid (a0.out 4 (by decide) (by rw[f7.out,g6.out,if_pos b1]));have m5:(kk==3)=false:=by simp[b1]
      have m7:(kk != 3)=true:=by simp[b1]
      clear b1 g6;go_wp2_with fail;go_ret;exact⟨aD HY.out.symm,HK.out⟩
  ·go_wp2_with fail;go_ret;exact⟨aD (by rw[HX.out,f2.out,show ps.length-j=0 by omega];rfl),HK.out⟩
theorem aIc(S:Nat->Prop)(ps:List PK)(ms:List MB)(tv lv:Value)(w:World)(hS:∀b,S b->b<w.heap.size)(hp:aZ S w ps tv)(hm:cD S w ms lv):
  Calls Tryz.prog 45 #[.agg #[tv],lv] w fun e w'=>e=.returned (.int .i64 (tM ps ms))/\aA w w':=by
 have HP:=hid hp;have d5:=hid hm;obtain⟨tp,tc,rfl,c6⟩:=hp.len;obtain⟨lp,lc,rfl,b9⟩:=hm.len;have HX:Hid (tM ps ms=aM (mbE ps ms) 0 ms.length):=rfl;clear hp hm;go_enter Tryz.func45,Tryz.ntmps45;go_wp2_with fail;go_loopg [10,5] ms.length (fun gk i ls wr=> ∃(j:Nat) (la:Int),j+gk=ms.length/\i=.int .i64 j/\ls=.int .i64 la/\(0<j->la=(ms.getD (j-1) MB.zero).pl)/\aM (mbE ps ms) 0 ms.length=aM (mbE ps ms) j (ms.length-j)/\aA w wr/\aE w.heap.size 24 (.slice tp ps.length tc) wr);case atStart=>exact⟨0,-1,by simp,rfl,rfl,fun h=>absurd h (Nat.lt_irrefl 0),rfl,aA.alloc _ _,aE.new _ _ _⟩
 case round=>
  obtain⟨j,la,hj,rfl,rfl,a8,he,c0,c2⟩:=hrel;have b2:=hid he;have HK:=hid c0;have HV:=hid c2;have b6:=hid a8;clear he c0 c2 a8;by_cases hlt:j<ms.length
  ·obtain⟨mb,d6,d4,d7,d2,-,a9⟩:=(d5.out.keep hS HK.out).get hlt;cases d7;obtain⟨op,oc,b4,b8,c1,-⟩:=a9 j _ (Q9 hlt);have b5:=hid (dO (f:=mbE ps ms) hlt);have a1:Hid (∀x:Int,x≠0->mbE ps ms j=x->tM ps ms=x):=fun x hx hy=>by rw[HX.out,b2.out,b5.out,hy,if_neg hx]
   have a7:Hid (mbE ps ms j=if ms[j].pl<0\/(ps.length:Int)<=ms[j].pl then 5 else if 0<j/\ms[j].pl<=(ms.getD (j-1) MB.zero).pl then 6 else if ms[j].on.length≠(ps.getD ms[j].pl.toNat PK.zero).fl.length then 4 else 0):=by
    show _=_;unfold mbE cH;rw[gJ ms j hlt]
   have b0:Hid ((ms.getD (j+1-1) MB.zero).pl=ms[j].pl):=by show _=_;rw[Nat.add_sub_cancel,gJ ms j hlt]
   generalize ms[j]=m at b4 b8 c1 a7 b0;obtain⟨pl,on⟩:=m;simp only at b4 b8 c1 a7 b0;have e0:mb<wr.heap.size:=R8 (hS mb d2) HK.out.size;clear a9;go_upto_region 5 with fail;refine bE (fun W'=>aA w W'/\aE w.heap.size 24 (.slice tp ps.length tc) W'/\aL wr.heap.size #[.int .i64 pl,.slice op on.length oc] W') ⟨HK.out.alloc' _,HV.out.keep (aA.alloc _ _) HV.out.facts.2.2,aL.new _ _ _⟩ ?_;rintro W1 ⟨k1,v1,b1⟩;have K1:=hid k1;have V1:=hid v1;have B1:=hid b1;have e2:=b1.2;have e3:=b1.1;obtain⟨e1,-,e4⟩:=v1.facts;clear k1 v1 b1 b4 b8;by_cases h0:pl<0
   ·have HY:=hid (a1.out 5 (by decide) (by rw[a7.out,if_pos (Or.inl h0)]));go_wp2_with fail;go_ret;exact⟨aD HY.out.symm,K1.out⟩
   by_cases h1:(ps.length:Int)<=pl
   ·have HY:=hid (a1.out 5 (by decide) (by rw[a7.out,if_pos (Or.inr h1)]));go_wp2_with fail;go_ret;exact⟨aD HY.out.symm,K1.out⟩
   obtain⟨q,rfl⟩:∃q:Nat,pl=q:=⟨pl.toNat,by omega⟩;have b3:q<ps.length:=by omega
   obtain⟨tb,d8,d3,c8,c9,-,a4⟩:=(HP.out.keep hS K1.out).get b3;cases c8;obtain⟨cs,c5,b7⟩:=a4 q b3;have a3:Hid (mbE ps ms j=if 0<j/\(q:Int)<=(ms.getD (j-1) MB.zero).pl then 6 else if on.length≠ps[q].fl.length then 4 else 0):=by
    show _=_;rw[a7.out,if_neg (by omega),Y3,fC ps q b3]
   generalize ps[q]=p at b7 a3;obtain⟨kk,a,fl,nt,kids,kp,fp,kc,fc,d9,c7,rfl,hf,hn⟩:=b7.spelt;obtain⟨-,-,-,c3,-⟩:=dK c5;have d1:tb<W1.heap.size:=R8 (hS tb c9) K1.out.size;clear c5 b7 a4 hf hn d9 a7;rcases p with ⟨pn,pv,psl,fs,nd⟩;simp only at c7 c3 a3;have d0:Hid (mbE ps ms j=(if on.length≠fs.length then 4 else 0)->True):=fun _=>trivial;clear d0;by_cases hj0:0<j
   ·have a8:=b6.out hj0;rw[<-a8] at a3;have c4:(0:Int)<(j:Int):=by omega
    have hd:decide ((0:Int)<(j:Int))=true:=Y7 c4;clear a8 b6;by_cases hle:(q:Int)<=la
    ·have HY:=hid (a1.out 6 (by decide) (by rw[a3.out,if_pos ⟨by omega,hle⟩]));go_wp2_with fail;go_ret;exact⟨aD HY.out.symm,K1.out⟩
    ·have a2:Hid (mbE ps ms j=if on.length≠fs.length then 4 else 0):=by show _=_;rw[a3.out,if_neg (fun h=>hle h.2)]
     clear a3;by_cases hne:on.length=fs.length
     ·have HY:Hid (mbE ps ms j=0):=by show _=_;rw[a2.out,if_neg (fun h=>h hne)]
      have a6:((on.length:Int)==(fs.length:Int))=true:=by simp[hne]
      have a5:((on.length:Int) != (fs.length:Int))=false:=by simp[hne]
      clear a2 hne;go_upto_region 10 with fail;go_quiet (fail)
      have k4:aA W1 (W1.drewN nq):=aA.drewN (aA.refl _) _;generalize W1.drewN nq=W4 at k4 |-
      have K4:=hid (K1.out.trans k4);have V4:=hid (V1.out.keep k4 V1.out.facts.2.2);clear k4;go_wp2_with fail;go_roundg (ms.length-(j+1));case rel=>exact⟨j+1,_,by omega,by go_num,rfl,fun _=>b0.out.symm,by rw[b2.out,b5.out,HY.out];rfl,K4.out,V4.out⟩
      case measure=>omega
     ·have HY:=hid (a1.out 4 (by decide) (by rw[a2.out,if_pos hne]));have a0:¬(on.length:Int)=(fs.length:Int):=by omega
      have a6:((on.length:Int)==(fs.length:Int))=false:=by simp[a0]
      have a5:((on.length:Int) != (fs.length:Int))=true:=by simp[a0]
      clear a2 hne;go_upto_region 10 with fail;go_quiet (fail)
      go_wp2_with fail;go_ret;exact⟨aD HY.out.symm,aA.drewN K1.out _⟩
   ·have a2:Hid (mbE ps ms j=if on.length≠fs.length then 4 else 0):=by show _=_;rw[a3.out,if_neg (fun h=>hj0 h.1)]
    have c4:¬(0:Int)<(j:Int):=by omega
    clear a3 b6;by_cases hne:on.length=fs.length
    ·have HY:Hid (mbE ps ms j=0):=by show _=_;rw[a2.out,if_neg (fun h=>h hne)]
     have a6:((on.length:Int)==(fs.length:Int))=true:=by simp[hne]
     have a5:((on.length:Int) != (fs.length:Int))=false:=by simp[hne]
     clear a2 hne;go_upto_region 10 with fail;go_quiet (fail)
     have k4:aA W1 (W1.drewN nq):=aA.drewN (aA.refl _) _;generalize W1.drewN nq=W4 at k4 |-
     have K4:=hid (K1.out.trans k4);have V4:=hid (V1.out.keep k4 V1.out.facts.2.2);clear k4;go_wp2_with fail;go_roundg (ms.length-(j+1));case rel=>exact⟨j+1,_,by omega,by go_num,rfl,fun _=>b0.out.symm,by rw[b2.out,b5.out,HY.out];rfl,K4.out,V4.out⟩
     case measure=>omega
    ·have HY:=hid (a1.out 4 (by decide) (by rw[a2.out,if_pos hne]));have a0:¬(on.length:Int)=(fs.length:Int):=by omega
     have a6:((on.length:Int)==(fs.length:Int))=false:=by simp[a0]
     have a5:((on.length:Int) != (fs.length:Int))=true:=by simp[a0]
     clear a2 hne;go_upto_region 10 with fail;go_quiet (fail)
     go_wp2_with fail;go_ret;exact⟨aD HY.out.symm,aA.drewN K1.out _⟩
  ·go_wp2_with fail;go_ret;exact⟨aD (by rw[HX.out,b2.out,show ms.length-j=0 by omega];rfl),HK.out⟩
theorem oP{W:World}{n:Nat}(h:W.heap.size=n)(cs:Array Value)(T:TypeId):aL n cs (W.alloc (.cells cs T)):=h ▸ aL.new W cs T
theorem zO(S:Nat->Prop)(ps:List PK)(m:MB)(op:Option Addr)(oc:Nat)(tv:Value)(an af:ByteArray)(aop av asl:Int)(aon:Bool)(w:World)(hS:∀b,S b->b<w.heap.size)(hp:aZ S w ps tv)(hct:cA ps=0)(hb:bC S w m.on (.slice op m.on.length oc))(h0:0<=m.pl)(h1:m.pl<ps.length)(hon:m.on.length=(cH ps m).fl.length)(hom:m.on.length<=9223372036854775807):
  Calls Tryz.prog 52 #[.agg #[tv],.agg #[.int .i64 m.pl,.slice op m.on.length oc],.agg #[.string an,.int .i64 aop,.int .i64 av,.int .i64 asl,.string af,.bool aon]] w fun e w'=>e=.returned (.bool (isB (cH ps m) m ⟨an,aop,av,asl,af,aon⟩))/\aA w w':=by
 have HB:=hid hb;obtain⟨tp,tc,rfl,g2⟩:=hp.len;obtain⟨q,hq⟩:∃q:Nat,m.pl=q:=⟨m.pl.toNat,by omega⟩;have a8:q<ps.length:=by omega
 have f0:cH ps m=ps[q]:=by unfold cH;rw[hq,Y3,fC ps q a8]
 rw[f0] at hon |-
 obtain⟨tb,b8,h7,g6,h4,-,a2⟩:=hp.get a8;cases g6;obtain⟨cs,f4,b5⟩:=a2 q a8;have b6:Hid (∀f∈ps[q].fl,aP f.data.toList=true):=(gZ (eW ((cL hct).2 _ (U5 a8))).2.2.1).2;generalize ps[q]=p at b5 hon b6 |-
 obtain⟨kk,a',fl,nt,kids,kp,fp,kc,fc,i4,g3,rfl,hf,-⟩:=b5.spelt;obtain⟨c0,c1,c2,c3,c4,c5,c6,c7,c8,c9,f3,f1,e9,f2⟩:=dK f4;have HF:=hid hf;have f6:=hS tb h4;clear f4 b5 a2 i4 hp hb hct f0 hf h0 h1;rcases p with ⟨n,v,sl,fs,nd⟩;rcases m with ⟨pl,on⟩;simp only at hq hon hom g3 c0 c1 c2 c3 HF HB b6 |-
 subst hq;have HM:Hid (isB ⟨n,v,sl,fs,nd⟩ ⟨q,on⟩ ⟨an,aop,av,asl,af,aon⟩=((n.toList==an.toList)&&gS aop av asl v sl&&(af.toList.isEmpty||(decide (aN fs af<fs.length)&&(on.getD (aN fs af) false==aon))))):=rfl;have f9:=hid hon;clear hon;go_enter Tryz.func52,Tryz.ntmps52;go_upto_region 1 with fail;refine bE (fun W'=>aA w W'/\aE w.heap.size 24 (.slice (some ⟨tb,b8,none⟩) ps.length tc) W'/\aL (w.heap.size+1) #[.int .i64 (q:Int),.slice op on.length oc] W'/\aL (w.heap.size+1+1) #[.string an,.int .i64 aop,.int .i64 av,.int .i64 asl,.string af,.bool aon] W')
  ⟨((aA.alloc _ _).alloc' _).alloc' _,(aE.new _ _ _).keep ((aA.alloc _ _).alloc' _) (by simp),(oP (by simp) _ _).keep (aA.alloc _ _) (by simp),oP (by simp) _ _⟩ ?_
 rintro W0 ⟨k0,v0,x1,x2⟩;have K0:=hid k0;have X1:=hid x1;have X2:=hid x2;obtain⟨g0,-,l0⟩:=v0.facts;have g1:=x1.2;have l1:=x1.1;have gt:∀(o:Nat) (x:Value),w.cell? ⟨tb,o,none⟩=some x->W0.cell? ⟨tb,o,none⟩=some x:=fun o x h=>(k0.cell (p:=⟨tb,o,none⟩) f6).trans h;have d0:=gt _ _ c0;have d1:=gt _ _ c1;have d2:=gt _ _ c2;have d3:=gt _ _ c3;have d4:=gt _ _ c4;have d5:=gt _ _ c5;have d6:=gt _ _ c6;have d7:=gt _ _ c7;have d8:=gt _ _ c8;have d9:=gt _ _ c9;have i7:=gt _ _ f3;have j0:=gt _ _ f1;have i1:=gt _ _ e9;have i3:=gt _ _ f2;have f8:tb<W0.heap.size:=R8 f6 k0.size;clear c0 c1 c2 c3 c4 c5 c6 c7 c8 c9 f3 f1 e9 f2 gt k0 v0 x1 x2;go_upto_region 2 with fail;refine bE (fun W'=>aA w W'/\aL (w.heap.size+1) #[.int .i64 (q:Int),.slice op on.length oc] W'/\aL (w.heap.size+1+1) #[.string an,.int .i64 aop,.int .i64 av,.int .i64 asl,.string af,.bool aon] W'/\aL W0.heap.size #[.string n,.int .i64 v,.int .i64 sl,.slice fp fs.length fc,.int .i64 kk,.string a'.n,.int .i64 a'.op,.int .i64 a'.v,.int .i64 a'.sl,.string a'.f,.bool a'.on,.string fl,.bool nt,.slice kp kids.length kc] W')
  ⟨K0.out.alloc' _,X1.out.keep (aA.alloc _ _) X1.out.1,X2.out.keep (aA.alloc _ _) X2.out.1,aL.new _ _ _⟩ ?_
 rintro W1 ⟨k1,b1,b2,b3⟩;generalize W0.heap.size=bx at b3 |-
 clear d0 d1 d2 d3 d4 d5 d6 d7 d8 d9 i7 j0 i1 i3 g0 g1 l0 l1 f8 K0 X1 X2;have K1:=hid k1;have B1:=hid b1;have B2:=hid b2;have B3:=hid b3;have f5:=b1.2;have e1:=b1.1;have e3:=b2.2;have e7:=b2.1;have b7:=b3.2;have b9:=b3.1;clear k1 b1 b2 b3;have a0:(an.toList != n.toList) = !(n.toList==an.toList):=by
  cases h:(n.toList==an.toList)
  ·have:¬an.toList=n.toList:=fun e=>by rw[e] at h;simp at h
   simp[this]
  ·have:n.toList=an.toList:=by simpa using h
   simp[this]
 cases h1:(n.toList==an.toList)
 ·rw[h1] at HM a0;have b4:(an.toList != n.toList)=true:=a0;have g8:(an.toList==n.toList)=false:=by simpa[bne] using b4
  clear a0 h1;go_wp2_with fail;go_ret;exact⟨aK (by rw[HM.out];rfl),K1.out⟩
 rw[h1] at HM a0;have b4:(an.toList != n.toList)=false:=a0;have g8:(an.toList==n.toList)=true:=by simpa[bne] using b4
 clear a0 h1;go_wp2_with fail;refine (aHd an af aop av asl aon v sl W1).mono ?_;rintro e w2 ⟨rfl,k2⟩;have K2:=hid (K1.out.trans k2);have C1:=hid (B1.out.keep k2 B1.out.1);have C2:=hid (B2.out.keep k2 B2.out.1);have C3:=hid (B3.out.keep k2 B3.out.1);clear k2 B1 B2 B3 f5 e1 e3 e7 b7 b9;generalize gS aop av asl v sl=β at HM |-
 cases β
 ·go_wp2_with fail;go_ret;exact⟨aK (by rw[HM.out];rfl),K2.out⟩
 have a3:Hid (isB ⟨n,v,sl,fs,nd⟩ ⟨q,on⟩ ⟨an,aop,av,asl,af,aon⟩=(af.toList.isEmpty||(decide (aN fs af<fs.length)&&(on.getD (aN fs af) false==aon)))):=by show _=_;rw[HM.out];rfl
 have b7:=C3.out.2;have b9:=C3.out.1;clear HM;go_wp2_with fail;clear b7 b9;go_loopg [33] fs.length (fun gk i wr=> ∃j:Nat,j+gk=fs.length/\i=.int .i64 j/\j<=aN fs af/\aA w wr/\aL (w.heap.size+1) #[.int .i64 (q:Int),.slice op on.length oc] wr/\aL (w.heap.size+1+1) #[.string an,.int .i64 aop,.int .i64 av,.int .i64 asl,.string af,.bool aon] wr);case atStart=>exact⟨0,by simp,rfl,Nat.zero_le _,K2.out,C1.out,C2.out⟩
 case round=>
  obtain⟨j,hj,rfl,g5,e4,a6,a9⟩:=hrel;have HK:=hid e4;have D1:=hid a6;have D2:=hid a9;have f5:=a6.2;have e1:=a6.1;have e3:=a9.2;have e7:=a9.1;clear e4 a6 a9 K2 C1 C2 C3;by_cases hlt:j<fs.length
  ·obtain⟨fb,i0,g9,h6,g4,-,e6⟩:=(HF.out.keep hS HK.out).get hlt;cases h6;have e5:=e6 j _ (Q9 hlt);have i2:fb<wr.heap.size:=R8 (hS fb g4) HK.out.size;have b0:Hid (fs[j]=af->aN fs af=j):=fun e=>by
    have h1:aN fs af<=j:=by
     unfold aN;exact Nat.le_of_not_lt fun hlt'=>by
      have:=List.not_of_lt_findIdx hlt';simp[e] at this
    omega
   have a7:Hid (¬fs[j]=af->j+1<=aN fs af):=fun e=>by
    rcases Nat.lt_or_ge j (aN fs af) with h | h
    ·exact h
    ·exfalso;have i5:aN fs af=j:=by omega
     have hl:aN fs af<fs.length:=by omega
     have e2:fs[aN fs af]=af:=of_decide_eq_true (List.findIdx_getElem (p:=fun f=>decide (f=af)) (w:=hl));exact e (by rw[<-e2];simp[i5])
   have a1:Hid (fs[j]=af->af.toList.isEmpty=false):=fun e=>by
    have:=b6.out _ (U5 hlt);rw[e] at this;cases hh:af.toList.isEmpty
    ·rfl
    ·rw[Lib.toList_data] at hh;have h2:af.data.toList = []:=by simpa using hh
     rw[h2] at this;cases this
   generalize fs[j]=x at e5 b0 a7 a1;clear e6;by_cases hx:x=af
   ·subst hx;have e8:=b0.out rfl;have a4:=a1.out rfl;have f7:(x.toList==x.toList)=true:=by simp
    have i9:j<on.length:=by have:=f9.out;omega
    obtain⟨ob,g7,h8,h5,a5⟩:=(HB.out.keep hS HK.out).cell i9;subst h8;have h9:ob<wr.heap.size:=R8 (hS ob h5) HK.out.size;have e0:Hid (isB ⟨n,v,sl,fs,nd⟩ ⟨q,on⟩ ⟨an,aop,av,asl,x,aon⟩=(on.getD j false==aon)):=by show _=_;rw[a3.out,a4,e8,Y7 hlt];rfl
    generalize on.getD j false=γ at a5 e0;clear b0 a7 a1 a3 e8 a4 g5;go_upto_region 8 with fail;clear e5;go_quiet (fail)
    go_wp2_with fail;go_ret;exact⟨aK (by rw[e0.out]),aA.drewN HK.out _⟩
   ·have i6:=a7.out hx;have f7:(x.toList==af.toList)=false:=by
     rw[Q6];intro e;rw[Lib.toList_data,Lib.toList_data] at e;exact hx (gY e)
    clear b0 a7 a1 hx;go_wp2_with fail;go_roundg (fs.length-(j+1));case rel=>exact⟨j+1,by omega,by go_num,i6,HK.out,D1.out,D2.out⟩
    case measure=>omega
  ·have i8:¬aN fs af<fs.length:=by omega
   rw[Y8 i8] at a3;cases a4:af.toList.isEmpty
   ·rw[a4] at a3;have h3:(af.toList == [])=false:=by simpa using a4
    go_wp2_with fail;go_ret;exact⟨aK (by rw[a3.out];rfl),HK.out⟩
   ·rw[a4] at a3;have h3:(af.toList == [])=true:=by simpa using a4
    go_wp2_with fail;go_ret;exact⟨aK (by rw[a3.out];rfl),HK.out⟩
theorem aUa{x0 x1 y0 y1:Int}(h1:0<=x1)(h2:x1<10)(h3:0<=y1)(h4:y1<10):(10*x0+x1<=10*y0+y1) ↔ ¬(y0<x0\/y0=x0/\y1<x1):=by omega
theorem aFf(S:Nat->Prop)(ps:List PK)(wi:WI)(tv tsv inv mav onv:Value)(w:World)(hS:∀b,S b->b<w.heap.size)(hp:aZ S w ps tv)(hct:cA ps=0)(h:dA S w wi tsv inv mav onv):
  Calls Tryz.prog 19 #[.agg #[tv],.agg #[tsv,inv,mav,onv]] w fun e w'=>e=.returned (.int .i64 (bB ps wi))/\aA w w':=by
 have HP:=hid hp;have HW:=hid h;obtain⟨tp,tc,rfl,f7⟩:=hp.len;obtain⟨p0,c0,rfl,i2⟩:=h.ts.len;obtain⟨p1,c1,rfl,i1⟩:=h.ins.len;obtain⟨p2,c2,rfl,i4⟩:=h.ma.len;obtain⟨p3,c3,rfl,i6⟩:=h.on.len;have HX:Hid (bB ps wi=if tM ps wi.ins≠0 then tM ps wi.ins else if taE wi.ts≠0 then taE wi.ts else if aM (maE ps wi.ma) 0 wi.ma.length≠0 then aM (maE ps wi.ma) 0 wi.ma.length else aM (onE ps wi.on) 0 wi.on.length):=by
  show _=_;have:dZ ps wi.ins=tM ps wi.ins:=by unfold dZ;rw[if_neg (fun h=>h hct)]
  unfold bB;rw[this]
 have g7:Hid (ps.length<=8):=(cL hct).1;have g9:Hid (∀p∈ps,p.fl.length<=2):=fun p hp=>(gZ (eW ((cL hct).2 p hp)).2.2.1).1;clear hp h;go_enter Tryz.func19,Tryz.ntmps19;go_wp2_with fail;refine bK (fun W'=>aA w W'/\aE w.heap.size 24 (.slice tp ps.length tc) W'/\aL (w.heap.size+1) #[.slice p0 wi.ts.length c0,.slice p1 wi.ins.length c1,.slice p2 wi.ma.length c2,.slice p3 wi.on.length c3] W') ⟨(aA.alloc _ _).alloc' _,(aE.new _ _ _).keep (aA.alloc _ _) (by simp),?_⟩ ?_
 ·have:=aL.new (w.alloc (.cells #[.slice tp ps.length tc] 24)) #[.slice p0 wi.ts.length c0,.slice p1 wi.ins.length c1,.slice p2 wi.ma.length c2,.slice p3 wi.on.length c3] 30;rw[aC] at this;exact this
 rintro W0 ⟨k0,v0,b0⟩;refine (aIc S ps wi.ins _ _ W0 (fun b hb=>R8 (hS b hb) k0.size) (HP.out.keep hS k0) (HW.out.keep hS k0).ins).mono ?_;rintro e w1 ⟨rfl,k1⟩;have K1:=hid (k0.trans k1);have V1:=hid (v0.keep k1 v0.facts.2.2);have B1:=hid (b0.keep k1 b0.1);clear k0 v0 b0 k1;generalize tM ps wi.ins=e1 at HX |-
 by_cases hz:e1=0;case neg=>
  have HY:Hid (bB ps wi=e1):=by show _=_;rw[HX.out,if_pos hz]
  have e0:(e1==0)=false:=by simp[hz]
  have e7:(e1 != 0)=true:=by simp[hz]
  clear hz HX;go_wp2_with fail;go_ret;exact⟨aD HY.out.symm,K1.out⟩
 subst hz;have b7:Hid (bB ps wi=if taE wi.ts≠0 then taE wi.ts else if aM (maE ps wi.ma) 0 wi.ma.length≠0 then aM (maE ps wi.ma) 0 wi.ma.length else aM (onE ps wi.on) 0 wi.on.length):=HX.out;have b9:=B1.out.2;have c5:=B1.out.1;clear HX;by_cases h6:6<wi.ts.length
 ·have h4:(6:Int)<(wi.ts.length:Int):=by omega
  have HY:Hid (bB ps wi=2):=by
   show _=_;have:taE wi.ts=2:=by unfold taE;rw[if_pos h6]
   rw[b7.out,this];rfl
  clear b7;go_wp2_with fail;go_ret;exact⟨aD HY.out.symm,K1.out⟩
 have h4:¬(6:Int)<(wi.ts.length:Int):=by omega
 have d2:Hid (taE wi.ts=aM (fun k=>fQ (wi.ts.getD k At.zero)) 0 wi.ts.length):=by show _=_;unfold taE;rw[if_neg h6]
 generalize hg:(fun k=>fQ (wi.ts.getD k At.zero))=g at d2;have HG:=hid hg;clear hg;rw[d2.out] at b7;go_wp2_with fail;clear b9 c5;go_loopg [29] wi.ts.length (fun gk i wr=> ∃j:Nat,j+gk=wi.ts.length/\i=.int .i64 j/\aM g 0 wi.ts.length=aM g j (wi.ts.length-j)/\aA w wr/\aE w.heap.size 24 (.slice tp ps.length tc) wr/\aL (w.heap.size+1) #[.slice p0 wi.ts.length c0,.slice p1 wi.ins.length c1,.slice p2 wi.ma.length c2,.slice p3 wi.on.length c3] wr);case atStart=>exact⟨0,by simp,rfl,rfl,K1.out,V1.out,B1.out⟩
 case round=>
  obtain⟨j,hj,rfl,he,a9,a6,a4⟩:=hrel;have a2:=hid he;have HK:=hid a9;have HV:=hid a6;have HB:=hid a4;clear he a9 a6 a4 K1 V1 B1;by_cases hlt:j<wi.ts.length
  ·obtain⟨b,off,hp,d7,f5,f2,g0,f3,f4,e5⟩:=(HW.out.keep hS HK.out).ts.get hlt;subst hp;have a7:=hid (dO (f:=g) hlt);have e2:Hid (g j=fQ wi.ts[j]):=by show _=_;rw[<-HG.out];show fQ (wi.ts.getD j At.zero)=_;rw[R0,Q9 hlt,Q7]
   generalize wi.ts[j]=a at f5 f2 g0 f3 f4 e5 e2;go_wp2_with fail;refine bK (fun W'=>aA wr W') (aA.alloc _ _) ?_;intro W0 k0;refine (mT a.n a.f a.op a.v a.sl a.on W0).mono ?_;rintro e w1 ⟨rfl,k1⟩;have c8:=k0.trans k1;have K1:=hid (HK.out.trans c8);have V1:=hid (HV.out.keep c8 HV.out.facts.2.2);have B1:=hid (HB.out.keep c8 HB.out.1);rw[show chk a.n.data.toList a.op a.v a.sl a.f.data.toList a.on=g j from e2.out.symm];clear k0 k1 c8 f5 f2 g0 f3 f4 e5;by_cases hz:g j=0
   ·have HZ:=hid hz;have e0:(g j==0)=true:=by simp[hz]
    have e7:(g j != 0)=false:=by simp[hz]
    clear hz;go_wp2_with fail;go_roundg (wi.ts.length-(j+1));case rel=>exact⟨j+1,by omega,by go_num,by rw[a2.out,a7.out,if_pos HZ.out],K1.out,V1.out,B1.out⟩
    case measure=>omega
   ·have HZ:=hid hz;have HY:Hid (bB ps wi=g j):=by
     show _=_;have e:aM g 0 wi.ts.length=g j:=by rw[a2.out,a7.out,if_neg hz]
     rw[b7.out,e,if_pos hz]
    have e0:(g j==0)=false:=by simp[hz]
    have e7:(g j != 0)=true:=by simp[hz]
    clear hz;go_wp2_with fail;go_ret;exact⟨aD HY.out.symm,K1.out⟩
  ·have d4:Hid (bB ps wi=if aM (maE ps wi.ma) 0 wi.ma.length≠0 then aM (maE ps wi.ma) 0 wi.ma.length else aM (onE ps wi.on) 0 wi.on.length):=by
    show _=_;have e:aM g 0 wi.ts.length=0:=by rw[a2.out,show wi.ts.length-j=0 by omega];rfl
    rw[b7.out,e];rfl
   have b9:=HB.out.2;have c5:=HB.out.1;clear b7 a2 d2 HG;go_wp2_with fail;clear b9 c5;go_loopg [42] wi.ma.length (fun gk i wr'=> ∃j:Nat,j+gk=wi.ma.length/\i=.int .i64 j/\aM (maE ps wi.ma) 0 wi.ma.length=aM (maE ps wi.ma) j (wi.ma.length-j)/\aA w wr'/\aE w.heap.size 24 (.slice tp ps.length tc) wr'/\aL (w.heap.size+1) #[.slice p0 wi.ts.length c0,.slice p1 wi.ins.length c1,.slice p2 wi.ma.length c2,.slice p3 wi.on.length c3] wr');case atStart=>exact⟨0,by simp,rfl,rfl,HK.out,HV.out,HB.out⟩
   case round=>
    obtain⟨j,hj,rfl,he,a9,a6,a4⟩:=hrel;clear HK HV HB;have a2:=hid he;have HK:=hid a9;have HV:=hid a6;have HB:=hid a4;obtain⟨d0,-,d8⟩:=a6.facts;have b9:=a4.2;have c5:=a4.1;clear he a9 a6 a4;by_cases hlt:j<wi.ma.length
    ·obtain⟨b,off,hp,d7,hc⟩:=(HW.out.keep hS HK.out).ma.get (by omega);subst hp;have e6:=hc j hlt;have a7:=hid (dO (f:=maE ps wi.ma) hlt);have a1:Hid (∀x:Int,x≠0->maE ps wi.ma j=x->bB ps wi=x):=fun x hx hy=>by
      have e:aM (maE ps wi.ma) 0 wi.ma.length=x:=by rw[a2.out,a7.out,hy,if_neg hx]
      rw[d4.out,e,if_pos hx]
     have b3:Hid (maE ps wi.ma j=if wi.ma.getD j 0<0\/(ps.length:Int)<=wi.ma.getD j 0 then 5 else if 0<j/\wi.ma.getD j 0<=wi.ma.getD (j-1) 0 then 6 else 0):=rfl;have a0:0<j->wr.cell? ⟨b,off+(j-1),none⟩=some (.int .i64 (wi.ma.getD (j-1) 0)):=fun h0=>hc (j-1) (by omega);generalize wi.ma.getD j 0=x at e6 b3;generalize wi.ma.getD (j-1) 0=y at a0 b3;clear hc;by_cases h0:x<0
     ·have HY:=hid (a1.out 5 (by decide) (by rw[b3.out,if_pos (Or.inl h0)]));clear b3 a0;go_wp2_with fail;go_ret;exact⟨aD HY.out.symm,HK.out⟩
     by_cases h1:(ps.length:Int)<=x
     ·have HY:=hid (a1.out 5 (by decide) (by rw[b3.out,if_pos (Or.inr h1)]));clear b3 a0;go_wp2_with fail;go_ret;exact⟨aD HY.out.symm,HK.out⟩
     have b6:Hid (maE ps wi.ma j=if 0<j/\x<=y then 6 else 0):=by show _=_;rw[b3.out,if_neg (by omega)]
     clear b3;by_cases hj0:0<j
     ·have e9:=a0 hj0;obtain⟨m,rfl⟩:∃m,j=m+1:=⟨j-1,by omega⟩;have i0:wr.cell? ⟨b,off+m,none⟩=some (.int .i64 y):=e9;have g8:(0:Int)<((m+1:Nat):Int):=by omega
      have hd:decide ((0:Int)<((m+1:Nat):Int))=true:=Y7 g8;have e1:((m+1:Nat):Int)-1=(m:Int):=by omega
      have hm:m<wi.ma.length:=by omega
      clear a0 e9;by_cases hle:x<=y
      ·have HY:=hid (a1.out 6 (by decide) (by rw[b6.out,if_pos ⟨by omega,hle⟩]));clear b6;go_wp2_with fail;go_ret;exact⟨aD HY.out.symm,HK.out⟩
      ·have HY:Hid (maE ps wi.ma (m+1)=0):=by show _=_;rw[b6.out,if_neg (fun h=>hle h.2)]
       clear b6;go_wp2_with fail;go_roundg (wi.ma.length-(m+1+1));case rel=>exact⟨m+1+1,by omega,by go_num,by rw[a2.out,a7.out,HY.out];rfl,HK.out,HV.out,HB.out⟩
       case measure=>omega
     ·have HY:Hid (maE ps wi.ma j=0):=by show _=_;rw[b6.out,if_neg (fun h=>hj0 h.1)]
      obtain rfl:j=0:=by omega
      rw[Nat.add_zero] at e6;clear b6 a0;go_wp2_with fail;go_roundg (wi.ma.length-(0+1));case rel=>exact⟨0+1,by omega,by go_num,by rw[a2.out,a7.out,HY.out];rfl,HK.out,HV.out,HB.out⟩
      case measure=>omega
    ·have e3:Hid (bB ps wi=aM (onE ps wi.on) 0 wi.on.length):=by
      show _=_;have e:aM (maE ps wi.ma) 0 wi.ma.length=0:=by rw[a2.out,show wi.ma.length-j=0 by omega];rfl
      rw[d4.out,e];rfl
     clear d4 a2 d0 d8;go_wp2_with fail;clear b9 c5;go_loopg [72,11] wi.on.length (fun gk i ls wr'=> ∃(j:Nat) (la:Int),j+gk=wi.on.length/\i=.int .i64 j/\ls=.int .i64 la/\(j=0->la = -1)/\(0<j->la=10*(wi.on.getD (j-1) (0,0)).1+(wi.on.getD (j-1) (0,0)).2/\0<=(wi.on.getD (j-1) (0,0)).2/\(wi.on.getD (j-1) (0,0)).2<10)/\aM (onE ps wi.on) 0 wi.on.length=aM (onE ps wi.on) j (wi.on.length-j)/\aA w wr'/\aE w.heap.size 24 (.slice tp ps.length tc) wr'/\aL (w.heap.size+1) #[.slice p0 wi.ts.length c0,.slice p1 wi.ins.length c1,.slice p2 wi.ma.length c2,.slice p3 wi.on.length c3] wr');case atStart=>exact⟨0,-1,by simp,rfl,rfl,fun _=>rfl,fun h=>absurd h (Nat.lt_irrefl 0),rfl,HK.out,HV.out,HB.out⟩
     case round=>
      obtain⟨j,la,hj,rfl,rfl,c4,f1,he,a9,a6,a4⟩:=hrel;clear HK HV HB;have a2:=hid he;have HK:=hid a9;have HV:=hid a6;have HB:=hid a4;have a3:=hid c4;have b1:=hid f1;clear he a9 a6 a4 c4 f1;by_cases hlt:j<wi.on.length
      ·have a7:=hid (dO (f:=onE ps wi.on) hlt);have a1:Hid (∀x:Int,x≠0->onE ps wi.on j=x->bB ps wi=x):=fun x hx hy=>by
        rw[e3.out,a2.out,a7.out,hy,if_neg hx]
       obtain⟨b,off,hp,d7,hc⟩:=(HW.out.keep hS HK.out).on.get (by omega);subst hp;obtain⟨c9,d6⟩:=hc j hlt;have e4:Hid (wi.on.getD (j+1-1) (0,0)=wi.on.getD j (0,0)):=by show _=_;rw[Nat.add_sub_cancel]
       have a5:Hid (onE ps wi.on j=if (wi.on.getD j (0,0)).1<0\/(ps.length:Int)<=(wi.on.getD j (0,0)).1 then 5 else if (wi.on.getD j (0,0)).2<0\/((ps.getD (wi.on.getD j (0,0)).1.toNat PK.zero).fl.length:Int)<=(wi.on.getD j (0,0)).2 then 5
        else if 0<j/\¬((wi.on.getD (j-1) (0,0)).1<(wi.on.getD j (0,0)).1\/(wi.on.getD (j-1) (0,0)).1=(wi.on.getD j (0,0)).1/\(wi.on.getD (j-1) (0,0)).2<(wi.on.getD j (0,0)).2) then 6 else 0):=rfl
       generalize wi.on.getD j (0,0)=xx at c9 d6 a5 e4;generalize wi.on.getD (j-1) (0,0)=yy at b1 a5;obtain⟨x0,x1⟩:=xx;obtain⟨y0,y1⟩:=yy;simp only at c9 d6 a5 b1;have h9:b<wr.heap.size:=R8 (hS b d7) HK.out.size;clear hc;go_upto_region 25 with fail;refine bE (fun W'=>aA wr W'/\aL wr.heap.size #[.int .i64 x0,.int .i64 x1] W') ⟨aA.alloc _ _,aL.new _ _ _⟩ ?_;rintro W2 ⟨k2,b2⟩;have K2:=hid (HK.out.trans k2);have V2:=hid (HV.out.keep k2 HV.out.facts.2.2);have X2:=hid (HB.out.keep k2 HB.out.1);have B2:=hid b2;have d3:=b2.2;have d1:=b2.1;obtain⟨d0,-,d8⟩:=V2.out.facts;clear k2 b2 c9 d6 HK HV HB;by_cases h0:x0<0
       ·have HY:=hid (a1.out 5 (by decide) (by rw[a5.out,if_pos (Or.inl h0)]));have f8:decide (x0<0)=true:=Y7 h0;clear a5 b1 a3;go_quiet (fail)
        go_wp2_with fail;go_ret;exact⟨aD HY.out.symm,aA.drewN K2.out _⟩
       have f8:decide (x0<0)=false:=Y8 h0;by_cases h1:(ps.length:Int)<=x0
       ·have HY:=hid (a1.out 5 (by decide) (by rw[a5.out,if_pos (Or.inr h1)]));have d9:decide ((ps.length:Int)<=x0)=true:=Y7 h1;clear a5 b1 a3;go_quiet (fail)
        go_wp2_with fail;go_ret;exact⟨aD HY.out.symm,aA.drewN K2.out _⟩
       have d9:decide ((ps.length:Int)<=x0)=false:=Y8 h1;obtain⟨q,rfl⟩:∃q:Nat,x0=q:=⟨x0.toNat,by omega⟩;have c6:q<ps.length:=by omega
       obtain⟨tb,h5,g6,g3,g4,-,b5⟩:=(HP.out.keep hS K2.out).get c6;cases g3;obtain⟨cs,f9,d5⟩:=b5 q c6;have b8:=g9.out _ (U5 c6);have a8:Hid (onE ps wi.on j=if x1<0\/(ps[q].fl.length:Int)<=x1 then 5 else if 0<j/\¬(y0<(q:Int)\/y0=(q:Int)/\y1<x1) then 6 else 0):=by
        show _=_;rw[a5.out,if_neg (by omega),Y3,fC ps q c6]
       generalize ps[q]=p at d5 a8 b8;obtain⟨kk,a,fl,nt,kids,kp,fp,kc,fc,h7,g2,rfl,hf,hn⟩:=d5.spelt;obtain⟨-,-,-,e8,-⟩:=dK f9;have g5:tb<W2.heap.size:=R8 (hS tb g4) K2.out.size;clear f9 d5 b5 hf hn h7 a5;rcases p with ⟨pn,pv,psl,fs,nd⟩;simp only at g2 e8 a8 b8;by_cases h2:x1<0
       ·have HY:=hid (a1.out 5 (by decide) (by rw[a8.out,if_pos (Or.inl h2)]));have f6:decide (x1<0)=true:=Y7 h2;clear a8 b1 a3;go_quiet (fail)
        go_wp2_with fail;go_ret;exact⟨aD HY.out.symm,aA.drewN K2.out _⟩
       have f6:decide (x1<0)=false:=Y8 h2;by_cases h3:(fs.length:Int)<=x1
       ·have HY:=hid (a1.out 5 (by decide) (by rw[a8.out,if_pos (Or.inr h3)]));have f0:decide ((fs.length:Int)<=x1)=true:=Y7 h3;clear a8 b1 a3;go_quiet (fail)
        go_wp2_with fail;go_ret;exact⟨aD HY.out.symm,aA.drewN K2.out _⟩
       have f0:decide ((fs.length:Int)<=x1)=false:=Y8 h3;have i7:q<8:=by have:=g7.out;omega
       have c7:Hid (onE ps wi.on j=if 10*(q:Int)+x1<=la then 6 else 0):=by
        show _=_;rw[a8.out,if_neg (by omega)];by_cases hj0:0<j
        ·obtain⟨ea,eb,ec⟩:=b1.out hj0;have hl:=aUa (x0:=(q:Int)) (x1:=x1) (y0:=y0) (y1:=y1) (by omega) (by omega) eb ec;rw[ea];by_cases hc:10*(q:Int)+x1<=10*y0+y1
         ·rw[if_pos hc,if_pos ⟨hj0,hl.1 hc⟩]
         ·rw[if_neg hc,if_neg (fun h=>hc (hl.2 h.2))]
        ·have ea:=a3.out (by omega);rw[ea,if_neg (fun h=>hj0 h.1),if_neg (by omega)]
       clear a8 b1 a3;go_quiet (fail)
       have k4:aA W2 (W2.drewN nq):=aA.drewN (aA.refl _) _;generalize W2.drewN nq=W4 at k4 |-
       have K4:=hid (K2.out.trans k4);have V4:=hid (V2.out.keep k4 V2.out.facts.2.2);have X4:=hid (X2.out.keep k4 X2.out.1);have b4:=B2.out.keep k4 B2.out.1;have h8:=b4.2;have g1:=b4.1;clear k4 b4 d3 d1 d0 d8 e8 K2 V2 X2 B2 f8 d9 f6 f0;have i3:x1<2:=by omega
       have i5:(10*(q:Int))<=70:=by omega
       by_cases hle:10*(q:Int)+x1<=la
       ·have HY:=hid (a1.out 6 (by decide) (by rw[c7.out,if_pos hle]));clear c7;go_wp2_with fail;go_ret;exact⟨aD HY.out.symm,K4.out⟩
       ·have HY:Hid (onE ps wi.on j=0):=by show _=_;rw[c7.out,if_neg hle]
        clear c7;go_wp2_with fail;go_roundg (wi.on.length-(j+1));case rel=>exact⟨j+1,10*(q:Int)+x1,by omega,by go_num,by go_num,fun h=>absurd h (by omega),fun _=>by rw[e4.out];exact⟨rfl,by omega,by omega⟩,by rw[a2.out,a7.out,HY.out];rfl,K4.out,V4.out,X4.out⟩
        case measure=>omega
      ·go_wp2_with fail;go_ret;exact⟨aD (by rw[e3.out,a2.out,show wi.on.length-j=0 by omega];rfl),HK.out⟩
end Go.Proofs.YthjlcjdlelkkdaaGreatDoor
namespace Go.Proofs.YthjlcjdlelkkdaaGreatDoor
open Go.RowKit
theorem aVd{ps:List PK}(wi:WI)(h:cA ps≠0):bB ps wi=cA ps:=by
 have h1:dZ ps wi.ins=cA ps:=by unfold dZ;rw[if_pos h]
 unfold bB;rw[if_pos (by rw[h1];exact h),h1]
theorem aNk(S:Nat->Prop)(ps:List PK)(wi:WI)(pv tsv inv mav onv:Value)(w:World)(hS:∀b,S b->b<w.heap.size)(hp:aZ S w ps pv)(hw:dA S w wi tsv inv mav onv):
  Calls Tryz.prog 6 #[.agg #[pv],.agg #[tsv,inv,mav,onv]] w fun e w'=>e=.returned (.int .i64 (bB ps wi))/\aA w w':=by
 have HP:=hid hp;have HW:=hid hw;clear hp hw;go_enter Tryz.func6,Tryz.ntmps6;go_upto_region 1 with fail;refine bE (fun W'=>aA w W'/\aE w.heap.size 24 pv W'/\aF (w.heap.size+1) 30 #[tsv,inv,mav,onv] W') ⟨(aA.alloc _ _).alloc' _,(aE.new _ _ _).keep (aA.alloc _ _) (by simp),?_⟩ ?_
 ·have:=aF.new (w.alloc (.cells #[pv] 24)) 30 #[tsv,inv,mav,onv];rw[aC] at this;exact this
 rintro W1 ⟨k1,v1,b1⟩;have K1:=hid k1;have V1:=hid v1;have B1:=hid b1;generalize w.heap.size=b at V1 B1 |-
 clear k1 v1 b1;have a1:=V1.out.facts.1;have a2:=V1.out.facts.2.2;go_wp2_with fail;refine (sQ S ps _ W1 (fun c hc=>R8 (hS c hc) K1.out.size) (HP.out.keep hS K1.out)).mono ?_;rintro e W2 ⟨rfl,k2⟩;have K2:=hid (K1.out.trans k2);have V2:=hid (V1.out.keep k2 V1.out.facts.2.2);have B2:=hid (B1.out.keep k2 B1.out.facts.2.2);clear a1 a2 V1 B1 k2;by_cases hz:cA ps=0
 ·have HZ:=hid hz;have a0:(cA ps==0)=true:=by simpa using hz
  have a4:(cA ps != 0)=false:=by simp[bne,a0]
  clear hz;have a1:=V2.out.facts.1;have a2:=V2.out.facts.2.2;have a8:W2.cell? ⟨b+1,0,none⟩=some tsv:=B2.out.facts.1 0;have a5:W2.cell? ⟨b+1,1,none⟩=some inv:=B2.out.facts.1 1;have a6:W2.cell? ⟨b+1,2,none⟩=some mav:=B2.out.facts.1 2;have a7:W2.cell? ⟨b+1,3,none⟩=some onv:=B2.out.facts.1 3;have a9:=B2.out.facts.2.2;go_wp2_with fail;refine (aFf S ps wi _ _ _ _ _ W2 (fun c hc=>R8 (hS c hc) K2.out.size) (HP.out.keep hS K2.out) HZ.out (HW.out.keep hS K2.out)).mono ?_;rintro e W3 ⟨rfl,k3⟩;have K3:=hid (K2.out.trans k3);clear k3;go_wp2_with fail;go_ret;exact⟨rfl,K3.out⟩
 ·have a3:=hid (aVd wi hz);have a0:(cA ps==0)=false:=by simpa using hz
  have a4:(cA ps != 0)=true:=by simp[bne,a0]
  clear hz;go_wp2_with fail;go_ret;exact⟨by rw[a3.out];rfl,K2.out⟩
theorem aRj(S:Nat->Prop)(ps:List PK)(wi:WI)(pv tsv inv mav onv mdv:Value)(n0 b:Nat)(md:List Bool)(w:World)(hS:∀b,S b->b<w.heap.size)(hp:aZ S w ps pv)(hon:gT S w wi.on onv)(hmd:bC S w md mdv)(hz:bB ps wi=0)(hc:ChM b pv tsv inv mav onv (plI wi.ins++cP (plI wi.ins) ps.length) n0 (inI (plI wi.ins)) w)(hml:(aB ps wi).many<=md.length):
  Calls Tryz.prog 48 #[mdv,.pointer (some ⟨b+3,0,none⟩),.pointer (some ⟨b+5,0,none⟩),.pointer (some ⟨b,0,none⟩),.pointer (some ⟨b+1,0,none⟩)] w fun e w'=>aA w w'/\∃v,e=.returned v/\cD (fun c=>w.heap.size<=c/\c<w'.heap.size) w' (bP ps wi md) v:=by
 obtain⟨hT,a2,-⟩:=cT hz;obtain⟨h8,a3,-,a1,a4,-⟩:=jL a2;have a0:=jQ a2;have a5:=(oV wi hT).1;have a6:=aKj a0 fun x hx=>(a1 x hx).1;have h0:∀x∈plI wi.ins,0<=x:=fun x hx=>(a1 x hx).1;refine (aRm S ps wi.on pv tsv inv mav onv _ n0 b _ md mdv w hS hp hon hmd hc h8 a3 (by omega) (fun x hx=>?_) (by omega)).mono ?_
 ·rw[mQ ps wi h0] at hx;obtain⟨i,hi,rfl⟩:=Q4.1 hx;have:=(Cn.CT.order_mem a0 i).1 hi;rw[dC] at this;omega
 ·rintro e w' ⟨k,v,rfl,hv⟩;rw[aRn ps wi md a0 h0] at hv;exact⟨k,v,rfl,hv⟩
end Go.Proofs.YthjlcjdlelkkdaaGreatDoor
