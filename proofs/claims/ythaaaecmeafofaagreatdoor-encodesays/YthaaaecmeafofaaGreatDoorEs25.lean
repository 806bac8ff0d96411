/- Steps of the proof: RefCheckNeed, RefTree, RefSet. -/
import Derived.Test.YthaaaecmeafofaaGreatDoorEs22
import Derived.Test.YthaaaecmeafofaaGreatDoorEs24
import Derived.Laws.EntriesVeiled
import Derived.Test.YthaaaecmeafofaaGreatDoorEs08
import Derived.Test.YthaaaecmeafofaaGreatDoorEs10
set_option maxHeartbeats 16000000
set_option maxRecDepth 100000
namespace Go.Proofs.YthaaaecmeafofaaGreatDoor
open Go.RowKit
mutual
def cM:NT->Int
 | .node k a fl nt kids=>if aZ (.node k a fl nt kids)≠0 then aZ (.node k a fl nt kids) else dI kids
def dI:List NT->Int
 | []=>0
 | t :: ts=>if cM t≠0 then cM t else dI ts
end
mutual
theorem uO (inc:Int->Int) : ∀ (t:NT) (s d:Int),bV inc fE s t d=(cM t,cM t==0)
 | .node k a fl nt kids,s,d=>by
  rw [bV,cM]
  by_cases h:aZ (.node k a fl nt kids)=0
  ·have e:(fE s (.node k a fl nt kids) d).2=true:=by simp [fE,h]
   have e1:(fE s (.node k a fl nt kids) d).1=0:=by simp [fE,h]
   rw [if_pos e,e1,if_neg (by simp [h]),tY]
  ·have e : ¬ (fE s (.node k a fl nt kids) d).2=true:=by simp [fE,h]
   rw [if_neg e,if_pos h]
   refine Prod.ext rfl ?_
   simp [h]
theorem tY (inc:Int->Int) : ∀ (ts:List NT) (d:Int),bI inc fE 0 ts d=(dI ts,dI ts==0)
 | [],d=>by rw [bI,dI];rfl
 | t :: ts,d=>by
  rw [bI,uO inc t 0 d,dI]
  by_cases h:cM t=0
  ·rw [if_pos (by simp [h]),if_neg (by simp [h]),h,tY]
  ·rw [if_neg (by simp [h]),if_pos h]
   refine Prod.ext rfl ?_
   simp [h]
end
theorem aGk (t:NT):cV t=if dB t=true then 2 else cM t:=by
 unfold cV;rw [uO]
theorem wX (k:Int) (a:At) (fl:ByteArray) (n:Bool):cM (.node k a fl n [])=aZ (.node k a fl n []):=by
 rw [cM,dI]
 split
 ·rfl
 ·rename_i h
  simp at h
  exact h.symm
theorem uD (k:Int) (a:At) (fl:ByteArray) (n:Bool) (hk:k=1∨k=2):aZ (.node k a fl n [])=if (fl.toList.isEmpty && !n)=true then fA a else 4:=by
 rw [aZ]
 rcases hk with rfl | rfl
 ·cases h:fl.toList.isEmpty<;>cases n<;>simp [bP,bU,h]
 ·cases h:fl.toList.isEmpty<;>cases n<;>simp [bP,bU,h]
def aKt (c:Nat) (w:World):Prop:=aE c 106 (.func (.func 120) #[] #[.pointer (some ⟨c,0,none⟩)]) w
theorem kK (args:Array Value) (w:World):(callFunc 120 args).run Tryz.prog w=.ok (.enter 120 args) w:=enters_of Tryz.func120 (by kernel_rfl) rfl args w
theorem yL (c:Nat) (S:Nat->Prop) : ∀ (m:Nat) (t:NT),t.size<=m->∀ (cs:List Value) (w:World),(∀ b,S b->b<w.heap.size)->aKt c w->aF S w t cs->
  Calls Tryz.prog 120 #[.agg cs.toArray,.pointer (some ⟨c,0,none⟩)] w fun e w'=>e=.returned (.int .i64 (cM t))/\aA w w':=by
 intro m
 induction m with
 | zero=>
  rintro ⟨k,a,fl,nt,kids⟩ hm
  rw [NT.size] at hm;omega
 | succ m ih=>
  rintro ⟨k,a,fl,nt,kids⟩ hm cs w hS hself hn
  rw [NT.size] at hm
  rw [aF] at hn
  obtain ⟨kp,kc,rfl,hcap,hmax,hkids⟩:=hn
  have hent:=kK
  have HK:=hid hkids
  have HIH:=hid ih
  have HV:Hid (aE c 106 (.func (.func 120) #[] #[.pointer (some ⟨c,0,none⟩)]) w):=hself
  have KB0:=hid (aA.alloc w (.cells #[.int .i64 k,.string a.n,.int .i64 a.op,.int .i64 a.v,.int .i64 a.sl,.string a.f,.bool a.on,.string fl,.bool nt,.slice kp kids.length kc] 74))
  have HB0:Hid (aJ w.heap.size #[.int .i64 k,.string a.n,.int .i64 a.op,.int .i64 a.v,.int .i64 a.sl,.string a.f,.bool a.on,.string fl,.bool nt,.slice kp kids.length kc] (w.alloc (.cells #[.int .i64 k,.string a.n,.int .i64 a.op,.int .i64 a.v,.int .i64 a.sl,.string a.f,.bool a.on,.string fl,.bool nt,.slice kp kids.length kc] 74))):=aJ.new w #[.int .i64 k,.string a.n,.int .i64 a.op,.int .i64 a.v,.int .i64 a.sl,.string a.f,.bool a.on,.string fl,.bool nt,.slice kp kids.length kc] 74
  clear ih hkids hself
  go_enter Tryz.func120,Tryz.ntmps120
  go_upto_region 1 with fail
  generalize w.alloc (.cells #[.int .i64 k,.string a.n,.int .i64 a.op,.int .i64 a.v,.int .i64 a.sl,.string a.f,.bool a.on,.string fl,.bool nt,.slice kp kids.length kc] 74)=W0 at KB0 HB0 ⊢
  have hc0:=HB0.out.2
  have hl0:=HB0.out.1
  have KBW:=KB0
  by_cases hk1:k<1
  ·have q1:(k==1)=false:=by simp;omega
   have q2:(k==2)=false:=by simp;omega
   have HE:Hid (cM (.node k a fl nt kids)=4):=by
    show _=_
    rw [cM,show aZ (.node k a fl nt kids)=4 by rw [aZ,if_pos];simp [bP];omega];rfl
   go_wp2_with fail
   go_ret
   exact ⟨aD HE.out.symm,KBW.out⟩
  ·by_cases hk5:5<k
   ·have q1:(k==1)=false:=by simp;omega
    have q2:(k==2)=false:=by simp;omega
    have HE:Hid (cM (.node k a fl nt kids)=4):=by
     show _=_
     rw [cM,show aZ (.node k a fl nt kids)=4 by rw [aZ,if_pos];simp [bP];omega];rfl
    go_wp2_with fail
    go_ret
    exact ⟨aD HE.out.symm,KBW.out⟩
   ·have hk:k=1∨k=2∨k=3∨k=4∨k=5:=by omega
    clear hk1 hk5
    rcases hk with rfl | rfl | rfl | rfl | rfl
    ·by_cases hlen:kids = []
     ·have HE0:Hid (∀ n,cM (.node 1 a fl n kids)=if (fl.toList.isEmpty && !n)=true then fA a else 4):=fun n=>by
       rw [hlen,wX,uD 1 a fl n (by decide)]
      have hl0':kids.length=0:=by rw [hlen];rfl
      cases hfe:fl.toList.isEmpty<;>cases nt
      ·have HE:=hid (HE0.out false)
       rw [hfe] at HE
       go_wp2_with fail
       go_ret
       exact ⟨aD HE.out.symm,KBW.out⟩
      ·have HE:=hid (HE0.out true)
       rw [hfe] at HE
       go_wp2_with fail
       go_ret
       exact ⟨aD HE.out.symm,KBW.out⟩
      ·have HE:=hid (HE0.out false)
       rw [hfe] at HE
       go_wp2_with fail
       refine (jW _ _ _ _ _ _ _).mono ?_
       rintro e w3 ⟨rfl,k3⟩
       have K3:=hid (KBW.out.trans k3)
       clear k3
       go_wp2_with fail
       go_ret
       exact ⟨aD HE.out.symm,K3.out⟩
      ·have HE:=hid (HE0.out true)
       rw [hfe] at HE
       go_wp2_with fail
       go_ret
       exact ⟨aD HE.out.symm,KBW.out⟩
     ·have hpos:0<kids.length:=List.length_pos_iff.2 hlen
      have hne0:((kids.length:Int) != 0)=true:=by simp;omega
      have HE:Hid (cM (.node 1 a fl nt kids)=4):=by
       show _=_
       rw [cM,show aZ (.node 1 a fl nt kids)=4 by rw [aZ,if_pos];simp [bP,bU,hpos]];rfl
      go_wp2_with fail
      go_ret
      exact ⟨aD HE.out.symm,KBW.out⟩
    ·by_cases hlen:kids = []
     ·have HE0:Hid (∀ n,cM (.node 2 a fl n kids)=if (fl.toList.isEmpty && !n)=true then fA a else 4):=fun n=>by
       rw [hlen,wX,uD 2 a fl n (by decide)]
      have hl0':kids.length=0:=by rw [hlen];rfl
      cases hfe:fl.toList.isEmpty<;>cases nt
      ·have HE:=hid (HE0.out false)
       rw [hfe] at HE
       go_wp2_with fail
       go_ret
       exact ⟨aD HE.out.symm,KBW.out⟩
      ·have HE:=hid (HE0.out true)
       rw [hfe] at HE
       go_wp2_with fail
       go_ret
       exact ⟨aD HE.out.symm,KBW.out⟩
      ·have HE:=hid (HE0.out false)
       rw [hfe] at HE
       go_wp2_with fail
       refine (jW _ _ _ _ _ _ _).mono ?_
       rintro e w3 ⟨rfl,k3⟩
       have K3:=hid (KBW.out.trans k3)
       clear k3
       go_wp2_with fail
       go_ret
       exact ⟨aD HE.out.symm,K3.out⟩
      ·have HE:=hid (HE0.out true)
       rw [hfe] at HE
       go_wp2_with fail
       go_ret
       exact ⟨aD HE.out.symm,KBW.out⟩
     ·have hpos:0<kids.length:=List.length_pos_iff.2 hlen
      have hne0:((kids.length:Int) != 0)=true:=by simp;omega
      have HE:Hid (cM (.node 2 a fl nt kids)=4):=by
       show _=_
       rw [cM,show aZ (.node 2 a fl nt kids)=4 by rw [aZ,if_pos];simp [bP,bU,hpos]];rfl
      go_wp2_with fail
      go_ret
      exact ⟨aD HE.out.symm,KBW.out⟩
    ·have heq:=fun wx=>oD a.n a.op a.v a.sl a.f a.on ⟨#[]⟩ 0 0 0 ⟨#[]⟩ false wx
     cases hz:lG a
     ·rw [show iM a.n a.op a.v a.sl a.f a.on ⟨#[]⟩ 0 0 0 ⟨#[]⟩ false=false from hz] at heq
      have HE:Hid (cM (.node 3 a fl nt kids)=4):=by
       show _=_
       rw [cM,show aZ (.node 3 a fl nt kids)=4 by rw [aZ,if_pos];simp [bP,bU,hz]];rfl
      go_wp2_with fail
      go_ret
      exact ⟨aD HE.out.symm,KBW.out⟩
     ·rw [show iM a.n a.op a.v a.sl a.f a.on ⟨#[]⟩ 0 0 0 ⟨#[]⟩ false=true from hz] at heq
      cases hfe:fl.toList.isEmpty<;>cases nt
      iterate 2
       ·have HE:Hid (∀ n,cM (.node 3 a fl n kids)=4):=fun n=>by
         rw [cM,show aZ (.node 3 a fl n kids)=4 by rw [aZ,if_pos];simp [bP,bU,hz,hfe]];rfl
        go_wp2_with fail
        go_ret
        exact ⟨aD (HE.out _).symm,KBW.out⟩
      rotate_left
      ·have HE:Hid (cM (.node 3 a fl true kids)=4):=by
        show _=_
        rw [cM,show aZ (.node 3 a fl true kids)=4 by rw [aZ,if_pos];simp [bP,bU,hz,hfe]];rfl
       go_wp2_with fail
       go_ret
       exact ⟨aD HE.out.symm,KBW.out⟩
      ·have HE:Hid (cM (.node 3 a fl false kids)=dI kids):=by
        show _=_
        rw [cM,show aZ (.node 3 a fl false kids)=0 by simp [aZ,bP,bU,hz,hfe]];rfl
       have HBW:Hid (aJ w.heap.size #[.int .i64 3,.string a.n,.int .i64 a.op,.int .i64 a.v,.int .i64 a.sl,.string a.f,.bool a.on,.string fl,.bool false,.slice kp kids.length kc] W0):=HB0
       have hc1:=HBW.out.2
       have hl1:=HBW.out.1
       go_wp2_with fail
       clear hc1
       go_loopg [73] kids.length (fun gk i wr=> ∃ j:Nat,j+gk=kids.length/\i=.int .i64 j/\dI kids=dI (kids.drop j)/\aA w wr)
       case atStart=>exact ⟨0,by simp,rfl,by simp,KBW.out⟩
       case round=>
        obtain ⟨j,hj,rfl,heq,hkw⟩:=hrel
        have HEQ:=hid heq
        have HKW:=hid hkw
        clear heq hkw HBW KBW
        by_cases hlt:j<kids.length
        ·obtain ⟨p,cs,hp,hSp,hcell,hneed⟩:=cX HK.out j hlt
         have HN:=hid hneed
         have HDR:Hid (dI kids=if cM kids[j]≠0 then cM kids[j] else dI (kids.drop (j+1))):=by show _=_;rw [HEQ.out,List.drop_eq_getElem_cons hlt,dI]
         have hih:=HIH.out kids[j] (by have:=dU kids j hlt;omega)
         subst hp
         rw [Nat.zero_add] at hcell
         cases hkid:kids[j] with
         | node k' a' fl' nt' kids'=>
         rw [hkid,aF] at hneed
         obtain ⟨kp',kc',rfl,-,-,-⟩:=hneed
         have hcell' : ∀ m v,([.int .i64 k',.string a'.n,.int .i64 a'.op,.int .i64 a'.v,.int .i64 a'.sl,.string a'.f,.bool a'.on,.string fl',.bool nt',.slice kp' kids'.length kc']:List Value)[m]? = some v->wr.cell? ((p.add (j*10)).add m)=some v:=fun m v hv=>(HKW.out.cell (by rw [bM,bM];exact hS _ hSp)).trans (hcell m v hv)
         obtain ⟨c0,c1,c2,c3,c4,c5,c6,c7,c8,c9⟩:=fS hcell'
         clear hcell hcell' hkid
         have K2:=hid (HKW.out.alloc' (.cells #[.int .i64 k',.string a'.n,.int .i64 a'.op,.int .i64 a'.v,.int .i64 a'.sl,.string a'.f,.bool a'.on,.string fl',.bool nt',.slice kp' kids'.length kc'] 74))
         have HV2:=HV.out.keep HKW.out HV.out.facts.2.2
         obtain ⟨hcv,-,hlv⟩:=HV2.facts
         have HIJ:=hid (hih [.int .i64 k',.string a'.n,.int .i64 a'.op,.int .i64 a'.v,.int .i64 a'.sl,.string a'.f,.bool a'.on,.string fl',.bool nt',.slice kp' kids'.length kc'] _ (fun b hb=>Nat.lt_of_lt_of_le (hS b hb) K2.out.size) (HV.out.keep K2.out HV.out.facts.2.2) (HN.out.keep hS K2.out))
         clear hih HV2
         generalize cM kids[j]=r at HDR HIJ
         go_wp2_with fail
         clear c0 c1 c2 c3 c4 c5 c6 c7 c8 c9
         refine HIJ.out.mono ?_
         rintro e w3 ⟨rfl,k3⟩
         have K3:=hid (K2.out.trans k3)
         clear k3 hcv
         by_cases hr:r=0
         ·have HX:Hid (dI kids=dI (kids.drop (j+1))):=by show _=_;rw [HDR.out,if_neg (by simp [hr])]
          subst hr
          go_wp2_with fail
          go_roundg (kids.length-(j+1))
          case measure=>omega
          case rel=>exact ⟨j+1,by omega,by go_num,HX.out,K3.out⟩
         ·have hr1:(r != 0)=true:=by simpa using hr
          have HX:Hid (dI kids=r):=by show _=_;rw [HDR.out,if_pos hr]
          clear hr
          go_wp2_with fail
          go_ret
          exact ⟨aD (by rw [HE.out,HX.out]),K3.out⟩
        ·have HX:Hid (dI kids=0):=by show _=_;rw [HEQ.out,List.drop_eq_nil_of_le (by omega),dI]
         go_wp2_with fail
         go_ret
         exact ⟨aD (by rw [HE.out,HX.out]),HKW.out⟩
    ·have heq:=fun wx=>oD a.n a.op a.v a.sl a.f a.on ⟨#[]⟩ 0 0 0 ⟨#[]⟩ false wx
     cases hz:lG a
     ·rw [show iM a.n a.op a.v a.sl a.f a.on ⟨#[]⟩ 0 0 0 ⟨#[]⟩ false=false from hz] at heq
      have HE:Hid (cM (.node 4 a fl nt kids)=4):=by
       show _=_
       rw [cM,show aZ (.node 4 a fl nt kids)=4 by rw [aZ,if_pos];simp [bP,bU,hz]];rfl
      go_wp2_with fail
      go_ret
      exact ⟨aD HE.out.symm,KBW.out⟩
     ·rw [show iM a.n a.op a.v a.sl a.f a.on ⟨#[]⟩ 0 0 0 ⟨#[]⟩ false=true from hz] at heq
      cases hfe:fl.toList.isEmpty<;>cases nt
      iterate 2
       ·have HE:Hid (∀ n,cM (.node 4 a fl n kids)=4):=fun n=>by
         rw [cM,show aZ (.node 4 a fl n kids)=4 by rw [aZ,if_pos];simp [bP,bU,hz,hfe]];rfl
        go_wp2_with fail
        go_ret
        exact ⟨aD (HE.out _).symm,KBW.out⟩
      rotate_left
      ·have HE:Hid (cM (.node 4 a fl true kids)=4):=by
        show _=_
        rw [cM,show aZ (.node 4 a fl true kids)=4 by rw [aZ,if_pos];simp [bP,bU,hz,hfe]];rfl
       go_wp2_with fail
       go_ret
       exact ⟨aD HE.out.symm,KBW.out⟩
      ·have HE:Hid (cM (.node 4 a fl false kids)=dI kids):=by
        show _=_
        rw [cM,show aZ (.node 4 a fl false kids)=0 by simp [aZ,bP,bU,hz,hfe]];rfl
       have HBW:Hid (aJ w.heap.size #[.int .i64 4,.string a.n,.int .i64 a.op,.int .i64 a.v,.int .i64 a.sl,.string a.f,.bool a.on,.string fl,.bool false,.slice kp kids.length kc] W0):=HB0
       have hc1:=HBW.out.2
       have hl1:=HBW.out.1
       go_wp2_with fail
       clear hc1
       go_loopg [73] kids.length (fun gk i wr=> ∃ j:Nat,j+gk=kids.length/\i=.int .i64 j/\dI kids=dI (kids.drop j)/\aA w wr)
       case atStart=>exact ⟨0,by simp,rfl,by simp,KBW.out⟩
       case round=>
        obtain ⟨j,hj,rfl,heq,hkw⟩:=hrel
        have HEQ:=hid heq
        have HKW:=hid hkw
        clear heq hkw HBW KBW
        by_cases hlt:j<kids.length
        ·obtain ⟨p,cs,hp,hSp,hcell,hneed⟩:=cX HK.out j hlt
         have HN:=hid hneed
         have HDR:Hid (dI kids=if cM kids[j]≠0 then cM kids[j] else dI (kids.drop (j+1))):=by show _=_;rw [HEQ.out,List.drop_eq_getElem_cons hlt,dI]
         have hih:=HIH.out kids[j] (by have:=dU kids j hlt;omega)
         subst hp
         rw [Nat.zero_add] at hcell
         cases hkid:kids[j] with
         | node k' a' fl' nt' kids'=>
         rw [hkid,aF] at hneed
         obtain ⟨kp',kc',rfl,-,-,-⟩:=hneed
         have hcell' : ∀ m v,([.int .i64 k',.string a'.n,.int .i64 a'.op,.int .i64 a'.v,.int .i64 a'.sl,.string a'.f,.bool a'.on,.string fl',.bool nt',.slice kp' kids'.length kc']:List Value)[m]? = some v->wr.cell? ((p.add (j*10)).add m)=some v:=fun m v hv=>(HKW.out.cell (by rw [bM,bM];exact hS _ hSp)).trans (hcell m v hv)
         obtain ⟨c0,c1,c2,c3,c4,c5,c6,c7,c8,c9⟩:=fS hcell'
         clear hcell hcell' hkid
         have K2:=hid (HKW.out.alloc' (.cells #[.int .i64 k',.string a'.n,.int .i64 a'.op,.int .i64 a'.v,.int .i64 a'.sl,.string a'.f,.bool a'.on,.string fl',.bool nt',.slice kp' kids'.length kc'] 74))
         have HV2:=HV.out.keep HKW.out HV.out.facts.2.2
         obtain ⟨hcv,-,hlv⟩:=HV2.facts
         have HIJ:=hid (hih [.int .i64 k',.string a'.n,.int .i64 a'.op,.int .i64 a'.v,.int .i64 a'.sl,.string a'.f,.bool a'.on,.string fl',.bool nt',.slice kp' kids'.length kc'] _ (fun b hb=>Nat.lt_of_lt_of_le (hS b hb) K2.out.size) (HV.out.keep K2.out HV.out.facts.2.2) (HN.out.keep hS K2.out))
         clear hih HV2
         generalize cM kids[j]=r at HDR HIJ
         go_wp2_with fail
         clear c0 c1 c2 c3 c4 c5 c6 c7 c8 c9
         refine HIJ.out.mono ?_
         rintro e w3 ⟨rfl,k3⟩
         have K3:=hid (K2.out.trans k3)
         clear k3 hcv
         by_cases hr:r=0
         ·have HX:Hid (dI kids=dI (kids.drop (j+1))):=by show _=_;rw [HDR.out,if_neg (by simp [hr])]
          subst hr
          go_wp2_with fail
          go_roundg (kids.length-(j+1))
          case measure=>omega
          case rel=>exact ⟨j+1,by omega,by go_num,HX.out,K3.out⟩
         ·have hr1:(r != 0)=true:=by simpa using hr
          have HX:Hid (dI kids=r):=by show _=_;rw [HDR.out,if_pos hr]
          clear hr
          go_wp2_with fail
          go_ret
          exact ⟨aD (by rw [HE.out,HX.out]),K3.out⟩
        ·have HX:Hid (dI kids=0):=by show _=_;rw [HEQ.out,List.drop_eq_nil_of_le (by omega),dI]
         go_wp2_with fail
         go_ret
         exact ⟨aD (by rw [HE.out,HX.out]),HKW.out⟩
    ·have heq:=fun wx=>oD a.n a.op a.v a.sl a.f a.on ⟨#[]⟩ 0 0 0 ⟨#[]⟩ false wx
     cases hz:lG a
     ·rw [show iM a.n a.op a.v a.sl a.f a.on ⟨#[]⟩ 0 0 0 ⟨#[]⟩ false=false from hz] at heq
      have HE:Hid (cM (.node 5 a fl nt kids)=4):=by
       show _=_
       rw [cM,show aZ (.node 5 a fl nt kids)=4 by rw [aZ,if_pos];simp [bP,bU,hz]];rfl
      go_wp2_with fail
      go_ret
      exact ⟨aD HE.out.symm,KBW.out⟩
     ·rw [show iM a.n a.op a.v a.sl a.f a.on ⟨#[]⟩ 0 0 0 ⟨#[]⟩ false=true from hz] at heq
      go_wp2_with fail
      refine (dM _ _).mono ?_
      rintro e w1 ⟨rfl,k1⟩
      have HBW:=hid (HB0.out.keep k1 HB0.out.1)
      have KBW:=hid (KB0.out.trans k1)
      clear k1 hc0
      cases hnm:aK fl.data.toList
      ·have HE:Hid (cM (.node 5 a fl nt kids)=1):=by
        show _=_
        rw [cM,show aZ (.node 5 a fl nt kids)=1 by simp [aZ,bP,bU,hz,hnm]];rfl
       go_wp2_with fail
       go_ret
       exact ⟨aD HE.out.symm,KBW.out⟩
      ·have HE:Hid (cM (.node 5 a fl nt kids)=dI kids):=by
        show _=_
        rw [cM,show aZ (.node 5 a fl nt kids)=0 by simp [aZ,bP,bU,hz,hnm]];rfl
       have hc1:=HBW.out.2
       have hl1:=HBW.out.1
       go_wp2_with fail
       clear hc1
       go_loopg [73] kids.length (fun gk i wr=> ∃ j:Nat,j+gk=kids.length/\i=.int .i64 j/\dI kids=dI (kids.drop j)/\aA w wr)
       case atStart=>exact ⟨0,by simp,rfl,by simp,KBW.out⟩
       case round=>
        obtain ⟨j,hj,rfl,heq,hkw⟩:=hrel
        have HEQ:=hid heq
        have HKW:=hid hkw
        clear heq hkw HBW KBW
        by_cases hlt:j<kids.length
        ·obtain ⟨p,cs,hp,hSp,hcell,hneed⟩:=cX HK.out j hlt
         have HN:=hid hneed
         have HDR:Hid (dI kids=if cM kids[j]≠0 then cM kids[j] else dI (kids.drop (j+1))):=by show _=_;rw [HEQ.out,List.drop_eq_getElem_cons hlt,dI]
         have hih:=HIH.out kids[j] (by have:=dU kids j hlt;omega)
         subst hp
         rw [Nat.zero_add] at hcell
         cases hkid:kids[j] with
         | node k' a' fl' nt' kids'=>
         rw [hkid,aF] at hneed
         obtain ⟨kp',kc',rfl,-,-,-⟩:=hneed
         have hcell' : ∀ m v,([.int .i64 k',.string a'.n,.int .i64 a'.op,.int .i64 a'.v,.int .i64 a'.sl,.string a'.f,.bool a'.on,.string fl',.bool nt',.slice kp' kids'.length kc']:List Value)[m]? = some v->wr.cell? ((p.add (j*10)).add m)=some v:=fun m v hv=>(HKW.out.cell (by rw [bM,bM];exact hS _ hSp)).trans (hcell m v hv)
         obtain ⟨c0,c1,c2,c3,c4,c5,c6,c7,c8,c9⟩:=fS hcell'
         clear hcell hcell' hkid
         have K2:=hid (HKW.out.alloc' (.cells #[.int .i64 k',.string a'.n,.int .i64 a'.op,.int .i64 a'.v,.int .i64 a'.sl,.string a'.f,.bool a'.on,.string fl',.bool nt',.slice kp' kids'.length kc'] 74))
         have HV2:=HV.out.keep HKW.out HV.out.facts.2.2
         obtain ⟨hcv,-,hlv⟩:=HV2.facts
         have HIJ:=hid (hih [.int .i64 k',.string a'.n,.int .i64 a'.op,.int .i64 a'.v,.int .i64 a'.sl,.string a'.f,.bool a'.on,.string fl',.bool nt',.slice kp' kids'.length kc'] _ (fun b hb=>Nat.lt_of_lt_of_le (hS b hb) K2.out.size) (HV.out.keep K2.out HV.out.facts.2.2) (HN.out.keep hS K2.out))
         clear hih HV2
         generalize cM kids[j]=r at HDR HIJ
         go_wp2_with fail
         clear c0 c1 c2 c3 c4 c5 c6 c7 c8 c9
         refine HIJ.out.mono ?_
         rintro e w3 ⟨rfl,k3⟩
         have K3:=hid (K2.out.trans k3)
         clear k3 hcv
         by_cases hr:r=0
         ·have HX:Hid (dI kids=dI (kids.drop (j+1))):=by show _=_;rw [HDR.out,if_neg (by simp [hr])]
          subst hr
          go_wp2_with fail
          go_roundg (kids.length-(j+1))
          case measure=>omega
          case rel=>exact ⟨j+1,by omega,by go_num,HX.out,K3.out⟩
         ·have hr1:(r != 0)=true:=by simpa using hr
          have HX:Hid (dI kids=r):=by show _=_;rw [HDR.out,if_pos hr]
          clear hr
          go_wp2_with fail
          go_ret
          exact ⟨aD (by rw [HE.out,HX.out]),K3.out⟩
        ·have HX:Hid (dI kids=0):=by show _=_;rw [HEQ.out,List.drop_eq_nil_of_le (by omega),dI]
         go_wp2_with fail
         go_ret
         exact ⟨aD (by rw [HE.out,HX.out]),HKW.out⟩
end Go.Proofs.YthaaaecmeafofaaGreatDoor
namespace Go.Proofs.YthaaaecmeafofaaGreatDoor
open Go.RowKit
theorem oP (t:NT) (cs:List Value) (w:World) (S:Nat->Prop) (hS : ∀ b,S b->b<w.heap.size) (hn:aF S w t cs) :
  Calls Tryz.prog 55 #[.agg cs.toArray] w fun e w'=>e=.returned (.int .i64 (cV t))/\aA w w':=by
 have HN:=hid hn
 cases ht:t with
 | node k a fl nt kids=>
 rw [ht,aF] at hn
 obtain ⟨kp,kc,rfl,-,-,-⟩:=hn
 rw [← ht]
 have hent:=kK
 have hmf : ∀ (fn:Fn) (first cap:Array Value) (w:World),(Instr.makeFunc fn first cap).run Tryz.prog w=.ok (.func fn first cap) w:=fun _ _ _ _=>rfl
 have K0:=hid (aA.alloc w (.cells #[.int .i64 k,.string a.n,.int .i64 a.op,.int .i64 a.v,.int .i64 a.sl,.string a.f,.bool a.on,.string fl,.bool nt,.slice kp kids.length kc] 74))
 have HB0:Hid (aJ w.heap.size #[.int .i64 k,.string a.n,.int .i64 a.op,.int .i64 a.v,.int .i64 a.sl,.string a.f,.bool a.on,.string fl,.bool nt,.slice kp kids.length kc] (w.alloc (.cells #[.int .i64 k,.string a.n,.int .i64 a.op,.int .i64 a.v,.int .i64 a.sl,.string a.f,.bool a.on,.string fl,.bool nt,.slice kp kids.length kc] 74))):=aJ.new w #[.int .i64 k,.string a.n,.int .i64 a.op,.int .i64 a.v,.int .i64 a.sl,.string a.f,.bool a.on,.string fl,.bool nt,.slice kp kids.length kc] 74
 have HC:=hid (aGk t)
 have HL:=hid (yT t)
 have hb:=mP t 4
 clear ht
 go_enter Tryz.func55,Tryz.ntmps55
 go_wp2_with fail
 generalize w.alloc (.cells #[.int .i64 k,.string a.n,.int .i64 a.op,.int .i64 a.v,.int .i64 a.sl,.string a.f,.bool a.on,.string fl,.bool nt,.slice kp kids.length kc] 74)=W0 at K0 HB0 ⊢
 refine (aEz S _ t (Nat.le_refl _) 4 _ W0 (by decide) (fun b hb=>Nat.lt_of_lt_of_le (hS b hb) K0.out.size) (HN.out.keep hS K0.out)).mono ?_
 rintro e w1 ⟨rfl,k1⟩
 have K1:=hid (K0.out.trans k1)
 have HB1:=hid (HB0.out.keep k1 HB0.out.1)
 clear k1 K0 HB0
 generalize szN t 4=r at HL hb ⊢
 obtain ⟨r1,r2⟩:=r
 simp only at hb
 have BIG:(r1 > 20∨r2 > 4)->Hid (cV t=2):=fun h=>by
  show _=_
  rw [HC.out,if_pos (HL.out.1 h)]
 have SML : ¬ (r1 > 20∨r2 > 4)->Hid (cV t=cM t):=fun h=>by
  show _=_
  rw [HC.out,if_neg (fun e=>h (HL.out.2 e))]
 have HBIG:=hid BIG
 have HSML:=hid SML
 clear BIG SML
 by_cases h1:r1 > 20
 ·have HX:=HBIG.out (Or.inl h1)
  go_wp2_with fail
  go_ret
  exact ⟨aD HX.out.symm,K1.out⟩
 ·by_cases h2:r2 > 4
  ·have HX:=HBIG.out (Or.inr h2)
   go_wp2_with fail
   go_ret
   exact ⟨aD HX.out.symm,K1.out⟩
  ·have HX:=HSML.out (by omega)
   have hc1:=HB1.out.2
   have hl1:=HB1.out.1
   have V1:Hid (aE w1.heap.size 106 .nilFunc (w1.alloc (.cells #[.nilFunc] 106))):=aE.new _ _ _
   have KA:=hid (K1.out.alloc' (.cells #[.nilFunc] 106))
   have HBA:=hid (HB1.out.keep (aA.alloc w1 (.cells #[.nilFunc] 106)) HB1.out.1)
   go_upto_region 5 with fail
   generalize w1.alloc (.cells #[.nilFunc] 106)=W1 at V1 KA HBA ⊢
   clear hc1
   have hc1:=HBA.out.2
   obtain ⟨hcv,hzv,hlv⟩:=V1.out.facts
   have hws:=K1.out.size
   have V2:=hid (V1.out.set (.func (.func 120) #[] #[.pointer (some ⟨w1.heap.size,0,none⟩)]))
   have K2:Hid (aA w (W1.setCell ⟨w1.heap.size,0,none⟩ (.func (.func 120) #[] #[.pointer (some ⟨w1.heap.size,0,none⟩)]))):=KA.out.set (p:=⟨w1.heap.size,0,none⟩) hws _
   have hne:w.heap.size≠w1.heap.size:=by omega
   go_wp2_with fail
   clear hc1
   refine (yL w1.heap.size S _ t (Nat.le_refl _) _ _ (fun b hb=>Nat.lt_of_lt_of_le (hS b hb) K2.out.size) V2.out (HN.out.keep hS K2.out)).mono ?_
   rintro e w3 ⟨rfl,k3⟩
   have K3:=hid (K2.out.trans k3)
   clear k3
   go_wp2_with fail
   go_ret
   exact ⟨aD HX.out.symm,K3.out⟩
end Go.Proofs.YthaaaecmeafofaaGreatDoor
namespace Go.Proofs.YthaaaecmeafofaaGreatDoor
open Go.RowKit Go.Sort
theorem gK.keep {v:Value} {fs:List (List UInt8)} {w w':World} (h:gK v fs w) (k:aA w w'):gK v fs w':=by
 rcases h with h | ⟨g,cap,h1,h2,h3⟩
 ·exact Or.inl h
 ·exact Or.inr ⟨g,cap,h1,Nat.lt_of_lt_of_le h2 k.size,fun j x hx=>(k.cell (p:=⟨g,0+j,none⟩) h2).trans (h3 j x hx)⟩
theorem gK.len {v:Value} {fs:List (List UInt8)} {w:World} (h:gK v fs w) : ∃ p cap,v=.slice p fs.length cap:=by
 rcases h with ⟨rfl,p,cap,h⟩ | ⟨g,cap,h,-⟩
 ·exact ⟨p,cap,h⟩
 ·exact ⟨_,cap,h⟩
theorem aJy {a b:Bool} (h:a = !b):b = !a:=by cases a<;>cases b<;>first | rfl | cases h
theorem aHe (l:List UInt8):Op.bytesLess l l=false:=by
 induction l with
 | nil=>rfl
 | cons c l ih=>simp [Op.bytesLess,ih]
theorem zM (p q:PK):(Op.bytesLess p.n.toList q.n.toList||((p.n.toList==q.n.toList)&&decide (p.v<=q.v))) = !cT p q:=by
 unfold cT
 by_cases h:p.n=q.n
 ·rw [if_pos h,h,aHe]
  simp only [beq_self_eq_true,Bool.true_and,Bool.false_or]
  by_cases hv:p.v<=q.v
  ·rw [decide_eq_true hv,decide_eq_false (by omega)];rfl
  ·rw [decide_eq_false hv,decide_eq_true (by omega)];rfl
 ·have hb:(p.n.toList==q.n.toList)=false:=by
   rw [beq_eq_false_iff_ne]
   intro e
   rw [Lib.toList_data,Lib.toList_data] at e
   exact h (jM e)
  rw [if_neg h,Bool.not_not]
  unfold leS
  rw [hb];simp
theorem aAf {t:NT} (h:t.ok) : ∀ f∈t.flags,f.size<=maxLen:=by
 intro f hf
 have key : ∀ (m:Nat) (t:NT),t.size<=m->t.ok->∀ f∈t.flags,f.size<=maxLen:=by
  intro m
  induction m with
  | zero=>rintro ⟨k,a,fl,nt,kids⟩ hm;rw [NT.size] at hm;omega
  | succ m ih=>
   rintro ⟨k,a,fl,nt,kids⟩ hm hok f hf
   rw [NT.size] at hm
   rw [NT.ok] at hok
   rw [NT.flags,List.mem_append] at hf
   rcases hf with hf | hf
   ·split at hf
    ·rename_i h5
     obtain rfl:=List.mem_singleton.1 hf
     rcases eN hok.1 with ⟨hk,-⟩ | ⟨hk,-⟩ | ⟨-,-,hn⟩
     ·omega
     ·omega
     ·have:=kU hn
      rw [aQ] at this
      unfold maxLen;omega
    ·cases hf
   ·have hk : ∀ (ts:List NT),aT ts<=m->okL ts->∀ f∈bO ts,f.size<=maxLen:=by
     intro ts
     induction ts with
     | nil=>intro _ _ f hf;simp [bO] at hf
     | cons t ts iht=>
      intro hs ho f hf
      rw [aT] at hs
      rw [okL] at ho
      rw [bO,List.mem_append] at hf
      rcases hf with hf | hf
      ·exact ih t (by omega) ho.1 f hf
      ·exact iht (by omega) ho.2 f hf
    exact hk kids (by omega) hok.2 f hf
 exact key t.size t (Nat.le_refl _) h f hf
theorem oQ (S:Nat->Prop) (ps:List PK) (tv:Value) (w:World) (hS : ∀ b,S b->b<w.heap.size) (hp:aU S w ps tv) :
  Calls Tryz.prog 12 #[.agg #[tv]] w fun e w'=>e=.returned (.int .i64 (bZ ps))/\aA w w':=by
 have HP:=hid hp
 obtain ⟨tp,tc,rfl,hlen⟩:=hp.len
 clear hp
 by_cases h8:8<ps.length
 ·have h8':(8:Int)<(ps.length:Int):=by omega
  have HX:Hid (bZ ps=2):=by show _=_;unfold bZ;rw [if_pos h8]
  have k0:=hid (aA.alloc w (.cells #[.slice tp ps.length tc] 24))
  go_enter Tryz.func12,Tryz.ntmps12
  go_wp2_with fail
  go_ret
  exact ⟨aD HX.out.symm,k0.out⟩
 have h8' : ¬ (8:Int)<(ps.length:Int):=by omega
 have HX:Hid (bZ ps=aL (pkE ps) 0 ps.length):=by show _=_;unfold bZ;rw [if_neg h8]
 go_enter Tryz.func12,Tryz.ntmps12
 go_wp2_with fail
 go_loopg [19,3] ps.length (fun gk i s wr=> ∃ j:Nat,j+gk=ps.length/\i=.int .i64 j/\s=.int .i64 (bA ps j:Nat)/\bA ps j<=2*j/\aL (pkE ps) 0 ps.length=aL (pkE ps) j (ps.length-j)/\aA w wr/\aE w.heap.size 24 (.slice tp ps.length tc) wr)
 case atStart=>exact ⟨0,by simp,rfl,rfl,by simp [bA],rfl,aA.alloc _ _,aE.new _ _ _⟩
 case round=>
  obtain ⟨j,hj,rfl,rfl,hsm,he,hkp,hvt⟩:=hrel
  have HEQ:=hid he
  have HK:=hid hkp
  have HV:=hid hvt
  clear he hkp hvt
  by_cases hlt:j<ps.length
  ·obtain ⟨b,off,cap,htv,hb,-,hrow⟩:=HP.out.get hlt
   cases htv
   obtain ⟨cs,hcs,hp⟩:=hrow j hlt
   have HST:=hid (cU (f:=pkE ps) hlt)
   have HRET:Hid (∀ x:Int,x≠0->pkE ps j=x->bZ ps=x):=fun x hx hy=>by rw [HX.out,HEQ.out,HST.out,hy,if_neg hx]
   have HPE:Hid (pkE ps j=if dD ps[j]≠0 then dD ps[j] else if 0<j/\cT ps[j] (ps.getD (j-1) PK.zero)=false then 6 else if 14<ps.length+bA ps (j+1) then 2 else 0):=by
    show _=_
    unfold pkE
    rw [List.getD_eq_getElem?_getD,List.getElem?_eq_getElem hlt,Option.getD_some]
   have HSU:Hid (bA ps (j+1)=bA ps j+ps[j].fl.length):=gW hlt
   generalize ps[j]=p at hp HPE HSU
   obtain ⟨kk,a,fl,nt,kids,kp,fp,kc,fc,hnd,hfl,rfl,hf,hn⟩:=hp.spelt
   obtain ⟨c0,c1,c2,c3,c4,c5,c6,c7,c8,c9,c10,c11,c12,c13⟩:=cN hcs
   have HF:=hid hf
   have HN:=hid hn
   have gt : ∀ (o:Nat) (x:Value),w.cell? ⟨b,o,none⟩=some x->wr.cell? ⟨b,o,none⟩=some x:=fun o x h=>(HK.out.cell (p:=⟨b,o,none⟩) (hS b hb)).trans h
   have d0:=gt _ _ c0
   have d1:=gt _ _ c1
   have d2:=gt _ _ c2
   have d3:=gt _ _ c3
   have d4:=gt _ _ c4
   have d5:=gt _ _ c5
   have d6:=gt _ _ c6
   have d7:=gt _ _ c7
   have d8:=gt _ _ c8
   have d9:=gt _ _ c9
   have d10:=gt _ _ c10
   have d11:=gt _ _ c11
   have d12:=gt _ _ c12
   have d13:=gt _ _ c13
   clear hcs hp hf hn hrow gt c0 c1 c2 c3 c4 c5 c6 c7 c8 c9 c10 c11 c12 c13
   rcases p with ⟨n,v,sl,fs,nd⟩
   simp only at hfl d0 d1 d2 d3 HSU HPE hnd HF HN
   have HCP:Hid (dD ⟨n,v,sl,fs,nd⟩=if aK n.data.toList=false then 1 else if v<1∨99<v∨sl<1∨9<sl then 3 else if cL fs≠0 then cL fs else dW nd fs):=rfl
   have HFS:Hid (cL fs=if 2<fs.length then 2 else aL (flE fs) 0 fs.length):=rfl
   have HKD:Hid (dW nd fs=if kk≠3 then 4 else if cV nd≠0 then cV nd else if nd.sorted.all (eD fs)=true then 0 else 5):=by
    show _=_
    unfold dW
    rw [show nd.kind=kk by rw [hnd];rfl]
   have HBAD:Hid (∀ x:Int,x≠0->dD ⟨n,v,sl,fs,nd⟩=x->bZ ps=x):=fun x hx hy=>HRET.out x hx (by rw [HPE.out,hy,if_pos hx])
   clear hnd
   obtain ⟨ht0,-,htl⟩:=HV.out.facts
   go_wp2_with fail
   refine aV (fun W'=>aA wr W'/\aJ wr.heap.size #[.string n,.int .i64 v,.int .i64 sl,.slice fp fs.length fc,.int .i64 kk,.string a.n,.int .i64 a.op,.int .i64 a.v,.int .i64 a.sl,.string a.f,.bool a.on,.string fl,.bool nt,.slice kp kids.length kc] W') ⟨aA.alloc _ _,aJ.new _ _ _⟩ ?_
   rintro W0 ⟨k0,b0⟩
   refine (dM n W0).mono ?_
   rintro e w1 ⟨rfl,k1⟩
   have K1:=hid (HK.out.trans (k0.trans k1))
   have V1:=hid (HV.out.keep (k0.trans k1) HV.out.facts.2.2)
   have B1:=hid (b0.keep k1 b0.1)
   clear k0 b0 k1 d0 d1 d2 d3 d4 d5 d6 d7 d8 d9 d10 d11 d12 d13 ht0 htl HK HV
   generalize wr.heap.size=bx at B1 ⊢
   have hcb:=B1.out.2
   have hlb:=B1.out.1
   cases hnm:aK n.data.toList
   ·have HY:=hid (HBAD.out 1 (by decide) (by rw [HCP.out,hnm];rfl))
    go_wp2_with fail
    go_ret
    exact ⟨aD HY.out.symm,K1.out⟩
   have HC1:Hid (dD ⟨n,v,sl,fs,nd⟩=if v<1∨99<v∨sl<1∨9<sl then 3 else if cL fs≠0 then cL fs else dW nd fs):=by show _=_;rw [HCP.out,hnm];rfl
   clear HCP hnm
   by_cases r1:v<1
   ·have HY:=hid (HBAD.out 3 (by decide) (by rw [HC1.out,if_pos (Or.inl r1)]))
    go_wp2_with fail
    go_ret
    exact ⟨aD HY.out.symm,K1.out⟩
   by_cases r2:99<v
   ·have HY:=hid (HBAD.out 3 (by decide) (by rw [HC1.out,if_pos (Or.inr (Or.inl r2))]))
    go_wp2_with fail
    go_ret
    exact ⟨aD HY.out.symm,K1.out⟩
   by_cases r3:sl<1
   ·have HY:=hid (HBAD.out 3 (by decide) (by rw [HC1.out,if_pos (Or.inr (Or.inr (Or.inl r3)))]))
    go_wp2_with fail
    go_ret
    exact ⟨aD HY.out.symm,K1.out⟩
   by_cases r4:9<sl
   ·have HY:=hid (HBAD.out 3 (by decide) (by rw [HC1.out,if_pos (Or.inr (Or.inr (Or.inr r4)))]))
    go_wp2_with fail
    go_ret
    exact ⟨aD HY.out.symm,K1.out⟩
   have HC2:Hid (dD ⟨n,v,sl,fs,nd⟩=if cL fs≠0 then cL fs else dW nd fs):=by show _=_;rw [HC1.out,if_neg (by omega)]
   clear HC1
   by_cases r5:2<fs.length
   ·have HY:=hid (HBAD.out 2 (by decide) (by rw [HC2.out,HFS.out,if_pos r5];rfl))
    have r5':(2:Int)<(fs.length:Int):=by omega
    go_wp2_with fail
    go_ret
    exact ⟨aD HY.out.symm,K1.out⟩
   have r5' : ¬ (2:Int)<(fs.length:Int):=by omega
   have HF2:Hid (cL fs=aL (flE fs) 0 fs.length):=by show _=_;rw [HFS.out,if_neg r5]
   clear HFS
   go_wp2_with fail
   clear hcb hlb
   go_loopg [56] fs.length (fun gk' i wr'=> ∃ m:Nat,m+gk'=fs.length/\i=.int .i64 m/\aL (flE fs) 0 fs.length=aL (flE fs) m (fs.length-m)/\aA w wr'/\aE w.heap.size 24 (.slice (some ⟨b,off,none⟩) ps.length tc) wr'/\aJ bx #[.string n,.int .i64 v,.int .i64 sl,.slice fp fs.length fc,.int .i64 kk,.string a.n,.int .i64 a.op,.int .i64 a.v,.int .i64 a.sl,.string a.f,.bool a.on,.string fl,.bool nt,.slice kp kids.length kc] wr')
   case atStart=>exact ⟨0,by simp,rfl,rfl,K1.out,V1.out,B1.out⟩
   case round=>
    obtain ⟨m,hm,rfl,he2,hkp,hvt,hbx⟩:=hrel
    have HEQ2:=hid he2
    have HK:=hid hkp
    have HV:=hid hvt
    have HB:=hid hbx
    clear he2 hkp hvt hbx K1 V1 B1
    by_cases hml:m<fs.length
    ·obtain ⟨fb,foff,fcap,hfv,hfb,-,hfc⟩:=(HF.out.keep hS HK.out).get hml
     cases hfv
     have hcm:=hfc m _ (List.getElem?_eq_getElem hml)
     have hflt:fb<wr.heap.size:=Nat.lt_of_lt_of_le (hS fb hfb) HK.out.size
     have HST2:=hid (cU (f:=flE fs) hml)
     have HFE:Hid (flE fs m=if aK fs[m].data.toList=false then 1 else if 0<m/\leS fs[m] (fs.getD (m-1) ⟨#[]⟩)=true then 6 else 0):=by
      show _=_
      unfold flE
      rw [List.getD_eq_getElem?_getD,List.getElem?_eq_getElem hml,Option.getD_some]
     have hprev:0<m->∃ y:ByteArray,Hid (fs.getD (m-1) ⟨#[]⟩=y)/\w.cell? ⟨fb,foff+(m-1),none⟩=some (.string y):=fun h0=>by
      obtain ⟨fb',foff',fcap',hfv',-,-,hfc'⟩:=HF.out.get hml
      cases hfv'
      exact ⟨fs[m-1],by show _=_;rw [List.getD_eq_getElem?_getD,List.getElem?_eq_getElem (by omega),Option.getD_some],hfc' (m-1) _ (List.getElem?_eq_getElem (by omega))⟩
     have HBF:Hid (∀ x:Int,x≠0->flE fs m=x->bZ ps=x):=fun x hx hy=>HBAD.out x hx (by
      have:cL fs=x:=by rw [HF2.out,HEQ2.out,HST2.out,hy,if_neg hx]
      rw [HC2.out,this,if_pos hx])
     generalize fs[m]=x at hcm HFE
     have hwfb:fb<w.heap.size:=hS fb hfb
     clear hfc
     go_wp2_with fail
     refine (dM x wr).mono ?_
     rintro e w2 ⟨rfl,k2⟩
     have K2:=hid (HK.out.trans k2)
     have V2:=hid (HV.out.keep k2 HV.out.facts.2.2)
     have B2:=hid (HB.out.keep k2 HB.out.1)
     have hcb:=B2.out.2
     have hlb:=B2.out.1
     clear k2 hcm HK HV HB
     cases hnm:aK x.data.toList
     ·have HY:=hid (HBF.out 1 (by decide) (by rw [HFE.out,hnm];rfl))
      go_wp2_with fail
      go_ret
      exact ⟨aD HY.out.symm,K2.out⟩
     have HF3:Hid (flE fs m=if 0<m/\leS x (fs.getD (m-1) ⟨#[]⟩)=true then 6 else 0):=by show _=_;rw [HFE.out,hnm];rfl
     clear HFE hnm
     by_cases hm0:0<m
     ·obtain ⟨y,HYE,hcy⟩:=hprev hm0
      rw [HYE.out] at HF3
      obtain ⟨q,rfl⟩ : ∃ q,m=q+1:=⟨m-1,by omega⟩
      have hcy':w2.cell? ⟨fb,foff+q,none⟩=some (.string y):=(K2.out.cell (p:=⟨fb,foff+q,none⟩) hwfb).trans hcy
      have hfl2:fb<w2.heap.size:=Nat.lt_of_lt_of_le hwfb K2.out.size
      have h0':(0:Int)<((q+1:Nat):Int):=by omega
      have hd:decide ((0:Int)<((q+1:Nat):Int))=true:=decide_eq_true h0'
      have e1:((q+1:Nat):Int)-1=(q:Int):=by omega
      have hq:q<fs.length:=by omega
      clear hprev HYE hcy
      cases hle:leS x y
      ·have HY:Hid (flE fs (q+1)=0):=by show _=_;rw [HF3.out,hle];simp
       have hle':(Op.bytesLess x.toList y.toList||x.toList==y.toList)=false:=hle
       clear HF3 hle HBF
       go_wp2_with fail
       go_roundg (fs.length-(q+1+1))
       case rel=>exact ⟨q+1+1,by omega,by go_num,by rw [HEQ2.out,HST2.out,HY.out];rfl,K2.out,V2.out,B2.out⟩
       case measure=>omega
      ·have HY:=hid (HBF.out 6 (by decide) (by rw [HF3.out,hle,if_pos ⟨by omega,rfl⟩]))
       have hle':(Op.bytesLess x.toList y.toList||x.toList==y.toList)=true:=hle
       clear HF3 hle HBF
       go_wp2_with fail
       go_ret
       exact ⟨aD HY.out.symm,K2.out⟩
     ·have HY:Hid (flE fs m=0):=by show _=_;rw [HF3.out,if_neg (fun h=>hm0 h.1)]
      obtain rfl:m=0:=by omega
      clear HF3 HBF hprev
      go_wp2_with fail
      go_roundg (fs.length-(0+1))
      case rel=>exact ⟨0+1,by omega,by go_num,by rw [HEQ2.out,HST2.out,HY.out];rfl,K2.out,V2.out,B2.out⟩
      case measure=>omega
    ·have HF0:Hid (cL fs=0):=by show _=_;rw [HF2.out,HEQ2.out,show fs.length-m=0 by omega];rfl
     have HC3:Hid (dD ⟨n,v,sl,fs,nd⟩=dW nd fs):=by show _=_;rw [HC2.out,HF0.out];rfl
     have hcb:=HB.out.2
     have hlb:=HB.out.1
     clear HC2 HF2 HEQ2
     by_cases hk3:kk=3
     ·subst hk3
      have HK1:Hid (dW nd fs=if cV nd≠0 then cV nd else if nd.sorted.all (eD fs)=true then 0 else 5):=HKD.out
      clear HKD
      go_wp2_with fail
      refine (oP nd _ wr S (fun b hb=>Nat.lt_of_lt_of_le (hS b hb) HK.out.size) (HN.out.keep hS HK.out)).mono ?_
      rintro e w2 ⟨rfl,k2⟩
      have K2:=hid (HK.out.trans k2)
      have V2:=hid (HV.out.keep k2 HV.out.facts.2.2)
      have B2:=hid (HB.out.keep k2 HB.out.1)
      clear k2 HK HV HB hcb hlb
      by_cases hcn:cV nd=0
      ·rw [hcn]
       have HK2:Hid (dW nd fs=if nd.sorted.all (eD fs)=true then 0 else 5):=by show _=_;rw [HK1.out,if_neg (fun h=>h hcn)]
       have hnok:=cO.1 hcn
       have hsz:nd.size<=1048576:=by have:=(fH hnok.1).1;omega
       have HFS:=hid (aAf hnok.2)
       have hcb:=B2.out.2
       have hlb:=B2.out.1
       clear HK1 hcn hnok
       go_wp2_with fail
       refine (vT S nd _ w2 (fun b hb=>Nat.lt_of_lt_of_le (hS b hb) K2.out.size) hsz HFS.out (HN.out.keep hS K2.out)).mono ?_
       rintro e w3 ⟨v3,rfl,ht3,k3⟩
       have T3:=hid ht3
       have K3:=hid (K2.out.trans k3)
       have V3:=hid (V2.out.keep k3 V2.out.facts.2.2)
       have B3:=hid (B2.out.keep k3 B2.out.1)
       obtain ⟨p3,c3,rfl⟩:=ht3.len
       have hsl:nd.sorted.length<=9223372036854775807:=by
        have h1:=kJ ((nd.flags.map (·.data.toList)).mergeSort fun x y=>decide (x<=y))
        have h2:=lN nd
        have h3:nd.sorted.length<=nd.flags.length:=by simpa [NT.sorted] using h1
        omega
       clear ht3 k3 K2 V2 B2 hcb hlb HFS hsz
       go_wp2_with fail
       go_loopg [91] nd.sorted.length (fun gk' i wr'=> ∃ m:Nat,m+gk'=nd.sorted.length/\i=.int .i64 m/\(nd.sorted.take m).all (eD fs)=true/\aA w wr'/\aA w3 wr'/\aE w.heap.size 24 (.slice (some ⟨b,off,none⟩) ps.length tc) wr'/\aJ bx #[.string n,.int .i64 v,.int .i64 sl,.slice fp fs.length fc,.int .i64 3,.string a.n,.int .i64 a.op,.int .i64 a.v,.int .i64 a.sl,.string a.f,.bool a.on,.string fl,.bool nt,.slice kp kids.length kc] wr')
       case atStart=>exact ⟨0,by simp,rfl,by simp,K3.out,aA.refl _,V3.out,B3.out⟩
       case round=>
        obtain ⟨m,hm,rfl,hall,hkp,hk3,hvt,hbx⟩:=hrel
        have HALL:=hid hall
        have HK:=hid hkp
        have HV:=hid hvt
        have HB:=hid hbx
        have TX:=hid (T3.out.keep hk3)
        have HK3:=hid hk3
        have hcb:=hbx.2
        have hlb:=hbx.1
        clear hall hkp hvt hbx hk3 V3 B3
        by_cases hml:m<nd.sorted.length
        ·rcases TX.out with ⟨h0,-⟩ | ⟨g,tcap,e3,hgl,hgc⟩
         ·rw [h0] at hml;exact absurd hml (Nat.not_lt_zero _)
         cases e3
         have hcm:=hgc m _ (List.getElem?_eq_getElem hml)
         rw [Nat.zero_add] at hcm
         have HST2:Hid ((nd.sorted.take (m+1)).all (eD fs)=eD fs nd.sorted[m]):=by
          show _=_
          rw [List.take_succ_eq_append_getElem hml,List.all_append,HALL.out];simp
         have HNO:Hid (eD fs nd.sorted[m]=false->bZ ps=5):=fun h=>HBAD.out 5 (by decide) (by
          have:nd.sorted.all (eD fs)=false:=List.all_eq_false.2 ⟨nd.sorted[m],List.getElem_mem hml,by rw [h];decide⟩
          rw [HC3.out,HK2.out,this];rfl)
         generalize nd.sorted[m]=x at hcm HST2 HNO
         clear hgc HALL
         go_wp2_with fail
         refine (jN S fs _ ⟨x.toArray⟩ wr (HF.out.keep hS HK.out)).mono ?_
         rintro e w4 ⟨rfl,hw4⟩
         rw [hw4]
         clear hw4
         have hx2:eD fs (ByteArray.mk x.toArray).data.toList=eD fs x:=by simp
         rw [hx2]
         generalize eD fs x=β at HST2 HNO ⊢
         clear hcm hx2
         cases β
         ·have HY:=hid (HNO.out (by trivial))
          clear HNO
          go_wp2_with fail
          go_ret
          exact ⟨aD HY.out.symm,HK.out⟩
         ·clear HNO
          go_wp2_with fail
          go_roundg (nd.sorted.length-(m+1))
          case rel=>exact ⟨m+1,by omega,by go_num,HST2.out,HK.out,HK3.out,HV.out,HB.out⟩
          case measure=>omega
        ·have HC0:Hid (dD ⟨n,v,sl,fs,nd⟩=0):=by
          show _=_
          have h:=HALL.out
          rw [List.take_of_length_le (by omega)] at h
          rw [HC3.out,HK2.out,if_pos h]
         have HP2:Hid (pkE ps j=if 0<j/\cT ⟨n,v,sl,fs,nd⟩ (ps.getD (j-1) PK.zero)=false then 6 else if 14<ps.length+bA ps (j+1) then 2 else 0):=by show _=_;rw [HPE.out,HC0.out];rfl
         obtain ⟨ht0,-,htl⟩:=HV.out.facts
         clear HPE HC0 HC3 HK2 HALL HBAD TX T3 HK3
         by_cases hj0:0<j
         ·obtain ⟨q,rfl⟩ : ∃ q,j=q+1:=⟨j-1,by omega⟩
          have hq:q<ps.length:=by omega
          have HQ:Hid (ps.getD (q+1-1) PK.zero=ps[q]):=by show _=_;rw [List.getD_eq_getElem?_getD,Nat.add_sub_cancel,List.getElem?_eq_getElem hq,Option.getD_some]
          rw [HQ.out] at HP2
          obtain ⟨b2,off2,cap2,hv2,hb2,-,hrow2⟩:=HP.out.get hq
          cases hv2
          obtain ⟨cs1,hcs1,hp1⟩:=hrow2 q hq
          generalize ps[q]=pq at hp1 HP2
          obtain ⟨k1,a1,fl1,nt1,kids1,kp1,fp1,kc1,fc1,-,hfl1,rfl,-,-⟩:=hp1.spelt
          rcases pq with ⟨n1,v1,sl1,fs1,nd1⟩
          obtain ⟨c0,c1,c2,c3,c4,c5,c6,c7,c8,c9,c10,c11,c12,c13⟩:=cN hcs1
          have gt : ∀ (o:Nat) (x:Value),w.cell? ⟨b,o,none⟩=some x->wr.cell? ⟨b,o,none⟩=some x:=fun o x h=>(HK.out.cell (p:=⟨b,o,none⟩) (hS b hb)).trans h
          have d0:=gt _ _ c0
          have d1:=gt _ _ c1
          have d2:=gt _ _ c2
          have d3:=gt _ _ c3
          have d4:=gt _ _ c4
          have d5:=gt _ _ c5
          have d6:=gt _ _ c6
          have d7:=gt _ _ c7
          have d8:=gt _ _ c8
          have d9:=gt _ _ c9
          have d10:=gt _ _ c10
          have d11:=gt _ _ c11
          have d12:=gt _ _ c12
          have d13:=gt _ _ c13
          have hbw:b<wr.heap.size:=Nat.lt_of_lt_of_le (hS b hb) HK.out.size
          have HBR:=hid (zM ⟨n,v,sl,fs,nd⟩ ⟨n1,v1,sl1,fs1,nd1⟩)
          have h0':(0:Int)<((q+1:Nat):Int):=by omega
          have hd:decide ((0:Int)<((q+1:Nat):Int))=true:=decide_eq_true h0'
          have e1:((q+1:Nat):Int)-1=(q:Int):=by omega
          clear hcs1 hp1 hrow2 c0 c1 c2 c3 c4 c5 c6 c7 c8 c9 c10 c11 c12 c13 gt HQ
          simp only at hfl1 d0 d1 d2 d3 HBR
          generalize cT ⟨n,v,sl,fs,nd⟩ ⟨n1,v1,sl1,fs1,nd1⟩=β at HP2 HBR
          go_upto_region 34 with fail
          refine bH (fun W'=>aA w W'/\aE w.heap.size 24 (.slice (some ⟨b,off,none⟩) ps.length tc) W'/\aJ bx #[.string n,.int .i64 v,.int .i64 sl,.slice fp fs.length fc,.int .i64 3,.string a.n,.int .i64 a.op,.int .i64 a.v,.int .i64 a.sl,.string a.f,.bool a.on,.string fl,.bool nt,.slice kp kids.length kc] W'/\aJ wr.heap.size #[.string n1,.int .i64 v1,.int .i64 sl1,.slice fp1 fs1.length fc1,.int .i64 k1,.string a1.n,.int .i64 a1.op,.int .i64 a1.v,.int .i64 a1.sl,.string a1.f,.bool a1.on,.string fl1,.bool nt1,.slice kp1 kids1.length kc1] W') ⟨HK.out.alloc' _,HV.out.keep (aA.alloc _ _) HV.out.facts.2.2,HB.out.keep (aA.alloc _ _) HB.out.1,aJ.new _ _ _⟩ ?_
          rintro W5 ⟨k5,v5,b5,q5⟩
          have K5:=hid k5
          have V5:=hid v5
          have hcb5:=b5.2
          have hlb5:=b5.1
          have hcq5:=q5.2
          have hlq5:=q5.1
          obtain ⟨ht5,-,htl5⟩:=v5.facts
          clear k5 v5 b5 q5 d0 d1 d2 d3 d4 d5 d6 d7 d8 d9 d10 d11 d12 d13 hcb hlb ht0 htl
          cases hbl:Op.bytesLess n.toList n1.toList
          ·cases heq:(n.toList==n1.toList)
           ·rw [hbl,heq] at HBR
            have hβ:β=true:=aJy HBR.out
            subst hβ
            clear HBR
            have HT:Hid (pkE ps (q+1)=if 14<ps.length+bA ps ((q+1)+1) then 2 else 0):=by show _=_;rw [HP2.out,if_neg (fun h=>by cases h.2)]
            have hs2:bA ps ((q+1)+1)<=2*((q+1)+1):=by have:=HSU.out;omega
            have es:((bA ps (q+1):Nat):Int)+(fs.length:Int)=((bA ps ((q+1)+1):Nat):Int):=by have:=HSU.out;omega
            by_cases h14:14<ps.length+bA ps ((q+1)+1)
            ·have HY:=hid (HRET.out 2 (by decide) (by rw [HT.out,if_pos h14]))
             have h14':(14:Int)<(ps.length:Int)+((bA ps ((q+1)+1):Nat):Int):=by omega
             clear h14 HT
             go_wp2_with fail
             go_ret
             exact ⟨aD HY.out.symm,K5.out⟩
            ·have HY:Hid (pkE ps (q+1)=0):=by show _=_;rw [HT.out,if_neg h14]
             have h14' : ¬ (14:Int)<(ps.length:Int)+((bA ps ((q+1)+1):Nat):Int):=by omega
             clear h14 HT
             go_wp2_with fail
             go_roundg (ps.length-((q+1)+1))
             case rel=>exact ⟨(q+1)+1,by omega,by go_num,by go_num,hs2,by rw [HEQ.out,HST.out,HY.out];rfl,K5.out,V5.out⟩
             case measure=>omega
           ·rw [hbl,heq] at HBR
            by_cases hvv:v<=v1
            ·have hβ:β=false:=by have h:=HBR.out;rw [decide_eq_true hvv] at h;exact aJy h
             subst hβ
             have HY:=hid (HRET.out 6 (by decide) (by rw [HP2.out,if_pos ⟨by omega,rfl⟩]))
             clear HBR HP2
             go_wp2_with fail
             go_ret
             exact ⟨aD HY.out.symm,K5.out⟩
            ·have hβ:β=true:=by have h:=HBR.out;rw [decide_eq_false hvv] at h;exact aJy h
             subst hβ
             clear HBR
             have HT:Hid (pkE ps (q+1)=if 14<ps.length+bA ps ((q+1)+1) then 2 else 0):=by show _=_;rw [HP2.out,if_neg (fun h=>by cases h.2)]
             have hs2:bA ps ((q+1)+1)<=2*((q+1)+1):=by have:=HSU.out;omega
             have es:((bA ps (q+1):Nat):Int)+(fs.length:Int)=((bA ps ((q+1)+1):Nat):Int):=by have:=HSU.out;omega
             by_cases h14:14<ps.length+bA ps ((q+1)+1)
             ·have HY:=hid (HRET.out 2 (by decide) (by rw [HT.out,if_pos h14]))
              have h14':(14:Int)<(ps.length:Int)+((bA ps ((q+1)+1):Nat):Int):=by omega
              clear h14 HT
              go_wp2_with fail
              go_ret
              exact ⟨aD HY.out.symm,K5.out⟩
             ·have HY:Hid (pkE ps (q+1)=0):=by show _=_;rw [HT.out,if_neg h14]
              have h14' : ¬ (14:Int)<(ps.length:Int)+((bA ps ((q+1)+1):Nat):Int):=by omega
              clear h14 HT
              go_wp2_with fail
              go_roundg (ps.length-((q+1)+1))
              case rel=>exact ⟨(q+1)+1,by omega,by go_num,by go_num,hs2,by rw [HEQ.out,HST.out,HY.out];rfl,K5.out,V5.out⟩
              case measure=>omega
          ·rw [hbl] at HBR
           have hβ:β=false:=aJy HBR.out
           subst hβ
           have HY:=hid (HRET.out 6 (by decide) (by rw [HP2.out,if_pos ⟨by omega,rfl⟩]))
           clear HBR HP2
           go_wp2_with fail
           go_ret
           exact ⟨aD HY.out.symm,K5.out⟩
         ·have hd : ¬ (0:Int)<(j:Int):=by omega
          have HT:Hid (pkE ps j=if 14<ps.length+bA ps (j+1) then 2 else 0):=by show _=_;rw [HP2.out,if_neg (fun h=>hj0 h.1)]
          have hs2:bA ps (j+1)<=2*(j+1):=by have:=HSU.out;omega
          have es:((bA ps j:Nat):Int)+(fs.length:Int)=((bA ps (j+1):Nat):Int):=by have:=HSU.out;omega
          by_cases h14:14<ps.length+bA ps (j+1)
          ·omega
          ·have HY:Hid (pkE ps j=0):=by show _=_;rw [HT.out,if_neg h14]
           have h14' : ¬ (14:Int)<(ps.length:Int)+((bA ps (j+1):Nat):Int):=by omega
           clear h14 HT
           go_wp2_with fail
           go_roundg (ps.length-(j+1))
           case rel=>exact ⟨j+1,by omega,by go_num,by go_num,hs2,by rw [HEQ.out,HST.out,HY.out];rfl,HK.out,HV.out⟩
           case measure=>omega
      ·have HY:=hid (HBAD.out (cV nd) hcn (by rw [HC3.out,HK1.out,if_pos hcn]))
       generalize cV nd=cn at hcn HY ⊢
       have hz1:(cn==0)=false:=by simp [hcn]
       have hz2:(cn != 0)=true:=by simp [hcn]
       clear hcn HK1
       go_wp2_with fail
       go_ret
       exact ⟨aD HY.out.symm,K2.out⟩
     ·have HY:=hid (HBAD.out 4 (by decide) (by rw [HC3.out,HKD.out,if_pos hk3]))
      have hz1:(kk==3)=false:=by simp [hk3]
      have hz2:(kk != 3)=true:=by simp [hk3]
      clear hk3 HKD
      go_wp2_with fail
      go_ret
      exact ⟨aD HY.out.symm,HK.out⟩
  ·go_wp2_with fail
   go_ret
   exact ⟨aD (by rw [HX.out,HEQ.out,show ps.length-j=0 by omega];rfl),HK.out⟩
theorem rV (S:Nat->Prop) (ps:List PK) (ms:List MB) (tv lv:Value) (w:World) (hS : ∀ b,S b->b<w.heap.size) (hp:aU S w ps tv) (hm:bS S w ms lv) :
  Calls Tryz.prog 13 #[.agg #[tv],lv] w fun e w'=>e=.returned (.int .i64 (kE ps ms))/\aA w w':=by
 have HP:=hid hp
 have HMS:=hid hm
 obtain ⟨tp,tc,rfl,hlen⟩:=hp.len
 obtain ⟨lp,lc,rfl,hllen⟩:=hm.len
 have HX:Hid (kE ps ms=aL (mbE ps ms) 0 ms.length):=rfl
 clear hp hm
 go_enter Tryz.func13,Tryz.ntmps13
 go_wp2_with fail
 go_loopg [10,5] ms.length (fun gk i ls wr=> ∃ (j:Nat) (la:Int),j+gk=ms.length/\i=.int .i64 j/\ls=.int .i64 la/\(0<j->la=(ms.getD (j-1) MB.zero).pl)/\aL (mbE ps ms) 0 ms.length=aL (mbE ps ms) j (ms.length-j)/\aA w wr/\aE w.heap.size 24 (.slice tp ps.length tc) wr)
 case atStart=>exact ⟨0,-1,by simp,rfl,rfl,fun h=>absurd h (Nat.lt_irrefl 0),rfl,aA.alloc _ _,aE.new _ _ _⟩
 case round=>
  obtain ⟨j,la,hj,rfl,rfl,hla,he,hkp,hvt⟩:=hrel
  have HEQ:=hid he
  have HK:=hid hkp
  have HV:=hid hvt
  have HLA:=hid hla
  clear he hkp hvt hla
  by_cases hlt:j<ms.length
  ·obtain ⟨mb,moff,mcap,hmv,hmS,-,hrow⟩:=(HMS.out.keep hS HK.out).get hlt
   cases hmv
   obtain ⟨op,oc,hc0,hc1,hon,-⟩:=hrow j _ (List.getElem?_eq_getElem hlt)
   have HST:=hid (cU (f:=mbE ps ms) hlt)
   have HRET:Hid (∀ x:Int,x≠0->mbE ps ms j=x->kE ps ms=x):=fun x hx hy=>by rw [HX.out,HEQ.out,HST.out,hy,if_neg hx]
   have HXM:Hid (mbE ps ms j=if ms[j].pl<0∨(ps.length:Int)<=ms[j].pl then 5 else if 0<j/\ms[j].pl<=(ms.getD (j-1) MB.zero).pl then 6 else if ms[j].on.length≠(ps.getD ms[j].pl.toNat PK.zero).fl.length then 4 else 0):=by
    show _=_
    unfold mbE dJ
    rw [fB ms j hlt]
   have HNX:Hid ((ms.getD (j+1-1) MB.zero).pl=ms[j].pl):=by show _=_;rw [Nat.add_sub_cancel,fB ms j hlt]
   generalize ms[j]=m at hc0 hc1 hon HXM HNX
   obtain ⟨pl,on⟩:=m
   simp only at hc0 hc1 hon HXM HNX
   have hmlt:mb<wr.heap.size:=Nat.lt_of_lt_of_le (hS mb hmS) HK.out.size
   clear hrow
   go_upto_region 5 with fail
   refine bH (fun W'=>aA w W'/\aE w.heap.size 24 (.slice tp ps.length tc) W'/\aJ wr.heap.size #[.int .i64 pl,.slice op on.length oc] W') ⟨HK.out.alloc' _,HV.out.keep (aA.alloc _ _) HV.out.facts.2.2,aJ.new _ _ _⟩ ?_
   rintro W1 ⟨k1,v1,b1⟩
   have K1:=hid k1
   have V1:=hid v1
   have B1:=hid b1
   have hcb:=b1.2
   have hlb:=b1.1
   obtain ⟨ht0,-,htl⟩:=v1.facts
   clear k1 v1 b1 hc0 hc1
   by_cases h0:pl<0
   ·have HY:=hid (HRET.out 5 (by decide) (by rw [HXM.out,if_pos (Or.inl h0)]))
    go_wp2_with fail
    go_ret
    exact ⟨aD HY.out.symm,K1.out⟩
   by_cases h1:(ps.length:Int)<=pl
   ·have HY:=hid (HRET.out 5 (by decide) (by rw [HXM.out,if_pos (Or.inr h1)]))
    go_wp2_with fail
    go_ret
    exact ⟨aD HY.out.symm,K1.out⟩
   obtain ⟨q,rfl⟩ : ∃ q:Nat,pl=q:=⟨pl.toNat,by omega⟩
   have hqp:q<ps.length:=by omega
   obtain ⟨tb,toff,tcap,htv,htb,-,htrow⟩:=(HP.out.keep hS K1.out).get hqp
   cases htv
   obtain ⟨cs,hcs,hpk⟩:=htrow q hqp
   have HX2:Hid (mbE ps ms j=if 0<j/\(q:Int)<=(ms.getD (j-1) MB.zero).pl then 6 else if on.length≠ps[q].fl.length then 4 else 0):=by
    show _=_
    rw [HXM.out,if_neg (by omega),Int.toNat_natCast,dX ps q hqp]
   generalize ps[q]=p at hpk HX2
   obtain ⟨kk,a,fl,nt,kids,kp,fp,kc,fc,hnd,hfl,rfl,hf,hn⟩:=hpk.spelt
   obtain ⟨-,-,-,c3,-⟩:=cN hcs
   have htl2:tb<W1.heap.size:=Nat.lt_of_lt_of_le (hS tb htb) K1.out.size
   clear hcs hpk htrow hf hn hnd HXM
   rcases p with ⟨pn,pv,psl,fs,nd⟩
   simp only at hfl c3 HX2
   have fin:Hid (mbE ps ms j=(if on.length≠fs.length then 4 else 0)->True):=fun _=>trivial
   clear fin
   by_cases hj0:0<j
   ·have hla:=HLA.out hj0
    rw [← hla] at HX2
    have h0':(0:Int)<(j:Int):=by omega
    have hd:decide ((0:Int)<(j:Int))=true:=decide_eq_true h0'
    clear hla HLA
    by_cases hle:(q:Int)<=la
    ·have HY:=hid (HRET.out 6 (by decide) (by rw [HX2.out,if_pos ⟨by omega,hle⟩]))
     go_wp2_with fail
     go_ret
     exact ⟨aD HY.out.symm,K1.out⟩
    ·have HX3:Hid (mbE ps ms j=if on.length≠fs.length then 4 else 0):=by show _=_;rw [HX2.out,if_neg (fun h=>hle h.2)]
     clear HX2
     by_cases hne:on.length=fs.length
     ·have HY:Hid (mbE ps ms j=0):=by show _=_;rw [HX3.out,if_neg (fun h=>h hne)]
      have hne1:((on.length:Int)==(fs.length:Int))=true:=by simp [hne]
      have hne2:((on.length:Int) != (fs.length:Int))=false:=by simp [hne]
      clear HX3 hne
      go_upto_region 10 with fail
      go_quiet (fail)
      have k4:aA W1 (W1.drewN nq):=aA.drewN (aA.refl _) _
      generalize W1.drewN nq=W4 at k4 ⊢
      have K4:=hid (K1.out.trans k4)
      have V4:=hid (V1.out.keep k4 V1.out.facts.2.2)
      clear k4
      go_wp2_with fail
      go_roundg (ms.length-(j+1))
      case rel=>exact ⟨j+1,_,by omega,by go_num,rfl,fun _=>HNX.out.symm,by rw [HEQ.out,HST.out,HY.out];rfl,K4.out,V4.out⟩
      case measure=>omega
     ·have HY:=hid (HRET.out 4 (by decide) (by rw [HX3.out,if_pos hne]))
      have hne0 : ¬ (on.length:Int)=(fs.length:Int):=by omega
      have hne1:((on.length:Int)==(fs.length:Int))=false:=by simp [hne0]
      have hne2:((on.length:Int) != (fs.length:Int))=true:=by simp [hne0]
      clear HX3 hne
      go_upto_region 10 with fail
      go_quiet (fail)
      go_wp2_with fail
      go_ret
      exact ⟨aD HY.out.symm,aA.drewN K1.out _⟩
   ·have HX3:Hid (mbE ps ms j=if on.length≠fs.length then 4 else 0):=by show _=_;rw [HX2.out,if_neg (fun h=>hj0 h.1)]
    have h0' : ¬ (0:Int)<(j:Int):=by omega
    clear HX2 HLA
    by_cases hne:on.length=fs.length
    ·have HY:Hid (mbE ps ms j=0):=by show _=_;rw [HX3.out,if_neg (fun h=>h hne)]
     have hne1:((on.length:Int)==(fs.length:Int))=true:=by simp [hne]
     have hne2:((on.length:Int) != (fs.length:Int))=false:=by simp [hne]
     clear HX3 hne
     go_upto_region 10 with fail
     go_quiet (fail)
     have k4:aA W1 (W1.drewN nq):=aA.drewN (aA.refl _) _
     generalize W1.drewN nq=W4 at k4 ⊢
     have K4:=hid (K1.out.trans k4)
     have V4:=hid (V1.out.keep k4 V1.out.facts.2.2)
     clear k4
     go_wp2_with fail
     go_roundg (ms.length-(j+1))
     case rel=>exact ⟨j+1,_,by omega,by go_num,rfl,fun _=>HNX.out.symm,by rw [HEQ.out,HST.out,HY.out];rfl,K4.out,V4.out⟩
     case measure=>omega
    ·have HY:=hid (HRET.out 4 (by decide) (by rw [HX3.out,if_pos hne]))
     have hne0 : ¬ (on.length:Int)=(fs.length:Int):=by omega
     have hne1:((on.length:Int)==(fs.length:Int))=false:=by simp [hne0]
     have hne2:((on.length:Int) != (fs.length:Int))=true:=by simp [hne0]
     clear HX3 hne
     go_upto_region 10 with fail
     go_quiet (fail)
     go_wp2_with fail
     go_ret
     exact ⟨aD HY.out.symm,aA.drewN K1.out _⟩
  ·go_wp2_with fail
   go_ret
   exact ⟨aD (by rw [HX.out,HEQ.out,show ms.length-j=0 by omega];rfl),HK.out⟩
end Go.Proofs.YthaaaecmeafofaaGreatDoor
