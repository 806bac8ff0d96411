/- Steps of the proof: RefValid, ValidSaysWalk, AtomOpen, NeedOpen. -/
import Derived.Test.YthaaaecmeafofaaGreatDoorVs15
import Derived.Test.YthaaaecmeafofaaGreatDoorVs13
import Derived.Test.YthaaaecmeafofaaGreatDoorVs12
import Derived.Test.YthaaaecmeafofaaGreatDoorVs14
import Derived.Test.YthaaaecmeafofaaGreatDoorVs03
import Derived.Lib.LaidTab
import Derived.Stop.LaidErr
import Derived.OpenShut
import Derived.Lib.SmallJoins
import Derived.Deep.DeepWitnessRowRef
import Derived.LaidMore
import Derived.Stop.Joined
import Derived.ChangeOld
import Derived.Shelf.Vars
import Derived.HandedShaped
set_option maxHeartbeats 16000000
set_option maxRecDepth 100000
namespace Go.Proofs.YthaaaecmeafofaaGreatDoor
open Go.RowKit Go.Sort
theorem pH (ps:List PK) (ms:List MB) (a:At) : ∀ n,n<=ms.length->dK ps ms (-1) a n=(ms.take n).any (fun m=>isB (aV ps m) m a)
 | 0,_=>by simp [dK]
 | n+1,h=>by
  rw [dK,pH ps ms a n (by omega),List.take_succ_eq_append_getElem (by omega),List.any_append,cJ ms n (by omega),decide_eq_false (show ¬ (n:Int) = -1 by omega)]
  simp
theorem xF (ps:List PK) (ms:List MB) (a:At):bY ps ms (-1) a=ms.any (fun m=>isB (aV ps m) m a):=by
 unfold bY;rw [pH ps ms a ms.length (Nat.le_refl _),List.take_length]
def eP (p:PK):ByteArray:=p.n++⟨#[58]⟩++⟨(Lib.decDigits p.sl.toNat).toArray⟩
theorem uA {s:ByteArray} (h:aH s.data.toList=true):s.size<=8:=by
 unfold aH at h
 rw [Bool.and_eq_true,Bool.and_eq_true] at h
 have h2:=of_decide_eq_true h.1.1
 rw [Array.length_toList] at h2
 exact h2
theorem nM (p:PK):(eP p).data.toList=p.n.data.toList ++ [58]++Lib.decDigits p.sl.toNat:=by
 unfold eP;simp [ByteArray.data_append]
theorem nN {p q:PK} (hp:1<=p.sl/\p.sl<=9) (hq:1<=q.sl/\q.sl<=9):(eP p).data.toList=(eP q).data.toList↔(p.n.data.toList=q.n.data.toList/\p.sl=q.sl):=by
 rw [nM,nM,Lib.decDigits_one (by omega),Lib.decDigits_one (by omega)]
 constructor
 ·intro h
  have h1:=List.append_inj_left' h rfl
  have h2:=List.append_inj_right' h rfl
  have h3:=List.append_inj_left' h1 rfl
  refine ⟨h3,?_⟩
  have h4:UInt8.ofNat (48+p.sl.toNat)=UInt8.ofNat (48+q.sl.toNat):=by simpa using h2
  have h5:=congrArg UInt8.toNat h4
  rw [UInt8.toNat_ofNat',UInt8.toNat_ofNat'] at h5
  omega
 ·rintro ⟨h1,h2⟩;rw [h1,h2]
theorem xB {ps:List PK} {ms:List MB} (hct:cG ps=0) (hok:jX ps ms) {k:Nat} (hk:k<ms.length) :
  decide ((eP (aV ps ms[k])).data.toList∈((ms.take k).map fun m=>eP (aV ps m)).map (·.data.toList))=dI ps ms k k:=by
 have hr : ∀ (j:Nat) (h:j<ms.length),1<=(aV ps ms[j]).sl/\(aV ps ms[j]).sl<=9:=fun j h=>by
  obtain ⟨h0,h1,-⟩:=hok j _ (List.getElem?_eq_getElem h)
  obtain ⟨q,hq⟩ : ∃ q:Nat,ms[j].pl=q:=⟨ms[j].pl.toNat,by omega⟩
  have hqp:q<ps.length:=by omega
  have hpk:aV ps ms[j]=ps[q]:=by unfold aV;rw [hq,Int.toNat_natCast,dF ps q hqp]
  rw [hpk]
  have:=(fC ((dJ hct).2 _ (List.getElem_mem hqp))).2.1
  omega
 rw [jQ ps ms k k (by omega),cJ ms k hk]
 cases h:(ms.take k).any (shB ps (aV ps ms[k]))
 ·refine decide_eq_false fun hm=> ?_
  rw [List.any_eq_false] at h
  simp only [List.map_map,List.mem_map] at hm
  obtain ⟨m,hm1,hm2⟩:=hm
  obtain ⟨j,hj,rfl⟩:=List.mem_iff_getElem.1 hm1
  have hjl:j<ms.length:=by simp at hj;omega
  have e:(ms.take k)[j]=ms[j]:=by simp
  have h1:=h _ hm1
  rw [e] at hm2 h1
  have h2:=(nN (hr j hjl) (hr k hk)).1 hm2
  refine h1 ?_
  unfold shB
  rw [Lib.toList_data,Lib.toList_data,h2.1,h2.2];simp
 ·refine decide_eq_true ?_
  rw [List.any_eq_true] at h
  obtain ⟨m,hm1,hm2⟩:=h
  obtain ⟨j,hj,rfl⟩:=List.mem_iff_getElem.1 hm1
  have hjl:j<ms.length:=by simp at hj;omega
  have e:(ms.take k)[j]=ms[j]:=by simp
  simp only [List.map_map,List.mem_map]
  refine ⟨_,hm1,?_⟩
  rw [e] at hm2 ⊢
  unfold shB at hm2
  rw [Bool.and_eq_true,Lib.toList_data,Lib.toList_data] at hm2
  refine (nN (hr j hjl) (hr k hk)).2 ⟨?_,?_⟩
  ·simpa using hm2.1
  ·simpa using hm2.2
theorem oL {H:Type} (x:List UInt8) (z:DataW H) : ∀ (fs:List ByteArray) (D:DataW H),Maps.IsMap D->(bQ D fs).atKey (.string x) z=if x∈fs.map (·.data.toList) then .lit (.bool true) else D.atKey (.string x) z
 | [],D,_=>by simp [bQ]
 | f :: fs,D,hD=>by
  have ih:=oL x z fs (D.put (.string f.data.toList) (.lit (.bool true))) (by cases D<;>simp_all [Maps.IsMap,DataW.put])
  show (bQ (D.put (.string f.data.toList) (.lit (.bool true))) fs).atKey (.string x) z=_
  rw [ih,List.map_cons]
  by_cases hx:x∈fs.map (·.data.toList)
  ·rw [if_pos hx,if_pos (List.mem_cons_of_mem _ hx)]
  ·rw [if_neg hx]
   by_cases h:x=f.data.toList
   ·subst h
    rw [Maps.atKey_put_same hD (by simp [WideAt.IsKeyLit]),if_pos List.mem_cons_self]
   ·rw [Maps.atKey_put_other (by simpa using h),if_neg (fun hm=>(List.mem_cons.1 hm).elim h hx)]
theorem gB {H:Type} {P:Program} {e:TypeId} (he:P.underlying e=some .bool) {v:Value} {c:Bool} {ps:List MemPlace} (h:plainElem (H:=H) P e v=some (.lit (.bool c),ps)):v=.bool c:=by
 unfold plainElem at h
 rw [he] at h
 cases v with
 | bool b=>simp at h;rw [h.1]
 | _=>simp at h
theorem xA {w:World} {g n:Nat} {fs:List ByteArray} (h:w.ownsMap (H:=Unit) Tryz.prog 9 (plainElem Tryz.prog 4) g n (bQ (.map []) fs)) {s:ByteArray} (hs:s.size<=maxLen) :
  (Instr.lookup 143 (.map (some g)) (.string s) false).run Tryz.prog w=.ok (.bool (decide (s.data.toList∈fs.map (·.data.toList)))) w:=by
 obtain ⟨v,ps,hrun,hv⟩:=h.lookup kD Tryz.underlying143 (z:= .bool false) (by kernel_rfl) (plainElem_bool Tryz.underlying4 false) (WideMaps.keyOf_string_mk Tryz.underlying9 hs)
 rw [oL _ _ _ _ (by simp [Maps.IsMap])] at hv
 rw [hrun]
 by_cases hm:s.data.toList∈fs.map (·.data.toList)
 ·rw [if_pos hm] at hv
  rw [gB Tryz.underlying4 hv,decide_eq_true hm]
 ·rw [if_neg hm] at hv
  rw [gB Tryz.underlying4 (c:=false) hv,decide_eq_false hm]
theorem oS (args:Array Value) (w:World):(callFunc 90 args).run Tryz.prog w=.ok (.enter 90 args) w:=enters_of Tryz.func90 (by kernel_rfl) rfl args w
theorem aAb (S:Nat->Prop) (ps:List PK) (m:MB) (op:Option Addr) (oc ct ca:Nat) (tp:Option Addr) (tc:Nat) (a:At) (w:World) (hS : ∀ b,S b->b<w.heap.size) (hp:aT S w ps (.slice tp ps.length tc)) (hct:cG ps=0) (ht:aD ct 24 (.slice tp ps.length tc) w)
  (ha:aG ca #[.string a.n,.int .i64 a.op,.int .i64 a.v,.int .i64 a.sl,.string a.f,.bool a.on] w) (hb:cL S w m.on (.slice op m.on.length oc)) (h0:0<=m.pl) (h1:m.pl<ps.length) (hon:m.on.length=(aV ps m).fl.length) (hom:m.on.length<=9223372036854775807) :
  Calls Tryz.prog 90 #[.agg #[.int .i64 m.pl,.slice op m.on.length oc],.pointer (some ⟨ct,0,none⟩),.pointer (some ⟨ca,0,none⟩)] w fun e w'=>e=.returned (.bool (isB (aV ps m) m a))/\aA w w':=by
 have HIS:Hid (∀ W,aA w W->Calls Tryz.prog 60 #[.agg #[.slice tp ps.length tc],.agg #[.int .i64 m.pl,.slice op m.on.length oc],.agg #[.string a.n,.int .i64 a.op,.int .i64 a.v,.int .i64 a.sl,.string a.f,.bool a.on]] W fun e w'=>e=.returned (.bool (isB (aV ps m) m a))/\aA W w'):=fun W kW=>
  pG S ps m op oc _ a.n a.f a.op a.v a.sl a.on W (fun b hb=>Nat.lt_of_lt_of_le (hS b hb) kW.size) (hp.keep hS kW) hct (hb.keep hS kW) h0 h1 hon hom
 generalize isB (aV ps m) m a=β at HIS ⊢
 generalize m.pl=pl at HIS ⊢
 generalize m.on.length=ol at HIS hom ⊢
 have HT:=hid ht
 have HA:=hid ha
 clear hp hb ht ha h0 h1 hon
 go_enter Tryz.func90,Tryz.ntmps90
 go_upto_region 1 with fail
 refine bW (fun W'=>aA w W'/\aG w.heap.size #[.int .i64 pl,.slice op ol oc] W') ⟨aA.alloc _ _,aG.new _ _ _⟩ ?_
 rintro W1 ⟨k1,b1⟩
 have K1:=hid k1
 have hb1c:=b1.2
 have hb1l:=b1.1
 have hac:=(HA.out.keep k1 HA.out.1).2
 have hal:=(HA.out.keep k1 HA.out.1).1
 obtain ⟨htc,-,htl⟩:=(HT.out.keep k1 HT.out.facts.2.2).facts
 clear k1 b1
 go_wp2_with fail
 refine (HIS.out W1 K1.out).mono ?_
 rintro e w2 ⟨rfl,k2⟩
 have K2:=hid (K1.out.trans k2)
 clear k2 hb1c hb1l hac hal htc htl
 go_wp2_with fail
 go_ret
 exact ⟨rfl,K2.out⟩
theorem qK (S:Nat->Prop) (ps:List PK) (wi:WI) (ms:List MB) (tv tsv inv mav onv lv:Value) (w:World) (hS : ∀ b,S b->b<w.heap.size) (hp:aT S w ps tv) (hct:cG ps=0) (h:gD S w wi tsv inv mav onv) (hm:bS S w ms lv) (hok:jX ps ms) :
  Calls Tryz.prog 35 #[.agg #[tv],.agg #[tsv,inv,mav,onv],lv] w fun e w'=>e=.returned (.bool (fP ps wi ms))/\aA w w':=by
 have HP:=hid hp
 have HW:=hid h
 have HMS:=hid hm
 have HOK:=hid hok
 have HCT:=hid hct
 obtain ⟨tp,tc,rfl,htlen⟩:=hp.len
 obtain ⟨p0,c0,rfl,hl0⟩:=h.ts.len
 obtain ⟨p1,c1,rfl,hl1⟩:=h.ins.len
 obtain ⟨p2,c2,rfl,hl2⟩:=h.ma.len
 obtain ⟨p3,c3,rfl,hl3⟩:=h.on.len
 obtain ⟨lp,lc,rfl,hllen⟩:=hm.len
 have HR:Hid (fP ps wi ms=(gX ps ms wi.ts&&gE ps wi.ma ms ms.length)):=rfl
 have hmf : ∀ (fn:Fn) (first cap:Array Value) (w:World),(Instr.makeFunc fn first cap).run Tryz.prog w=.ok (.func fn first cap) w:=fun _ _ _ _=>rfl
 have hent:=oS
 have hmm:= @run_makeMap Tryz.prog
 have HM8:Hid (ms.length<=maxLen):=hllen
 clear hp h hm hct hok
 go_enter Tryz.func35,Tryz.ntmps35
 go_upto_region 1 with fail
 refine bW (fun W'=>aA w W'/\aD w.heap.size 24 (.slice tp ps.length tc) W'/\aG (w.heap.size+1) #[.slice p0 wi.ts.length c0,.slice p1 wi.ins.length c1,.slice p2 wi.ma.length c2,.slice p3 wi.on.length c3] W') ⟨(aA.alloc _ _).alloc' _,(aD.new _ _ _).keep (aA.alloc _ _) (by simp),gR (by simp) _ _⟩ ?_
 rintro W0 ⟨k0,v0,b0⟩
 have K0:=hid k0
 have V0:=hid v0
 have B0:=hid b0
 have hcb:=b0.2
 have hlb:=b0.1
 clear k0 v0 b0
 go_wp2_with fail
 clear hcb hlb
 go_loopg [17] wi.ts.length (fun gk i wr=> ∃ j:Nat,j+gk=wi.ts.length/\i=.int .i64 j/\(wi.ts.take j).all (fun a=>bY ps ms (-1) a)=true/\aA w wr/\aD w.heap.size 24 (.slice tp ps.length tc) wr/\aG (w.heap.size+1) #[.slice p0 wi.ts.length c0,.slice p1 wi.ins.length c1,.slice p2 wi.ma.length c2,.slice p3 wi.on.length c3] wr)
 case atStart=>exact ⟨0,by simp,rfl,by simp,K0.out,V0.out,B0.out⟩
 case round=>
  obtain ⟨j,hj,rfl,hall,hkp,hvt,hbx⟩:=hrel
  have HALL:=hid hall
  have HK:=hid hkp
  have HV:=hid hvt
  have HB:=hid hbx
  clear hall hkp hvt hbx K0 V0 B0
  by_cases hlt:j<wi.ts.length
  ·obtain ⟨b,off,hp,hSb,c0',c1',c2',c3',c4',c5'⟩:=(HW.out.keep hS HK.out).ts.get hlt
   subst hp
   have hSr : ∀ b,S b->b<wr.heap.size:=fun b hb=>Nat.lt_of_lt_of_le (hS b hb) HK.out.size
   have HST:Hid ((wi.ts.take (j+1)).all (fun a=>bY ps ms (-1) a)=bY ps ms (-1) wi.ts[j]):=by
    show _=_
    rw [List.take_succ_eq_append_getElem hlt,List.all_append,HALL.out];simp
   have HNO:Hid (bY ps ms (-1) wi.ts[j]=false->fP ps wi ms=false):=fun h=>by
    rw [HR.out]
    have:gX ps ms wi.ts=false:=by
     unfold gX
     rw [List.all_eq_false]
     exact ⟨wi.ts[j],List.getElem_mem hlt,by rw [h];decide⟩
    rw [this];rfl
   generalize wi.ts[j]=a at c0' c1' c2' c3' c4' c5' HST HNO
   have hblt:=hSr b hSb
   go_upto_region 4 with fail
   refine bW (fun W'=>aA wr W'/\aG wr.heap.size #[.string a.n,.int .i64 a.op,.int .i64 a.v,.int .i64 a.sl,.string a.f,.bool a.on] W') ⟨aA.alloc _ _,aG.new _ _ _⟩ ?_
   rintro W3 ⟨k3,b3⟩
   have K3':=hid k3
   have B3:=hid b3
   have hS3 : ∀ b,S b->b<W3.heap.size:=fun b hb=>Nat.lt_of_lt_of_le (hSr b hb) k3.size
   have HCON:=hid (fV S ms (fun m=>isB (aV ps m) m a) lp ms.length lc W3 (F:=90) (cap:=#[.pointer (some ⟨w.heap.size,0,none⟩),.pointer (some ⟨wr.heap.size,0,none⟩)]) hS3 oS (HMS.out.keep hS (HK.out.trans k3)) (fun i hi op oc W kW hbl=>by
    obtain ⟨x0,x1,x2⟩:=HOK.out i _ (List.getElem?_eq_getElem hi)
    obtain ⟨_,_,hbe,hbm,-⟩:=id hbl
    exact aAb S ps ms[i] op oc _ _ _ tc a W (fun b hb=>Nat.lt_of_lt_of_le (hS3 b hb) kW.size) (HP.out.keep hS ((HK.out.trans k3).trans kW)) HCT.out ((HV.out.keep k3 HV.out.facts.2.2).keep kW (HV.out.keep k3 HV.out.facts.2.2).facts.2.2) (b3.keep kW b3.1) hbl x0 x1 x2 hbm))
   rw [← xF] at HCON
   clear k3 b3 c0' c1' c2' c3' c4' c5'
   go_wp2_with fail
   refine HCON.out.mono ?_
   rintro e w4 ⟨rfl,k4⟩
   have K4':=hid (K3'.out.trans k4)
   have K4:=hid (HK.out.trans K4'.out)
   have V4:=hid (HV.out.keep K4'.out HV.out.facts.2.2)
   have B4:=hid (HB.out.keep K4'.out HB.out.1)
   clear k4 HCON
   generalize bY ps ms (-1) a=β at HST HNO ⊢
   cases β
   ·have HF:=hid (HNO.out rfl)
    clear HNO
    go_wp2_with fail
    go_ret
    exact ⟨aE HF.out.symm,K4.out⟩
   ·clear HNO
    go_wp2_with fail
    go_roundg (wi.ts.length-(j+1))
    case rel=>exact ⟨j+1,by omega,by go_num,HST.out,K4.out,V4.out,B4.out⟩
    case measure=>omega
  ·obtain rfl:j=wi.ts.length:=by omega
   have HR2:Hid (fP ps wi ms=gE ps wi.ma ms ms.length):=by
    show _=_
    have h:=HALL.out
    rw [List.take_length] at h
    rw [HR.out,show gX ps ms wi.ts=true from h];rfl
   clear HALL HR hj hlt
   go_upto_region 8 with fail
   refine bW (fun W'=>aA w W'/\aD w.heap.size 24 (.slice tp ps.length tc) W'/\aG (w.heap.size+1) #[.slice p0 wi.ts.length c0,.slice p1 wi.ins.length c1,.slice p2 wi.ma.length c2,.slice p3 wi.on.length c3] W'/\W'.ownsMap (H:=Unit) Tryz.prog 9 (plainElem Tryz.prog 4) wr.heap.size 0 (bQ (.map []) [])) ⟨HK.out.alloc' _,HV.out.keep (aA.alloc _ _) HV.out.facts.2.2,HB.out.keep (aA.alloc _ _) HB.out.1,World.ownsMap_made _ _ _ _⟩ ?_
   rintro W5 ⟨k5,v5,b5,o5⟩
   have hgw:w.heap.size+1<wr.heap.size:=HB.out.1
   generalize wr.heap.size=g at o5 hgw ⊢
   have K5:=hid k5
   have V5:=hid v5
   have B5:=hid b5
   have O5:=hid o5
   clear k5 v5 b5 o5 HK HV HB
   go_wp2_with fail
   go_loopg [29] ms.length (fun gk i wr'=> ∃ j:Nat,j+gk=ms.length/\i=.int .i64 j/\gE ps wi.ma ms j=true/\aA w wr'/\aD w.heap.size 24 (.slice tp ps.length tc) wr'/\aG (w.heap.size+1) #[.slice p0 wi.ts.length c0,.slice p1 wi.ins.length c1,.slice p2 wi.ma.length c2,.slice p3 wi.on.length c3] wr'/\wr'.ownsMap (H:=Unit) Tryz.prog 9 (plainElem Tryz.prog 4) g j (bQ (.map []) ((ms.take j).map fun m=>eP (aV ps m))))
   case atStart=>exact ⟨0,by simp,rfl,rfl,K5.out,V5.out,B5.out,by simpa using O5.out⟩
   case round=>
    obtain ⟨j,hj,rfl,hall,hkp,hvt,hbx,hown⟩:=hrel
    have HALL:=hid hall
    have HK:=hid hkp
    have HV:=hid hvt
    have HB:=hid hbx
    have HO:=hid hown
    clear hall hkp hvt hbx hown K5 V5 B5 O5
    by_cases hlt:j<ms.length
    ·have hSr : ∀ b,S b->b<wr.heap.size:=fun b hb=>Nat.lt_of_lt_of_le (hS b hb) HK.out.size
     obtain ⟨mb,moff,mcap,hmv,hmS,-,hrow⟩:=(HMS.out.keep hS HK.out).get hlt
     cases hmv
     obtain ⟨op,oc,hc0,hc1,hon,-⟩:=hrow j _ (List.getElem?_eq_getElem hlt)
     obtain ⟨h0,h1,-⟩:=HOK.out j _ (List.getElem?_eq_getElem hlt)
     obtain ⟨q,hq⟩ : ∃ q:Nat,ms[j].pl=q:=⟨ms[j].pl.toNat,by omega⟩
     have hqp:q<ps.length:=by omega
     have hpk:aV ps ms[j]=ps[q]:=by unfold aV;rw [hq,Int.toNat_natCast,dF ps q hqp]
     have HST:Hid (gE ps wi.ma ms (j+1)=(!wi.ma.contains (q:Int)&&aK ps ms j ps[q].nd && !dI ps ms j j)):=by
      show _=_
      rw [gE,HALL.out,wL,dY,cJ ms j hlt,hpk,hq];rfl
     have HNO:Hid (gE ps wi.ma ms (j+1)=false->fP ps wi ms=false):=fun h=>by
      have:=pU (ms.length-(j+1)) h
      rw [show j+1+(ms.length-(j+1))=ms.length by omega] at this
      rw [HR2.out];exact this
     have HSH:=hid (xB HCT.out HOK.out hlt)
     have HTK:Hid (((ms.take (j+1)).map fun m=>eP (aV ps m))=((ms.take j).map fun m=>eP (aV ps m)) ++ [eP ps[q]]):=by
      show _=_
      rw [List.take_succ_eq_append_getElem hlt,List.map_append,List.map_singleton,hpk]
     have HPR:=hid ((dJ HCT.out).2 _ (List.getElem_mem hqp))
     have HHO:Hid (∀ (cs:List Value) (W:World),aA wr W->aC S W ps[q].nd cs->Calls Tryz.prog 36 #[.agg #[.slice tp ps.length tc],.slice (some ⟨mb,moff,none⟩) ms.length lc,.int .i64 j,.agg cs.toArray] W fun e w'=>e=.returned (.bool (aK ps ms j ps[q].nd))/\aA W w'):=fun cs W kW hnd=>
      hZ hlt HOK.out HCT.out _ ps[q].nd (Nat.le_refl _) (by rw [hpk];exact kG HPR.out) cs W (fun b hb=>Nat.lt_of_lt_of_le (hSr b hb) kW.size) (HP.out.keep hS (HK.out.trans kW)) (HMS.out.keep hS (HK.out.trans kW)) hnd
     rw [hpk] at HSH
     rw [hq] at hc0
     obtain ⟨tb,toff,tcap,htv,htb,-,htrow⟩:=(HP.out.keep hS HK.out).get hqp
     cases htv
     obtain ⟨cs,hcs,hpj⟩:=htrow q hqp
     generalize ps[q]=p at hpj HST HSH HTK HPR HHO
     obtain ⟨hnm,⟨-,-,hs1,hs9⟩,-⟩:=fC HPR.out
     have hn8:p.n.size<=8:=uA hnm
     obtain ⟨kk,a',fl',nt',kids',kp',fp',kc',fc',hnd,hflen,rfl,-,hn⟩:=hpj.spelt
     obtain ⟨d0,d1,d2,d3,d4,d5,d6,d7,d8,d9,d10,d11,d12,d13⟩:=cM hcs
     have HN:=hid hn
     have HCS:=hid (HHO.out [.int .i64 kk,.string a'.n,.int .i64 a'.op,.int .i64 a'.v,.int .i64 a'.sl,.string a'.f,.bool a'.on,.string fl',.bool nt',.slice kp' kids'.length kc'])
     generalize hol:aK ps ms j p.nd=βh at HST HCS HHO
     generalize hsk:eP p=key at HSH HTK
     have HKEY:Hid (key=p.n++⟨#[58]⟩++⟨(Lib.decDigits p.sl.toNat).toArray⟩):=hsk.symm
     obtain ⟨s,hs⟩ : ∃ s:Nat,p.sl=s:=⟨p.sl.toNat,by omega⟩
     rw [hs] at d2 HKEY
     rw [Int.toNat_natCast] at HKEY
     have hs10:s<100:=by omega
     clear hcs hpj htrow hnd hn hrow h0 h1 HHO hsk hnm HPR hpk
     rcases p with ⟨pn,pv,psl,fs,nd⟩
     simp only at d0 d1 d2 d3 HKEY HN hn8 hs hs1 hs9 hflen hol HCS
     have hd2:=hN hs10
     have hksz:key.size<=maxLen:=by
      rw [HKEY.out]
      have:(pn++⟨#[58]⟩++⟨(Lib.decDigits s).toArray⟩:ByteArray).size=pn.size+1+(Lib.decDigits s).length:=by
       simp [ByteArray.size_append,iZ]
      rw [this];unfold maxLen;omega
     have hmlt:=hSr mb hmS
     have htlt:=hSr tb htb
     obtain ⟨htc,-,htl⟩:=HV.out.facts
     go_upto_region 11 with fail
     refine bW (fun W'=>aA wr W'/\aG wr.heap.size #[.int .i64 (q:Int),.slice op ms[j].on.length oc] W') ⟨aA.alloc _ _,aG.new _ _ _⟩ ?_
     rintro W6 ⟨k6,b6⟩
     have gt : ∀ (o:Nat) (x:Value),wr.cell? ⟨tb,o,none⟩=some x->W6.cell? ⟨tb,o,none⟩=some x:=fun o x h=>(k6.cell (p:=⟨tb,o,none⟩) htlt).trans h
     replace d0:=gt _ _ d0
     replace d1:=gt _ _ d1
     replace d2:=gt _ _ d2
     replace d3:=gt _ _ d3
     replace d4:=gt _ _ d4
     replace d5:=gt _ _ d5
     replace d6:=gt _ _ d6
     replace d7:=gt _ _ d7
     replace d8:=gt _ _ d8
     replace d9:=gt _ _ d9
     replace d10:=gt _ _ d10
     replace d11:=gt _ _ d11
     replace d12:=gt _ _ d12
     replace d13:=gt _ _ d13
     have htlt6:tb<W6.heap.size:=Nat.lt_of_lt_of_le htlt k6.size
     have hmc:=b6.2
     have hml:=b6.1
     have htc6:=(k6.cell (p:=⟨w.heap.size,0,none⟩) htl).trans htc
     have htl6:w.heap.size<W6.heap.size:=Nat.lt_of_lt_of_le htl k6.size
     have K6:=hid k6
     have B6:=hid b6
     clear gt k6 b6 hc0 hc1 htc htl
     go_upto_region 12 with fail
     refine bW (fun W'=>aA W6 W'/\aG W6.heap.size #[.string pn,.int .i64 pv,.int .i64 (s:Int),.slice fp' fs.length fc',.int .i64 kk,.string a'.n,.int .i64 a'.op,.int .i64 a'.v,.int .i64 a'.sl,.string a'.f,.bool a'.on,.string fl',.bool nt',.slice kp' kids'.length kc'] W') ⟨aA.alloc _ _,aG.new _ _ _⟩ ?_
     rintro W7 ⟨k7,b7⟩
     have K7':=hid (K6.out.trans k7)
     have K7:=hid (HK.out.trans K7'.out)
     have V7:=hid (HV.out.keep K7'.out HV.out.facts.2.2)
     have B7:=hid (HB.out.keep K7'.out HB.out.1)
     have M7:=hid (B6.out.keep k7 B6.out.1)
     have P7:=hid b7
     have O7:Hid (W7.ownsMap (H:=Unit) Tryz.prog 9 (plainElem Tryz.prog 4) g j (bQ (.map []) ((ms.take j).map fun m=>eP (aV ps m)))):=by
      obtain ⟨es,clock,hb,F,hn,hD⟩:=HO.out
      exact ⟨es,clock,(K7'.out.block g HO.out.lt).trans hb,F,hn,hD⟩
     have hpc:=b7.2
     have hpl:=b7.1
     generalize W6.heap.size=cp at b7 P7 hpc hpl ⊢
     generalize wr.heap.size=cm at M7 hmc hml ⊢
     clear d0 d1 d2 d3 d4 d5 d6 d7 d8 d9 d10 d11 d12 d13 hmc hml htc6 htl6 htlt6 k7 b7 K6 B6
     have hqi:=hid (show ∀ n,Calls Tryz.prog 91 #[.int .i64 (s:Int)] (W7.drewN n) fun e w''=>e=.returned (.string ⟨(Lib.decDigits s).toArray⟩)/\∃ n',w''=W7.drewN n' from fun n=>by
      refine (Tryz.strconv_Itoa_small s hs10 _).mono ?_
      rintro e w' ⟨rfl,rfl⟩
      exact ⟨rfl,n,rfl⟩)
     go_quiet ((go_at_call 91;exact hqi.out _))
     rw [← HKEY.out]
     have k8:aA W7 (W7.drewN nq):=aA.drewN (aA.refl _) _
     have O8:Hid ((W7.drewN nq).ownsMap (H:=Unit) Tryz.prog 9 (plainElem Tryz.prog 4) g j (bQ (.map []) ((ms.take j).map fun m=>eP (aV ps m)))):=by
      obtain ⟨es,clock,hb,F,hn,hD⟩:=O7.out
      exact ⟨es,clock,(k8.block g O7.out.lt).trans hb,F,hn,hD⟩
     generalize W7.drewN nq=W8 at k8 O8 ⊢
     have K8':=hid (K7'.out.trans k8)
     have K8:=hid (K7.out.trans k8)
     have V8:=hid (V7.out.keep k8 V7.out.facts.2.2)
     have B8:=hid (B7.out.keep k8 B7.out.1)
     have M8:=hid (M7.out.keep k8 M7.out.1)
     have P8:=hid (P7.out.keep k8 P7.out.1)
     have hlook:=xA O8.out (s:=key) hksz
     rw [show decide (key.data.toList∈((ms.take j).map fun m=>eP (aV ps m)).map (·.data.toList))=dI ps ms j j from HSH.out] at hlook
     clear k8 hpc hpl hqi K7' K7 V7 B7 M7 P7 O7 HSH
     generalize dI ps ms j j=βs at hlook HST
     cases βs
     case true=>
      have HF:=hid (HNO.out (by rw [HST.out];simp))
      go_wp2_with fail
      go_ret
      exact ⟨aE HF.out.symm,K8.out⟩
     have HCON:=hid (lI S wi.ma _ (q:Int) W8 (HW.out.keep hS K8.out).ma)
     have hwc:=B8.out.2
     have hwl:=B8.out.1
     have hmc:=M8.out.2
     have hml:=M8.out.1
     go_wp2_with fail
     refine HCON.out.mono ?_
     rintro e w9 ⟨rfl,hw9⟩
     rw [hw9]
     clear hw9 HCON hlook hwc hwl hmc hml
     generalize wi.ma.contains (q:Int)=βc at HST ⊢
     cases βc
     case true=>
      have HF:=hid (HNO.out (by rw [HST.out];rfl))
      go_wp2_with fail
      go_ret
      exact ⟨aE HF.out.symm,K8.out⟩
     have hpc:=P8.out.2
     have hpl:=P8.out.1
     obtain ⟨htc,-,htl⟩:=V8.out.facts
     have HCALL:=hid (HCS.out W8 K8'.out (HN.out.keep hSr K8'.out))
     go_wp2_with fail
     refine HCALL.out.mono ?_
     rintro e w9 ⟨rfl,k9⟩
     have K9:=hid (K8.out.trans k9)
     have V9:=hid (V8.out.keep k9 V8.out.facts.2.2)
     have B9:=hid (B8.out.keep k9 B8.out.1)
     have O9:Hid (w9.ownsMap (H:=Unit) Tryz.prog 9 (plainElem Tryz.prog 4) g j (bQ (.map []) ((ms.take j).map fun m=>eP (aV ps m)))):=by
      obtain ⟨es,clock,hb,F,hn,hD⟩:=O8.out
      exact ⟨es,clock,(k9.block g O8.out.lt).trans hb,F,hn,hD⟩
     clear k9 hpc hpl htc htl HCALL HCS
     cases βh
     case false=>
      have HF:=hid (HNO.out (by rw [HST.out];rfl))
      go_wp2_with fail
      go_ret
      exact ⟨aE HF.out.symm,K9.out⟩
     obtain ⟨W10,hrun,hown,hgrow⟩:=O9.out.update kD Tryz.underlying143 (show j<maxLen by have:=HM8.out;omega) (WideMaps.keyOf_string_mk Tryz.underlying9 hksz) (plainElem_bool Tryz.underlying4 true)
     have K10:Hid (aA w W10):=K9.out.grown hgrow K9.out.size (fun i hi=>by cases hi;omega)
     have V10:=hid (V9.out.grew hgrow (by omega))
     have B10:=hid (qY B9.out hgrow (by omega))
     have O10:Hid (W10.ownsMap (H:=Unit) Tryz.prog 9 (plainElem Tryz.prog 4) g (j+1) (bQ (.map []) ((ms.take (j+1)).map fun m=>eP (aV ps m)))):=by
      rw [HTK.out,gJ];exact hown
     clear hown hgrow
     go_wp2_with fail
     go_roundg (ms.length-(j+1))
     case rel=>exact ⟨j+1,by omega,by go_num,HST.out,K10.out,V10.out,B10.out,O10.out⟩
     case measure=>omega
    ·obtain rfl:j=ms.length:=by omega
     go_wp2_with fail
     go_ret
     exact ⟨aE (by rw [HR2.out,HALL.out]),HK.out⟩
theorem rD {ps:List PK} {ms:List MB} (h:cG ps=0):bK ps ms=jZ ps ms:=by unfold bK;rw [if_neg (fun e=>e h)]
theorem lB {ps:List PK} {ms:List MB} (h:cG ps≠0):bK ps ms=cG ps:=by unfold bK;rw [if_pos h]
theorem tG {ps:List PK} {wi:WI} (h:cG ps≠0):dN ps wi=cG ps:=by unfold dN;rw [lB h,if_pos h]
theorem nS (S:Nat->Prop) (ps:List PK) (wi:WI) (ms:List MB) (k:Int) (tv tsv inv mav onv lv:Value) (w:World) (hS : ∀ b,S b->b<w.heap.size) (hp:aT S w ps tv) (hw:gD S w wi tsv inv mav onv) (hm:bS S w ms lv) (hE:Env w) (hM:fS w) :
  Calls Tryz.prog 6 #[.agg #[tv],.agg #[tsv,inv,mav,onv],lv,.int .i64 k] w fun e w'=>e=.returned (.bool true)/\aA w w':=by
 have HP:=hid hp
 have HW:=hid hw
 have HMS:=hid hm
 have HE:=hid hE
 have HM:=hid hM
 obtain ⟨tp,tc,rfl,htlen⟩:=hp.len
 obtain ⟨p0,c0,rfl,hl0⟩:=hw.ts.len
 obtain ⟨p1,c1,rfl,hl1⟩:=hw.ins.len
 obtain ⟨p2,c2,rfl,hl2⟩:=hw.ma.len
 obtain ⟨p3,c3,rfl,hl3⟩:=hw.on.len
 obtain ⟨lp,lc,rfl,hllen⟩:=hm.len
 have HSG:Hid (∀ W,aA w W->∀ b,S b->b<W.heap.size):=fun W kW b hb=>Nat.lt_of_lt_of_le (hS b hb) kW.size
 clear hp hw hm hE hM
 go_enter Tryz.func6,Tryz.ntmps6
 go_upto_region 1 with fail
 refine bW (fun W'=>aA w W'/\aD w.heap.size 24 (.slice tp ps.length tc) W'/\aG (w.heap.size+1) #[.slice p0 wi.ts.length c0,.slice p1 wi.ins.length c1,.slice p2 wi.ma.length c2,.slice p3 wi.on.length c3] W') ⟨(aA.alloc _ _).alloc' _,(aD.new _ _ _).keep (aA.alloc _ _) (by simp),gR (by simp) _ _⟩ ?_
 rintro W0 ⟨k0,v0,b0⟩
 have K0:=hid k0
 have V0:=hid v0
 have B0:=hid b0
 obtain ⟨htc,-,htl⟩:=v0.facts
 have hcb:=b0.2
 have hlb:=b0.1
 clear k0 v0 b0
 go_wp2_with fail
 refine (jH S ps wi ms _ _ _ _ _ _ W0 (HSG.out W0 K0.out) (HP.out.keep hS K0.out) (HW.out.keep hS K0.out) (HMS.out.keep hS K0.out)).mono ?_
 rintro e w1 ⟨rfl,k1⟩
 generalize hvr:cD ps wi ms=vr
 generalize hve:cB ps wi ms=ve
 have HVR:=hid hvr
 have HVE:=hid hve
 clear hvr hve htc htl hcb hlb
 have K1:=hid (K0.out.trans k1)
 have V1:=hid (V0.out.keep k1 V0.out.facts.2.2)
 have B1:=hid (B0.out.keep k1 B0.out.1)
 obtain ⟨htc,-,htl⟩:=V1.out.facts
 have hcb:=B1.out.2
 have hlb:=B1.out.1
 clear k1 K0 V0 B0
 go_wp2_with fail
 refine (qC S ps ms _ _ k w1 (HSG.out _ K1.out) (HP.out.keep hS K1.out) (HMS.out.keep hS K1.out)).mono ?_
 rintro e w2 ⟨rfl,k2⟩
 generalize hhr:cN ps ms k=hr
 generalize hhe:cA ps ms k=he
 have HHR:=hid hhr
 have HHE:=hid hhe
 clear hhr hhe htc htl hcb hlb
 have K2:=hid (K1.out.trans k2)
 have V2:=hid (V1.out.keep k2 V1.out.facts.2.2)
 have B2:=hid (B1.out.keep k2 B1.out.1)
 obtain ⟨htc,-,htl⟩:=V2.out.facts
 have hcb:=B2.out.2
 have hlb:=B2.out.1
 clear k2 K1 V1 B1
 go_wp2_with fail
 refine (eF S ps _ w2 (HSG.out _ K2.out) (HP.out.keep hS K2.out)).mono ?_
 rintro e w3 ⟨rfl,k3⟩
 clear htc htl hcb hlb
 have K3:=hid (K2.out.trans k3)
 have V3:=hid (V2.out.keep k3 V2.out.facts.2.2)
 have B3:=hid (B2.out.keep k3 B2.out.1)
 obtain ⟨htc,-,htl⟩:=V3.out.facts
 have hcb:=B3.out.2
 have hlb:=B3.out.1
 clear k3 K2 V2 B2
 by_cases hct:cG ps=0
 ·rw [hct]
  go_wp2_with fail
  refine (sE S ps wi _ _ _ _ _ w3 (HSG.out _ K3.out) (HP.out.keep hS K3.out) hct (HW.out.keep hS K3.out)).mono ?_
  rintro e w4 ⟨rfl,k4⟩
  clear htc htl hcb hlb
  have K4:=hid (K3.out.trans k4)
  have V4:=hid (V3.out.keep k4 V3.out.facts.2.2)
  have B4:=hid (B3.out.keep k4 B3.out.1)
  obtain ⟨htc,-,htl⟩:=V4.out.facts
  have hcb:=B4.out.2
  have hlb:=B4.out.1
  clear k4 K3 V3 B3
  generalize hcw:dN ps wi=cw
  have HCW:=hid hcw
  clear hcw
  have hcc:(cw==cw)=true:=by simp
  have hcd:(cw != cw)=false:=by simp
  go_wp2_with fail
  refine (lA w4 (HE.out.keep K4.out) (HM.out.keep K4.out)).mono ?_
  rintro e w5 ⟨rfl,k5⟩
  clear htc htl hcb hlb
  have K5:=hid (K4.out.trans k5)
  have V5:=hid (V4.out.keep k5 V4.out.facts.2.2)
  have B5:=hid (B4.out.keep k5 B4.out.1)
  obtain ⟨htc,-,htl⟩:=V5.out.facts
  have hcb:=B5.out.2
  have hlb:=B5.out.1
  clear k5 K4 V4 B4
  go_wp2_with fail
  have hcwi:=gF S ps wi _ _ _ _ _ w5 (HSG.out _ K5.out) (HP.out.keep hS K5.out) (HW.out.keep hS K5.out)
  rw [HCW.out] at hcwi
  refine hcwi.mono ?_
  clear hcwi
  rintro e w6 ⟨rfl,k6⟩
  clear htc htl hcb hlb
  have K6:=hid (K5.out.trans k6)
  have V6:=hid (V5.out.keep k6 V5.out.facts.2.2)
  have B6:=hid (B5.out.keep k6 B5.out.1)
  obtain ⟨htc,-,htl⟩:=V6.out.facts
  have hcb:=B6.out.2
  have hlb:=B6.out.1
  clear k6 K5 V5 B5
  go_wp2_with fail
  refine (eF S ps _ w6 (HSG.out _ K6.out) (HP.out.keep hS K6.out)).mono ?_
  rintro e w7 ⟨rfl,k7⟩
  clear htc htl hcb hlb
  have K7:=hid (K6.out.trans k7)
  have V7:=hid (V6.out.keep k7 V6.out.facts.2.2)
  have B7:=hid (B6.out.keep k7 B6.out.1)
  obtain ⟨htc,-,htl⟩:=V7.out.facts
  have hcb:=B7.out.2
  have hlb:=B7.out.1
  clear k7 K6 V6 B6
  rw [hct]
  go_wp2_with fail
  refine (nK S ps ms _ _ w7 (HSG.out _ K7.out) (HP.out.keep hS K7.out) (HMS.out.keep hS K7.out)).mono ?_
  rintro e w8 ⟨rfl,k8⟩
  clear htc htl hcb hlb
  have K8:=hid (K7.out.trans k8)
  have V8:=hid (V7.out.keep k8 V7.out.facts.2.2)
  have B8:=hid (B7.out.keep k8 B7.out.1)
  obtain ⟨htc,-,htl⟩:=V8.out.facts
  have hcb:=B8.out.2
  have hlb:=B8.out.1
  clear k8 K7 V7 B7
  have HTSS:=hid (rD (ms:=ms) hct)
  generalize hcs:jZ ps ms=cs at HTSS ⊢
  clear hcs
  clear hcc hcd
  by_cases hw0:cw=0
  ·subst hw0
   have e1:cB ps wi ms=cs:=by unfold cB;rw [HCW.out,if_neg (fun h=>h rfl),HTSS.out]
   obtain rfl:ve=cs:=HVE.out.symm.trans e1
   by_cases hs0:ve=0
   ·subst hs0
    have HTS:Hid (bK ps ms=0):=HTSS.out
    have e2:cD ps wi ms=fP ps wi ms:=by unfold cD;rw [e1];rfl
    have HVB:Hid (fP ps wi ms=vr):=e2.symm.trans HVR.out
    clear e1 e2 HVR HVE HTSS HCW
    have hcv:=qK S ps wi ms _ _ _ _ _ _ w8 (HSG.out _ K8.out) (HP.out.keep hS K8.out) hct (HW.out.keep hS K8.out) (HMS.out.keep hS K8.out) (iR HTS.out)
    rw [HVB.out] at hcv
    go_wp2_with fail
    refine hcv.mono ?_
    rintro e w9 ⟨rfl,k9⟩
    clear hcv htc htl hcb hlb
    have hvv:(vr==vr)=true:=by cases vr<;>rfl
    have hvw:(vr != vr)=false:=by cases vr<;>rfl
    have K9:=hid (K8.out.trans k9)
    have V9:=hid (V8.out.keep k9 V8.out.facts.2.2)
    have B9:=hid (B8.out.keep k9 B8.out.1)
    obtain ⟨htc,-,htl⟩:=V9.out.facts
    have hcb:=B9.out.2
    have hlb:=B9.out.1
    clear k9 K8 V8 B8
    by_cases hk:k<0∨(ms.length:Int)<=k
    ·have e1:cA ps ms k=5:=by unfold cA;rw [HTS.out,if_neg (fun h=>h rfl),if_pos hk]
     have e2:cN ps ms k=false:=by unfold cN;rw [e1];rfl
     obtain rfl:he=5:=HHE.out.symm.trans e1
     obtain rfl:hr=false:=HHR.out.symm.trans e2
     clear e1 e2 HHE HHR
     by_cases hk0:k<0
     ·clear hk
      go_upto_region 17 with fail
      go_quiet (fail)
      go_wp2_with fail
      go_ret
      exact ⟨rfl,aA.drewN K9.out _⟩
     ·have hk1:(ms.length:Int)<=k:=by omega
      clear hk
      go_upto_region 17 with fail
      go_quiet (fail)
      go_wp2_with fail
      go_ret
      exact ⟨rfl,aA.drewN K9.out _⟩
    ·obtain ⟨n,rfl⟩ : ∃ n:Nat,k=n:=⟨k.toNat,by omega⟩
     have hn:n<ms.length:=by omega
     have e1:cA ps ms n=0:=by unfold cA;rw [HTS.out,if_neg (fun h=>h rfl),if_neg hk]
     have e2:cN ps ms n=dY ps ms n:=by unfold cN;rw [e1,Int.toNat_natCast];rfl
     obtain rfl:he=0:=HHE.out.symm.trans e1
     have HHB:Hid (hr=dY ps ms n):=HHR.out.symm.trans e2
     clear e1 e2 HHE HHR hk
     have hSr:=HSG.out _ K9.out
     have hok:=iR HTS.out
     obtain ⟨mb,moff,mcap,hmv,hmS,-,hrow⟩:=(HMS.out.keep hS K9.out).get hn
     cases hmv
     obtain ⟨op,oc,hc0,-,-,-⟩:=hrow n _ (List.getElem?_eq_getElem hn)
     obtain ⟨h0,h1,-⟩:=hok n _ (List.getElem?_eq_getElem hn)
     obtain ⟨q,hq⟩ : ∃ q:Nat,ms[n].pl=q:=⟨ms[n].pl.toNat,by omega⟩
     have hqp:q<ps.length:=by omega
     have hpk:aV ps ms[n]=ps[q]:=by unfold aV;rw [hq,Int.toNat_natCast,dF ps q hqp]
     have HHB2:Hid (aK ps ms n ps[q].nd=hr):=by show _=_;rw [HHB.out,dY,cJ ms n hn,hpk]
     have hpr:=(dJ hct).2 _ (List.getElem_mem hqp)
     have HHO:Hid (∀ (cs:List Value) (W:World),aA w9 W->aC S W ps[q].nd cs->Calls Tryz.prog 36 #[.agg #[.slice tp ps.length tc],.slice (some ⟨mb,moff,none⟩) ms.length lc,.int .i64 n,.agg cs.toArray] W fun e w'=>e=.returned (.bool (aK ps ms n ps[q].nd))/\aA W w'):=fun cs W kW hnd=>
      hZ hn hok hct _ ps[q].nd (Nat.le_refl _) (by rw [hpk];exact kG hpr) cs W (fun b hb=>Nat.lt_of_lt_of_le (hSr b hb) kW.size) (HP.out.keep hS (K9.out.trans kW)) (HMS.out.keep hS (K9.out.trans kW)) hnd
     rw [HHB2.out] at HHO
     rw [hq] at hc0
     obtain ⟨tb,toff,tcap,htv,htb,-,htrow⟩:=(HP.out.keep hS K9.out).get hqp
     cases htv
     obtain ⟨cs,hcs,hpj⟩:=htrow q hqp
     generalize ps[q]=p at hpj HHO
     obtain ⟨kk,a',fl',nt',kids',kp',fp',kc',fc',hnd,hflen,rfl,-,hnn⟩:=hpj.spelt
     obtain ⟨-,-,-,-,d4,d5,d6,d7,d8,d9,d10,d11,d12,d13⟩:=cM hcs
     have HN:=hid hnn
     have hmlt:=hSr mb hmS
     have htlt:=hSr tb htb
     clear hcs hpj htrow hnd hnn hrow h0 h1 hpk hpr hok hq HHB HHB2
     clear hcb hlb
     go_upto_region 17 with fail
     have dt : ∀ d os,(grow (redrawn w9 d) os).cell? ⟨w.heap.size,0,none⟩=some (.slice (some ⟨tb,toff,none⟩) ps.length tc):=fun d os=>((below_regrown w9 d os).cell (p:=⟨w.heap.size,0,none⟩) htl).trans htc
     have dm : ∀ d os,(grow (redrawn w9 d) os).cell? ⟨mb,moff+n*2,none⟩=some (.int .i64 q):=fun d os=>((below_regrown w9 d os).cell (p:=⟨mb,moff+n*2,none⟩) hmlt).trans hc0
     have gt : ∀ (o:Nat) (x:Value),w9.cell? ⟨tb,o,none⟩=some x->∀ d os,(grow (redrawn w9 d) os).cell? ⟨tb,o,none⟩=some x:=fun o x h d os=>((below_regrown w9 d os).cell (p:=⟨tb,o,none⟩) htlt).trans h
     replace d4:=gt _ _ d4
     replace d5:=gt _ _ d5
     replace d6:=gt _ _ d6
     replace d7:=gt _ _ d7
     replace d8:=gt _ _ d8
     replace d9:=gt _ _ d9
     replace d10:=gt _ _ d10
     replace d11:=gt _ _ d11
     replace d12:=gt _ _ d12
     replace d13:=gt _ _ d13
     have cH:=hid (show ∀ d os,Calls Tryz.prog 36 #[.agg #[.slice (some ⟨tb,toff,none⟩) ps.length tc],.slice (some ⟨mb,moff,none⟩) ms.length lc,.int .i64 n,.agg #[.int .i64 kk,.string a'.n,.int .i64 a'.op,.int .i64 a'.v,.int .i64 a'.sl,.string a'.f,.bool a'.on,.string fl',.bool nt',.slice kp' kids'.length kc']] (grow (redrawn w9 d) os) fun e w''=>e=.returned (.bool hr)/\∃ p:Regrown,w''=grow (redrawn w9 p.d) p.os from fun d os=>
      Calls.regrown_of (HHO.out _ _ (below_regrown w9 d os) (HN.out.keep hSr (below_regrown w9 d os))))
     clear gt hc0 htc HHO HN
     cases hr
     all_goals
      refine wp_region_quiet_below (by kernel_rfl) (by kernel_rfl) ?_
      repeat (first | go_big_quiet_step (exact cH.out _ _) | quiet_step (exact cH.out _ _))
      refine wpQuiet_nil ?_
      intro _ hw'
      obtain ⟨⟨dq,osq⟩,hw''⟩:=hw'
      subst hw''
      have k9:=below_regrown w9 dq osq
      generalize grow (redrawn w9 dq) osq=W9 at k9 ⊢
      have K9:=hid (K9.out.trans k9)
      clear dt dm d4 d5 d6 d7 d8 d9 d10 d11 d12 d13 cH k9
      go_wp2_with fail
      go_ret
      exact ⟨rfl,K9.out⟩
   ·have HTS:Hid (bK ps ms=ve):=HTSS.out
    have e2:cD ps wi ms=false:=by unfold cD;rw [e1,decide_eq_false hs0];rfl
    obtain rfl:vr=false:=HVR.out.symm.trans e2
    have hne:=hs0
    clear e1 e2 HVR HVE HTSS HCW hs0
    have e1:cA ps ms k=ve:=by unfold cA;rw [HTS.out,if_pos hne]
    have e2:cN ps ms k=false:=by unfold cN;rw [e1,decide_eq_false hne];rfl
    obtain rfl:he=ve:=HHE.out.symm.trans e1
    obtain rfl:hr=false:=HHR.out.symm.trans e2
    clear e1 e2 HHE HHR HTS
    have hz1:(he==0)=false:=by simp [hne]
    have hz2:(he != 0)=true:=by simp [hne]
    have hee:(he==he)=true:=by simp
    have hef:(he != he)=false:=by simp
    clear hne
    go_upto_region 17 with fail
    go_quiet (fail)
    go_wp2_with fail
    go_ret
    exact ⟨rfl,aA.drewN K8.out _⟩
  ·have hwz1:(cw==0)=false:=by simp [hw0]
   have hwz2:(cw != 0)=true:=by simp [hw0]
   have e1:cB ps wi ms=cw:=by unfold cB;rw [HCW.out,if_pos hw0]
   have e2:cD ps wi ms=false:=by unfold cD;rw [e1,decide_eq_false hw0];rfl
   obtain rfl:ve=cw:=HVE.out.symm.trans e1
   obtain rfl:vr=false:=HVR.out.symm.trans e2
   have hee:(ve==ve)=true:=by simp
   have hef:(ve != ve)=false:=by simp
   clear e1 e2 HVR HVE HCW hw0
   by_cases hs0:cs=0
   ·subst hs0
    have HTS:Hid (bK ps ms=0):=HTSS.out
    clear HTSS
    by_cases hk:k<0∨(ms.length:Int)<=k
    ·have e1:cA ps ms k=5:=by unfold cA;rw [HTS.out,if_neg (fun h=>h rfl),if_pos hk]
     have e2:cN ps ms k=false:=by unfold cN;rw [e1];rfl
     obtain rfl:he=5:=HHE.out.symm.trans e1
     obtain rfl:hr=false:=HHR.out.symm.trans e2
     clear e1 e2 HHE HHR
     by_cases hk0:k<0
     ·clear hk
      go_upto_region 17 with fail
      go_quiet (fail)
      go_wp2_with fail
      go_ret
      exact ⟨rfl,aA.drewN K8.out _⟩
     ·have hk1:(ms.length:Int)<=k:=by omega
      clear hk
      go_upto_region 17 with fail
      go_quiet (fail)
      go_wp2_with fail
      go_ret
      exact ⟨rfl,aA.drewN K8.out _⟩
    ·obtain ⟨n,rfl⟩ : ∃ n:Nat,k=n:=⟨k.toNat,by omega⟩
     have hn:n<ms.length:=by omega
     have e1:cA ps ms n=0:=by unfold cA;rw [HTS.out,if_neg (fun h=>h rfl),if_neg hk]
     have e2:cN ps ms n=dY ps ms n:=by unfold cN;rw [e1,Int.toNat_natCast];rfl
     obtain rfl:he=0:=HHE.out.symm.trans e1
     have HHB:Hid (hr=dY ps ms n):=HHR.out.symm.trans e2
     clear e1 e2 HHE HHR hk
     have hSr:=HSG.out _ K8.out
     have hok:=iR HTS.out
     obtain ⟨mb,moff,mcap,hmv,hmS,-,hrow⟩:=(HMS.out.keep hS K8.out).get hn
     cases hmv
     obtain ⟨op,oc,hc0,-,-,-⟩:=hrow n _ (List.getElem?_eq_getElem hn)
     obtain ⟨h0,h1,-⟩:=hok n _ (List.getElem?_eq_getElem hn)
     obtain ⟨q,hq⟩ : ∃ q:Nat,ms[n].pl=q:=⟨ms[n].pl.toNat,by omega⟩
     have hqp:q<ps.length:=by omega
     have hpk:aV ps ms[n]=ps[q]:=by unfold aV;rw [hq,Int.toNat_natCast,dF ps q hqp]
     have HHB2:Hid (aK ps ms n ps[q].nd=hr):=by show _=_;rw [HHB.out,dY,cJ ms n hn,hpk]
     have hpr:=(dJ hct).2 _ (List.getElem_mem hqp)
     have HHO:Hid (∀ (cs:List Value) (W:World),aA w8 W->aC S W ps[q].nd cs->Calls Tryz.prog 36 #[.agg #[.slice tp ps.length tc],.slice (some ⟨mb,moff,none⟩) ms.length lc,.int .i64 n,.agg cs.toArray] W fun e w'=>e=.returned (.bool (aK ps ms n ps[q].nd))/\aA W w'):=fun cs W kW hnd=>
      hZ hn hok hct _ ps[q].nd (Nat.le_refl _) (by rw [hpk];exact kG hpr) cs W (fun b hb=>Nat.lt_of_lt_of_le (hSr b hb) kW.size) (HP.out.keep hS (K8.out.trans kW)) (HMS.out.keep hS (K8.out.trans kW)) hnd
     rw [HHB2.out] at HHO
     rw [hq] at hc0
     obtain ⟨tb,toff,tcap,htv,htb,-,htrow⟩:=(HP.out.keep hS K8.out).get hqp
     cases htv
     obtain ⟨cs,hcs,hpj⟩:=htrow q hqp
     generalize ps[q]=p at hpj HHO
     obtain ⟨kk,a',fl',nt',kids',kp',fp',kc',fc',hnd,hflen,rfl,-,hnn⟩:=hpj.spelt
     obtain ⟨-,-,-,-,d4,d5,d6,d7,d8,d9,d10,d11,d12,d13⟩:=cM hcs
     have HN:=hid hnn
     have hmlt:=hSr mb hmS
     have htlt:=hSr tb htb
     clear hcs hpj htrow hnd hnn hrow h0 h1 hpk hpr hok hq HHB HHB2
     clear hcb hlb
     go_upto_region 17 with fail
     have dt : ∀ d os,(grow (redrawn w8 d) os).cell? ⟨w.heap.size,0,none⟩=some (.slice (some ⟨tb,toff,none⟩) ps.length tc):=fun d os=>((below_regrown w8 d os).cell (p:=⟨w.heap.size,0,none⟩) htl).trans htc
     have dm : ∀ d os,(grow (redrawn w8 d) os).cell? ⟨mb,moff+n*2,none⟩=some (.int .i64 q):=fun d os=>((below_regrown w8 d os).cell (p:=⟨mb,moff+n*2,none⟩) hmlt).trans hc0
     have gt : ∀ (o:Nat) (x:Value),w8.cell? ⟨tb,o,none⟩=some x->∀ d os,(grow (redrawn w8 d) os).cell? ⟨tb,o,none⟩=some x:=fun o x h d os=>((below_regrown w8 d os).cell (p:=⟨tb,o,none⟩) htlt).trans h
     replace d4:=gt _ _ d4
     replace d5:=gt _ _ d5
     replace d6:=gt _ _ d6
     replace d7:=gt _ _ d7
     replace d8:=gt _ _ d8
     replace d9:=gt _ _ d9
     replace d10:=gt _ _ d10
     replace d11:=gt _ _ d11
     replace d12:=gt _ _ d12
     replace d13:=gt _ _ d13
     have cH:=hid (show ∀ d os,Calls Tryz.prog 36 #[.agg #[.slice (some ⟨tb,toff,none⟩) ps.length tc],.slice (some ⟨mb,moff,none⟩) ms.length lc,.int .i64 n,.agg #[.int .i64 kk,.string a'.n,.int .i64 a'.op,.int .i64 a'.v,.int .i64 a'.sl,.string a'.f,.bool a'.on,.string fl',.bool nt',.slice kp' kids'.length kc']] (grow (redrawn w8 d) os) fun e w''=>e=.returned (.bool hr)/\∃ p:Regrown,w''=grow (redrawn w8 p.d) p.os from fun d os=>
      Calls.regrown_of (HHO.out _ _ (below_regrown w8 d os) (HN.out.keep hSr (below_regrown w8 d os))))
     clear gt hc0 htc HHO HN
     cases hr
     all_goals
      refine wp_region_quiet_below (by kernel_rfl) (by kernel_rfl) ?_
      repeat (first | go_big_quiet_step (exact cH.out _ _) | quiet_step (exact cH.out _ _))
      refine wpQuiet_nil ?_
      intro _ hw'
      obtain ⟨⟨dq,osq⟩,hw''⟩:=hw'
      subst hw''
      have k9:=below_regrown w8 dq osq
      generalize grow (redrawn w8 dq) osq=W9 at k9 ⊢
      have K9:=hid (K8.out.trans k9)
      clear dt dm d4 d5 d6 d7 d8 d9 d10 d11 d12 d13 cH k9
      go_wp2_with fail
      go_ret
      exact ⟨rfl,K9.out⟩
   ·have HTS:Hid (bK ps ms=cs):=HTSS.out
    have hne:=hs0
    clear HTSS hs0
    have e1:cA ps ms k=cs:=by unfold cA;rw [HTS.out,if_pos hne]
    have e2:cN ps ms k=false:=by unfold cN;rw [e1,decide_eq_false hne];rfl
    obtain rfl:he=cs:=HHE.out.symm.trans e1
    obtain rfl:hr=false:=HHR.out.symm.trans e2
    clear e1 e2 HHE HHR HTS
    have hz1:(he==0)=false:=by simp [hne]
    have hz2:(he != 0)=true:=by simp [hne]
    have hee':(he==he)=true:=by simp
    have hef':(he != he)=false:=by simp
    clear hne
    go_upto_region 17 with fail
    go_quiet (fail)
    go_wp2_with fail
    go_ret
    exact ⟨rfl,aA.drewN K8.out _⟩
 ·have HCW:=hid (tG (wi:=wi) hct)
  have HTS:=hid (lB (ms:=ms) hct)
  generalize hctn:cG ps=ct at hct HCW HTS ⊢
  have HCT:=hid hctn
  clear hctn
  have hne:=hct
  have hz1:(ct==0)=false:=by simp [hct]
  have hz2:(ct != 0)=true:=by simp [hct]
  have hee:(ct==ct)=true:=by simp
  have hef:(ct != ct)=false:=by simp
  have e1:cB ps wi ms=ct:=by unfold cB;rw [HCW.out,if_pos hct]
  have e2:cD ps wi ms=false:=by unfold cD;rw [e1,decide_eq_false hct];rfl
  obtain rfl:ve=ct:=HVE.out.symm.trans e1
  obtain rfl:vr=false:=HVR.out.symm.trans e2
  clear e1 e2 HVR HVE hct
  have e1:cA ps ms k=ve:=by unfold cA;rw [HTS.out,if_pos hne]
  have e2:cN ps ms k=false:=by unfold cN;rw [e1,decide_eq_false hne];rfl
  obtain rfl:he=ve:=HHE.out.symm.trans e1
  obtain rfl:hr=false:=HHR.out.symm.trans e2
  clear e1 e2 HHE HHR HTS
  have hz1:(he==0)=false:=by simp [hne]
  have hz2:(he != 0)=true:=by simp [hne]
  clear hne
  go_wp2_with fail
  refine (lA w3 (HE.out.keep K3.out) (HM.out.keep K3.out)).mono ?_
  rintro e w4 ⟨rfl,k4⟩
  clear htc htl hcb hlb
  have K4:=hid (K3.out.trans k4)
  have V4:=hid (V3.out.keep k4 V3.out.facts.2.2)
  have B4:=hid (B3.out.keep k4 B3.out.1)
  obtain ⟨htc,-,htl⟩:=V4.out.facts
  have hcb:=B4.out.2
  have hlb:=B4.out.1
  clear k4 K3 V3 B3
  have hcwi:=gF S ps wi _ _ _ _ _ w4 (HSG.out _ K4.out) (HP.out.keep hS K4.out) (HW.out.keep hS K4.out)
  rw [HCW.out] at hcwi
  go_wp2_with fail
  refine hcwi.mono ?_
  rintro e w5 ⟨rfl,k5⟩
  clear hcwi htc htl hcb hlb
  have K5:=hid (K4.out.trans k5)
  have V5:=hid (V4.out.keep k5 V4.out.facts.2.2)
  have B5:=hid (B4.out.keep k5 B4.out.1)
  obtain ⟨htc,-,htl⟩:=V5.out.facts
  have hcb:=B5.out.2
  have hlb:=B5.out.1
  clear k5 K4 V4 B4
  have hct2:=eF S ps _ w5 (HSG.out _ K5.out) (HP.out.keep hS K5.out)
  rw [HCT.out] at hct2
  go_wp2_with fail
  refine hct2.mono ?_
  rintro e w6 ⟨rfl,k6⟩
  clear hct2 htc htl hcb hlb
  have K6:=hid (K5.out.trans k6)
  have V6:=hid (V5.out.keep k6 V5.out.facts.2.2)
  have B6:=hid (B5.out.keep k6 B5.out.1)
  obtain ⟨htc,-,htl⟩:=V6.out.facts
  have hcb:=B6.out.2
  have hlb:=B6.out.1
  clear k6 K5 V5 B5
  go_upto_region 17 with fail
  go_quiet (fail)
  go_wp2_with fail
  go_ret
  exact ⟨rfl,aA.drewN K6.out _⟩
end Go.Proofs.YthaaaecmeafofaaGreatDoor
namespace Go.Proofs.YthaaaecmeafofaaGreatDoor
open Go.RowKit
theorem jW {P:Program} {w:World} : ∀ {l:List (String × DataW Unit)} {ps:List MemPlace} {x:String × DataW Unit},DataW.LaidVars P w l ps->x∈l->∃ qs,DataW.LaidVars P w [x] qs/\qs.Sublist ps
 | [],_,_,_,hx=>by cases hx
 | (n,d) :: r,ps,x,h,hx=>by
  obtain ⟨g,t,cs,fuel,p,q,h1,h2,h3,h4,h5,rfl⟩:=h
  rcases List.mem_cons.1 hx with rfl | hx
  ·exact ⟨MemPlace.row ⟨g,0,none⟩ cs.size++p ++ [],⟨g,t,cs,fuel,p,[],h1,h2,h3,h4,rfl,rfl⟩,by rw [List.append_nil];exact List.sublist_append_left _ _⟩
  ·obtain ⟨qs,h6,h7⟩:=jW h5 hx
   exact ⟨qs,h6,h7.trans (List.sublist_append_right _ _)⟩
theorem fZ {P:Program} {w:World} {l:List (String × DataW Unit)} {x:String × DataW Unit} (h:laidMet P l w) (hx:x∈l):laidMet P [x] w:=by
 obtain ⟨ps,h1,h2,h3⟩:=h
 obtain ⟨qs,h4,h5⟩:=jW h1 hx
 exact ⟨qs,h4,h5.nodup h2,fun b off hb=>h3 b off (h5.subset hb)⟩
theorem jY {w:World} {b o:Nat} {v:Value} (h:w.cell? ⟨b,o,none⟩=some v):b<w.heap.size:=by
 rcases Nat.lt_or_ge b w.heap.size with h' | h'
 ·exact h'
 ·simp [World.cell?,Array.getElem?_eq_none h'] at h
theorem yH : Tryz.prog.globalNamed "quartermaster/atom.signs" = some 8 := by kernel_rfl
theorem aBk:(Tryz.prog.globals[8]?).map (·.type)=some 324:=by kernel_rfl
theorem aCp:(Tryz.prog.globals[1]?).map (·.type)=some 270:=by kernel_rfl
theorem aCm:Tryz.prog.cellsOf 270=20:=by kernel_rfl
theorem aCn:Tryz.prog.cellsOf 237=1:=by kernel_rfl
theorem sX:Tryz.prog.cellsOf 9=1:=by kernel_rfl
theorem aBn:Tryz.prog.cellsOf 319=1:=by kernel_rfl
theorem aCc : Tryz.prog.globalNamed "strconv.ErrSyntax" = some 6 := by kernel_rfl
theorem aCr:(Tryz.prog.globals[6]?).map (·.type)=some 260:=by kernel_rfl
theorem aCb : Tryz.prog.globalNamed "strconv.ErrRange" = some 7 := by kernel_rfl
theorem aCq:(Tryz.prog.globals[7]?).map (·.type)=some 260:=by kernel_rfl
theorem aCl : "*" ++ "errors.errorString" = "*errors.errorString" := by decide
theorem zD (u : TypeId) (h : Tryz.prog.typeName? 3 u = some "*errors.errorString") : u = 317 :=
 typeName_ptr_named (nm := "errors.errorString") (by rw [aCl]; kernel_rfl) (by kernel_rfl) (by decide) u (by rw [aCl]; exact h)
theorem zG {W : World} (h : laidMet Tryz.prog [("quartermaster/atom.signs", Rows.laid_quartermaster_atom_signs)] W) : qS W := by
 obtain ⟨ps,⟨g,t,cs,fuel,p,q,hg,ht,hv,hd,_,_⟩,_⟩:=h
 obtain rfl:=Option.some.inj (yH.symm.trans hg)
 obtain rfl:=Option.some.inj (aBk.symm.trans ht)
 obtain ⟨xs,m,rfl,hx,hlen,hn,hel⟩:=DataW.trod_array Tryz.underlying324 hd
 simp only [Rows.laid_quartermaster_atom_signs,Prod.mk.injEq,DataW.agg.injEq] at hx
 match xs,hn,hx,hel with
 | [x0,x1,x2,x3],_,hx,hel=>
  have cell : ∀ (k:Nat) (x:DataW Unit × List MemPlace) (l:List UInt8),k<4->[x0,x1,x2,x3][k]? = some x->x.1=.lit (.string l)->W.cell? ⟨8,k,none⟩=some (.string ⟨l.toArray⟩):=by
   intro k x l hk hxk hl
   have h1:=hel k hk
   rw [hxk] at h1
   obtain ⟨s,e1,e2,_⟩:=DataW.trod_string Tryz.underlying9 h1
   rw [e2] at hl
   have hs:s.data.toList=l:=by simpa using hl
   have hs':s=⟨l.toArray⟩:=by cases s;simp at hs;rw [← hs]
   have h2:=World.var?_cell yH hv k
   rw [sX,Nat.mul_one] at e1
   have h3:cs[k]? = some (.string s):=by
    have:=congrArg (·[0]?) e1
    simpa [List.getElem?_take,List.getElem?_drop] using this
   rw [h2,h3,hs']
  simp only [List.map_cons,List.map_nil,List.cons.injEq,and_true] at hx
  have c1:=cell 1 x1 [61] (by decide) rfl hx.1.2.1.symm
  refine ⟨jY c1,c1,cell 2 x2 [62,61] (by decide) rfl hx.1.2.2.1.symm,cell 3 x3 [60] (by decide) rfl hx.1.2.2.2.symm⟩
theorem aAw {W : World} {l : List (String × DataW Unit)} (h : laidMet Tryz.prog l W) (h1 : ("quartermaster/atom.signs", Rows.laid_quartermaster_atom_signs) ∈ l) (h2 : ("internal/strconv.uint64pow10", Rows.laid_internal_strconv_uint64pow10) ∈ l)
  (h3 : ("strconv.ErrSyntax", Rows.laid_strconv_ErrSyntax) ∈ l) (h4 : ("strconv.ErrRange", Rows.laid_strconv_ErrRange) ∈ l) : Env W := by
 have tab : Lib.TabIs Tryz.prog W "internal/strconv.uint64pow10" .u64 Lib.pow10Tab := Lib.tabIs_of_head (rest := []) gA aCp Tryz.underlying270 Tryz.underlying237 aCn aCm (fZ h h2)
 obtain ⟨a0,s0,hv0,-,-,-⟩:=laid_sentinel (fZ h h3) aCc aCr Tryz.underlying260 zD Tryz.underlying317 Tryz.underlying319 rfl rfl Tryz.underlying9 aBn sX
 obtain ⟨a1,s1,hv1,-,-,-⟩:=laid_sentinel (fZ h h4) aCb aCq Tryz.underlying260 zD Tryz.underlying317 Tryz.underlying319 rfl rfl Tryz.underlying9 aBn sX
 have c0:W.cell? ⟨6,0,none⟩=some (.iface 317 (.pointer (some a0))):=by simpa using World.var?_cell aCc hv0 0
 have c1:W.cell? ⟨7,0,none⟩=some (.iface 317 (.pointer (some a1))):=by simpa using World.var?_cell aCb hv1 0
 exact ⟨zG (fZ h h1),⟨jY (tab.cell gA 0 (by decide)),tab⟩,⟨jY c0,_,_,c0⟩,⟨jY c1,_,_,c1⟩⟩
end Go.Proofs.YthaaaecmeafofaaGreatDoor
namespace Go.Proofs.YthaaaecmeafofaaGreatDoor
open Go.ChangeShapes Go.WideShapes Go.ChangeAt Go.RowKit Go.Joins
theorem jL:Tryz.prog.cellsOf 71=6:=by kernel_rfl
theorem eV:Tryz.prog.cellsOf 3=1:=by kernel_rfl
theorem jM:Tryz.prog.cellsOf 4=1:=by kernel_rfl
end Go.Proofs.YthaaaecmeafofaaGreatDoor
namespace Go.Proofs.YthaaaecmeafofaaGreatDoor
open Go.ChangeShapes Go.WideShapes Go.ChangeAt Go.RowKit Go.Joins
theorem jN:Tryz.prog.cellsOf 74=10:=by kernel_rfl
theorem mH:Tryz.prog.cellsOf 72=1:=by kernel_rfl
theorem aCg {α:Type} {cs:List α} (h:cs.length=6) : ∃ c0 c1 c2 c3 c4 c5,cs = [c0,c1,c2,c3,c4,c5]:=by
 match cs,h with
 | [c0,c1,c2,c3,c4,c5],_=>exact ⟨c0,c1,c2,c3,c4,c5,rfl⟩
theorem aBa {α:Type} {cs:List α} (h:cs.length=10) : ∃ c0 c1 c2 c3 c4 c5 c6 c7 c8 c9,cs = [c0,c1,c2,c3,c4,c5,c6,c7,c8,c9]:=by
 match cs,h with
 | [c0,c1,c2,c3,c4,c5,c6,c7,c8,c9],_=>exact ⟨c0,c1,c2,c3,c4,c5,c6,c7,c8,c9,rfl⟩
section
variable {H:Type} {enc:TypeId × Value->H} {w:World} {base:Nat} {sp:Nat->Bool} {held:Bool}
theorem pK {fuel:Nat} {cs:List Value} {x:DataW H × List MemPlace} (h:DataW.trod enc Tryz.prog w base sp held fuel 71 cs=some x) : ∃ a:At,cs = [.string a.n,.int .i64 a.op,.int .i64 a.v,.int .i64 a.sl,.string a.f,.bool a.on]:=by
 obtain ⟨xs,m,_,hx,hl,hlen,hel⟩:=DataW.trod_struct Tryz.underlying71 h
 obtain ⟨c0,c1,c2,c3,c4,c5,rfl⟩:=aCg (hl.trans jL)
 match xs,hlen with
 | [y0,y1,y2,y3,y4,y5],_=>
  obtain ⟨n,e0,g0,_⟩:=DataW.trod_string Tryz.underlying9 (by simpa using hel 0 _ rfl)
  obtain ⟨op,e1,g1,_⟩:=DataW.trod_int Tryz.underlying3 (by simpa using hel 1 _ rfl)
  obtain ⟨v,e2,g2,_⟩:=DataW.trod_int Tryz.underlying3 (by simpa using hel 2 _ rfl)
  obtain ⟨sl,e3,g3,_⟩:=DataW.trod_int Tryz.underlying3 (by simpa using hel 3 _ rfl)
  obtain ⟨f,e4,g4,_⟩:=DataW.trod_string Tryz.underlying9 (by simpa using hel 4 _ rfl)
  obtain ⟨on,e5,g5⟩:=DataW.trod_bool Tryz.underlying4 (by simpa using hel 5 _ rfl)
  refine ⟨⟨n,op,v,sl,f,on⟩,?_⟩
  simp [eV,jM,sX] at e0 e1 e2 e3 e4 e5
  rw [e0,e1,e2,e3,e4,e5]
theorem xJ : ∀ (fuel:Nat) (cs:List Value) (x:DataW H × List MemPlace),DataW.trod enc Tryz.prog w base sp held fuel 74 cs=some x->∃ t:NT,aC (fun b=>b<w.heap.size) w t cs:=by
 intro fuel
 induction fuel using Nat.strongRecOn with
 | ind fuel ih=>
 intro cs x h
 obtain ⟨xs,m,hm,hx,hl,hlen,hel⟩:=DataW.trod_struct Tryz.underlying74 h
 obtain ⟨c0,c1,c2,c3,c4,c5,c6,c7,c8,c9,rfl⟩:=aBa (hl.trans jN)
 match xs,hlen with
 | [y0,y1,y2,y3,y4],_=>
  obtain ⟨k,e0,-,-⟩:=DataW.trod_int Tryz.underlying3 (by simpa using hel 0 _ rfl)
  obtain ⟨a,e1⟩:=pK (by simpa using hel 1 _ rfl)
  obtain ⟨fl,e2,-,-⟩:=DataW.trod_string Tryz.underlying9 (by simpa using hel 2 _ rfl)
  obtain ⟨nt,e3,-⟩:=DataW.trod_bool Tryz.underlying4 (by simpa using hel 3 _ rfl)
  have hs:=DataW.trod_slice Tryz.underlying72 (show DataW.trod enc Tryz.prog w base sp held m 72 _=some y4 by simpa using hel 4 _ rfl)
  simp [eV,jM,sX,jL] at e0 e1 e2 e3
  obtain ⟨e10,e11,e12,e13,e14,e15⟩:=e1
  rcases hs with ⟨e4,-⟩ | ⟨ad,len,cap,elems,rest,mm,hmm,e4,-,-,hlc,hcm,hle,hcell,-,-⟩
  ·simp [mH] at e4
   refine ⟨.node k a fl nt [],?_⟩
   rw [aC]
   exact ⟨none,0,by rw [e0,e10,e11,e12,e13,e14,e15,e2,e3,e4];rfl,Nat.le_refl _,by simp,by rw [aS];trivial⟩
  ·simp [mH] at e4
   have key : ∀ (q i:Nat),i+q=len->∃ ts:List NT,ts.length=q/\aS (fun b=>b<w.heap.size) w ts (some ad) i:=by
    intro q
    induction q with
    | zero=>intro i _;exact ⟨[],rfl,by rw [aS];trivial⟩
    | succ q ihq=>
     intro i hi
     obtain ⟨ts,hts,hk⟩:=ihq (i+1) (by omega)
     have hci:=hcell i (by omega)
     rw [jN,List.getElem?_eq_getElem (by omega)] at hci
     obtain ⟨csi,hc1,hc2⟩:=Option.bind_eq_some_iff.1 hci
     obtain ⟨t,ht⟩:=ih mm (by omega) csi _ hc2
     obtain ⟨hb1,hb2,hb3⟩:=World.cells?_some hc1
     have hblk:=World.cells?_block hc1 (by decide)
     refine ⟨t :: ts,by simp [hts],?_⟩
     rw [aS]
     refine ⟨⟨ad,csi,rfl,by rw [bC] at hblk;exact hblk,fun j v hv=> ?_,ht⟩,hk⟩
     have hj:j<10:=by rw [← hb2];exact (List.getElem?_eq_some_iff.1 hv).1
     rw [hb3 j hj];exact hv
   obtain ⟨ts,hts,hk⟩:=key len 0 (by omega)
   refine ⟨.node k a fl nt ts,?_⟩
   rw [aC]
   exact ⟨some ad,cap,by rw [e0,e10,e11,e12,e13,e14,e15,e2,e3,e4,hts],by omega,by unfold maxLen at hcm;omega,hk⟩
end
theorem yP {w:World} (h:w.ShapedOpen Tryz.prog):fS w:=by
 obtain ⟨m,hm⟩:=cell_of_shapedOpen_int (g:=0) (t:=3) (zero:=#[.int .i64 0]) (k:= .i64) h (of_decide_eq_true (by kernel_rfl)) (by kernel_rfl) rfl (by kernel_rfl) (by kernel_rfl) Tryz.underlying3
 exact ⟨jY hm,m,hm⟩
theorem oG {H:Type} {enc:TypeId × Value->H} {a:Assume} {C:Checked} {os:Os} {f:FuncId} {fn:Func} {s:ChangeSpec} {conds:List PathCond} {apart fresh handsOn again:Bool} {X:World->Array Value->Prop}
  (hX : ∀ (w w':World) (args:Array Value),w.heap=w'.heap->X w args->X w' args)
  (own:ownKnob C.prog.godebug=none) (started:os.Started) (noInit:C.prog.inits.idxOf? f=none) (hfn:C.prog.funcs[f]? = some fn)
  (witness : ∃ (w:World) (tape:Tape) (i:Input),w.os=os/\(w.forCall tape i).Shaped C.prog/\i.vars = []/\Input.okWide C.prog (w.forCall tape i) .any w.heap.size f i/\
   ((s.pre enc C.prog fn conds apart (w.forCall tape i).memory i.args/\X (w.forCall tape i).memory i.args)/\sizedMet enc C.prog fn (OpenSpec.ofChange s) apart (w.forCall tape i).memory i.args)/\a.holds C.prog (lone (Frame.enter C.prog f i.args .normal) [] (w.forCall tape i)))
  (mJ : ∀ (W:World) (base:Nat) (args:Array Value) (ds gs:List (DataW H)) (before:List MemPlace),
   (∀ (j:Nat) t v,fn.params[j]? = some t->args[j]? = some v->Value.okWide C.prog W .any base t v)->
   DataW.Whole enc C.prog fn.params.toList s.vars apart W args.toList ds gs before->
   X W args->W.ShapedOpen C.prog->
   Calls C.prog f args W fun e W'=> ∃ v,e=.returned v/\s.post enc C.prog fn apart fresh handsOn again W args v W') :
  ReturnsInHanded a C os f .any (fun w args=>(s.pre enc C.prog fn conds apart w args/\X w args)/\sizedMet enc C.prog fn (OpenSpec.ofChange s) apart w args) (s.post enc C.prog fn apart fresh handsOn again):=by
 refine returnsInHanded_of_calls own started noInit witness ?_
 intro w tape i _ hsh _ hok hpre _
 obtain ⟨_,_,_,fn',hfn',_,_,_,_,hval⟩:=hok
 obtain rfl:fn'=fn:=Option.some.inj (hfn'.symm.trans hfn)
 obtain ⟨⟨⟨ds,gs,before,hw,_⟩,hx⟩,_⟩:=hpre
 have hw':=DataW.Whole.of_heap (w':=w.forCall tape i) (by rfl) hw
 refine (mJ (w.forCall tape i) w.heap.size i.args ds gs before hval hw' (hX _ _ _ (by rfl) hx) hsh).mono fun e W' ⟨v,he,hp⟩=> ?_
 subst he
 exact ChangeSpec.post_blind hp
end Go.Proofs.YthaaaecmeafofaaGreatDoor
