/- quartermasterref.IsValid answers as the plain function validB says, of a right tree and a right set. -/
import Derived.Test.YtlfonjngbpfelaaGreatDoorRefHolds
import Derived.Test.YtlfonjngbpfelaaGreatDoorRefFlagF
import Derived.Test.YtlfonjngbpfelaaGreatDoorValidValid
namespace Go.Proofs.YtlfonjngbpfelaaGreatDoor
open Go.RowKit Go.Sort

theorem someN_any (ps : List PK) (ms : List MB) (a : At) : ∀ n, n ≤ ms.length → someN ps ms (-1) a n = (ms.take n).any (fun m => isB (pkOf ps m) m a)
  | 0, _ => by simp [someN]
  | n + 1, h => by
    rw [someN, someN_any ps ms a n (by omega), List.take_succ_eq_append_getElem (by omega), List.any_append, getD_mb ms n (by omega), decide_eq_false (show ¬ (n : Int) = -1 by omega)]
    simp
theorem someB_any (ps : List PK) (ms : List MB) (a : At) : someB ps ms (-1) a = ms.any (fun m => isB (pkOf ps m) m a) := by
  unfold someB; rw [someN_any ps ms a ms.length (Nat.le_refl _), List.take_length]

/-- The text that stands for a name and a slot. -/
def slotK (p : PK) : ByteArray := p.n ++ ⟨#[58]⟩ ++ ⟨(Lib.decDigits p.sl.toNat).toArray⟩
theorem nameB_size {s : ByteArray} (h : nameB s.data.toList = true) : s.size ≤ 8 := by
  unfold nameB at h
  rw [Bool.and_eq_true, Bool.and_eq_true] at h
  have h2 := of_decide_eq_true h.1.1
  rw [Array.length_toList] at h2
  exact h2
theorem slotK_list (p : PK) : (slotK p).data.toList = p.n.data.toList ++ [58] ++ Lib.decDigits p.sl.toNat := by
  unfold slotK; simp [ByteArray.data_append]
theorem slotK_same {p q : PK} (hp : 1 ≤ p.sl ∧ p.sl ≤ 9) (hq : 1 ≤ q.sl ∧ q.sl ≤ 9) : (slotK p).data.toList = (slotK q).data.toList ↔ (p.n.data.toList = q.n.data.toList ∧ p.sl = q.sl) := by
  rw [slotK_list, slotK_list, Lib.decDigits_one (by omega), Lib.decDigits_one (by omega)]
  constructor
  · intro h
    have h1 := List.append_inj_left' h rfl
    have h2 := List.append_inj_right' h rfl
    have h3 := List.append_inj_left' h1 rfl
    refine ⟨h3, ?_⟩
    have h4 : UInt8.ofNat (48 + p.sl.toNat) = UInt8.ofNat (48 + q.sl.toNat) := by simpa using h2
    have h5 := congrArg UInt8.toNat h4
    rw [UInt8.toNat_ofNat', UInt8.toNat_ofNat'] at h5
    omega
  · rintro ⟨h1, h2⟩; rw [h1, h2]
theorem share_key {ps : List PK} {ms : List MB} (hct : chkT ps = 0) (hok : SetOk ps ms) {k : Nat} (hk : k < ms.length) :
    decide ((slotK (pkOf ps ms[k])).data.toList ∈ ((ms.take k).map fun m => slotK (pkOf ps m)).map (·.data.toList)) = shareN ps ms k k := by
  have hr : ∀ (j : Nat) (h : j < ms.length), 1 ≤ (pkOf ps ms[j]).sl ∧ (pkOf ps ms[j]).sl ≤ 9 := fun j h => by
    obtain ⟨h0, h1, -⟩ := hok j _ (List.getElem?_eq_getElem h)
    obtain ⟨q, hq⟩ : ∃ q : Nat, ms[j].pl = q := ⟨ms[j].pl.toNat, by omega⟩
    have hqp : q < ps.length := by omega
    have hpk : pkOf ps ms[j] = ps[q] := by unfold pkOf; rw [hq, Int.toNat_natCast, getD_pk ps q hqp]
    rw [hpk]
    have := (chkP_get ((chkT_get hct).2 _ (List.getElem_mem hqp))).2.1
    omega
  rw [shareN_any ps ms k k (by omega), getD_mb ms k hk]
  cases h : (ms.take k).any (shB ps (pkOf ps ms[k]))
  · refine decide_eq_false fun hm => ?_
    rw [List.any_eq_false] at h
    simp only [List.map_map, List.mem_map] at hm
    obtain ⟨m, hm1, hm2⟩ := hm
    obtain ⟨j, hj, rfl⟩ := List.mem_iff_getElem.1 hm1
    have hjl : j < ms.length := by simp at hj; omega
    have e : (ms.take k)[j] = ms[j] := by simp
    have h1 := h _ hm1
    rw [e] at hm2 h1
    have h2 := (slotK_same (hr j hjl) (hr k hk)).1 hm2
    refine h1 ?_
    unfold shB
    rw [Lib.toList_data, Lib.toList_data, h2.1, h2.2]; simp
  · refine decide_eq_true ?_
    rw [List.any_eq_true] at h
    obtain ⟨m, hm1, hm2⟩ := h
    obtain ⟨j, hj, rfl⟩ := List.mem_iff_getElem.1 hm1
    have hjl : j < ms.length := by simp at hj; omega
    have e : (ms.take k)[j] = ms[j] := by simp
    simp only [List.map_map, List.mem_map]
    refine ⟨_, hm1, ?_⟩
    rw [e] at hm2 ⊢
    unfold shB at hm2
    rw [Bool.and_eq_true, Lib.toList_data, Lib.toList_data] at hm2
    refine (slotK_same (hr j hjl) (hr k hk)).2 ⟨?_, ?_⟩
    · simpa using hm2.1
    · simpa using hm2.2
theorem at_putAll {H : Type} (x : List UInt8) (z : DataW H) : ∀ (fs : List ByteArray) (D : DataW H), Maps.IsMap D → (putAll D fs).atKey (.string x) z = if x ∈ fs.map (·.data.toList) then .lit (.bool true) else D.atKey (.string x) z
  | [], D, _ => by simp [putAll]
  | f :: fs, D, hD => by
    have ih := at_putAll x z fs (D.put (.string f.data.toList) (.lit (.bool true))) (by cases D <;> simp_all [Maps.IsMap, DataW.put])
    show (putAll (D.put (.string f.data.toList) (.lit (.bool true))) fs).atKey (.string x) z = _
    rw [ih, List.map_cons]
    by_cases hx : x ∈ fs.map (·.data.toList)
    · rw [if_pos hx, if_pos (List.mem_cons_of_mem _ hx)]
    · rw [if_neg hx]
      by_cases h : x = f.data.toList
      · subst h
        rw [Maps.atKey_put_same hD (by simp [WideAt.IsKeyLit]), if_pos List.mem_cons_self]
      · rw [Maps.atKey_put_other (by simpa using h), if_neg (fun hm => (List.mem_cons.1 hm).elim h hx)]
theorem plainElem_bool_is {H : Type} {P : Program} {e : TypeId} (he : P.underlying e = some .bool) {v : Value} {c : Bool} {ps : List MemPlace} (h : plainElem (H := H) P e v = some (.lit (.bool c), ps)) : v = .bool c := by
  unfold plainElem at h
  rw [he] at h
  cases v with
  | bool b => simp at h; rw [h.1]
  | _ => simp at h
theorem seen_look {w : World} {g n : Nat} {fs : List ByteArray} (h : w.ownsMap (H := Unit) Tryz.prog 9 (plainElem Tryz.prog 4) g n (putAll (.map []) fs)) {s : ByteArray} (hs : s.size ≤ maxLen) :
    (Instr.lookup 108 (.map (some g)) (.string s) false).run Tryz.prog w = .ok (.bool (decide (s.data.toList ∈ fs.map (·.data.toList)))) w := by
  obtain ⟨v, ps, hrun, hv⟩ := h.lookup law_str Tryz.underlying108 (z := .bool false) (by kernel_rfl) (plainElem_bool Tryz.underlying4 false) (WideMaps.keyOf_string_mk Tryz.underlying9 hs)
  rw [at_putAll _ _ _ _ (by simp [Maps.IsMap])] at hv
  rw [hrun]
  by_cases hm : s.data.toList ∈ fs.map (·.data.toList)
  · rw [if_pos hm] at hv
    rw [plainElem_bool_is Tryz.underlying4 hv, decide_eq_true hm]
  · rw [if_neg hm] at hv
    rw [plainElem_bool_is Tryz.underlying4 (c := false) hv, decide_eq_false hm]

theorem enter_isv (args : Array Value) (w : World) : (callFunc 113 args).run Tryz.prog w = .ok (.enter 113 args) w := enters_of Tryz.func113 (by kernel_rfl) rfl args w
set_option maxHeartbeats 2000000 in
set_option maxRecDepth 100000 in
theorem isv_any (S : Nat → Prop) (ps : List PK) (m : MB) (op : Option Addr) (oc ct ca : Nat) (tp : Option Addr) (tc : Nat) (a : At) (w : World) (hS : ∀ b, S b → b < w.heap.size) (hp : PkgsIs S w ps (.slice tp ps.length tc)) (hct : chkT ps = 0) (ht : VarAt ct 44 (.slice tp ps.length tc) w)
    (ha : Boxed ca #[.string a.n, .int .i64 a.op, .int .i64 a.v, .int .i64 a.sl, .string a.f, .bool a.on] w) (hb : BoolsIs S w m.on (.slice op m.on.length oc)) (h0 : 0 ≤ m.pl) (h1 : m.pl < ps.length) (hon : m.on.length = (pkOf ps m).fl.length) (hom : m.on.length ≤ 9223372036854775807) :
    Calls Tryz.prog 113 #[.agg #[.int .i64 m.pl, .slice op m.on.length oc], .pointer (some ⟨ct, 0, none⟩), .pointer (some ⟨ca, 0, none⟩)] w fun e w' => e = .returned (.bool (isB (pkOf ps m) m a)) ∧ Keep w w' := by
  have HIS : Hid (∀ W, Keep w W → Calls Tryz.prog 114 #[.agg #[.slice tp ps.length tc], .agg #[.int .i64 m.pl, .slice op m.on.length oc], .agg #[.string a.n, .int .i64 a.op, .int .i64 a.v, .int .i64 a.sl, .string a.f, .bool a.on]] W fun e w' => e = .returned (.bool (isB (pkOf ps m) m a)) ∧ Keep W w') := fun W kW =>
    refIs_any S ps m op oc _ a.n a.f a.op a.v a.sl a.on W (fun b hb => Nat.lt_of_lt_of_le (hS b hb) kW.size) (hp.keep hS kW) hct (hb.keep hS kW) h0 h1 hon hom
  generalize isB (pkOf ps m) m a = β at HIS ⊢
  generalize m.pl = pl at HIS ⊢
  generalize m.on.length = ol at HIS hom ⊢
  have HT := hid ht
  have HA := hid ha
  clear hp hb ht ha h0 h1 hon
  go_enter Tryz.func113, Tryz.ntmps113
  go_upto_region 1 with fail
  refine at_wp (fun W' => Keep w W' ∧ Boxed w.heap.size #[.int .i64 pl, .slice op ol oc] W') ⟨Keep.alloc _ _, Boxed.new _ _ _⟩ ?_
  rintro W1 ⟨k1, b1⟩
  have K1 := hid k1
  have hb1c := b1.2
  have hb1l := b1.1
  have hac := (HA.out.keep k1 HA.out.1).2
  have hal := (HA.out.keep k1 HA.out.1).1
  obtain ⟨htc, -, htl⟩ := (HT.out.keep k1 HT.out.facts.2.2).facts
  clear k1 b1
  go_wp2_with fail
  refine (HIS.out W1 K1.out).mono ?_
  rintro e w2 ⟨rfl, k2⟩
  have K2 := hid (K1.out.trans k2)
  clear k2 hb1c hb1l hac hal htc htl
  go_wp2_with fail
  go_ret
  exact ⟨rfl, K2.out⟩

set_option maxHeartbeats 8000000 in
set_option maxRecDepth 100000 in
theorem refValid_any (S : Nat → Prop) (ps : List PK) (wi : WI) (ms : List MB) (tv tsv inv mav onv lv : Value) (w : World) (hS : ∀ b, S b → b < w.heap.size) (hp : PkgsIs S w ps tv) (hct : chkT ps = 0) (h : WishIs S w wi tsv inv mav onv) (hm : MbsIs S w ms lv) (hok : SetOk ps ms) :
    Calls Tryz.prog 51 #[.agg #[tv], .agg #[tsv, inv, mav, onv], lv] w fun e w' => e = .returned (.bool (validB ps wi ms)) ∧ Keep w w' := by
  have HP := hid hp
  have HW := hid h
  have HMS := hid hm
  have HOK := hid hok
  have HCT := hid hct
  obtain ⟨tp, tc, rfl, htlen⟩ := hp.len
  obtain ⟨p0, c0, rfl, hl0⟩ := h.ts.len
  obtain ⟨p1, c1, rfl, hl1⟩ := h.ins.len
  obtain ⟨p2, c2, rfl, hl2⟩ := h.ma.len
  obtain ⟨p3, c3, rfl, hl3⟩ := h.on.len
  obtain ⟨lp, lc, rfl, hllen⟩ := hm.len
  have HR : Hid (validB ps wi ms = (targB ps ms wi.ts && allM ps wi.ma ms ms.length)) := rfl
  have hmf : ∀ (fn : Fn) (first cap : Array Value) (w : World), (Instr.makeFunc fn first cap).run Tryz.prog w = .ok (.func fn first cap) w := fun _ _ _ _ => rfl
  have hent := enter_isv
  have hmm := @run_makeMap Tryz.prog
  have HM8 : Hid (ms.length ≤ maxLen) := hllen
  clear hp h hm hct hok
  go_enter Tryz.func51, Tryz.ntmps51
  go_upto_region 1 with fail
  refine at_wp (fun W' => Keep w W' ∧ VarAt w.heap.size 44 (.slice tp ps.length tc) W' ∧ Boxed (w.heap.size + 1) #[.slice p0 wi.ts.length c0, .slice p1 wi.ins.length c1, .slice p2 wi.ma.length c2, .slice p3 wi.on.length c3] W') ⟨(Keep.alloc _ _).alloc' _, (VarAt.new _ _ _).keep (Keep.alloc _ _) (by simp), boxed_at' (by simp) _ _⟩ ?_
  rintro W0 ⟨k0, v0, b0⟩
  have K0 := hid k0
  have V0 := hid v0
  have B0 := hid b0
  have hcb := b0.2
  have hlb := b0.1
  clear k0 v0 b0
  go_wp2_with fail
  clear hcb hlb
  go_loopg [17] wi.ts.length (fun gk i wr => ∃ j : Nat, j + gk = wi.ts.length ∧ i = .int .i64 j ∧ (wi.ts.take j).all (fun a => someB ps ms (-1) a) = true ∧ Keep w wr ∧ VarAt w.heap.size 44 (.slice tp ps.length tc) wr ∧ Boxed (w.heap.size + 1) #[.slice p0 wi.ts.length c0, .slice p1 wi.ins.length c1, .slice p2 wi.ma.length c2, .slice p3 wi.on.length c3] wr)
  case atStart => exact ⟨0, by simp, rfl, by simp, K0.out, V0.out, B0.out⟩
  case round =>
    obtain ⟨j, hj, rfl, hall, hkp, hvt, hbx⟩ := hrel
    have HALL := hid hall
    have HK := hid hkp
    have HV := hid hvt
    have HB := hid hbx
    clear hall hkp hvt hbx K0 V0 B0
    by_cases hlt : j < wi.ts.length
    · obtain ⟨b, off, hp, hSb, c0', c1', c2', c3', c4', c5'⟩ := (HW.out.keep hS HK.out).ts.get hlt
      subst hp
      have hSr : ∀ b, S b → b < wr.heap.size := fun b hb => Nat.lt_of_lt_of_le (hS b hb) HK.out.size
      have HST : Hid ((wi.ts.take (j + 1)).all (fun a => someB ps ms (-1) a) = someB ps ms (-1) wi.ts[j]) := by
        show _ = _
        rw [List.take_succ_eq_append_getElem hlt, List.all_append, HALL.out]; simp
      have HNO : Hid (someB ps ms (-1) wi.ts[j] = false → validB ps wi ms = false) := fun h => by
        rw [HR.out]
        have : targB ps ms wi.ts = false := by
          unfold targB
          rw [List.all_eq_false]
          exact ⟨wi.ts[j], List.getElem_mem hlt, by rw [h]; decide⟩
        rw [this]; rfl
      generalize wi.ts[j] = a at c0' c1' c2' c3' c4' c5' HST HNO
      have hblt := hSr b hSb
      go_upto_region 4 with fail
      refine at_wp (fun W' => Keep wr W' ∧ Boxed wr.heap.size #[.string a.n, .int .i64 a.op, .int .i64 a.v, .int .i64 a.sl, .string a.f, .bool a.on] W') ⟨Keep.alloc _ _, Boxed.new _ _ _⟩ ?_
      rintro W3 ⟨k3, b3⟩
      have K3' := hid k3
      have B3 := hid b3
      have hS3 : ∀ b, S b → b < W3.heap.size := fun b hb => Nat.lt_of_lt_of_le (hSr b hb) k3.size
      have HCON := hid (containsFuncM_any S ms (fun m => isB (pkOf ps m) m a) lp ms.length lc W3 (F := 113) (cap := #[.pointer (some ⟨w.heap.size, 0, none⟩), .pointer (some ⟨wr.heap.size, 0, none⟩)]) hS3 enter_isv (HMS.out.keep hS (HK.out.trans k3)) (fun i hi op oc W kW hbl => by
        obtain ⟨x0, x1, x2⟩ := HOK.out i _ (List.getElem?_eq_getElem hi)
        obtain ⟨_, _, hbe, hbm, -⟩ := id hbl
        exact isv_any S ps ms[i] op oc _ _ _ tc a W (fun b hb => Nat.lt_of_lt_of_le (hS3 b hb) kW.size) (HP.out.keep hS ((HK.out.trans k3).trans kW)) HCT.out ((HV.out.keep k3 HV.out.facts.2.2).keep kW (HV.out.keep k3 HV.out.facts.2.2).facts.2.2) (b3.keep kW b3.1) hbl x0 x1 x2 hbm))
      rw [← someB_any] at HCON
      clear k3 b3 c0' c1' c2' c3' c4' c5'
      go_wp2_with fail
      refine HCON.out.mono ?_
      rintro e w4 ⟨rfl, k4⟩
      have K4' := hid (K3'.out.trans k4)
      have K4 := hid (HK.out.trans K4'.out)
      have V4 := hid (HV.out.keep K4'.out HV.out.facts.2.2)
      have B4 := hid (HB.out.keep K4'.out HB.out.1)
      clear k4 HCON
      generalize someB ps ms (-1) a = β at HST HNO ⊢
      cases β
      · have HF := hid (HNO.out rfl)
        clear HNO
        go_wp2_with fail
        go_ret
        exact ⟨ret_bool HF.out.symm, K4.out⟩
      · clear HNO
        go_wp2_with fail
        go_roundg (wi.ts.length - (j + 1))
        case rel => exact ⟨j + 1, by omega, by go_num, HST.out, K4.out, V4.out, B4.out⟩
        case measure => omega
    · obtain rfl : j = wi.ts.length := by omega
      have HR2 : Hid (validB ps wi ms = allM ps wi.ma ms ms.length) := by
        show _ = _
        have h := HALL.out
        rw [List.take_length] at h
        rw [HR.out, show targB ps ms wi.ts = true from h]; rfl
      clear HALL HR hj hlt
      go_upto_region 8 with fail
      refine at_wp (fun W' => Keep w W' ∧ VarAt w.heap.size 44 (.slice tp ps.length tc) W' ∧ Boxed (w.heap.size + 1) #[.slice p0 wi.ts.length c0, .slice p1 wi.ins.length c1, .slice p2 wi.ma.length c2, .slice p3 wi.on.length c3] W' ∧ W'.ownsMap (H := Unit) Tryz.prog 9 (plainElem Tryz.prog 4) wr.heap.size 0 (putAll (.map []) [])) ⟨HK.out.alloc' _, HV.out.keep (Keep.alloc _ _) HV.out.facts.2.2, HB.out.keep (Keep.alloc _ _) HB.out.1, World.ownsMap_made _ _ _ _⟩ ?_
      rintro W5 ⟨k5, v5, b5, o5⟩
      have hgw : w.heap.size + 1 < wr.heap.size := HB.out.1
      generalize wr.heap.size = g at o5 hgw ⊢
      have K5 := hid k5
      have V5 := hid v5
      have B5 := hid b5
      have O5 := hid o5
      clear k5 v5 b5 o5 HK HV HB
      go_wp2_with fail
      go_loopg [29] ms.length (fun gk i wr' => ∃ j : Nat, j + gk = ms.length ∧ i = .int .i64 j ∧ allM ps wi.ma ms j = true ∧ Keep w wr' ∧ VarAt w.heap.size 44 (.slice tp ps.length tc) wr' ∧ Boxed (w.heap.size + 1) #[.slice p0 wi.ts.length c0, .slice p1 wi.ins.length c1, .slice p2 wi.ma.length c2, .slice p3 wi.on.length c3] wr' ∧ wr'.ownsMap (H := Unit) Tryz.prog 9 (plainElem Tryz.prog 4) g j (putAll (.map []) ((ms.take j).map fun m => slotK (pkOf ps m))))
      case atStart => exact ⟨0, by simp, rfl, rfl, K5.out, V5.out, B5.out, by simpa using O5.out⟩
      case round =>
        obtain ⟨j, hj, rfl, hall, hkp, hvt, hbx, hown⟩ := hrel
        have HALL := hid hall
        have HK := hid hkp
        have HV := hid hvt
        have HB := hid hbx
        have HO := hid hown
        clear hall hkp hvt hbx hown K5 V5 B5 O5
        by_cases hlt : j < ms.length
        · have hSr : ∀ b, S b → b < wr.heap.size := fun b hb => Nat.lt_of_lt_of_le (hS b hb) HK.out.size
          obtain ⟨mb, moff, mcap, hmv, hmS, -, hrow⟩ := (HMS.out.keep hS HK.out).get hlt
          cases hmv
          obtain ⟨op, oc, hc0, hc1, hon, -⟩ := hrow j _ (List.getElem?_eq_getElem hlt)
          obtain ⟨h0, h1, -⟩ := HOK.out j _ (List.getElem?_eq_getElem hlt)
          obtain ⟨q, hq⟩ : ∃ q : Nat, ms[j].pl = q := ⟨ms[j].pl.toNat, by omega⟩
          have hqp : q < ps.length := by omega
          have hpk : pkOf ps ms[j] = ps[q] := by unfold pkOf; rw [hq, Int.toNat_natCast, getD_pk ps q hqp]
          have HST : Hid (allM ps wi.ma ms (j + 1) = (!wi.ma.contains (q : Int) && holdsB ps ms j ps[q].nd && !shareN ps ms j j)) := by
            show _ = _
            rw [allM, HALL.out, memB, holdB, getD_mb ms j hlt, hpk, hq]; rfl
          have HNO : Hid (allM ps wi.ma ms (j + 1) = false → validB ps wi ms = false) := fun h => by
            have := allM_up (ms.length - (j + 1)) h
            rw [show j + 1 + (ms.length - (j + 1)) = ms.length by omega] at this
            rw [HR2.out]; exact this
          have HSH := hid (share_key HCT.out HOK.out hlt)
          have HTK : Hid (((ms.take (j + 1)).map fun m => slotK (pkOf ps m)) = ((ms.take j).map fun m => slotK (pkOf ps m)) ++ [slotK ps[q]]) := by
            show _ = _
            rw [List.take_succ_eq_append_getElem hlt, List.map_append, List.map_singleton, hpk]
          have HPR := hid ((chkT_get HCT.out).2 _ (List.getElem_mem hqp))
          have HHO : Hid (∀ (cs : List Value) (W : World), Keep wr W → NeedIs S W ps[q].nd cs → Calls Tryz.prog 52 #[.agg #[.slice tp ps.length tc], .slice (some ⟨mb, moff, none⟩) ms.length lc, .int .i64 j, .agg cs.toArray] W fun e w' => e = .returned (.bool (holdsB ps ms j ps[q].nd)) ∧ Keep W w') := fun cs W kW hnd =>
            refHolds_any hlt HOK.out HCT.out _ ps[q].nd (Nat.le_refl _) (by rw [hpk]; exact pk_flags HPR.out) cs W (fun b hb => Nat.lt_of_lt_of_le (hSr b hb) kW.size) (HP.out.keep hS (HK.out.trans kW)) (HMS.out.keep hS (HK.out.trans kW)) hnd
          rw [hpk] at HSH
          rw [hq] at hc0
          obtain ⟨tb, toff, tcap, htv, htb, -, htrow⟩ := (HP.out.keep hS HK.out).get hqp
          cases htv
          obtain ⟨cs, hcs, hpj⟩ := htrow q hqp
          generalize ps[q] = p at hpj HST HSH HTK HPR HHO
          obtain ⟨hnm, ⟨-, -, hs1, hs9⟩, -⟩ := chkP_get HPR.out
          have hn8 : p.n.size ≤ 8 := nameB_size hnm
          obtain ⟨kk, a', fl', nt', kids', kp', fp', kc', fc', hnd, hflen, rfl, -, hn⟩ := hpj.spelt
          obtain ⟨d0, d1, d2, d3, d4, d5, d6, d7, d8, d9, d10, d11, d12, d13⟩ := cells14 hcs
          have HN := hid hn
          have HCS := hid (HHO.out [.int .i64 kk, .string a'.n, .int .i64 a'.op, .int .i64 a'.v, .int .i64 a'.sl, .string a'.f, .bool a'.on, .string fl', .bool nt', .slice kp' kids'.length kc'])
          generalize hol : holdsB ps ms j p.nd = βh at HST HCS HHO
          generalize hsk : slotK p = key at HSH HTK
          have HKEY : Hid (key = p.n ++ ⟨#[58]⟩ ++ ⟨(Lib.decDigits p.sl.toNat).toArray⟩) := hsk.symm
          obtain ⟨s, hs⟩ : ∃ s : Nat, p.sl = s := ⟨p.sl.toNat, by omega⟩
          rw [hs] at d2 HKEY
          rw [Int.toNat_natCast] at HKEY
          have hs10 : s < 100 := by omega
          clear hcs hpj htrow hnd hn hrow h0 h1 HHO hsk hnm HPR hpk
          rcases p with ⟨pn, pv, psl, fs, nd⟩
          simp only at d0 d1 d2 d3 HKEY HN hn8 hs hs1 hs9 hflen hol HCS
          have hd2 := decDigits_le hs10
          have hksz : key.size ≤ maxLen := by
            rw [HKEY.out]
            have : (pn ++ ⟨#[58]⟩ ++ ⟨(Lib.decDigits s).toArray⟩ : ByteArray).size = pn.size + 1 + (Lib.decDigits s).length := by
              simp [ByteArray.size_append, mk_size]
            rw [this]; unfold maxLen; omega
          have hmlt := hSr mb hmS
          have htlt := hSr tb htb
          obtain ⟨htc, -, htl⟩ := HV.out.facts
          go_upto_region 11 with fail
          refine at_wp (fun W' => Keep wr W' ∧ Boxed wr.heap.size #[.int .i64 (q : Int), .slice op ms[j].on.length oc] W') ⟨Keep.alloc _ _, Boxed.new _ _ _⟩ ?_
          rintro W6 ⟨k6, b6⟩
          have gt : ∀ (o : Nat) (x : Value), wr.cell? ⟨tb, o, none⟩ = some x → W6.cell? ⟨tb, o, none⟩ = some x := fun o x h => (k6.cell (p := ⟨tb, o, none⟩) htlt).trans h
          replace d0 := gt _ _ d0
          replace d1 := gt _ _ d1
          replace d2 := gt _ _ d2
          replace d3 := gt _ _ d3
          replace d4 := gt _ _ d4
          replace d5 := gt _ _ d5
          replace d6 := gt _ _ d6
          replace d7 := gt _ _ d7
          replace d8 := gt _ _ d8
          replace d9 := gt _ _ d9
          replace d10 := gt _ _ d10
          replace d11 := gt _ _ d11
          replace d12 := gt _ _ d12
          replace d13 := gt _ _ d13
          have htlt6 : tb < W6.heap.size := Nat.lt_of_lt_of_le htlt k6.size
          have hmc := b6.2
          have hml := b6.1
          have htc6 := (k6.cell (p := ⟨w.heap.size, 0, none⟩) htl).trans htc
          have htl6 : w.heap.size < W6.heap.size := Nat.lt_of_lt_of_le htl k6.size
          have K6 := hid k6
          have B6 := hid b6
          clear gt k6 b6 hc0 hc1 htc htl
          go_upto_region 12 with fail
          refine at_wp (fun W' => Keep W6 W' ∧ Boxed W6.heap.size #[.string pn, .int .i64 pv, .int .i64 (s : Int), .slice fp' fs.length fc', .int .i64 kk, .string a'.n, .int .i64 a'.op, .int .i64 a'.v, .int .i64 a'.sl, .string a'.f, .bool a'.on, .string fl', .bool nt', .slice kp' kids'.length kc'] W') ⟨Keep.alloc _ _, Boxed.new _ _ _⟩ ?_
          rintro W7 ⟨k7, b7⟩
          have K7' := hid (K6.out.trans k7)
          have K7 := hid (HK.out.trans K7'.out)
          have V7 := hid (HV.out.keep K7'.out HV.out.facts.2.2)
          have B7 := hid (HB.out.keep K7'.out HB.out.1)
          have M7 := hid (B6.out.keep k7 B6.out.1)
          have P7 := hid b7
          have O7 : Hid (W7.ownsMap (H := Unit) Tryz.prog 9 (plainElem Tryz.prog 4) g j (putAll (.map []) ((ms.take j).map fun m => slotK (pkOf ps m)))) := by
            obtain ⟨es, clock, hb, F, hn, hD⟩ := HO.out
            exact ⟨es, clock, (K7'.out.block g HO.out.lt).trans hb, F, hn, hD⟩
          have hpc := b7.2
          have hpl := b7.1
          generalize W6.heap.size = cp at b7 P7 hpc hpl ⊢
          generalize wr.heap.size = cm at M7 hmc hml ⊢
          clear d0 d1 d2 d3 d4 d5 d6 d7 d8 d9 d10 d11 d12 d13 hmc hml htc6 htl6 htlt6 k7 b7 K6 B6
          have hqi := hid (show ∀ n, Calls Tryz.prog 90 #[.int .i64 (s : Int)] (W7.drewN n) fun e w'' => e = .returned (.string ⟨(Lib.decDigits s).toArray⟩) ∧ ∃ n', w'' = W7.drewN n' from fun n => by
            refine (Tryz.strconv_Itoa_small s hs10 _).mono ?_
            rintro e w' ⟨rfl, rfl⟩
            exact ⟨rfl, n, rfl⟩)
          go_quiet ((go_at_call 90; exact hqi.out _))
          rw [← HKEY.out]
          have k8 : Keep W7 (W7.drewN nq) := Keep.drewN (Keep.refl _) _
          have O8 : Hid ((W7.drewN nq).ownsMap (H := Unit) Tryz.prog 9 (plainElem Tryz.prog 4) g j (putAll (.map []) ((ms.take j).map fun m => slotK (pkOf ps m)))) := by
            obtain ⟨es, clock, hb, F, hn, hD⟩ := O7.out
            exact ⟨es, clock, (k8.block g O7.out.lt).trans hb, F, hn, hD⟩
          generalize W7.drewN nq = W8 at k8 O8 ⊢
          have K8' := hid (K7'.out.trans k8)
          have K8 := hid (K7.out.trans k8)
          have V8 := hid (V7.out.keep k8 V7.out.facts.2.2)
          have B8 := hid (B7.out.keep k8 B7.out.1)
          have M8 := hid (M7.out.keep k8 M7.out.1)
          have P8 := hid (P7.out.keep k8 P7.out.1)
          have hlook := seen_look O8.out (s := key) hksz
          rw [show decide (key.data.toList ∈ ((ms.take j).map fun m => slotK (pkOf ps m)).map (·.data.toList)) = shareN ps ms j j from HSH.out] at hlook
          clear k8 hpc hpl hqi K7' K7 V7 B7 M7 P7 O7 HSH
          generalize shareN ps ms j j = βs at hlook HST
          cases βs
          case true =>
            have HF := hid (HNO.out (by rw [HST.out]; simp))
            go_wp2_with fail
            go_ret
            exact ⟨ret_bool HF.out.symm, K8.out⟩
          have HCON := hid (numsHas_any S wi.ma _ (q : Int) W8 (HW.out.keep hS K8.out).ma)
          have hwc := B8.out.2
          have hwl := B8.out.1
          have hmc := M8.out.2
          have hml := M8.out.1
          go_wp2_with fail
          refine HCON.out.mono ?_
          rintro e w9 ⟨rfl, hw9⟩
          rw [hw9]
          clear hw9 HCON hlook hwc hwl hmc hml
          generalize wi.ma.contains (q : Int) = βc at HST ⊢
          cases βc
          case true =>
            have HF := hid (HNO.out (by rw [HST.out]; rfl))
            go_wp2_with fail
            go_ret
            exact ⟨ret_bool HF.out.symm, K8.out⟩
          have hpc := P8.out.2
          have hpl := P8.out.1
          obtain ⟨htc, -, htl⟩ := V8.out.facts
          have HCALL := hid (HCS.out W8 K8'.out (HN.out.keep hSr K8'.out))
          go_wp2_with fail
          refine HCALL.out.mono ?_
          rintro e w9 ⟨rfl, k9⟩
          have K9 := hid (K8.out.trans k9)
          have V9 := hid (V8.out.keep k9 V8.out.facts.2.2)
          have B9 := hid (B8.out.keep k9 B8.out.1)
          have O9 : Hid (w9.ownsMap (H := Unit) Tryz.prog 9 (plainElem Tryz.prog 4) g j (putAll (.map []) ((ms.take j).map fun m => slotK (pkOf ps m)))) := by
            obtain ⟨es, clock, hb, F, hn, hD⟩ := O8.out
            exact ⟨es, clock, (k9.block g O8.out.lt).trans hb, F, hn, hD⟩
          clear k9 hpc hpl htc htl HCALL HCS
          cases βh
          case false =>
            have HF := hid (HNO.out (by rw [HST.out]; rfl))
            go_wp2_with fail
            go_ret
            exact ⟨ret_bool HF.out.symm, K9.out⟩
          obtain ⟨W10, hrun, hown, hgrow⟩ := O9.out.update law_str Tryz.underlying108 (show j < maxLen by have := HM8.out; omega) (WideMaps.keyOf_string_mk Tryz.underlying9 hksz) (plainElem_bool Tryz.underlying4 true)
          have K10 : Hid (Keep w W10) := K9.out.grown hgrow K9.out.size (fun i hi => by cases hi; omega)
          have V10 := hid (V9.out.grew hgrow (by omega))
          have B10 := hid (box_grew B9.out hgrow (by omega))
          have O10 : Hid (W10.ownsMap (H := Unit) Tryz.prog 9 (plainElem Tryz.prog 4) g (j + 1) (putAll (.map []) ((ms.take (j + 1)).map fun m => slotK (pkOf ps m)))) := by
            rw [HTK.out, putAll_append]; exact hown
          clear hown hgrow
          go_wp2_with fail
          go_roundg (ms.length - (j + 1))
          case rel => exact ⟨j + 1, by omega, by go_num, HST.out, K10.out, V10.out, B10.out, O10.out⟩
          case measure => omega
        · obtain rfl : j = ms.length := by omega
          go_wp2_with fail
          go_ret
          exact ⟨ret_bool (by rw [HR2.out, HALL.out]), HK.out⟩
end Go.Proofs.YtlfonjngbpfelaaGreatDoor
