/- valid.Holds and valid.Valid answer as the plain functions say. -/
import Derived.Test.YtlfonjngbpfelaaGreatDoorValidShare
import Derived.Test.YtlfonjngbpfelaaGreatDoorValidWish
namespace Go.Proofs.YtlfonjngbpfelaaGreatDoor
open Go.RowKit Go.Sort

def holdsR (ps : List PK) (ms : List MB) (k : Int) : Bool := decide (holdsE ps ms k = 0) && holdB ps ms k.toNat
set_option maxHeartbeats 2000000 in
set_option maxRecDepth 100000 in
theorem holdsAll_any (S : Nat → Prop) (ps : List PK) (ms : List MB) (tv lv : Value) (k : Int) (w : World) (hS : ∀ b, S b → b < w.heap.size) (hp : PkgsIs S w ps tv) (hm : MbsIs S w ms lv) :
    Calls Tryz.prog 47 #[.agg #[tv], lv, .int .i64 k] w fun e w' => e = .returned (.tuple #[.bool (holdsR ps ms k), .int .i64 (holdsE ps ms k)]) ∧ Keep w w' := by
  have HP := hid hp
  have HMS := hid hm
  obtain ⟨tp, tc, rfl, hlen⟩ := hp.len
  obtain ⟨lp, lc, rfl, hllen⟩ := hm.len
  have HX : Hid (holdsE ps ms k = if chkTS ps ms ≠ 0 then chkTS ps ms else if k < 0 ∨ (ms.length : Int) ≤ k then 5 else 0) := rfl
  have HR : Hid (holdsR ps ms k = (decide (holdsE ps ms k = 0) && holdB ps ms k.toNat)) := rfl
  clear hp hm
  go_enter Tryz.func47, Tryz.ntmps47
  go_wp2_with fail
  refine at_calls (fun W' => Keep w W' ∧ VarAt w.heap.size 44 (.slice tp ps.length tc) W') ⟨Keep.alloc _ _, VarAt.new _ _ _⟩ ?_
  rintro W0 ⟨k0, v0⟩
  refine (checkSet_any S ps ms _ _ W0 (fun b hb => Nat.lt_of_lt_of_le (hS b hb) k0.size) (HP.out.keep hS k0) (HMS.out.keep hS k0)).mono ?_
  rintro e w1 ⟨rfl, k1⟩
  have K1 := hid (k0.trans k1)
  have V1 := hid (v0.keep k1 v0.facts.2.2)
  clear k0 v0 k1
  by_cases hz : chkTS ps ms = 0
  · have HOK := hid (setOk_of hz)
    have HCT := hid (tree_of hz)
    have HX1 : Hid (holdsE ps ms k = if k < 0 ∨ (ms.length : Int) ≤ k then 5 else 0) := by show _ = _; rw [HX.out, if_neg (fun h => h hz)]
    rw [hz]
    clear hz HX
    by_cases h0 : k < 0
    · have HY : Hid (holdsE ps ms k = 5) := by show _ = _; rw [HX1.out, if_pos (Or.inl h0)]
      have HZ : Hid (holdsR ps ms k = false) := by show _ = _; rw [HR.out, HY.out]; rfl
      clear HX1 HR
      go_wp2_with fail
      go_ret2
      exact ⟨by rw [HY.out, HZ.out]; rfl, K1.out⟩
    by_cases h1 : (ms.length : Int) ≤ k
    · have HY : Hid (holdsE ps ms k = 5) := by show _ = _; rw [HX1.out, if_pos (Or.inr h1)]
      have HZ : Hid (holdsR ps ms k = false) := by show _ = _; rw [HR.out, HY.out]; rfl
      clear HX1 HR
      go_wp2_with fail
      go_ret2
      exact ⟨by rw [HY.out, HZ.out]; rfl, K1.out⟩
    obtain ⟨q, rfl⟩ : ∃ q : Nat, k = q := ⟨k.toNat, by omega⟩
    have hq : q < ms.length := by omega
    have HY : Hid (holdsE ps ms (q : Int) = 0) := by show _ = _; rw [HX1.out, if_neg (by omega)]
    have HZ : Hid (holdsR ps ms (q : Int) = holdB ps ms q) := by show _ = _; rw [HR.out, HY.out]; simp
    obtain ⟨hct, -, hlt⟩ := V1.out.facts
    clear HX1 HR
    go_wp2_with fail
    refine (holds_any S ps ms _ _ q w1 (fun b hb => Nat.lt_of_lt_of_le (hS b hb) K1.out.size) (HP.out.keep hS K1.out) (HMS.out.keep hS K1.out) hq HOK.out HCT.out).mono ?_
    rintro e w2 ⟨rfl, k2⟩
    have K2 := hid (K1.out.trans k2)
    clear k2 hct
    go_wp2_with fail
    go_ret2
    exact ⟨by rw [HY.out, HZ.out]; rfl, K2.out⟩
  · have HY : Hid (holdsE ps ms k = chkTS ps ms) := by show _ = _; rw [HX.out, if_pos hz]
    have HZ : Hid (holdsR ps ms k = false) := by show _ = _; rw [HR.out, HY.out, decide_eq_false hz]; rfl
    generalize chkTS ps ms = ct at HY hz ⊢
    have hz1 : (ct == 0) = false := by simp [hz]
    have hz2 : (ct != 0) = true := by simp [hz]
    clear hz HX HR
    go_wp2_with fail
    go_ret2
    exact ⟨by rw [HY.out, HZ.out]; rfl, K1.out⟩

def validR (ps : List PK) (wi : WI) (ms : List MB) : Bool := decide (validE ps wi ms = 0) && validB ps wi ms
theorem numsHas_any (S : Nat → Prop) (zs : List Int) (v : Value) (x : Int) (w : World) (h : NumsIs S w zs v) :
    Calls Tryz.prog 42 #[v, .int .i64 x] w fun e w' => e = .returned (.bool (zs.contains x)) ∧ w' = w := by
  obtain ⟨p, c, rfl, hl⟩ := h.len
  by_cases h0 : zs = []
  · subst h0
    refine (Tryz.slices_Contains_int_empty p c x w).mono ?_
    rintro e w' ⟨rfl, rfl⟩
    exact ⟨rfl, rfl⟩
  · obtain ⟨g, off, rfl, -, hc⟩ := h.get (List.length_pos_iff.2 h0)
    refine (Tryz.slices_Contains_int g off zs.length c zs x w (Nat.le_refl _) hl hc).mono ?_
    rintro e w' ⟨rfl, rfl⟩
    exact ⟨ret_bool (by rw [List.take_length]), rfl⟩
theorem allM_up {ps : List PK} {ma : List Int} {ms : List MB} : ∀ {i : Nat} (j : Nat), allM ps ma ms i = false → allM ps ma ms (i + j) = false
  | _, 0, h => h
  | i, j + 1, h => by
    rw [← Nat.add_assoc, allM, allM_up j h]; rfl

set_option maxHeartbeats 4000000 in
set_option maxRecDepth 100000 in
theorem valid_any (S : Nat → Prop) (ps : List PK) (wi : WI) (ms : List MB) (tv tsv inv mav onv lv : Value) (w : World) (hS : ∀ b, S b → b < w.heap.size) (hp : PkgsIs S w ps tv) (hw : WishIs S w wi tsv inv mav onv) (hm : MbsIs S w ms lv) :
    Calls Tryz.prog 46 #[.agg #[tv], .agg #[tsv, inv, mav, onv], lv] w fun e w' => e = .returned (.tuple #[.bool (validR ps wi ms), .int .i64 (validE ps wi ms)]) ∧ Keep w w' := by
  have HP := hid hp
  have HW := hid hw
  have HMS := hid hm
  obtain ⟨tp, tc, rfl, htlen⟩ := hp.len
  obtain ⟨p0, c0, rfl, hl0⟩ := hw.ts.len
  obtain ⟨p1, c1, rfl, hl1⟩ := hw.ins.len
  obtain ⟨p2, c2, rfl, hl2⟩ := hw.ma.len
  obtain ⟨p3, c3, rfl, hl3⟩ := hw.on.len
  obtain ⟨lp, lc, rfl, hllen⟩ := hm.len
  have HX : Hid (validE ps wi ms = if chkW ps wi ≠ 0 then chkW ps wi else chkTS ps ms) := rfl
  have HR : Hid (validR ps wi ms = (decide (validE ps wi ms = 0) && (targB ps ms wi.ts && allM ps wi.ma ms ms.length))) := rfl
  clear hp hw hm
  go_enter Tryz.func46, Tryz.ntmps46
  go_wp2_with fail
  refine at_calls (fun W' => Keep w W' ∧ VarAt w.heap.size 44 (.slice tp ps.length tc) W' ∧ Boxed (w.heap.size + 1) #[.slice p0 wi.ts.length c0, .slice p1 wi.ins.length c1, .slice p2 wi.ma.length c2, .slice p3 wi.on.length c3] W') ⟨(Keep.alloc _ _).alloc' _, (VarAt.new _ _ _).keep (Keep.alloc _ _) (by simp), ?_⟩ ?_
  · have := Boxed.new (w.alloc (.cells #[.slice tp ps.length tc] 44)) #[.slice p0 wi.ts.length c0, .slice p1 wi.ins.length c1, .slice p2 wi.ma.length c2, .slice p3 wi.on.length c3] 77
    rw [alloc_size] at this; exact this
  rintro W0 ⟨k0, v0, b0⟩
  refine (checkWish_any S ps wi _ _ _ _ _ W0 (fun b hb => Nat.lt_of_lt_of_le (hS b hb) k0.size) (HP.out.keep hS k0) (HW.out.keep hS k0)).mono ?_
  rintro e w1 ⟨rfl, k1⟩
  have K1 := hid (k0.trans k1)
  have V1 := hid (v0.keep k1 v0.facts.2.2)
  have B1 := hid (b0.keep k1 b0.1)
  clear k0 v0 b0 k1
  by_cases hz : chkW ps wi = 0
  · have HX1 : Hid (validE ps wi ms = chkTS ps ms) := by show _ = _; rw [HX.out, if_neg (fun h => h hz)]
    rw [hz]
    clear hz HX
    obtain ⟨hct, -, hlt⟩ := V1.out.facts
    go_wp2_with fail
    refine (checkSet_any S ps ms _ _ w1 (fun b hb => Nat.lt_of_lt_of_le (hS b hb) K1.out.size) (HP.out.keep hS K1.out) (HMS.out.keep hS K1.out)).mono ?_
    rintro e w2 ⟨rfl, k2⟩
    have K2 := hid (K1.out.trans k2)
    have V2 := hid (V1.out.keep k2 V1.out.facts.2.2)
    have B2 := hid (B1.out.keep k2 B1.out.1)
    clear k2 V1 B1 hct hlt
    by_cases hz : chkTS ps ms = 0
    · have HOK := hid (setOk_of hz)
      have HCT := hid (tree_of hz)
      have HE0 : Hid (validE ps wi ms = 0) := by show _ = _; rw [HX1.out, hz]
      have HR1 : Hid (validR ps wi ms = (targB ps ms wi.ts && allM ps wi.ma ms ms.length)) := by show _ = _; rw [HR.out, HE0.out]; simp
      rw [hz]
      have hcb := B2.out.2
      have hlb := B2.out.1
      clear hz HX1 HR
      go_wp2_with fail
      clear hcb hlb
      go_loopg [28] wi.ts.length (fun gk i wr => ∃ j : Nat, j + gk = wi.ts.length ∧ i = .int .i64 j ∧ (wi.ts.take j).all (fun a => someB ps ms (-1) a) = true ∧ Keep w wr ∧ VarAt w.heap.size 44 (.slice tp ps.length tc) wr ∧ Boxed (w.heap.size + 1) #[.slice p0 wi.ts.length c0, .slice p1 wi.ins.length c1, .slice p2 wi.ma.length c2, .slice p3 wi.on.length c3] wr)
      case atStart => exact ⟨0, by simp, rfl, by simp, K2.out, V2.out, B2.out⟩
      case round =>
        obtain ⟨j, hj, rfl, hall, hkp, hvt, hbx⟩ := hrel
        have HALL := hid hall
        have HK := hid hkp
        have HV := hid hvt
        have HB := hid hbx
        clear hall hkp hvt hbx K2 V2 B2
        by_cases hlt : j < wi.ts.length
        · obtain ⟨b, off, hp, hSb, c0', c1', c2', c3', c4', c5'⟩ := (HW.out.keep hS HK.out).ts.get hlt
          subst hp
          have HST : Hid ((wi.ts.take (j + 1)).all (fun a => someB ps ms (-1) a) = someB ps ms (-1) wi.ts[j]) := by
            show _ = _
            rw [List.take_succ_eq_append_getElem hlt, List.all_append, HALL.out]; simp
          have HNO : Hid (someB ps ms (-1) wi.ts[j] = false → validR ps wi ms = false) := fun h => by
            rw [HR1.out]
            have : targB ps ms wi.ts = false := by
              unfold targB
              rw [List.all_eq_false]
              exact ⟨wi.ts[j], List.getElem_mem hlt, by rw [h]; decide⟩
            rw [this]; rfl
          generalize wi.ts[j] = a at c0' c1' c2' c3' c4' c5' HST HNO
          obtain ⟨hct, -, hltt⟩ := HV.out.facts
          go_wp2_with fail
          refine at_calls (fun W' => Keep wr W') (Keep.alloc _ _) ?_
          intro W3 k3
          refine (someOther_any S ps ms _ _ (-1) a.n a.f a.op a.v a.sl a.on W3 (fun b hb => Nat.lt_of_lt_of_le (Nat.lt_of_lt_of_le (hS b hb) HK.out.size) k3.size) (HP.out.keep hS (HK.out.trans k3)) (HMS.out.keep hS (HK.out.trans k3)) HOK.out).mono ?_
          rintro e w4 ⟨rfl, k4⟩
          have K4' := hid (k3.trans k4)
          have K4 := hid (HK.out.trans K4'.out)
          have V4 := hid (HV.out.keep K4'.out HV.out.facts.2.2)
          have B4 := hid (HB.out.keep K4'.out HB.out.1)
          clear k3 k4 c0' c1' c2' c3' c4' c5' hct
          have HST2 : Hid ((wi.ts.take (j + 1)).all (fun a => someB ps ms (-1) a) = someB ps ms (-1) ⟨a.n, a.op, a.v, a.sl, a.f, a.on⟩) := HST.out
          have HNO2 : Hid (someB ps ms (-1) ⟨a.n, a.op, a.v, a.sl, a.f, a.on⟩ = false → validR ps wi ms = false) := HNO.out
          generalize someB ps ms (-1) ⟨a.n, a.op, a.v, a.sl, a.f, a.on⟩ = β at HST2 HNO2 ⊢
          clear HST HNO
          cases β
          · have HF := hid (HNO2.out rfl)
            clear HNO2
            go_wp2_with fail
            go_ret2
            exact ⟨by rw [HF.out, HE0.out]; rfl, K4.out⟩
          · clear HNO2
            go_wp2_with fail
            go_roundg (wi.ts.length - (j + 1))
            case rel => exact ⟨j + 1, by omega, by go_num, HST2.out, K4.out, V4.out, B4.out⟩
            case measure => omega
        · obtain rfl : j = wi.ts.length := by omega
          have HR2 : Hid (validR ps wi ms = allM ps wi.ma ms ms.length) := by
            show _ = _
            have h := HALL.out
            rw [List.take_length] at h
            rw [HR1.out, show targB ps ms wi.ts = true from h]; rfl
          clear HALL HR1 hj hlt
          go_wp2_with fail
          go_loopg [40] ms.length (fun gk i wr' => ∃ j : Nat, j + gk = ms.length ∧ i = .int .i64 j ∧ allM ps wi.ma ms j = true ∧ Keep w wr' ∧ VarAt w.heap.size 44 (.slice tp ps.length tc) wr' ∧ Boxed (w.heap.size + 1) #[.slice p0 wi.ts.length c0, .slice p1 wi.ins.length c1, .slice p2 wi.ma.length c2, .slice p3 wi.on.length c3] wr')
          case atStart => exact ⟨0, by simp, rfl, rfl, HK.out, HV.out, HB.out⟩
          case round =>
            obtain ⟨j, hj, rfl, hall, hkp, hvt, hbx⟩ := hrel
            clear HK HV HB
            have HALL := hid hall
            have HK := hid hkp
            have HV := hid hvt
            have HB := hid hbx
            clear hall hkp hvt hbx
            by_cases hlt : j < ms.length
            · have hSr : ∀ b, S b → b < wr.heap.size := fun b hb => Nat.lt_of_lt_of_le (hS b hb) HK.out.size
              obtain ⟨mb, moff, mcap, hmv, hmS, -, hrow⟩ := (HMS.out.keep hS HK.out).get hlt
              cases hmv
              obtain ⟨op, oc, hc0, -, -, -⟩ := hrow j _ (List.getElem?_eq_getElem hlt)
              have HST : Hid (allM ps wi.ma ms (j + 1) = (!wi.ma.contains ms[j].pl && holdB ps ms j && !shareN ps ms j j)) := by
                show _ = _
                rw [allM, HALL.out, memB, getD_mb ms j hlt]; rfl
              have HNO : Hid (allM ps wi.ma ms (j + 1) = false → validR ps wi ms = false) := fun h => by
                have := allM_up (ms.length - (j + 1)) h
                rw [show j + 1 + (ms.length - (j + 1)) = ms.length by omega] at this
                rw [HR2.out]; exact this
              generalize ms[j].pl = pl at hc0 HST
              have hmlt := hSr mb hmS
              clear hrow HALL
              go_upto_region 16 with fail
              have dw : ∀ o d os, (grow (redrawn wr d) os).cell? ⟨w.heap.size + 1, o, none⟩ = (#[.slice p0 wi.ts.length c0, .slice p1 wi.ins.length c1, .slice p2 wi.ma.length c2, .slice p3 wi.on.length c3] : Array Value)[o]? := fun o d os => (HB.out.keep (below_regrown wr d os) HB.out.1).2 o
              have dt : ∀ d os, (grow (redrawn wr d) os).cell? ⟨w.heap.size, 0, none⟩ = some (.slice tp ps.length tc) := fun d os => ((below_regrown wr d os).cell (p := ⟨w.heap.size, 0, none⟩) HV.out.facts.2.2).trans HV.out.facts.1
              have dm : ∀ d os, (grow (redrawn wr d) os).cell? ⟨mb, moff + j * 2, none⟩ = some (.int .i64 pl) := fun d os => ((below_regrown wr d os).cell (p := ⟨mb, moff + j * 2, none⟩) hmlt).trans hc0
              have hSg : ∀ d os b, S b → b < (grow (redrawn wr d) os).heap.size := fun d os b hb => Nat.lt_of_lt_of_le (hSr b hb) (below_regrown wr d os).size
              generalize hb1 : wi.ma.contains pl = β1 at HST
              generalize hb2 : holdB ps ms j = β2 at HST
              generalize hb3 : shareN ps ms j j = β3 at HST
              have cC := hid (show ∀ d os, Calls Tryz.prog 42 #[.slice p2 wi.ma.length c2, .int .i64 pl] (grow (redrawn wr d) os) fun e w'' => e = .returned (.bool β1) ∧ ∃ p : Regrown, w'' = grow (redrawn wr p.d) p.os from fun d os => by
                rw [← hb1]
                refine (numsHas_any S wi.ma _ pl _ (HW.out.ma.keep hS (HK.out.trans (below_regrown wr d os)))).mono ?_
                rintro e w' ⟨rfl, rfl⟩
                exact ⟨rfl, ⟨d, os⟩, rfl⟩)
              have cH := hid (show ∀ d os, Calls Tryz.prog 106 #[.agg #[.slice tp ps.length tc], .slice (some ⟨mb, moff, none⟩) ms.length lc, .int .i64 j] (grow (redrawn wr d) os) fun e w'' => e = .returned (.bool β2) ∧ ∃ p : Regrown, w'' = grow (redrawn wr p.d) p.os from fun d os => by
                rw [← hb2]
                exact Calls.regrown_of (holds_any S ps ms _ _ j _ (hSg d os) (HP.out.keep hS (HK.out.trans (below_regrown wr d os))) (HMS.out.keep hS (HK.out.trans (below_regrown wr d os))) hlt HOK.out HCT.out))
              have cS := hid (show ∀ d os, Calls Tryz.prog 107 #[.agg #[.slice tp ps.length tc], .slice (some ⟨mb, moff, none⟩) ms.length lc, .int .i64 j] (grow (redrawn wr d) os) fun e w'' => e = .returned (.bool β3) ∧ ∃ p : Regrown, w'' = grow (redrawn wr p.d) p.os from fun d os => by
                rw [← hb3]
                exact Calls.regrown_of (shares_any S ps ms _ _ j _ (hSg d os) (HP.out.keep hS (HK.out.trans (below_regrown wr d os))) (HMS.out.keep hS (HK.out.trans (below_regrown wr d os))) hlt HOK.out))
              clear hc0 hSg hb1 hb2 hb3
              cases β1
              · cases β2
                · refine wp_region_quiet_below (by kernel_rfl) (by kernel_rfl) ?_
                  repeat (first | go_big_quiet_step (first | exact cC.out _ _ | exact cH.out _ _ | exact cS.out _ _) | quiet_step (first | exact cC.out _ _ | exact cH.out _ _ | exact cS.out _ _))
                  refine wpQuiet_nil ?_
                  intro _ hw'
                  obtain ⟨⟨dq, osq⟩, hw''⟩ := hw'
                  subst hw''
                  have k4 := below_regrown wr dq osq
                  generalize grow (redrawn wr dq) osq = W4 at k4 ⊢
                  have K4 := hid (HK.out.trans k4)
                  have V4 := hid (HV.out.keep k4 HV.out.facts.2.2)
                  have B4 := hid (HB.out.keep k4 HB.out.1)
                  clear dw dt dm cC cH cS k4
                  have HF := hid (HNO.out HST.out)
                  clear HNO
                  go_wp2_with fail
                  go_ret2
                  exact ⟨by rw [HF.out, HE0.out]; rfl, K4.out⟩
                · cases β3
                  · refine wp_region_quiet_below (by kernel_rfl) (by kernel_rfl) ?_
                    repeat (first | go_big_quiet_step (first | exact cC.out _ _ | exact cH.out _ _ | exact cS.out _ _) | quiet_step (first | exact cC.out _ _ | exact cH.out _ _ | exact cS.out _ _))
                    refine wpQuiet_nil ?_
                    intro _ hw'
                    obtain ⟨⟨dq, osq⟩, hw''⟩ := hw'
                    subst hw''
                    have k4 := below_regrown wr dq osq
                    generalize grow (redrawn wr dq) osq = W4 at k4 ⊢
                    have K4 := hid (HK.out.trans k4)
                    have V4 := hid (HV.out.keep k4 HV.out.facts.2.2)
                    have B4 := hid (HB.out.keep k4 HB.out.1)
                    clear dw dt dm cC cH cS k4
                    clear HNO
                    go_wp2_with fail
                    go_roundg (ms.length - (j + 1))
                    case rel => exact ⟨j + 1, by omega, by go_num, HST.out, K4.out, V4.out, B4.out⟩
                    case measure => omega
                  · refine wp_region_quiet_below (by kernel_rfl) (by kernel_rfl) ?_
                    repeat (first | go_big_quiet_step (first | exact cC.out _ _ | exact cH.out _ _ | exact cS.out _ _) | quiet_step (first | exact cC.out _ _ | exact cH.out _ _ | exact cS.out _ _))
                    refine wpQuiet_nil ?_
                    intro _ hw'
                    obtain ⟨⟨dq, osq⟩, hw''⟩ := hw'
                    subst hw''
                    have k4 := below_regrown wr dq osq
                    generalize grow (redrawn wr dq) osq = W4 at k4 ⊢
                    have K4 := hid (HK.out.trans k4)
                    have V4 := hid (HV.out.keep k4 HV.out.facts.2.2)
                    have B4 := hid (HB.out.keep k4 HB.out.1)
                    clear dw dt dm cC cH cS k4
                    have HF := hid (HNO.out HST.out)
                    clear HNO
                    go_wp2_with fail
                    go_ret2
                    exact ⟨by rw [HF.out, HE0.out]; rfl, K4.out⟩
              · refine wp_region_quiet_below (by kernel_rfl) (by kernel_rfl) ?_
                repeat (first | go_big_quiet_step (first | exact cC.out _ _ | exact cH.out _ _ | exact cS.out _ _) | quiet_step (first | exact cC.out _ _ | exact cH.out _ _ | exact cS.out _ _))
                refine wpQuiet_nil ?_
                intro _ hw'
                obtain ⟨⟨dq, osq⟩, hw''⟩ := hw'
                subst hw''
                have k4 := below_regrown wr dq osq
                generalize grow (redrawn wr dq) osq = W4 at k4 ⊢
                have K4 := hid (HK.out.trans k4)
                have V4 := hid (HV.out.keep k4 HV.out.facts.2.2)
                have B4 := hid (HB.out.keep k4 HB.out.1)
                clear dw dt dm cC cH cS k4
                have HF := hid (HNO.out HST.out)
                clear HNO
                go_wp2_with fail
                go_ret2
                exact ⟨by rw [HF.out, HE0.out]; rfl, K4.out⟩
            · obtain rfl : j = ms.length := by omega
              go_wp2_with fail
              go_ret2
              exact ⟨by rw [HR2.out, HALL.out, HE0.out]; rfl, HK.out⟩
    · have HY : Hid (validE ps wi ms = chkTS ps ms) := HX1.out
      have HZ : Hid (validR ps wi ms = false) := by show _ = _; rw [HR.out, HY.out, decide_eq_false hz]; rfl
      generalize chkTS ps ms = ct at HY hz ⊢
      have hz1 : (ct == 0) = false := by simp [hz]
      have hz2 : (ct != 0) = true := by simp [hz]
      clear hz HX1 HR
      go_wp2_with fail
      go_ret2
      exact ⟨by rw [HY.out, HZ.out]; rfl, K2.out⟩
  · have HY : Hid (validE ps wi ms = chkW ps wi) := by show _ = _; rw [HX.out, if_pos hz]
    have HZ : Hid (validR ps wi ms = false) := by show _ = _; rw [HR.out, HY.out, decide_eq_false hz]; rfl
    generalize chkW ps wi = ct at HY hz ⊢
    have hz1 : (ct == 0) = false := by simp [hz]
    have hz2 : (ct != 0) = true := by simp [hz]
    clear hz HX HR
    go_wp2_with fail
    go_ret2
    exact ⟨by rw [HY.out, HZ.out]; rfl, K1.out⟩
end Go.Proofs.YtlfonjngbpfelaaGreatDoor
