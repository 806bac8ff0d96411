/- The law ValidSays is true of any tree, wish, set and number. -/
import Derived.Test.YtlfonjngbpfelaaGreatDoorValidAllowed
import Derived.Test.YtlfonjngbpfelaaGreatDoorRefTree
import Derived.Test.YtlfonjngbpfelaaGreatDoorRefWish
import Derived.Test.YtlfonjngbpfelaaGreatDoorRefValid
namespace Go.Proofs.YtlfonjngbpfelaaGreatDoor
open Go.RowKit Go.Sort

theorem chkTS_right {ps : List PK} {ms : List MB} (h : chkT ps = 0) : chkTS ps ms = chkS ps ms := by unfold chkTS; rw [if_neg (fun e => e h)]
theorem chkTS_wrong {ps : List PK} {ms : List MB} (h : chkT ps ≠ 0) : chkTS ps ms = chkT ps := by unfold chkTS; rw [if_pos h]
theorem chkW_wrong {ps : List PK} {wi : WI} (h : chkT ps ≠ 0) : chkW ps wi = chkT ps := by unfold chkW; rw [chkTS_wrong h, if_pos h]

set_option maxHeartbeats 8000000 in
set_option maxRecDepth 100000 in
theorem validSays_walk (S : Nat → Prop) (ps : List PK) (wi : WI) (ms : List MB) (k : Int) (tv tsv inv mav onv lv : Value) (w : World) (hS : ∀ b, S b → b < w.heap.size) (hp : PkgsIs S w ps tv) (hw : WishIs S w wi tsv inv mav onv) (hm : MbsIs S w ms lv) (hE : Env w) (hM : MaxAt w) :
    Calls Tryz.prog 8 #[.agg #[tv], .agg #[tsv, inv, mav, onv], lv, .int .i64 k] w fun e w' => e = .returned (.bool true) ∧ Keep w w' := by
  have HP := hid hp
  have HW := hid hw
  have HMS := hid hm
  have HE := hid hE
  have HM := hid hM
  obtain ⟨tp, tc, rfl, htlen⟩ := hp.len
  obtain ⟨p0, c0, rfl, hl0⟩ := hw.ts.len
  obtain ⟨p1, c1, rfl, hl1⟩ := hw.ins.len
  obtain ⟨p2, c2, rfl, hl2⟩ := hw.ma.len
  obtain ⟨p3, c3, rfl, hl3⟩ := hw.on.len
  obtain ⟨lp, lc, rfl, hllen⟩ := hm.len
  have HSG : Hid (∀ W, Keep w W → ∀ b, S b → b < W.heap.size) := fun W kW b hb => Nat.lt_of_lt_of_le (hS b hb) kW.size
  clear hp hw hm hE hM
  go_enter Tryz.func8, Tryz.ntmps8
  go_upto_region 1 with fail
  refine at_wp (fun W' => Keep w W' ∧ VarAt w.heap.size 44 (.slice tp ps.length tc) W' ∧ Boxed (w.heap.size + 1) #[.slice p0 wi.ts.length c0, .slice p1 wi.ins.length c1, .slice p2 wi.ma.length c2, .slice p3 wi.on.length c3] W') ⟨(Keep.alloc _ _).alloc' _, (VarAt.new _ _ _).keep (Keep.alloc _ _) (by simp), boxed_at' (by simp) _ _⟩ ?_
  rintro W0 ⟨k0, v0, b0⟩
  have K0 := hid k0
  have V0 := hid v0
  have B0 := hid b0
  obtain ⟨htc, -, htl⟩ := v0.facts
  have hcb := b0.2
  have hlb := b0.1
  clear k0 v0 b0
  go_wp2_with fail
  refine (valid_any S ps wi ms _ _ _ _ _ _ W0 (HSG.out W0 K0.out) (HP.out.keep hS K0.out) (HW.out.keep hS K0.out) (HMS.out.keep hS K0.out)).mono ?_
  rintro e w1 ⟨rfl, k1⟩
  generalize hvr : validR ps wi ms = vr
  generalize hve : validE ps wi ms = ve
  have HVR := hid hvr
  have HVE := hid hve
  clear hvr hve htc htl hcb hlb
  have K1 := hid (K0.out.trans k1)
  have V1 := hid (V0.out.keep k1 V0.out.facts.2.2)
  have B1 := hid (B0.out.keep k1 B0.out.1)
  obtain ⟨htc, -, htl⟩ := V1.out.facts
  have hcb := B1.out.2
  have hlb := B1.out.1
  clear k1 K0 V0 B0
  go_wp2_with fail
  refine (holdsAll_any S ps ms _ _ k w1 (HSG.out _ K1.out) (HP.out.keep hS K1.out) (HMS.out.keep hS K1.out)).mono ?_
  rintro e w2 ⟨rfl, k2⟩
  generalize hhr : holdsR ps ms k = hr
  generalize hhe : holdsE ps ms k = he
  have HHR := hid hhr
  have HHE := hid hhe
  clear hhr hhe htc htl hcb hlb
  have K2 := hid (K1.out.trans k2)
  have V2 := hid (V1.out.keep k2 V1.out.facts.2.2)
  have B2 := hid (B1.out.keep k2 B1.out.1)
  obtain ⟨htc, -, htl⟩ := V2.out.facts
  have hcb := B2.out.2
  have hlb := B2.out.1
  clear k2 K1 V1 B1
  go_wp2_with fail
  refine (refCheckTree_any S ps _ w2 (HSG.out _ K2.out) (HP.out.keep hS K2.out)).mono ?_
  rintro e w3 ⟨rfl, k3⟩
  clear htc htl hcb hlb
  have K3 := hid (K2.out.trans k3)
  have V3 := hid (V2.out.keep k3 V2.out.facts.2.2)
  have B3 := hid (B2.out.keep k3 B2.out.1)
  obtain ⟨htc, -, htl⟩ := V3.out.facts
  have hcb := B3.out.2
  have hlb := B3.out.1
  clear k3 K2 V2 B2
  by_cases hct : chkT ps = 0
  · rw [hct]
    go_wp2_with fail
    refine (refWish_any S ps wi _ _ _ _ _ w3 (HSG.out _ K3.out) (HP.out.keep hS K3.out) hct (HW.out.keep hS K3.out)).mono ?_
    rintro e w4 ⟨rfl, k4⟩
    clear htc htl hcb hlb
    have K4 := hid (K3.out.trans k4)
    have V4 := hid (V3.out.keep k4 V3.out.facts.2.2)
    have B4 := hid (B3.out.keep k4 B3.out.1)
    obtain ⟨htc, -, htl⟩ := V4.out.facts
    have hcb := B4.out.2
    have hlb := B4.out.1
    clear k4 K3 V3 B3
    generalize hcw : chkW ps wi = cw
    have HCW := hid hcw
    clear hcw
    have hcc : (cw == cw) = true := by simp
    have hcd : (cw != cw) = false := by simp
    go_wp2_with fail
    refine (allowed_any w4 (HE.out.keep K4.out) (HM.out.keep K4.out)).mono ?_
    rintro e w5 ⟨rfl, k5⟩
    clear htc htl hcb hlb
    have K5 := hid (K4.out.trans k5)
    have V5 := hid (V4.out.keep k5 V4.out.facts.2.2)
    have B5 := hid (B4.out.keep k5 B4.out.1)
    obtain ⟨htc, -, htl⟩ := V5.out.facts
    have hcb := B5.out.2
    have hlb := B5.out.1
    clear k5 K4 V4 B4
    go_wp2_with fail
    have hcwi := checkWish_any S ps wi _ _ _ _ _ w5 (HSG.out _ K5.out) (HP.out.keep hS K5.out) (HW.out.keep hS K5.out)
    rw [HCW.out] at hcwi
    refine hcwi.mono ?_
    clear hcwi
    rintro e w6 ⟨rfl, k6⟩
    clear htc htl hcb hlb
    have K6 := hid (K5.out.trans k6)
    have V6 := hid (V5.out.keep k6 V5.out.facts.2.2)
    have B6 := hid (B5.out.keep k6 B5.out.1)
    obtain ⟨htc, -, htl⟩ := V6.out.facts
    have hcb := B6.out.2
    have hlb := B6.out.1
    clear k6 K5 V5 B5
    go_wp2_with fail
    refine (refCheckTree_any S ps _ w6 (HSG.out _ K6.out) (HP.out.keep hS K6.out)).mono ?_
    rintro e w7 ⟨rfl, k7⟩
    clear htc htl hcb hlb
    have K7 := hid (K6.out.trans k7)
    have V7 := hid (V6.out.keep k7 V6.out.facts.2.2)
    have B7 := hid (B6.out.keep k7 B6.out.1)
    obtain ⟨htc, -, htl⟩ := V7.out.facts
    have hcb := B7.out.2
    have hlb := B7.out.1
    clear k7 K6 V6 B6
    rw [hct]
    go_wp2_with fail
    refine (refSet_any S ps ms _ _ w7 (HSG.out _ K7.out) (HP.out.keep hS K7.out) (HMS.out.keep hS K7.out)).mono ?_
    rintro e w8 ⟨rfl, k8⟩
    clear htc htl hcb hlb
    have K8 := hid (K7.out.trans k8)
    have V8 := hid (V7.out.keep k8 V7.out.facts.2.2)
    have B8 := hid (B7.out.keep k8 B7.out.1)
    obtain ⟨htc, -, htl⟩ := V8.out.facts
    have hcb := B8.out.2
    have hlb := B8.out.1
    clear k8 K7 V7 B7
    have HTSS := hid (chkTS_right (ms := ms) hct)
    generalize hcs : chkS ps ms = cs at HTSS ⊢
    clear hcs
    clear hcc hcd
    by_cases hw0 : cw = 0
    · subst hw0
      have e1 : validE ps wi ms = cs := by unfold validE; rw [HCW.out, if_neg (fun h => h rfl), HTSS.out]
      obtain rfl : ve = cs := HVE.out.symm.trans e1
      by_cases hs0 : ve = 0
      · subst hs0
        have HTS : Hid (chkTS ps ms = 0) := HTSS.out
        have e2 : validR ps wi ms = validB ps wi ms := by unfold validR; rw [e1]; rfl
        have HVB : Hid (validB ps wi ms = vr) := e2.symm.trans HVR.out
        clear e1 e2 HVR HVE HTSS HCW
        have hcv := refValid_any S ps wi ms _ _ _ _ _ _ w8 (HSG.out _ K8.out) (HP.out.keep hS K8.out) hct (HW.out.keep hS K8.out) (HMS.out.keep hS K8.out) (setOk_of HTS.out)
        rw [HVB.out] at hcv
        go_wp2_with fail
        refine hcv.mono ?_
        rintro e w9 ⟨rfl, k9⟩
        clear hcv htc htl hcb hlb
        have hvv : (vr == vr) = true := by cases vr <;> rfl
        have hvw : (vr != vr) = false := by cases vr <;> rfl
        have K9 := hid (K8.out.trans k9)
        have V9 := hid (V8.out.keep k9 V8.out.facts.2.2)
        have B9 := hid (B8.out.keep k9 B8.out.1)
        obtain ⟨htc, -, htl⟩ := V9.out.facts
        have hcb := B9.out.2
        have hlb := B9.out.1
        clear k9 K8 V8 B8
        by_cases hk : k < 0 ∨ (ms.length : Int) ≤ k
        · have e1 : holdsE ps ms k = 5 := by unfold holdsE; rw [HTS.out, if_neg (fun h => h rfl), if_pos hk]
          have e2 : holdsR ps ms k = false := by unfold holdsR; rw [e1]; rfl
          obtain rfl : he = 5 := HHE.out.symm.trans e1
          obtain rfl : hr = false := HHR.out.symm.trans e2
          clear e1 e2 HHE HHR
          by_cases hk0 : k < 0
          · clear hk
            go_upto_region 17 with fail
            go_quiet (fail)
            go_wp2_with fail
            go_ret
            exact ⟨rfl, Keep.drewN K9.out _⟩
          · have hk1 : (ms.length : Int) ≤ k := by omega
            clear hk
            go_upto_region 17 with fail
            go_quiet (fail)
            go_wp2_with fail
            go_ret
            exact ⟨rfl, Keep.drewN K9.out _⟩
        · obtain ⟨n, rfl⟩ : ∃ n : Nat, k = n := ⟨k.toNat, by omega⟩
          have hn : n < ms.length := by omega
          have e1 : holdsE ps ms n = 0 := by unfold holdsE; rw [HTS.out, if_neg (fun h => h rfl), if_neg hk]
          have e2 : holdsR ps ms n = holdB ps ms n := by unfold holdsR; rw [e1, Int.toNat_natCast]; rfl
          obtain rfl : he = 0 := HHE.out.symm.trans e1
          have HHB : Hid (hr = holdB ps ms n) := HHR.out.symm.trans e2
          clear e1 e2 HHE HHR hk
          have hSr := HSG.out _ K9.out
          have hok := setOk_of HTS.out
          obtain ⟨mb, moff, mcap, hmv, hmS, -, hrow⟩ := (HMS.out.keep hS K9.out).get hn
          cases hmv
          obtain ⟨op, oc, hc0, -, -, -⟩ := hrow n _ (List.getElem?_eq_getElem hn)
          obtain ⟨h0, h1, -⟩ := hok n _ (List.getElem?_eq_getElem hn)
          obtain ⟨q, hq⟩ : ∃ q : Nat, ms[n].pl = q := ⟨ms[n].pl.toNat, by omega⟩
          have hqp : q < ps.length := by omega
          have hpk : pkOf ps ms[n] = ps[q] := by unfold pkOf; rw [hq, Int.toNat_natCast, getD_pk ps q hqp]
          have HHB2 : Hid (holdsB ps ms n ps[q].nd = hr) := by show _ = _; rw [HHB.out, holdB, getD_mb ms n hn, hpk]
          have hpr := (chkT_get hct).2 _ (List.getElem_mem hqp)
          have HHO : Hid (∀ (cs : List Value) (W : World), Keep w9 W → NeedIs S W ps[q].nd cs → Calls Tryz.prog 52 #[.agg #[.slice tp ps.length tc], .slice (some ⟨mb, moff, none⟩) ms.length lc, .int .i64 n, .agg cs.toArray] W fun e w' => e = .returned (.bool (holdsB ps ms n ps[q].nd)) ∧ Keep W w') := fun cs W kW hnd =>
            refHolds_any hn hok hct _ ps[q].nd (Nat.le_refl _) (by rw [hpk]; exact pk_flags hpr) cs W (fun b hb => Nat.lt_of_lt_of_le (hSr b hb) kW.size) (HP.out.keep hS (K9.out.trans kW)) (HMS.out.keep hS (K9.out.trans kW)) hnd
          rw [HHB2.out] at HHO
          rw [hq] at hc0
          obtain ⟨tb, toff, tcap, htv, htb, -, htrow⟩ := (HP.out.keep hS K9.out).get hqp
          cases htv
          obtain ⟨cs, hcs, hpj⟩ := htrow q hqp
          generalize ps[q] = p at hpj HHO
          obtain ⟨kk, a', fl', nt', kids', kp', fp', kc', fc', hnd, hflen, rfl, -, hnn⟩ := hpj.spelt
          obtain ⟨-, -, -, -, d4, d5, d6, d7, d8, d9, d10, d11, d12, d13⟩ := cells14 hcs
          have HN := hid hnn
          have hmlt := hSr mb hmS
          have htlt := hSr tb htb
          clear hcs hpj htrow hnd hnn hrow h0 h1 hpk hpr hok hq HHB HHB2
          clear hcb hlb
          go_upto_region 17 with fail
          have dt : ∀ d os, (grow (redrawn w9 d) os).cell? ⟨w.heap.size, 0, none⟩ = some (.slice (some ⟨tb, toff, none⟩) ps.length tc) := fun d os => ((below_regrown w9 d os).cell (p := ⟨w.heap.size, 0, none⟩) htl).trans htc
          have dm : ∀ d os, (grow (redrawn w9 d) os).cell? ⟨mb, moff + n * 2, none⟩ = some (.int .i64 q) := fun d os => ((below_regrown w9 d os).cell (p := ⟨mb, moff + n * 2, none⟩) hmlt).trans hc0
          have gt : ∀ (o : Nat) (x : Value), w9.cell? ⟨tb, o, none⟩ = some x → ∀ d os, (grow (redrawn w9 d) os).cell? ⟨tb, o, none⟩ = some x := fun o x h d os => ((below_regrown w9 d os).cell (p := ⟨tb, o, none⟩) htlt).trans h
          replace d4 := gt _ _ d4
          replace d5 := gt _ _ d5
          replace d6 := gt _ _ d6
          replace d7 := gt _ _ d7
          replace d8 := gt _ _ d8
          replace d9 := gt _ _ d9
          replace d10 := gt _ _ d10
          replace d11 := gt _ _ d11
          replace d12 := gt _ _ d12
          replace d13 := gt _ _ d13
          have cH := hid (show ∀ d os, Calls Tryz.prog 52 #[.agg #[.slice (some ⟨tb, toff, none⟩) ps.length tc], .slice (some ⟨mb, moff, none⟩) ms.length lc, .int .i64 n, .agg #[.int .i64 kk, .string a'.n, .int .i64 a'.op, .int .i64 a'.v, .int .i64 a'.sl, .string a'.f, .bool a'.on, .string fl', .bool nt', .slice kp' kids'.length kc']] (grow (redrawn w9 d) os) fun e w'' => e = .returned (.bool hr) ∧ ∃ p : Regrown, w'' = grow (redrawn w9 p.d) p.os from fun d os =>
            Calls.regrown_of (HHO.out _ _ (below_regrown w9 d os) (HN.out.keep hSr (below_regrown w9 d os))))
          clear gt hc0 htc HHO HN
          cases hr
          all_goals
            refine wp_region_quiet_below (by kernel_rfl) (by kernel_rfl) ?_
            repeat (first | go_big_quiet_step (exact cH.out _ _) | quiet_step (exact cH.out _ _))
            refine wpQuiet_nil ?_
            intro _ hw'
            obtain ⟨⟨dq, osq⟩, hw''⟩ := hw'
            subst hw''
            have k9 := below_regrown w9 dq osq
            generalize grow (redrawn w9 dq) osq = W9 at k9 ⊢
            have K9 := hid (K9.out.trans k9)
            clear dt dm d4 d5 d6 d7 d8 d9 d10 d11 d12 d13 cH k9
            go_wp2_with fail
            go_ret
            exact ⟨rfl, K9.out⟩
      · have HTS : Hid (chkTS ps ms = ve) := HTSS.out
        have e2 : validR ps wi ms = false := by unfold validR; rw [e1, decide_eq_false hs0]; rfl
        obtain rfl : vr = false := HVR.out.symm.trans e2
        have hne := hs0
        clear e1 e2 HVR HVE HTSS HCW hs0
        have e1 : holdsE ps ms k = ve := by unfold holdsE; rw [HTS.out, if_pos hne]
        have e2 : holdsR ps ms k = false := by unfold holdsR; rw [e1, decide_eq_false hne]; rfl
        obtain rfl : he = ve := HHE.out.symm.trans e1
        obtain rfl : hr = false := HHR.out.symm.trans e2
        clear e1 e2 HHE HHR HTS
        have hz1 : (he == 0) = false := by simp [hne]
        have hz2 : (he != 0) = true := by simp [hne]
        have hee : (he == he) = true := by simp
        have hef : (he != he) = false := by simp
        clear hne
        go_upto_region 17 with fail
        go_quiet (fail)
        go_wp2_with fail
        go_ret
        exact ⟨rfl, Keep.drewN K8.out _⟩
    · have hwz1 : (cw == 0) = false := by simp [hw0]
      have hwz2 : (cw != 0) = true := by simp [hw0]
      have e1 : validE ps wi ms = cw := by unfold validE; rw [HCW.out, if_pos hw0]
      have e2 : validR ps wi ms = false := by unfold validR; rw [e1, decide_eq_false hw0]; rfl
      obtain rfl : ve = cw := HVE.out.symm.trans e1
      obtain rfl : vr = false := HVR.out.symm.trans e2
      have hee : (ve == ve) = true := by simp
      have hef : (ve != ve) = false := by simp
      clear e1 e2 HVR HVE HCW hw0
      by_cases hs0 : cs = 0
      · subst hs0
        have HTS : Hid (chkTS ps ms = 0) := HTSS.out
        clear HTSS
        by_cases hk : k < 0 ∨ (ms.length : Int) ≤ k
        · have e1 : holdsE ps ms k = 5 := by unfold holdsE; rw [HTS.out, if_neg (fun h => h rfl), if_pos hk]
          have e2 : holdsR ps ms k = false := by unfold holdsR; rw [e1]; rfl
          obtain rfl : he = 5 := HHE.out.symm.trans e1
          obtain rfl : hr = false := HHR.out.symm.trans e2
          clear e1 e2 HHE HHR
          by_cases hk0 : k < 0
          · clear hk
            go_upto_region 17 with fail
            go_quiet (fail)
            go_wp2_with fail
            go_ret
            exact ⟨rfl, Keep.drewN K8.out _⟩
          · have hk1 : (ms.length : Int) ≤ k := by omega
            clear hk
            go_upto_region 17 with fail
            go_quiet (fail)
            go_wp2_with fail
            go_ret
            exact ⟨rfl, Keep.drewN K8.out _⟩
        · obtain ⟨n, rfl⟩ : ∃ n : Nat, k = n := ⟨k.toNat, by omega⟩
          have hn : n < ms.length := by omega
          have e1 : holdsE ps ms n = 0 := by unfold holdsE; rw [HTS.out, if_neg (fun h => h rfl), if_neg hk]
          have e2 : holdsR ps ms n = holdB ps ms n := by unfold holdsR; rw [e1, Int.toNat_natCast]; rfl
          obtain rfl : he = 0 := HHE.out.symm.trans e1
          have HHB : Hid (hr = holdB ps ms n) := HHR.out.symm.trans e2
          clear e1 e2 HHE HHR hk
          have hSr := HSG.out _ K8.out
          have hok := setOk_of HTS.out
          obtain ⟨mb, moff, mcap, hmv, hmS, -, hrow⟩ := (HMS.out.keep hS K8.out).get hn
          cases hmv
          obtain ⟨op, oc, hc0, -, -, -⟩ := hrow n _ (List.getElem?_eq_getElem hn)
          obtain ⟨h0, h1, -⟩ := hok n _ (List.getElem?_eq_getElem hn)
          obtain ⟨q, hq⟩ : ∃ q : Nat, ms[n].pl = q := ⟨ms[n].pl.toNat, by omega⟩
          have hqp : q < ps.length := by omega
          have hpk : pkOf ps ms[n] = ps[q] := by unfold pkOf; rw [hq, Int.toNat_natCast, getD_pk ps q hqp]
          have HHB2 : Hid (holdsB ps ms n ps[q].nd = hr) := by show _ = _; rw [HHB.out, holdB, getD_mb ms n hn, hpk]
          have hpr := (chkT_get hct).2 _ (List.getElem_mem hqp)
          have HHO : Hid (∀ (cs : List Value) (W : World), Keep w8 W → NeedIs S W ps[q].nd cs → Calls Tryz.prog 52 #[.agg #[.slice tp ps.length tc], .slice (some ⟨mb, moff, none⟩) ms.length lc, .int .i64 n, .agg cs.toArray] W fun e w' => e = .returned (.bool (holdsB ps ms n ps[q].nd)) ∧ Keep W w') := fun cs W kW hnd =>
            refHolds_any hn hok hct _ ps[q].nd (Nat.le_refl _) (by rw [hpk]; exact pk_flags hpr) cs W (fun b hb => Nat.lt_of_lt_of_le (hSr b hb) kW.size) (HP.out.keep hS (K8.out.trans kW)) (HMS.out.keep hS (K8.out.trans kW)) hnd
          rw [HHB2.out] at HHO
          rw [hq] at hc0
          obtain ⟨tb, toff, tcap, htv, htb, -, htrow⟩ := (HP.out.keep hS K8.out).get hqp
          cases htv
          obtain ⟨cs, hcs, hpj⟩ := htrow q hqp
          generalize ps[q] = p at hpj HHO
          obtain ⟨kk, a', fl', nt', kids', kp', fp', kc', fc', hnd, hflen, rfl, -, hnn⟩ := hpj.spelt
          obtain ⟨-, -, -, -, d4, d5, d6, d7, d8, d9, d10, d11, d12, d13⟩ := cells14 hcs
          have HN := hid hnn
          have hmlt := hSr mb hmS
          have htlt := hSr tb htb
          clear hcs hpj htrow hnd hnn hrow h0 h1 hpk hpr hok hq HHB HHB2
          clear hcb hlb
          go_upto_region 17 with fail
          have dt : ∀ d os, (grow (redrawn w8 d) os).cell? ⟨w.heap.size, 0, none⟩ = some (.slice (some ⟨tb, toff, none⟩) ps.length tc) := fun d os => ((below_regrown w8 d os).cell (p := ⟨w.heap.size, 0, none⟩) htl).trans htc
          have dm : ∀ d os, (grow (redrawn w8 d) os).cell? ⟨mb, moff + n * 2, none⟩ = some (.int .i64 q) := fun d os => ((below_regrown w8 d os).cell (p := ⟨mb, moff + n * 2, none⟩) hmlt).trans hc0
          have gt : ∀ (o : Nat) (x : Value), w8.cell? ⟨tb, o, none⟩ = some x → ∀ d os, (grow (redrawn w8 d) os).cell? ⟨tb, o, none⟩ = some x := fun o x h d os => ((below_regrown w8 d os).cell (p := ⟨tb, o, none⟩) htlt).trans h
          replace d4 := gt _ _ d4
          replace d5 := gt _ _ d5
          replace d6 := gt _ _ d6
          replace d7 := gt _ _ d7
          replace d8 := gt _ _ d8
          replace d9 := gt _ _ d9
          replace d10 := gt _ _ d10
          replace d11 := gt _ _ d11
          replace d12 := gt _ _ d12
          replace d13 := gt _ _ d13
          have cH := hid (show ∀ d os, Calls Tryz.prog 52 #[.agg #[.slice (some ⟨tb, toff, none⟩) ps.length tc], .slice (some ⟨mb, moff, none⟩) ms.length lc, .int .i64 n, .agg #[.int .i64 kk, .string a'.n, .int .i64 a'.op, .int .i64 a'.v, .int .i64 a'.sl, .string a'.f, .bool a'.on, .string fl', .bool nt', .slice kp' kids'.length kc']] (grow (redrawn w8 d) os) fun e w'' => e = .returned (.bool hr) ∧ ∃ p : Regrown, w'' = grow (redrawn w8 p.d) p.os from fun d os =>
            Calls.regrown_of (HHO.out _ _ (below_regrown w8 d os) (HN.out.keep hSr (below_regrown w8 d os))))
          clear gt hc0 htc HHO HN
          cases hr
          all_goals
            refine wp_region_quiet_below (by kernel_rfl) (by kernel_rfl) ?_
            repeat (first | go_big_quiet_step (exact cH.out _ _) | quiet_step (exact cH.out _ _))
            refine wpQuiet_nil ?_
            intro _ hw'
            obtain ⟨⟨dq, osq⟩, hw''⟩ := hw'
            subst hw''
            have k9 := below_regrown w8 dq osq
            generalize grow (redrawn w8 dq) osq = W9 at k9 ⊢
            have K9 := hid (K8.out.trans k9)
            clear dt dm d4 d5 d6 d7 d8 d9 d10 d11 d12 d13 cH k9
            go_wp2_with fail
            go_ret
            exact ⟨rfl, K9.out⟩
      · have HTS : Hid (chkTS ps ms = cs) := HTSS.out
        have hne := hs0
        clear HTSS hs0
        have e1 : holdsE ps ms k = cs := by unfold holdsE; rw [HTS.out, if_pos hne]
        have e2 : holdsR ps ms k = false := by unfold holdsR; rw [e1, decide_eq_false hne]; rfl
        obtain rfl : he = cs := HHE.out.symm.trans e1
        obtain rfl : hr = false := HHR.out.symm.trans e2
        clear e1 e2 HHE HHR HTS
        have hz1 : (he == 0) = false := by simp [hne]
        have hz2 : (he != 0) = true := by simp [hne]
        have hee' : (he == he) = true := by simp
        have hef' : (he != he) = false := by simp
        clear hne
        go_upto_region 17 with fail
        go_quiet (fail)
        go_wp2_with fail
        go_ret
        exact ⟨rfl, Keep.drewN K8.out _⟩
  · have HCW := hid (chkW_wrong (wi := wi) hct)
    have HTS := hid (chkTS_wrong (ms := ms) hct)
    generalize hctn : chkT ps = ct at hct HCW HTS ⊢
    have HCT := hid hctn
    clear hctn
    have hne := hct
    have hz1 : (ct == 0) = false := by simp [hct]
    have hz2 : (ct != 0) = true := by simp [hct]
    have hee : (ct == ct) = true := by simp
    have hef : (ct != ct) = false := by simp
    have e1 : validE ps wi ms = ct := by unfold validE; rw [HCW.out, if_pos hct]
    have e2 : validR ps wi ms = false := by unfold validR; rw [e1, decide_eq_false hct]; rfl
    obtain rfl : ve = ct := HVE.out.symm.trans e1
    obtain rfl : vr = false := HVR.out.symm.trans e2
    clear e1 e2 HVR HVE hct
    have e1 : holdsE ps ms k = ve := by unfold holdsE; rw [HTS.out, if_pos hne]
    have e2 : holdsR ps ms k = false := by unfold holdsR; rw [e1, decide_eq_false hne]; rfl
    obtain rfl : he = ve := HHE.out.symm.trans e1
    obtain rfl : hr = false := HHR.out.symm.trans e2
    clear e1 e2 HHE HHR HTS
    have hz1 : (he == 0) = false := by simp [hne]
    have hz2 : (he != 0) = true := by simp [hne]
    clear hne
    go_wp2_with fail
    refine (allowed_any w3 (HE.out.keep K3.out) (HM.out.keep K3.out)).mono ?_
    rintro e w4 ⟨rfl, k4⟩
    clear htc htl hcb hlb
    have K4 := hid (K3.out.trans k4)
    have V4 := hid (V3.out.keep k4 V3.out.facts.2.2)
    have B4 := hid (B3.out.keep k4 B3.out.1)
    obtain ⟨htc, -, htl⟩ := V4.out.facts
    have hcb := B4.out.2
    have hlb := B4.out.1
    clear k4 K3 V3 B3
    have hcwi := checkWish_any S ps wi _ _ _ _ _ w4 (HSG.out _ K4.out) (HP.out.keep hS K4.out) (HW.out.keep hS K4.out)
    rw [HCW.out] at hcwi
    go_wp2_with fail
    refine hcwi.mono ?_
    rintro e w5 ⟨rfl, k5⟩
    clear hcwi htc htl hcb hlb
    have K5 := hid (K4.out.trans k5)
    have V5 := hid (V4.out.keep k5 V4.out.facts.2.2)
    have B5 := hid (B4.out.keep k5 B4.out.1)
    obtain ⟨htc, -, htl⟩ := V5.out.facts
    have hcb := B5.out.2
    have hlb := B5.out.1
    clear k5 K4 V4 B4
    have hct2 := refCheckTree_any S ps _ w5 (HSG.out _ K5.out) (HP.out.keep hS K5.out)
    rw [HCT.out] at hct2
    go_wp2_with fail
    refine hct2.mono ?_
    rintro e w6 ⟨rfl, k6⟩
    clear hct2 htc htl hcb hlb
    have K6 := hid (K5.out.trans k6)
    have V6 := hid (V5.out.keep k6 V5.out.facts.2.2)
    have B6 := hid (B5.out.keep k6 B5.out.1)
    obtain ⟨htc, -, htl⟩ := V6.out.facts
    have hcb := B6.out.2
    have hlb := B6.out.1
    clear k6 K5 V5 B5
    go_upto_region 17 with fail
    go_quiet (fail)
    go_wp2_with fail
    go_ret
    exact ⟨rfl, Keep.drewN K6.out _⟩
end Go.Proofs.YtlfonjngbpfelaaGreatDoor
