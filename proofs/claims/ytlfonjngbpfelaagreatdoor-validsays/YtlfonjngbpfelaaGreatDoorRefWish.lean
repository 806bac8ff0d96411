/- quartermasterref.CheckWish answers as the plain function chkW says, of a right tree. -/
import Derived.Test.YtlfonjngbpfelaaGreatDoorRefSet
import Derived.Test.YtlfonjngbpfelaaGreatDoorValidWish
namespace Go.Proofs.YtlfonjngbpfelaaGreatDoor
open Go.RowKit Go.Sort

theorem on_less {x0 x1 y0 y1 : Int} (h1 : 0 ≤ x1) (h2 : x1 < 10) (h3 : 0 ≤ y1) (h4 : y1 < 10) : (10 * x0 + x1 ≤ 10 * y0 + y1) ↔ ¬ (y0 < x0 ∨ y0 = x0 ∧ y1 < x1) := by omega

set_option maxHeartbeats 4000000 in
set_option maxRecDepth 100000 in
theorem refWish_any (S : Nat → Prop) (ps : List PK) (wi : WI) (tv tsv inv mav onv : Value) (w : World) (hS : ∀ b, S b → b < w.heap.size) (hp : PkgsIs S w ps tv) (hct : chkT ps = 0) (h : WishIs S w wi tsv inv mav onv) :
    Calls Tryz.prog 48 #[.agg #[tv], .agg #[tsv, inv, mav, onv]] w fun e w' => e = .returned (.int .i64 (chkW ps wi)) ∧ Keep w w' := by
  have HP := hid hp
  have HW := hid h
  obtain ⟨tp, tc, rfl, htlen⟩ := hp.len
  obtain ⟨p0, c0, rfl, hl0⟩ := h.ts.len
  obtain ⟨p1, c1, rfl, hl1⟩ := h.ins.len
  obtain ⟨p2, c2, rfl, hl2⟩ := h.ma.len
  obtain ⟨p3, c3, rfl, hl3⟩ := h.on.len
  have HX : Hid (chkW ps wi = if chkS ps wi.ins ≠ 0 then chkS ps wi.ins else if taE wi.ts ≠ 0 then taE wi.ts else if firstE (maE ps wi.ma) 0 wi.ma.length ≠ 0 then firstE (maE ps wi.ma) 0 wi.ma.length else firstE (onE ps wi.on) 0 wi.on.length) := by
    show _ = _
    have : chkTS ps wi.ins = chkS ps wi.ins := by unfold chkTS; rw [if_neg (fun h => h hct)]
    unfold chkW; rw [this]
  have HLP : Hid (ps.length ≤ 8) := (chkT_get hct).1
  have HFL : Hid (∀ p ∈ ps, p.fl.length ≤ 2) := fun p hp => (chkFs_get (chkP_get ((chkT_get hct).2 p hp)).2.2.1).1
  clear hp h
  go_enter Tryz.func48, Tryz.ntmps48
  go_wp2_with fail
  refine at_calls (fun W' => Keep w W' ∧ VarAt w.heap.size 44 (.slice tp ps.length tc) W' ∧ Boxed (w.heap.size + 1) #[.slice p0 wi.ts.length c0, .slice p1 wi.ins.length c1, .slice p2 wi.ma.length c2, .slice p3 wi.on.length c3] W') ⟨(Keep.alloc _ _).alloc' _, (VarAt.new _ _ _).keep (Keep.alloc _ _) (by simp), ?_⟩ ?_
  · have := Boxed.new (w.alloc (.cells #[.slice tp ps.length tc] 44)) #[.slice p0 wi.ts.length c0, .slice p1 wi.ins.length c1, .slice p2 wi.ma.length c2, .slice p3 wi.on.length c3] 77
    rw [alloc_size] at this; exact this
  rintro W0 ⟨k0, v0, b0⟩
  refine (refSet_any S ps wi.ins _ _ W0 (fun b hb => Nat.lt_of_lt_of_le (hS b hb) k0.size) (HP.out.keep hS k0) (HW.out.keep hS k0).ins).mono ?_
  rintro e w1 ⟨rfl, k1⟩
  have K1 := hid (k0.trans k1)
  have V1 := hid (v0.keep k1 v0.facts.2.2)
  have B1 := hid (b0.keep k1 b0.1)
  clear k0 v0 b0 k1
  generalize chkS ps wi.ins = e1 at HX ⊢
  by_cases hz : e1 = 0
  case neg =>
    have HY : Hid (chkW ps wi = e1) := by show _ = _; rw [HX.out, if_pos hz]
    have hz1 : (e1 == 0) = false := by simp [hz]
    have hz2 : (e1 != 0) = true := by simp [hz]
    clear hz HX
    go_wp2_with fail
    go_ret
    exact ⟨ret_int HY.out.symm, K1.out⟩
  subst hz
  have HX1 : Hid (chkW ps wi = if taE wi.ts ≠ 0 then taE wi.ts else if firstE (maE ps wi.ma) 0 wi.ma.length ≠ 0 then firstE (maE ps wi.ma) 0 wi.ma.length else firstE (onE ps wi.on) 0 wi.on.length) := HX.out
  have hcb := B1.out.2
  have hlb := B1.out.1
  clear HX
  by_cases h6 : 6 < wi.ts.length
  · have h6' : (6 : Int) < (wi.ts.length : Int) := by omega
    have HY : Hid (chkW ps wi = 2) := by
      show _ = _
      have : taE wi.ts = 2 := by unfold taE; rw [if_pos h6]
      rw [HX1.out, this]; rfl
    clear HX1
    go_wp2_with fail
    go_ret
    exact ⟨ret_int HY.out.symm, K1.out⟩
  have h6' : ¬ (6 : Int) < (wi.ts.length : Int) := by omega
  have HTA : Hid (taE wi.ts = firstE (fun k => chkA (wi.ts.getD k At.zero)) 0 wi.ts.length) := by show _ = _; unfold taE; rw [if_neg h6]
  generalize hg : (fun k => chkA (wi.ts.getD k At.zero)) = g at HTA
  have HG := hid hg
  clear hg
  rw [HTA.out] at HX1
  go_wp2_with fail
  clear hcb hlb
  go_loopg [29] wi.ts.length (fun gk i wr => ∃ j : Nat, j + gk = wi.ts.length ∧ i = .int .i64 j ∧ firstE g 0 wi.ts.length = firstE g j (wi.ts.length - j) ∧ Keep w wr ∧ VarAt w.heap.size 44 (.slice tp ps.length tc) wr ∧ Boxed (w.heap.size + 1) #[.slice p0 wi.ts.length c0, .slice p1 wi.ins.length c1, .slice p2 wi.ma.length c2, .slice p3 wi.on.length c3] wr)
  case atStart => exact ⟨0, by simp, rfl, rfl, K1.out, V1.out, B1.out⟩
  case round =>
    obtain ⟨j, hj, rfl, he, hkp, hvt, hbx⟩ := hrel
    have HEQ := hid he
    have HK := hid hkp
    have HV := hid hvt
    have HB := hid hbx
    clear he hkp hvt hbx K1 V1 B1
    by_cases hlt : j < wi.ts.length
    · obtain ⟨b, off, hp, hSb, c0', c1', c2', c3', c4', c5'⟩ := (HW.out.keep hS HK.out).ts.get hlt
      subst hp
      have HST := hid (firstE_step (f := g) hlt)
      have HGJ : Hid (g j = chkA wi.ts[j]) := by show _ = _; rw [← HG.out]; show chkA (wi.ts.getD j At.zero) = _; rw [List.getD_eq_getElem?_getD, List.getElem?_eq_getElem hlt, Option.getD_some]
      generalize wi.ts[j] = a at c0' c1' c2' c3' c4' c5' HGJ
      go_wp2_with fail
      refine at_calls (fun W' => Keep wr W') (Keep.alloc _ _) ?_
      intro W0 k0
      refine (refCheck_any a.n a.f a.op a.v a.sl a.on W0).mono ?_
      rintro e w1 ⟨rfl, k1⟩
      have k01 := k0.trans k1
      have K1 := hid (HK.out.trans k01)
      have V1 := hid (HV.out.keep k01 HV.out.facts.2.2)
      have B1 := hid (HB.out.keep k01 HB.out.1)
      rw [show chk a.n.data.toList a.op a.v a.sl a.f.data.toList a.on = g j from HGJ.out.symm]
      clear k0 k1 k01 c0' c1' c2' c3' c4' c5'
      by_cases hz : g j = 0
      · have HZ := hid hz
        have hz1 : (g j == 0) = true := by simp [hz]
        have hz2 : (g j != 0) = false := by simp [hz]
        clear hz
        go_wp2_with fail
        go_roundg (wi.ts.length - (j + 1))
        case rel => exact ⟨j + 1, by omega, by go_num, by rw [HEQ.out, HST.out, if_pos HZ.out], K1.out, V1.out, B1.out⟩
        case measure => omega
      · have HZ := hid hz
        have HY : Hid (chkW ps wi = g j) := by
          show _ = _
          have e : firstE g 0 wi.ts.length = g j := by rw [HEQ.out, HST.out, if_neg hz]
          rw [HX1.out, e, if_pos hz]
        have hz1 : (g j == 0) = false := by simp [hz]
        have hz2 : (g j != 0) = true := by simp [hz]
        clear hz
        go_wp2_with fail
        go_ret
        exact ⟨ret_int HY.out.symm, K1.out⟩
    · have HX2 : Hid (chkW ps wi = if firstE (maE ps wi.ma) 0 wi.ma.length ≠ 0 then firstE (maE ps wi.ma) 0 wi.ma.length else firstE (onE ps wi.on) 0 wi.on.length) := by
        show _ = _
        have e : firstE g 0 wi.ts.length = 0 := by rw [HEQ.out, show wi.ts.length - j = 0 by omega]; rfl
        rw [HX1.out, e]; rfl
      have hcb := HB.out.2
      have hlb := HB.out.1
      clear HX1 HEQ HTA HG
      go_wp2_with fail
      clear hcb hlb
      go_loopg [42] wi.ma.length (fun gk i wr' => ∃ j : Nat, j + gk = wi.ma.length ∧ i = .int .i64 j ∧ firstE (maE ps wi.ma) 0 wi.ma.length = firstE (maE ps wi.ma) j (wi.ma.length - j) ∧ Keep w wr' ∧ VarAt w.heap.size 44 (.slice tp ps.length tc) wr' ∧ Boxed (w.heap.size + 1) #[.slice p0 wi.ts.length c0, .slice p1 wi.ins.length c1, .slice p2 wi.ma.length c2, .slice p3 wi.on.length c3] wr')
      case atStart => exact ⟨0, by simp, rfl, rfl, HK.out, HV.out, HB.out⟩
      case round =>
        obtain ⟨j, hj, rfl, he, hkp, hvt, hbx⟩ := hrel
        clear HK HV HB
        have HEQ := hid he
        have HK := hid hkp
        have HV := hid hvt
        have HB := hid hbx
        obtain ⟨ht0, -, htl⟩ := hvt.facts
        have hcb := hbx.2
        have hlb := hbx.1
        clear he hkp hvt hbx
        by_cases hlt : j < wi.ma.length
        · obtain ⟨b, off, hp, hSb, hc⟩ := (HW.out.keep hS HK.out).ma.get (by omega)
          subst hp
          have hcj := hc j hlt
          have HST := hid (firstE_step (f := maE ps wi.ma) hlt)
          have HRET : Hid (∀ x : Int, x ≠ 0 → maE ps wi.ma j = x → chkW ps wi = x) := fun x hx hy => by
            have e : firstE (maE ps wi.ma) 0 wi.ma.length = x := by rw [HEQ.out, HST.out, hy, if_neg hx]
            rw [HX2.out, e, if_pos hx]
          have HMA : Hid (maE ps wi.ma j = if wi.ma.getD j 0 < 0 ∨ (ps.length : Int) ≤ wi.ma.getD j 0 then 5 else if 0 < j ∧ wi.ma.getD j 0 ≤ wi.ma.getD (j - 1) 0 then 6 else 0) := rfl
          have hprev : 0 < j → wr.cell? ⟨b, off + (j - 1), none⟩ = some (.int .i64 (wi.ma.getD (j - 1) 0)) := fun h0 => hc (j - 1) (by omega)
          generalize wi.ma.getD j 0 = x at hcj HMA
          generalize wi.ma.getD (j - 1) 0 = y at hprev HMA
          clear hc
          by_cases h0 : x < 0
          · have HY := hid (HRET.out 5 (by decide) (by rw [HMA.out, if_pos (Or.inl h0)]))
            clear HMA hprev
            go_wp2_with fail
            go_ret
            exact ⟨ret_int HY.out.symm, HK.out⟩
          by_cases h1 : (ps.length : Int) ≤ x
          · have HY := hid (HRET.out 5 (by decide) (by rw [HMA.out, if_pos (Or.inr h1)]))
            clear HMA hprev
            go_wp2_with fail
            go_ret
            exact ⟨ret_int HY.out.symm, HK.out⟩
          have HM2 : Hid (maE ps wi.ma j = if 0 < j ∧ x ≤ y then 6 else 0) := by show _ = _; rw [HMA.out, if_neg (by omega)]
          clear HMA
          by_cases hj0 : 0 < j
          · have hcy := hprev hj0
            obtain ⟨m, rfl⟩ : ∃ m, j = m + 1 := ⟨j - 1, by omega⟩
            have hcy' : wr.cell? ⟨b, off + m, none⟩ = some (.int .i64 y) := hcy
            have h0' : (0 : Int) < ((m + 1 : Nat) : Int) := by omega
            have hd : decide ((0 : Int) < ((m + 1 : Nat) : Int)) = true := decide_eq_true h0'
            have e1 : ((m + 1 : Nat) : Int) - 1 = (m : Int) := by omega
            have hm : m < wi.ma.length := by omega
            clear hprev hcy
            by_cases hle : x ≤ y
            · have HY := hid (HRET.out 6 (by decide) (by rw [HM2.out, if_pos ⟨by omega, hle⟩]))
              clear HM2
              go_wp2_with fail
              go_ret
              exact ⟨ret_int HY.out.symm, HK.out⟩
            · have HY : Hid (maE ps wi.ma (m + 1) = 0) := by show _ = _; rw [HM2.out, if_neg (fun h => hle h.2)]
              clear HM2
              go_wp2_with fail
              go_roundg (wi.ma.length - (m + 1 + 1))
              case rel => exact ⟨m + 1 + 1, by omega, by go_num, by rw [HEQ.out, HST.out, HY.out]; rfl, HK.out, HV.out, HB.out⟩
              case measure => omega
          · have HY : Hid (maE ps wi.ma j = 0) := by show _ = _; rw [HM2.out, if_neg (fun h => hj0 h.1)]
            obtain rfl : j = 0 := by omega
            rw [Nat.add_zero] at hcj
            clear HM2 hprev
            go_wp2_with fail
            go_roundg (wi.ma.length - (0 + 1))
            case rel => exact ⟨0 + 1, by omega, by go_num, by rw [HEQ.out, HST.out, HY.out]; rfl, HK.out, HV.out, HB.out⟩
            case measure => omega
        · have HX3 : Hid (chkW ps wi = firstE (onE ps wi.on) 0 wi.on.length) := by
            show _ = _
            have e : firstE (maE ps wi.ma) 0 wi.ma.length = 0 := by rw [HEQ.out, show wi.ma.length - j = 0 by omega]; rfl
            rw [HX2.out, e]; rfl
          clear HX2 HEQ ht0 htl
          go_wp2_with fail
          clear hcb hlb
          go_loopg [72, 11] wi.on.length (fun gk i ls wr' => ∃ (j : Nat) (la : Int), j + gk = wi.on.length ∧ i = .int .i64 j ∧ ls = .int .i64 la ∧ (j = 0 → la = -1) ∧ (0 < j → la = 10 * (wi.on.getD (j - 1) (0, 0)).1 + (wi.on.getD (j - 1) (0, 0)).2 ∧ 0 ≤ (wi.on.getD (j - 1) (0, 0)).2 ∧ (wi.on.getD (j - 1) (0, 0)).2 < 10) ∧ firstE (onE ps wi.on) 0 wi.on.length = firstE (onE ps wi.on) j (wi.on.length - j) ∧ Keep w wr' ∧ VarAt w.heap.size 44 (.slice tp ps.length tc) wr' ∧ Boxed (w.heap.size + 1) #[.slice p0 wi.ts.length c0, .slice p1 wi.ins.length c1, .slice p2 wi.ma.length c2, .slice p3 wi.on.length c3] wr')
          case atStart => exact ⟨0, -1, by simp, rfl, rfl, fun _ => rfl, fun h => absurd h (Nat.lt_irrefl 0), rfl, HK.out, HV.out, HB.out⟩
          case round =>
            obtain ⟨j, la, hj, rfl, rfl, hla0, hla, he, hkp, hvt, hbx⟩ := hrel
            clear HK HV HB
            have HEQ := hid he
            have HK := hid hkp
            have HV := hid hvt
            have HB := hid hbx
            have HLA0 := hid hla0
            have HLA := hid hla
            clear he hkp hvt hbx hla0 hla
            by_cases hlt : j < wi.on.length
            · have HST := hid (firstE_step (f := onE ps wi.on) hlt)
              have HRET : Hid (∀ x : Int, x ≠ 0 → onE ps wi.on j = x → chkW ps wi = x) := fun x hx hy => by
                rw [HX3.out, HEQ.out, HST.out, hy, if_neg hx]
              obtain ⟨b, off, hp, hSb, hc⟩ := (HW.out.keep hS HK.out).on.get (by omega)
              subst hp
              obtain ⟨hc0, hc1⟩ := hc j hlt
              have HNX : Hid (wi.on.getD (j + 1 - 1) (0, 0) = wi.on.getD j (0, 0)) := by show _ = _; rw [Nat.add_sub_cancel]
              have HON : Hid (onE ps wi.on j = if (wi.on.getD j (0, 0)).1 < 0 ∨ (ps.length : Int) ≤ (wi.on.getD j (0, 0)).1 then 5 else if (wi.on.getD j (0, 0)).2 < 0 ∨ ((ps.getD (wi.on.getD j (0, 0)).1.toNat PK.zero).fl.length : Int) ≤ (wi.on.getD j (0, 0)).2 then 5
                else if 0 < j ∧ ¬ ((wi.on.getD (j - 1) (0, 0)).1 < (wi.on.getD j (0, 0)).1 ∨ (wi.on.getD (j - 1) (0, 0)).1 = (wi.on.getD j (0, 0)).1 ∧ (wi.on.getD (j - 1) (0, 0)).2 < (wi.on.getD j (0, 0)).2) then 6 else 0) := rfl
              generalize wi.on.getD j (0, 0) = xx at hc0 hc1 HON HNX
              generalize wi.on.getD (j - 1) (0, 0) = yy at HLA HON
              obtain ⟨x0, x1⟩ := xx
              obtain ⟨y0, y1⟩ := yy
              simp only at hc0 hc1 HON HLA
              have hblt : b < wr.heap.size := Nat.lt_of_lt_of_le (hS b hSb) HK.out.size
              clear hc
              go_upto_region 25 with fail
              refine at_wp (fun W' => Keep wr W' ∧ Boxed wr.heap.size #[.int .i64 x0, .int .i64 x1] W') ⟨Keep.alloc _ _, Boxed.new _ _ _⟩ ?_
              rintro W2 ⟨k2, b2⟩
              have K2 := hid (HK.out.trans k2)
              have V2 := hid (HV.out.keep k2 HV.out.facts.2.2)
              have X2 := hid (HB.out.keep k2 HB.out.1)
              have B2 := hid b2
              have hb2c := b2.2
              have hb2l := b2.1
              obtain ⟨ht0, -, htl⟩ := V2.out.facts
              clear k2 b2 hc0 hc1 HK HV HB
              by_cases h0 : x0 < 0
              · have HY := hid (HRET.out 5 (by decide) (by rw [HON.out, if_pos (Or.inl h0)]))
                have hd0 : decide (x0 < 0) = true := decide_eq_true h0
                clear HON HLA HLA0
                go_quiet (fail)
                go_wp2_with fail
                go_ret
                exact ⟨ret_int HY.out.symm, Keep.drewN K2.out _⟩
              have hd0 : decide (x0 < 0) = false := decide_eq_false h0
              by_cases h1 : (ps.length : Int) ≤ x0
              · have HY := hid (HRET.out 5 (by decide) (by rw [HON.out, if_pos (Or.inr h1)]))
                have hd1 : decide ((ps.length : Int) ≤ x0) = true := decide_eq_true h1
                clear HON HLA HLA0
                go_quiet (fail)
                go_wp2_with fail
                go_ret
                exact ⟨ret_int HY.out.symm, Keep.drewN K2.out _⟩
              have hd1 : decide ((ps.length : Int) ≤ x0) = false := decide_eq_false h1
              obtain ⟨q, rfl⟩ : ∃ q : Nat, x0 = q := ⟨x0.toNat, by omega⟩
              have hqp : q < ps.length := by omega
              obtain ⟨tb, toff, tcap, htv, htb, -, htrow⟩ := (HP.out.keep hS K2.out).get hqp
              cases htv
              obtain ⟨cs, hcs, hpk⟩ := htrow q hqp
              have hfl2 := HFL.out _ (List.getElem_mem hqp)
              have HO2 : Hid (onE ps wi.on j = if x1 < 0 ∨ (ps[q].fl.length : Int) ≤ x1 then 5 else if 0 < j ∧ ¬ (y0 < (q : Int) ∨ y0 = (q : Int) ∧ y1 < x1) then 6 else 0) := by
                show _ = _
                rw [HON.out, if_neg (by omega), Int.toNat_natCast, getD_pk ps q hqp]
              generalize ps[q] = p at hpk HO2 hfl2
              obtain ⟨kk, a, fl, nt, kids, kp, fp, kc, fc, hnd, hfl, rfl, hf, hn⟩ := hpk.spelt
              obtain ⟨-, -, -, cc3, -⟩ := cells14 hcs
              have htl2 : tb < W2.heap.size := Nat.lt_of_lt_of_le (hS tb htb) K2.out.size
              clear hcs hpk htrow hf hn hnd HON
              rcases p with ⟨pn, pv, psl, fs, nd⟩
              simp only at hfl cc3 HO2 hfl2
              by_cases h2 : x1 < 0
              · have HY := hid (HRET.out 5 (by decide) (by rw [HO2.out, if_pos (Or.inl h2)]))
                have hd2 : decide (x1 < 0) = true := decide_eq_true h2
                clear HO2 HLA HLA0
                go_quiet (fail)
                go_wp2_with fail
                go_ret
                exact ⟨ret_int HY.out.symm, Keep.drewN K2.out _⟩
              have hd2 : decide (x1 < 0) = false := decide_eq_false h2
              by_cases h3 : (fs.length : Int) ≤ x1
              · have HY := hid (HRET.out 5 (by decide) (by rw [HO2.out, if_pos (Or.inr h3)]))
                have hd3 : decide ((fs.length : Int) ≤ x1) = true := decide_eq_true h3
                clear HO2 HLA HLA0
                go_quiet (fail)
                go_wp2_with fail
                go_ret
                exact ⟨ret_int HY.out.symm, Keep.drewN K2.out _⟩
              have hd3 : decide ((fs.length : Int) ≤ x1) = false := decide_eq_false h3
              have hq8 : q < 8 := by have := HLP.out; omega
              have HO3 : Hid (onE ps wi.on j = if 10 * (q : Int) + x1 ≤ la then 6 else 0) := by
                show _ = _
                rw [HO2.out, if_neg (by omega)]
                by_cases hj0 : 0 < j
                · obtain ⟨ea, eb, ec⟩ := HLA.out hj0
                  have hl := on_less (x0 := (q : Int)) (x1 := x1) (y0 := y0) (y1 := y1) (by omega) (by omega) eb ec
                  rw [ea]
                  by_cases hc : 10 * (q : Int) + x1 ≤ 10 * y0 + y1
                  · rw [if_pos hc, if_pos ⟨hj0, hl.1 hc⟩]
                  · rw [if_neg hc, if_neg (fun h => hc (hl.2 h.2))]
                · have ea := HLA0.out (by omega)
                  rw [ea, if_neg (fun h => hj0 h.1), if_neg (by omega)]
              clear HO2 HLA HLA0
              go_quiet (fail)
              have k4 : Keep W2 (W2.drewN nq) := Keep.drewN (Keep.refl _) _
              generalize W2.drewN nq = W4 at k4 ⊢
              have K4 := hid (K2.out.trans k4)
              have V4 := hid (V2.out.keep k4 V2.out.facts.2.2)
              have X4 := hid (X2.out.keep k4 X2.out.1)
              have b4 := B2.out.keep k4 B2.out.1
              have hb4c := b4.2
              have hb4l := b4.1
              clear k4 b4 hb2c hb2l ht0 htl cc3 K2 V2 X2 B2 hd0 hd1 hd2 hd3
              have hx1 : x1 < 2 := by omega
              have hm1 : (10 * (q : Int)) ≤ 70 := by omega
              by_cases hle : 10 * (q : Int) + x1 ≤ la
              · have HY := hid (HRET.out 6 (by decide) (by rw [HO3.out, if_pos hle]))
                clear HO3
                go_wp2_with fail
                go_ret
                exact ⟨ret_int HY.out.symm, K4.out⟩
              · have HY : Hid (onE ps wi.on j = 0) := by show _ = _; rw [HO3.out, if_neg hle]
                clear HO3
                go_wp2_with fail
                go_roundg (wi.on.length - (j + 1))
                case rel => exact ⟨j + 1, 10 * (q : Int) + x1, by omega, by go_num, by go_num, fun h => absurd h (by omega), fun _ => by rw [HNX.out]; exact ⟨rfl, by omega, by omega⟩, by rw [HEQ.out, HST.out, HY.out]; rfl, K4.out, V4.out, X4.out⟩
                case measure => omega
            · go_wp2_with fail
              go_ret
              exact ⟨ret_int (by rw [HX3.out, HEQ.out, show wi.on.length - j = 0 by omega]; rfl), HK.out⟩
end Go.Proofs.YtlfonjngbpfelaaGreatDoor
