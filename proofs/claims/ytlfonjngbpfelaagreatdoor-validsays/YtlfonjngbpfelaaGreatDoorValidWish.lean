/- valid.CheckWish answers as the plain function chkW says. -/
import Derived.Test.YtlfonjngbpfelaaGreatDoorValidOther
namespace Go.Proofs.YtlfonjngbpfelaaGreatDoor
open Go.RowKit Go.Sort

theorem AtsIs.len {S : Nat → Prop} {w : World} {ts : List At} {v : Value} (h : AtsIs S w ts v) : ∃ p cap, v = .slice p ts.length cap ∧ ts.length ≤ 9223372036854775807 := by
  obtain ⟨p, cap, h1, h2, -⟩ := h; exact ⟨p, cap, h1, h2⟩
theorem AtsIs.get {S : Nat → Prop} {w : World} {ts : List At} {p : Option Addr} {n cap : Nat} (h : AtsIs S w ts (.slice p n cap)) {k : Nat} (hk : k < ts.length) : ∃ b off, p = some ⟨b, off, none⟩ ∧ S b ∧
    w.cell? ⟨b, off + k * 6, none⟩ = some (.string ts[k].n) ∧ w.cell? ⟨b, off + k * 6 + 1, none⟩ = some (.int .i64 ts[k].op) ∧ w.cell? ⟨b, off + k * 6 + 2, none⟩ = some (.int .i64 ts[k].v) ∧ w.cell? ⟨b, off + k * 6 + 3, none⟩ = some (.int .i64 ts[k].sl) ∧ w.cell? ⟨b, off + k * 6 + 4, none⟩ = some (.string ts[k].f) ∧ w.cell? ⟨b, off + k * 6 + 5, none⟩ = some (.bool ts[k].on) := by
  obtain ⟨p', cap', e, -, h3⟩ := h
  cases e
  obtain ⟨b, off, rfl, h5, h6⟩ := h3 (by omega)
  exact ⟨b, off, rfl, h5, h6 k _ (List.getElem?_eq_getElem hk)⟩
theorem NumsIs.len {S : Nat → Prop} {w : World} {zs : List Int} {v : Value} (h : NumsIs S w zs v) : ∃ p cap, v = .slice p zs.length cap ∧ zs.length ≤ 9223372036854775807 := by
  obtain ⟨p, cap, h1, h2, -⟩ := h; exact ⟨p, cap, h1, h2⟩
theorem NumsIs.get {S : Nat → Prop} {w : World} {zs : List Int} {p : Option Addr} {n cap : Nat} (h : NumsIs S w zs (.slice p n cap)) (hk : 0 < zs.length) : ∃ b off, p = some ⟨b, off, none⟩ ∧ S b ∧ ∀ j, j < zs.length → w.cell? ⟨b, off + j, none⟩ = some (.int .i64 (zs.getD j 0)) := by
  obtain ⟨p', cap', e, -, h3⟩ := h
  cases e
  obtain ⟨b, off, rfl, h5, h6⟩ := h3 (by omega)
  refine ⟨b, off, rfl, h5, fun j hj => ?_⟩
  rw [List.getD_eq_getElem?_getD, List.getElem?_eq_getElem hj, Option.getD_some]
  exact h6 j _ (List.getElem?_eq_getElem hj)
theorem PrsIs.len {S : Nat → Prop} {w : World} {zs : List (Int × Int)} {v : Value} (h : PrsIs S w zs v) : ∃ p cap, v = .slice p zs.length cap ∧ zs.length ≤ 9223372036854775807 := by
  obtain ⟨p, cap, h1, h2, -⟩ := h; exact ⟨p, cap, h1, h2⟩
theorem PrsIs.get {S : Nat → Prop} {w : World} {zs : List (Int × Int)} {p : Option Addr} {n cap : Nat} (h : PrsIs S w zs (.slice p n cap)) (hk : 0 < zs.length) : ∃ b off, p = some ⟨b, off, none⟩ ∧ S b ∧ ∀ j, j < zs.length → w.cell? ⟨b, off + j * 2, none⟩ = some (.int .i64 (zs.getD j (0, 0)).1) ∧ w.cell? ⟨b, off + j * 2 + 1, none⟩ = some (.int .i64 (zs.getD j (0, 0)).2) := by
  obtain ⟨p', cap', e, -, h3⟩ := h
  cases e
  obtain ⟨b, off, rfl, h5, h6⟩ := h3 (by omega)
  refine ⟨b, off, rfl, h5, fun j hj => ?_⟩
  rw [List.getD_eq_getElem?_getD, List.getElem?_eq_getElem hj, Option.getD_some]
  exact h6 j _ (List.getElem?_eq_getElem hj)

set_option maxHeartbeats 2000000 in
set_option maxRecDepth 100000 in
theorem targets_any (S : Nat → Prop) (ts : List At) (v : Value) (w : World) (hS : ∀ b, S b → b < w.heap.size) (h : AtsIs S w ts v) :
    Calls Tryz.prog 109 #[v] w fun e w' => e = .returned (.int .i64 (taE ts)) ∧ Keep w w' := by
  have H := hid h
  obtain ⟨p, cap, rfl, hlen⟩ := h.len
  clear h
  by_cases h6 : 6 < ts.length
  · have h6' : (6 : Int) < (ts.length : Int) := by omega
    have HX : Hid (taE ts = 2) := by show _ = _; unfold taE; rw [if_pos h6]
    go_enter Tryz.func109, Tryz.ntmps109
    go_wp2_with fail
    go_ret
    exact ⟨ret_int HX.out.symm, Keep.refl _⟩
  · have h6' : ¬ (6 : Int) < (ts.length : Int) := by omega
    have HX : Hid (taE ts = firstE (fun k => chkA (ts.getD k At.zero)) 0 ts.length) := by show _ = _; unfold taE; rw [if_neg h6]
    generalize hg : (fun k => chkA (ts.getD k At.zero)) = g at HX
    have HG := hid hg
    clear hg
    go_enter Tryz.func109, Tryz.ntmps109
    go_wp2_with fail
    go_loopg [11] ts.length (fun gk i wr => ∃ j : Nat, j + gk = ts.length ∧ i = .int .i64 j ∧ firstE g 0 ts.length = firstE g j (ts.length - j) ∧ Keep w wr)
    case atStart => exact ⟨0, by simp, rfl, rfl, Keep.refl _⟩
    case round =>
      obtain ⟨j, hj, rfl, he, hkp⟩ := hrel
      have HEQ := hid he
      have HK := hid hkp
      clear he hkp
      by_cases hlt : j < ts.length
      · obtain ⟨b, off, hp, hSb, c0, c1, c2, c3, c4, c5⟩ := (H.out.keep hS HK.out).get hlt
        subst hp
        have HST := hid (firstE_step (f := g) hlt)
        have HGJ : Hid (g j = chkA ts[j]) := by show _ = _; rw [← HG.out]; show chkA (ts.getD j At.zero) = _; rw [List.getD_eq_getElem?_getD, List.getElem?_eq_getElem hlt, Option.getD_some]
        generalize ts[j] = a at c0 c1 c2 c3 c4 c5 HGJ
        go_wp2_with fail
        refine at_calls (fun W' => Keep w W') (HK.out.alloc' _) ?_
        intro W0 k0
        refine (check_any a.n a.f a.op a.v a.sl a.on W0).mono ?_
        rintro e w1 ⟨rfl, k1⟩
        have K1 := hid (k0.trans k1)
        rw [show chk a.n.data.toList a.op a.v a.sl a.f.data.toList a.on = g j from HGJ.out.symm]
        clear k0 k1 c0 c1 c2 c3 c4 c5
        by_cases hz : g j = 0
        · have HZ := hid hz
          have hz1 : (g j == 0) = true := by simp [hz]
          have hz2 : (g j != 0) = false := by simp [hz]
          clear hz
          go_wp2_with fail
          go_roundg (ts.length - (j + 1))
          case rel => exact ⟨j + 1, by omega, by go_num, by rw [HEQ.out, HST.out, if_pos HZ.out], K1.out⟩
          case measure => omega
        · have HZ := hid hz
          have hz1 : (g j == 0) = false := by simp [hz]
          have hz2 : (g j != 0) = true := by simp [hz]
          clear hz
          go_wp2_with fail
          go_ret
          exact ⟨ret_int (by rw [HX.out, HEQ.out, HST.out, if_neg HZ.out]), K1.out⟩
      · go_wp2_with fail
        go_ret
        exact ⟨ret_int (by rw [HX.out, HEQ.out, show ts.length - j = 0 by omega]; rfl), HK.out⟩

set_option maxHeartbeats 4000000 in
set_option maxRecDepth 100000 in
theorem masked_any (S : Nat → Prop) (ps : List PK) (ma : List Int) (tv v : Value) (w : World) (hS : ∀ b, S b → b < w.heap.size) (hp : PkgsIs S w ps tv) (h : NumsIs S w ma v) :
    Calls Tryz.prog 110 #[.agg #[tv], v] w fun e w' => e = .returned (.int .i64 (firstE (maE ps ma) 0 ma.length)) ∧ Keep w w' := by
  have H := hid h
  obtain ⟨tp, tc, rfl, htlen⟩ := hp.len
  obtain ⟨p, cap, rfl, hlen⟩ := h.len
  clear h hp
  go_enter Tryz.func110, Tryz.ntmps110
  go_wp2_with fail
  go_loopg [9] ma.length (fun gk i wr => ∃ j : Nat, j + gk = ma.length ∧ i = .int .i64 j ∧ firstE (maE ps ma) 0 ma.length = firstE (maE ps ma) j (ma.length - j) ∧ Keep w wr ∧ VarAt w.heap.size 44 (.slice tp ps.length tc) wr)
  case atStart => exact ⟨0, by simp, rfl, rfl, Keep.alloc _ _, VarAt.new _ _ _⟩
  case round =>
    obtain ⟨j, hj, rfl, he, hkp, hvt⟩ := hrel
    have HEQ := hid he
    have HK := hid hkp
    have HV := hid hvt
    obtain ⟨ht0, -, htl⟩ := hvt.facts
    clear he hkp hvt
    by_cases hlt : j < ma.length
    · obtain ⟨b, off, hp, hSb, hc⟩ := (H.out.keep hS HK.out).get (by omega)
      subst hp
      have hcj := hc j hlt
      have HST := hid (firstE_step (f := maE ps ma) hlt)
      have HMA : Hid (maE ps ma j = if ma.getD j 0 < 0 ∨ (ps.length : Int) ≤ ma.getD j 0 then 5 else if 0 < j ∧ ma.getD j 0 ≤ ma.getD (j - 1) 0 then 6 else 0) := rfl
      have hprev : 0 < j → wr.cell? ⟨b, off + (j - 1), none⟩ = some (.int .i64 (ma.getD (j - 1) 0)) := fun h0 => hc (j - 1) (by omega)
      generalize ma.getD j 0 = x at hcj HMA
      generalize ma.getD (j - 1) 0 = y at hprev HMA
      clear hc
      by_cases h0 : x < 0
      · have HY : Hid (maE ps ma j = 5) := by show _ = _; rw [HMA.out, if_pos (Or.inl h0)]
        clear HMA hprev
        go_wp2_with fail
        go_ret
        exact ⟨ret_int (by rw [HEQ.out, HST.out, HY.out]; rfl), HK.out⟩
      by_cases h1 : (ps.length : Int) ≤ x
      · have HY : Hid (maE ps ma j = 5) := by show _ = _; rw [HMA.out, if_pos (Or.inr h1)]
        clear HMA hprev
        go_wp2_with fail
        go_ret
        exact ⟨ret_int (by rw [HEQ.out, HST.out, HY.out]; rfl), HK.out⟩
      have HM2 : Hid (maE ps ma j = if 0 < j ∧ x ≤ y then 6 else 0) := by show _ = _; rw [HMA.out, if_neg (by omega)]
      clear HMA
      by_cases hj0 : 0 < j
      · have hcy := hprev hj0
        obtain ⟨m, rfl⟩ : ∃ m, j = m + 1 := ⟨j - 1, by omega⟩
        have hcy' : wr.cell? ⟨b, off + m, none⟩ = some (.int .i64 y) := hcy
        have h0' : (0 : Int) < ((m + 1 : Nat) : Int) := by omega
        have hd : decide ((0 : Int) < ((m + 1 : Nat) : Int)) = true := decide_eq_true h0'
        have e1 : ((m + 1 : Nat) : Int) - 1 = (m : Int) := by omega
        have hm : m < ma.length := by omega
        clear hprev hcy
        by_cases hle : x ≤ y
        · have HY : Hid (maE ps ma (m + 1) = 6) := by show _ = _; rw [HM2.out, if_pos ⟨by omega, hle⟩]
          clear HM2
          go_wp2_with fail
          go_ret
          exact ⟨ret_int (by rw [HEQ.out, HST.out, HY.out]; rfl), HK.out⟩
        · have HY : Hid (maE ps ma (m + 1) = 0) := by show _ = _; rw [HM2.out, if_neg (fun h => hle h.2)]
          clear HM2
          go_wp2_with fail
          go_roundg (ma.length - (m + 1 + 1))
          case rel => exact ⟨m + 1 + 1, by omega, by go_num, by rw [HEQ.out, HST.out, HY.out]; rfl, HK.out, HV.out⟩
          case measure => omega
      · have HY : Hid (maE ps ma j = 0) := by show _ = _; rw [HM2.out, if_neg (fun h => hj0 h.1)]
        obtain rfl : j = 0 := by omega
        rw [Nat.add_zero] at hcj
        clear HM2 hprev
        go_wp2_with fail
        go_roundg (ma.length - (0 + 1))
        case rel => exact ⟨0 + 1, by omega, by go_num, by rw [HEQ.out, HST.out, HY.out]; rfl, HK.out, HV.out⟩
        case measure => omega
    · go_wp2_with fail
      go_ret
      exact ⟨ret_int (by rw [HEQ.out, show ma.length - j = 0 by omega]; rfl), HK.out⟩

def behP (x y : Int × Int) : Bool := if x.1 = y.1 then decide (y.2 < x.2) else decide (y.1 < x.1)
set_option maxHeartbeats 2000000 in
theorem behindP_any (x0 x1 y0 y1 : Int) (w : World) :
    Calls Tryz.prog 166 #[.agg #[.int .i64 x0, .int .i64 x1], .agg #[.int .i64 y0, .int .i64 y1]] w fun e w' => e = .returned (.bool (behP (x0, x1) (y0, y1))) ∧ Keep w w' := by
  have HX : Hid (behP (x0, x1) (y0, y1) = if x0 = y0 then decide (y1 < x1) else decide (y0 < x0)) := rfl
  have KW := hid ((Keep.alloc w (.cells #[.int .i64 x0, .int .i64 x1] 152)).alloc' (.cells #[.int .i64 y0, .int .i64 y1] 152))
  by_cases h : x0 = y0
  · subst h
    have h1 : (x0 == x0) = true := by simp
    have h2 : (x0 != x0) = false := by simp
    go_enter Tryz.func166, Tryz.ntmps166
    go_wp2_with fail
    go_ret
    exact ⟨ret_bool (by rw [HX.out]; simp), KW.out⟩
  · have h1 : (x0 == y0) = false := by simp [h]
    have h2 : (x0 != y0) = true := by simp [h]
    have HY : Hid (behP (x0, x1) (y0, y1) = decide (y0 < x0)) := by show _ = _; rw [HX.out, if_neg h]
    clear h HX
    go_enter Tryz.func166, Tryz.ntmps166
    go_wp2_with fail
    go_ret
    exact ⟨ret_bool HY.out.symm, KW.out⟩
theorem behP_iff (x y : Int × Int) : behP x y = true ↔ (y.1 < x.1 ∨ y.1 = x.1 ∧ y.2 < x.2) := by
  unfold behP
  split
  · rename_i h; simp only [decide_eq_true_eq]; omega
  · rename_i h; simp only [decide_eq_true_eq]; omega

set_option maxHeartbeats 4000000 in
set_option maxRecDepth 100000 in
theorem wishOn_any (S : Nat → Prop) (ps : List PK) (on : List (Int × Int)) (tv v : Value) (w : World) (hS : ∀ b, S b → b < w.heap.size) (hp : PkgsIs S w ps tv) (h : PrsIs S w on v) :
    Calls Tryz.prog 111 #[.agg #[tv], v] w fun e w' => e = .returned (.int .i64 (firstE (onE ps on) 0 on.length)) ∧ Keep w w' := by
  have H := hid h
  have HP := hid hp
  obtain ⟨tp, tc, rfl, htlen⟩ := hp.len
  obtain ⟨p, cap, rfl, hlen⟩ := h.len
  clear h hp
  go_enter Tryz.func111, Tryz.ntmps111
  go_wp2_with fail
  go_loopg [11] on.length (fun gk i wr => ∃ j : Nat, j + gk = on.length ∧ i = .int .i64 j ∧ firstE (onE ps on) 0 on.length = firstE (onE ps on) j (on.length - j) ∧ Keep w wr ∧ VarAt w.heap.size 44 (.slice tp ps.length tc) wr)
  case atStart => exact ⟨0, by simp, rfl, rfl, Keep.alloc _ _, VarAt.new _ _ _⟩
  case round =>
    obtain ⟨j, hj, rfl, he, hkp, hvt⟩ := hrel
    have HEQ := hid he
    have HK := hid hkp
    have HV := hid hvt
    clear he hkp hvt
    by_cases hlt : j < on.length
    · have HST := hid (firstE_step (f := onE ps on) hlt)
      have hSr : ∀ b, S b → b < wr.heap.size := fun b hb => Nat.lt_of_lt_of_le (hS b hb) HK.out.size
      obtain ⟨b, off, hp, hSb, hc⟩ := (H.out.keep hS HK.out).get (by omega)
      subst hp
      obtain ⟨hc0, hc1⟩ := hc j hlt
      have HON : Hid (onE ps on j = if (on.getD j (0, 0)).1 < 0 ∨ (ps.length : Int) ≤ (on.getD j (0, 0)).1 then 5 else if (on.getD j (0, 0)).2 < 0 ∨ ((ps.getD (on.getD j (0, 0)).1.toNat PK.zero).fl.length : Int) ≤ (on.getD j (0, 0)).2 then 5
        else if 0 < j ∧ behP (on.getD j (0, 0)) (on.getD (j - 1) (0, 0)) = false then 6 else 0) := by
        show _ = _
        unfold onE
        by_cases hb : behP (on.getD j (0, 0)) (on.getD (j - 1) (0, 0)) = true
        · have := (behP_iff _ _).1 hb
          simp only [hb, this, not_true_eq_false, and_false, Bool.true_eq_false]
        · have h2 : ¬ _ := fun h => hb ((behP_iff _ _).2 h)
          rw [Bool.not_eq_true] at hb
          simp only [hb, h2, not_false_eq_true, and_true]
      have hprev : 0 < j → wr.cell? ⟨b, off + (j - 1) * 2, none⟩ = some (.int .i64 (on.getD (j - 1) (0, 0)).1) ∧ wr.cell? ⟨b, off + (j - 1) * 2 + 1, none⟩ = some (.int .i64 (on.getD (j - 1) (0, 0)).2) := fun h0 => hc (j - 1) (by omega)
      generalize on.getD j (0, 0) = xx at hc0 hc1 HON
      generalize on.getD (j - 1) (0, 0) = yy at hprev HON
      obtain ⟨x0, x1⟩ := xx
      obtain ⟨y0, y1⟩ := yy
      simp only at hc0 hc1 HON hprev
      have hblt := hSr b hSb
      clear hc
      go_upto_region 4 with fail
      refine at_wp (fun W' => Keep wr W' ∧ Boxed wr.heap.size #[.int .i64 x0, .int .i64 x1] W') ⟨Keep.alloc _ _, Boxed.new _ _ _⟩ ?_
      rintro W2 ⟨k2, b2⟩
      have hb2c := b2.2
      have hb2l := b2.1
      go_quiet (fail)
      have k3 : Keep wr (W2.drewN nq) := Keep.drewN k2 _
      have b3 := b2.keep (Keep.drewN (Keep.refl W2) nq) b2.1
      generalize W2.drewN nq = W3 at k3 b3 ⊢
      have K3' := hid k3
      have K3 := hid (HK.out.trans k3)
      have V3 := hid (HV.out.keep k3 HV.out.facts.2.2)
      have B3 := hid b3
      obtain ⟨ht0, -, htl⟩ := V3.out.facts
      clear k2 b2 hb2c hb2l k3 b3 hc0 hc1
      by_cases h0 : x0 < 0
      · have HY : Hid (onE ps on j = 5) := by show _ = _; rw [HON.out, if_pos (Or.inl h0)]
        clear HON hprev
        go_wp2_with fail
        go_ret
        exact ⟨ret_int (by rw [HEQ.out, HST.out, HY.out]; rfl), K3.out⟩
      by_cases h1 : (ps.length : Int) ≤ x0
      · have HY : Hid (onE ps on j = 5) := by show _ = _; rw [HON.out, if_pos (Or.inr h1)]
        clear HON hprev
        go_wp2_with fail
        go_ret
        exact ⟨ret_int (by rw [HEQ.out, HST.out, HY.out]; rfl), K3.out⟩
      obtain ⟨q, rfl⟩ : ∃ q : Nat, x0 = q := ⟨x0.toNat, by omega⟩
      have hqp : q < ps.length := by omega
      obtain ⟨tb, toff, tcap, htv, htb, -, htrow⟩ := (HP.out.keep hS K3.out).get hqp
      cases htv
      obtain ⟨cs, hcs, hpk⟩ := htrow q hqp
      have HO2 : Hid (onE ps on j = if x1 < 0 ∨ (ps[q].fl.length : Int) ≤ x1 then 5 else if 0 < j ∧ behP ((q : Int), x1) (y0, y1) = false then 6 else 0) := by
        show _ = _
        rw [HON.out, if_neg (by omega), Int.toNat_natCast, getD_pk ps q hqp]
      generalize ps[q] = p at hpk HO2
      obtain ⟨kk, a, fl, nt, kids, kp, fp, kc, fc, hnd, hfl, rfl, hf, hn⟩ := hpk.spelt
      obtain ⟨-, -, -, c3, -⟩ := cells14 hcs
      clear hcs hpk htrow hf hn hnd HON
      rcases p with ⟨pn, pv, psl, fs, nd⟩
      simp only at hfl c3 HO2
      by_cases h2 : x1 < 0
      · have HY : Hid (onE ps on j = 5) := by show _ = _; rw [HO2.out, if_pos (Or.inl h2)]
        clear HO2 hprev
        go_wp2_with fail
        go_ret
        exact ⟨ret_int (by rw [HEQ.out, HST.out, HY.out]; rfl), K3.out⟩
      by_cases h3 : (fs.length : Int) ≤ x1
      · have HY : Hid (onE ps on j = 5) := by show _ = _; rw [HO2.out, if_pos (Or.inr h3)]
        clear HO2 hprev
        go_wp2_with fail
        go_ret
        exact ⟨ret_int (by rw [HEQ.out, HST.out, HY.out]; rfl), K3.out⟩
      have HO3 : Hid (onE ps on j = if 0 < j ∧ behP ((q : Int), x1) (y0, y1) = false then 6 else 0) := by show _ = _; rw [HO2.out, if_neg (by omega)]
      clear HO2
      by_cases hj0 : 0 < j
      · obtain ⟨hcy0, hcy1⟩ := hprev hj0
        obtain ⟨m, rfl⟩ : ∃ m, j = m + 1 := ⟨j - 1, by omega⟩
        have hcy0' : wr.cell? ⟨b, off + m * 2, none⟩ = some (.int .i64 y0) := hcy0
        have hcy1' : wr.cell? ⟨b, off + m * 2 + 1, none⟩ = some (.int .i64 y1) := hcy1
        have h0' : (0 : Int) < ((m + 1 : Nat) : Int) := by omega
        have hd : decide ((0 : Int) < ((m + 1 : Nat) : Int)) = true := decide_eq_true h0'
        have e1 : ((m + 1 : Nat) : Int) - 1 = (m : Int) := by omega
        have hm : m < on.length := by omega
        clear hprev hcy0 hcy1
        go_upto_region 11 with fail
        clear ht0 c3
        have cb : ∀ (d : Nat) (os : Array Obj) (o : Nat) (x : Value), wr.cell? ⟨b, o, none⟩ = some x → (grow (redrawn W3 d) os).cell? ⟨b, o, none⟩ = some x := fun d os o x hx => ((below_regrown W3 d os).cell (p := ⟨b, o, none⟩) (Nat.lt_of_lt_of_le hblt K3'.out.size)).trans ((K3'.out.cell (p := ⟨b, o, none⟩) hblt).trans hx)
        have d0 := fun d os => cb d os _ _ hcy0'
        have d1 := fun d os => cb d os _ _ hcy1'
        have db : ∀ o d os, (grow (redrawn W3 d) os).cell? ⟨wr.heap.size, o, none⟩ = (#[.int .i64 (q : Int), .int .i64 x1] : Array Value)[o]? := fun o d os => (B3.out.keep (below_regrown W3 d os) B3.out.1).2 o
        generalize hbe : behP ((q : Int), x1) (y0, y1) = β at HO3
        have cBeh := hid (show ∀ d os, Calls Tryz.prog 166 #[.agg #[.int .i64 (q : Int), .int .i64 x1], .agg #[.int .i64 y0, .int .i64 y1]] (grow (redrawn W3 d) os) fun e w'' => e = .returned (.bool β) ∧ ∃ p : Regrown, w'' = grow (redrawn W3 p.d) p.os from fun d os => by
          rw [← hbe]
          exact Calls.regrown_of (behindP_any (q : Int) x1 y0 y1 _))
        clear cb hbe hcy0' hcy1'
        refine wp_region_quiet_below (by kernel_rfl) (by kernel_rfl) ?_
        repeat (first | go_big_quiet_step (exact cBeh.out _ _) | quiet_step (exact cBeh.out _ _))
        refine wpQuiet_nil ?_
        intro _ hw'
        obtain ⟨⟨dq, osq⟩, hw''⟩ := hw'
        subst hw''
        have k4 := below_regrown W3 dq osq
        generalize grow (redrawn W3 dq) osq = W4 at k4 ⊢
        have K4 := hid (K3.out.trans k4)
        have V4 := hid (V3.out.keep k4 V3.out.facts.2.2)
        clear d0 d1 db cBeh k4
        cases β
        · have HY : Hid (onE ps on (m + 1) = 6) := by show _ = _; rw [HO3.out, if_pos ⟨by omega, rfl⟩]
          go_wp2_with fail
          go_ret
          exact ⟨ret_int (by rw [HEQ.out, HST.out, HY.out]; rfl), K4.out⟩
        · have HY : Hid (onE ps on (m + 1) = 0) := by show _ = _; rw [HO3.out, if_neg (fun h => by cases h.2)]
          go_wp2_with fail
          go_roundg (on.length - (m + 1 + 1))
          case rel => exact ⟨m + 1 + 1, by omega, by go_num, by rw [HEQ.out, HST.out, HY.out]; rfl, K4.out, V4.out⟩
          case measure => omega
      · have HY : Hid (onE ps on j = 0) := by show _ = _; rw [HO3.out, if_neg (fun h => hj0 h.1)]
        obtain rfl : j = 0 := by omega
        have hd : decide ((0 : Int) < ((0 : Nat) : Int)) = false := by decide
        clear HO3 hprev
        go_upto_region 11 with fail
        go_quiet (fail)
        have k4 : Keep W3 (W3.drewN nq) := Keep.drewN (Keep.refl _) _
        generalize W3.drewN nq = W4 at k4 ⊢
        have K4 := hid (K3.out.trans k4)
        have V4 := hid (V3.out.keep k4 V3.out.facts.2.2)
        clear k4
        go_wp2_with fail
        go_roundg (on.length - (0 + 1))
        case rel => exact ⟨0 + 1, by omega, by go_num, by rw [HEQ.out, HST.out, HY.out]; rfl, K4.out, V4.out⟩
        case measure => omega
    · go_wp2_with fail
      go_ret
      exact ⟨ret_int (by rw [HEQ.out, show on.length - j = 0 by omega]; rfl), HK.out⟩

/-- The four values lead to the wish. -/
structure WishIs (S : Nat → Prop) (w : World) (wi : WI) (tsv inv mav onv : Value) : Prop where
  ts : AtsIs S w wi.ts tsv
  ins : MbsIs S w wi.ins inv
  ma : NumsIs S w wi.ma mav
  on : PrsIs S w wi.on onv
theorem WishIs.keep {S : Nat → Prop} {w w' : World} {B : Nat} {wi : WI} {tsv inv mav onv : Value} (h : WishIs S w wi tsv inv mav onv) (hS : ∀ b, S b → b < B) (k : Below B w w') : WishIs S w' wi tsv inv mav onv :=
  ⟨h.ts.keep hS k, h.ins.keep hS k, h.ma.keep hS k, h.on.keep hS k⟩
theorem WishIs.mono {S S' : Nat → Prop} {w : World} {wi : WI} {tsv inv mav onv : Value} (h : WishIs S w wi tsv inv mav onv) (hS : ∀ b, S b → S' b) : WishIs S' w wi tsv inv mav onv :=
  ⟨h.ts.mono (fun _ _ => rfl) hS, h.ins.mono (fun _ _ => rfl) hS, h.ma.mono (fun _ _ => rfl) hS, h.on.mono (fun _ _ => rfl) hS⟩

set_option maxHeartbeats 2000000 in
set_option maxRecDepth 100000 in
theorem checkWish_any (S : Nat → Prop) (ps : List PK) (wi : WI) (tv tsv inv mav onv : Value) (w : World) (hS : ∀ b, S b → b < w.heap.size) (hp : PkgsIs S w ps tv) (h : WishIs S w wi tsv inv mav onv) :
    Calls Tryz.prog 50 #[.agg #[tv], .agg #[tsv, inv, mav, onv]] w fun e w' => e = .returned (.int .i64 (chkW ps wi)) ∧ Keep w w' := by
  have HP := hid hp
  have HW := hid h
  obtain ⟨tp, tc, rfl, htlen⟩ := hp.len
  obtain ⟨p0, c0, rfl, hl0⟩ := h.ts.len
  obtain ⟨p1, c1, rfl, hl1⟩ := h.ins.len
  obtain ⟨p2, c2, rfl, hl2⟩ := h.ma.len
  obtain ⟨p3, c3, rfl, hl3⟩ := h.on.len
  have HX : Hid (chkW ps wi = if chkTS ps wi.ins ≠ 0 then chkTS ps wi.ins else if taE wi.ts ≠ 0 then taE wi.ts else if firstE (maE ps wi.ma) 0 wi.ma.length ≠ 0 then firstE (maE ps wi.ma) 0 wi.ma.length else firstE (onE ps wi.on) 0 wi.on.length) := rfl
  clear hp h
  go_enter Tryz.func50, Tryz.ntmps50
  go_wp2_with fail
  refine at_calls (fun W' => Keep w W' ∧ VarAt w.heap.size 44 (.slice tp ps.length tc) W' ∧ Boxed (w.heap.size + 1) #[.slice p0 wi.ts.length c0, .slice p1 wi.ins.length c1, .slice p2 wi.ma.length c2, .slice p3 wi.on.length c3] W') ⟨(Keep.alloc _ _).alloc' _, (VarAt.new _ _ _).keep (Keep.alloc _ _) (by simp), ?_⟩ ?_
  · have := Boxed.new (w.alloc (.cells #[.slice tp ps.length tc] 44)) #[.slice p0 wi.ts.length c0, .slice p1 wi.ins.length c1, .slice p2 wi.ma.length c2, .slice p3 wi.on.length c3] 77
    rw [alloc_size] at this; exact this
  rintro W0 ⟨k0, v0, b0⟩
  refine (checkSet_any S ps wi.ins _ _ W0 (fun b hb => Nat.lt_of_lt_of_le (hS b hb) k0.size) (HP.out.keep hS k0) (HW.out.keep hS k0).ins).mono ?_
  rintro e w1 ⟨rfl, k1⟩
  have K1 := hid (k0.trans k1)
  have V1 := hid (v0.keep k1 v0.facts.2.2)
  have B1 := hid (b0.keep k1 b0.1)
  clear k0 v0 b0 k1
  generalize chkTS ps wi.ins = e1 at HX ⊢
  by_cases hz : e1 = 0
  · subst hz
    have HX1 : Hid (chkW ps wi = if taE wi.ts ≠ 0 then taE wi.ts else if firstE (maE ps wi.ma) 0 wi.ma.length ≠ 0 then firstE (maE ps wi.ma) 0 wi.ma.length else firstE (onE ps wi.on) 0 wi.on.length) := HX.out
    have hcb := B1.out.2
    have hlb := B1.out.1
    clear HX
    go_wp2_with fail
    refine (targets_any S wi.ts _ w1 (fun b hb => Nat.lt_of_lt_of_le (hS b hb) K1.out.size) (HW.out.keep hS K1.out).ts).mono ?_
    rintro e w2 ⟨rfl, k2⟩
    have K2 := hid (K1.out.trans k2)
    have V2 := hid (V1.out.keep k2 V1.out.facts.2.2)
    have B2 := hid (B1.out.keep k2 B1.out.1)
    clear k2 V1 B1 hcb hlb
    generalize taE wi.ts = e2 at HX1 ⊢
    by_cases hz : e2 = 0
    · subst hz
      have HX2 : Hid (chkW ps wi = if firstE (maE ps wi.ma) 0 wi.ma.length ≠ 0 then firstE (maE ps wi.ma) 0 wi.ma.length else firstE (onE ps wi.on) 0 wi.on.length) := HX1.out
      have hcb := B2.out.2
      have hlb := B2.out.1
      obtain ⟨hct, -, hlt⟩ := V2.out.facts
      clear HX1
      go_wp2_with fail
      refine (masked_any S ps wi.ma _ _ w2 (fun b hb => Nat.lt_of_lt_of_le (hS b hb) K2.out.size) (HP.out.keep hS K2.out) (HW.out.keep hS K2.out).ma).mono ?_
      rintro e w3 ⟨rfl, k3⟩
      have K3 := hid (K2.out.trans k3)
      have V3 := hid (V2.out.keep k3 V2.out.facts.2.2)
      have B3 := hid (B2.out.keep k3 B2.out.1)
      clear k3 V2 B2 hcb hlb hct hlt
      generalize firstE (maE ps wi.ma) 0 wi.ma.length = e3 at HX2 ⊢
      by_cases hz : e3 = 0
      · subst hz
        have HX3 : Hid (chkW ps wi = firstE (onE ps wi.on) 0 wi.on.length) := HX2.out
        have hcb := B3.out.2
        have hlb := B3.out.1
        obtain ⟨hct, -, hlt⟩ := V3.out.facts
        clear HX2
        go_wp2_with fail
        refine (wishOn_any S ps wi.on _ _ w3 (fun b hb => Nat.lt_of_lt_of_le (hS b hb) K3.out.size) (HP.out.keep hS K3.out) (HW.out.keep hS K3.out).on).mono ?_
        rintro e w4 ⟨rfl, k4⟩
        have K4 := hid (K3.out.trans k4)
        clear k4 hcb hlb hct hlt
        go_wp2_with fail
        go_ret
        exact ⟨ret_int HX3.out.symm, K4.out⟩
      · have HY : Hid (chkW ps wi = e3) := by show _ = _; rw [HX2.out, if_pos hz]
        have hz1 : (e3 == 0) = false := by simp [hz]
        have hz2 : (e3 != 0) = true := by simp [hz]
        clear hz HX2
        go_wp2_with fail
        go_ret
        exact ⟨ret_int HY.out.symm, K3.out⟩
    · have HY : Hid (chkW ps wi = e2) := by show _ = _; rw [HX1.out, if_pos hz]
      have hz1 : (e2 == 0) = false := by simp [hz]
      have hz2 : (e2 != 0) = true := by simp [hz]
      clear hz HX1
      go_wp2_with fail
      go_ret
      exact ⟨ret_int HY.out.symm, K2.out⟩
  · have HY : Hid (chkW ps wi = e1) := by show _ = _; rw [HX.out, if_pos hz]
    have hz1 : (e1 == 0) = false := by simp [hz]
    have hz2 : (e1 != 0) = true := by simp [hz]
    clear hz HX
    go_wp2_with fail
    go_ret
    exact ⟨ret_int HY.out.symm, K1.out⟩
end Go.Proofs.YtlfonjngbpfelaaGreatDoor
