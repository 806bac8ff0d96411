/- quartermasterref.CheckSet and quartermasterref.Is answer as the plain functions chkS and isB say. -/
import Derived.Test.YtlfonjngbpfelaaGreatDoorValidOther
import Derived.Test.YtlfonjngbpfelaaGreatDoorRefCheck
namespace Go.Proofs.YtlfonjngbpfelaaGreatDoor
open Go.RowKit Go.Sort

set_option maxHeartbeats 4000000 in
set_option maxRecDepth 100000 in
theorem refSet_any (S : Nat → Prop) (ps : List PK) (ms : List MB) (tv lv : Value) (w : World) (hS : ∀ b, S b → b < w.heap.size) (hp : PkgsIs S w ps tv) (hm : MbsIs S w ms lv) :
    Calls Tryz.prog 31 #[.agg #[tv], lv] w fun e w' => e = .returned (.int .i64 (chkS ps ms)) ∧ Keep w w' := by
  have HP := hid hp
  have HMS := hid hm
  obtain ⟨tp, tc, rfl, hlen⟩ := hp.len
  obtain ⟨lp, lc, rfl, hllen⟩ := hm.len
  have HX : Hid (chkS ps ms = firstE (mbE ps ms) 0 ms.length) := rfl
  clear hp hm
  go_enter Tryz.func31, Tryz.ntmps31
  go_wp2_with fail
  go_loopg [10, 5] ms.length (fun gk i ls wr => ∃ (j : Nat) (la : Int), j + gk = ms.length ∧ i = .int .i64 j ∧ ls = .int .i64 la ∧ (0 < j → la = (ms.getD (j - 1) MB.zero).pl) ∧ firstE (mbE ps ms) 0 ms.length = firstE (mbE ps ms) j (ms.length - j) ∧ Keep w wr ∧ VarAt w.heap.size 44 (.slice tp ps.length tc) wr)
  case atStart => exact ⟨0, -1, by simp, rfl, rfl, fun h => absurd h (Nat.lt_irrefl 0), rfl, Keep.alloc _ _, VarAt.new _ _ _⟩
  case round =>
    obtain ⟨j, la, hj, rfl, rfl, hla, he, hkp, hvt⟩ := hrel
    have HEQ := hid he
    have HK := hid hkp
    have HV := hid hvt
    have HLA := hid hla
    clear he hkp hvt hla
    by_cases hlt : j < ms.length
    · obtain ⟨mb, moff, mcap, hmv, hmS, -, hrow⟩ := (HMS.out.keep hS HK.out).get hlt
      cases hmv
      obtain ⟨op, oc, hc0, hc1, hon, -⟩ := hrow j _ (List.getElem?_eq_getElem hlt)
      have HST := hid (firstE_step (f := mbE ps ms) hlt)
      have HRET : Hid (∀ x : Int, x ≠ 0 → mbE ps ms j = x → chkS ps ms = x) := fun x hx hy => by rw [HX.out, HEQ.out, HST.out, hy, if_neg hx]
      have HXM : Hid (mbE ps ms j = if ms[j].pl < 0 ∨ (ps.length : Int) ≤ ms[j].pl then 5 else if 0 < j ∧ ms[j].pl ≤ (ms.getD (j - 1) MB.zero).pl then 6 else if ms[j].on.length ≠ (ps.getD ms[j].pl.toNat PK.zero).fl.length then 4 else 0) := by
        show _ = _
        unfold mbE pkOf
        rw [getD_mb ms j hlt]
      have HNX : Hid ((ms.getD (j + 1 - 1) MB.zero).pl = ms[j].pl) := by show _ = _; rw [Nat.add_sub_cancel, getD_mb ms j hlt]
      generalize ms[j] = m at hc0 hc1 hon HXM HNX
      obtain ⟨pl, on⟩ := m
      simp only at hc0 hc1 hon HXM HNX
      have hmlt : mb < wr.heap.size := Nat.lt_of_lt_of_le (hS mb hmS) HK.out.size
      clear hrow
      go_upto_region 5 with fail
      refine at_wp (fun W' => Keep w W' ∧ VarAt w.heap.size 44 (.slice tp ps.length tc) W' ∧ Boxed wr.heap.size #[.int .i64 pl, .slice op on.length oc] W') ⟨HK.out.alloc' _, HV.out.keep (Keep.alloc _ _) HV.out.facts.2.2, Boxed.new _ _ _⟩ ?_
      rintro W1 ⟨k1, v1, b1⟩
      have K1 := hid k1
      have V1 := hid v1
      have B1 := hid b1
      have hcb := b1.2
      have hlb := b1.1
      obtain ⟨ht0, -, htl⟩ := v1.facts
      clear k1 v1 b1 hc0 hc1
      by_cases h0 : pl < 0
      · have HY := hid (HRET.out 5 (by decide) (by rw [HXM.out, if_pos (Or.inl h0)]))
        go_wp2_with fail
        go_ret
        exact ⟨ret_int HY.out.symm, K1.out⟩
      by_cases h1 : (ps.length : Int) ≤ pl
      · have HY := hid (HRET.out 5 (by decide) (by rw [HXM.out, if_pos (Or.inr h1)]))
        go_wp2_with fail
        go_ret
        exact ⟨ret_int HY.out.symm, K1.out⟩
      obtain ⟨q, rfl⟩ : ∃ q : Nat, pl = q := ⟨pl.toNat, by omega⟩
      have hqp : q < ps.length := by omega
      obtain ⟨tb, toff, tcap, htv, htb, -, htrow⟩ := (HP.out.keep hS K1.out).get hqp
      cases htv
      obtain ⟨cs, hcs, hpk⟩ := htrow q hqp
      have HX2 : Hid (mbE ps ms j = if 0 < j ∧ (q : Int) ≤ (ms.getD (j - 1) MB.zero).pl then 6 else if on.length ≠ ps[q].fl.length then 4 else 0) := by
        show _ = _
        rw [HXM.out, if_neg (by omega), Int.toNat_natCast, getD_pk ps q hqp]
      generalize ps[q] = p at hpk HX2
      obtain ⟨kk, a, fl, nt, kids, kp, fp, kc, fc, hnd, hfl, rfl, hf, hn⟩ := hpk.spelt
      obtain ⟨-, -, -, c3, -⟩ := cells14 hcs
      have htl2 : tb < W1.heap.size := Nat.lt_of_lt_of_le (hS tb htb) K1.out.size
      clear hcs hpk htrow hf hn hnd HXM
      rcases p with ⟨pn, pv, psl, fs, nd⟩
      simp only at hfl c3 HX2
      have fin : Hid (mbE ps ms j = (if on.length ≠ fs.length then 4 else 0) → True) := fun _ => trivial
      clear fin
      by_cases hj0 : 0 < j
      · have hla := HLA.out hj0
        rw [← hla] at HX2
        have h0' : (0 : Int) < (j : Int) := by omega
        have hd : decide ((0 : Int) < (j : Int)) = true := decide_eq_true h0'
        clear hla HLA
        by_cases hle : (q : Int) ≤ la
        · have HY := hid (HRET.out 6 (by decide) (by rw [HX2.out, if_pos ⟨by omega, hle⟩]))
          go_wp2_with fail
          go_ret
          exact ⟨ret_int HY.out.symm, K1.out⟩
        · have HX3 : Hid (mbE ps ms j = if on.length ≠ fs.length then 4 else 0) := by show _ = _; rw [HX2.out, if_neg (fun h => hle h.2)]
          clear HX2
          by_cases hne : on.length = fs.length
          · have HY : Hid (mbE ps ms j = 0) := by show _ = _; rw [HX3.out, if_neg (fun h => h hne)]
            have hne1 : ((on.length : Int) == (fs.length : Int)) = true := by simp [hne]
            have hne2 : ((on.length : Int) != (fs.length : Int)) = false := by simp [hne]
            clear HX3 hne
            go_upto_region 10 with fail
            go_quiet (fail)
            have k4 : Keep W1 (W1.drewN nq) := Keep.drewN (Keep.refl _) _
            generalize W1.drewN nq = W4 at k4 ⊢
            have K4 := hid (K1.out.trans k4)
            have V4 := hid (V1.out.keep k4 V1.out.facts.2.2)
            clear k4
            go_wp2_with fail
            go_roundg (ms.length - (j + 1))
            case rel => exact ⟨j + 1, _, by omega, by go_num, rfl, fun _ => HNX.out.symm, by rw [HEQ.out, HST.out, HY.out]; rfl, K4.out, V4.out⟩
            case measure => omega
          · have HY := hid (HRET.out 4 (by decide) (by rw [HX3.out, if_pos hne]))
            have hne0 : ¬ (on.length : Int) = (fs.length : Int) := by omega
            have hne1 : ((on.length : Int) == (fs.length : Int)) = false := by simp [hne0]
            have hne2 : ((on.length : Int) != (fs.length : Int)) = true := by simp [hne0]
            clear HX3 hne
            go_upto_region 10 with fail
            go_quiet (fail)
            go_wp2_with fail
            go_ret
            exact ⟨ret_int HY.out.symm, Keep.drewN K1.out _⟩
      · have HX3 : Hid (mbE ps ms j = if on.length ≠ fs.length then 4 else 0) := by show _ = _; rw [HX2.out, if_neg (fun h => hj0 h.1)]
        have h0' : ¬ (0 : Int) < (j : Int) := by omega
        clear HX2 HLA
        by_cases hne : on.length = fs.length
        · have HY : Hid (mbE ps ms j = 0) := by show _ = _; rw [HX3.out, if_neg (fun h => h hne)]
          have hne1 : ((on.length : Int) == (fs.length : Int)) = true := by simp [hne]
          have hne2 : ((on.length : Int) != (fs.length : Int)) = false := by simp [hne]
          clear HX3 hne
          go_upto_region 10 with fail
          go_quiet (fail)
          have k4 : Keep W1 (W1.drewN nq) := Keep.drewN (Keep.refl _) _
          generalize W1.drewN nq = W4 at k4 ⊢
          have K4 := hid (K1.out.trans k4)
          have V4 := hid (V1.out.keep k4 V1.out.facts.2.2)
          clear k4
          go_wp2_with fail
          go_roundg (ms.length - (j + 1))
          case rel => exact ⟨j + 1, _, by omega, by go_num, rfl, fun _ => HNX.out.symm, by rw [HEQ.out, HST.out, HY.out]; rfl, K4.out, V4.out⟩
          case measure => omega
        · have HY := hid (HRET.out 4 (by decide) (by rw [HX3.out, if_pos hne]))
          have hne0 : ¬ (on.length : Int) = (fs.length : Int) := by omega
          have hne1 : ((on.length : Int) == (fs.length : Int)) = false := by simp [hne0]
          have hne2 : ((on.length : Int) != (fs.length : Int)) = true := by simp [hne0]
          clear HX3 hne
          go_upto_region 10 with fail
          go_quiet (fail)
          go_wp2_with fail
          go_ret
          exact ⟨ret_int HY.out.symm, Keep.drewN K1.out _⟩
    · go_wp2_with fail
      go_ret
      exact ⟨ret_int (by rw [HX.out, HEQ.out, show ms.length - j = 0 by omega]; rfl), HK.out⟩

theorem boxed_at' {W : World} {n : Nat} (h : W.heap.size = n) (cs : Array Value) (T : TypeId) : Boxed n cs (W.alloc (.cells cs T)) := h ▸ Boxed.new W cs T
theorem flag_none {fs : List ByteArray} (h : ∀ f ∈ fs, nameB f.data.toList = true) {x : ByteArray} (hx : x.toList.isEmpty = true) : fs.length ≤ flagAt fs x := by
  rcases Nat.lt_or_ge (flagAt fs x) fs.length with hlt | hge
  · have e : fs[flagAt fs x] = x := of_decide_eq_true (List.findIdx_getElem (p := fun f => decide (f = x)) (w := hlt))
    have hn := h _ (List.getElem_mem hlt)
    rw [e] at hn
    rw [Lib.toList_data] at hx
    have : x.data.toList = [] := by simpa using hx
    rw [this] at hn
    cases hn
  · exact hge

set_option maxHeartbeats 4000000 in
set_option maxRecDepth 100000 in
theorem refIs_any (S : Nat → Prop) (ps : List PK) (m : MB) (op : Option Addr) (oc : Nat) (tv : Value) (an af : ByteArray) (aop av asl : Int) (aon : Bool) (w : World) (hS : ∀ b, S b → b < w.heap.size) (hp : PkgsIs S w ps tv) (hct : chkT ps = 0) (hb : BoolsIs S w m.on (.slice op m.on.length oc)) (h0 : 0 ≤ m.pl) (h1 : m.pl < ps.length) (hon : m.on.length = (pkOf ps m).fl.length) (hom : m.on.length ≤ 9223372036854775807) :
    Calls Tryz.prog 114 #[.agg #[tv], .agg #[.int .i64 m.pl, .slice op m.on.length oc], .agg #[.string an, .int .i64 aop, .int .i64 av, .int .i64 asl, .string af, .bool aon]] w fun e w' => e = .returned (.bool (isB (pkOf ps m) m ⟨an, aop, av, asl, af, aon⟩)) ∧ Keep w w' := by
  have HB := hid hb
  obtain ⟨tp, tc, rfl, hlen⟩ := hp.len
  obtain ⟨q, hq⟩ : ∃ q : Nat, m.pl = q := ⟨m.pl.toNat, by omega⟩
  have hqp : q < ps.length := by omega
  have hpk : pkOf ps m = ps[q] := by unfold pkOf; rw [hq, Int.toNat_natCast, getD_pk ps q hqp]
  rw [hpk] at hon ⊢
  obtain ⟨tb, toff, tcap, htv, htb, -, htrow⟩ := hp.get hqp
  cases htv
  obtain ⟨cs, hcs, hpj⟩ := htrow q hqp
  have HNF : Hid (∀ f ∈ ps[q].fl, nameB f.data.toList = true) := (chkFs_get (chkP_get ((chkT_get hct).2 _ (List.getElem_mem hqp))).2.2.1).2
  generalize ps[q] = p at hpj hon HNF ⊢
  obtain ⟨kk, a', fl, nt, kids, kp, fp, kc, fc, hnd, hfl, rfl, hf, -⟩ := hpj.spelt
  obtain ⟨c0, c1, c2, c3, c4, c5, c6, c7, c8, c9, c10, c11, c12, c13⟩ := cells14 hcs
  have HF := hid hf
  have htl := hS tb htb
  clear hcs hpj htrow hnd hp hb hct hpk hf h0 h1
  rcases p with ⟨n, v, sl, fs, nd⟩
  rcases m with ⟨pl, on⟩
  simp only at hq hon hom hfl c0 c1 c2 c3 HF HB HNF ⊢
  subst hq
  have HM : Hid (isB ⟨n, v, sl, fs, nd⟩ ⟨q, on⟩ ⟨an, aop, av, asl, af, aon⟩ = ((n.toList == an.toList) && fitB aop av asl v sl && (af.toList.isEmpty || (decide (flagAt fs af < fs.length) && (on.getD (flagAt fs af) false == aon))))) := rfl
  have HON := hid hon
  clear hon
  go_enter Tryz.func114, Tryz.ntmps114
  go_upto_region 1 with fail
  refine at_wp (fun W' => Keep w W' ∧ VarAt w.heap.size 44 (.slice (some ⟨tb, toff, none⟩) ps.length tc) W' ∧ Boxed (w.heap.size + 1) #[.int .i64 (q : Int), .slice op on.length oc] W' ∧ Boxed (w.heap.size + 1 + 1) #[.string an, .int .i64 aop, .int .i64 av, .int .i64 asl, .string af, .bool aon] W')
    ⟨((Keep.alloc _ _).alloc' _).alloc' _, (VarAt.new _ _ _).keep ((Keep.alloc _ _).alloc' _) (by simp), (boxed_at' (by simp) _ _).keep (Keep.alloc _ _) (by simp), boxed_at' (by simp) _ _⟩ ?_
  rintro W0 ⟨k0, v0, x1, x2⟩
  have K0 := hid k0
  have X1 := hid x1
  have X2 := hid x2
  obtain ⟨g0, -, l0⟩ := v0.facts
  have g1 := x1.2
  have l1 := x1.1
  have gt : ∀ (o : Nat) (x : Value), w.cell? ⟨tb, o, none⟩ = some x → W0.cell? ⟨tb, o, none⟩ = some x := fun o x h => (k0.cell (p := ⟨tb, o, none⟩) htl).trans h
  have d0 := gt _ _ c0
  have d1 := gt _ _ c1
  have d2 := gt _ _ c2
  have d3 := gt _ _ c3
  have d4 := gt _ _ c4
  have d5 := gt _ _ c5
  have d6 := gt _ _ c6
  have d7 := gt _ _ c7
  have d8 := gt _ _ c8
  have d9 := gt _ _ c9
  have d10 := gt _ _ c10
  have d11 := gt _ _ c11
  have d12 := gt _ _ c12
  have d13 := gt _ _ c13
  have ht0 : tb < W0.heap.size := Nat.lt_of_lt_of_le htl k0.size
  clear c0 c1 c2 c3 c4 c5 c6 c7 c8 c9 c10 c11 c12 c13 gt k0 v0 x1 x2
  go_upto_region 2 with fail
  refine at_wp (fun W' => Keep w W' ∧ Boxed (w.heap.size + 1) #[.int .i64 (q : Int), .slice op on.length oc] W' ∧ Boxed (w.heap.size + 1 + 1) #[.string an, .int .i64 aop, .int .i64 av, .int .i64 asl, .string af, .bool aon] W' ∧ Boxed W0.heap.size #[.string n, .int .i64 v, .int .i64 sl, .slice fp fs.length fc, .int .i64 kk, .string a'.n, .int .i64 a'.op, .int .i64 a'.v, .int .i64 a'.sl, .string a'.f, .bool a'.on, .string fl, .bool nt, .slice kp kids.length kc] W')
    ⟨K0.out.alloc' _, X1.out.keep (Keep.alloc _ _) X1.out.1, X2.out.keep (Keep.alloc _ _) X2.out.1, Boxed.new _ _ _⟩ ?_
  rintro W1 ⟨k1, b1, b2, b3⟩
  generalize W0.heap.size = bx at b3 ⊢
  clear d0 d1 d2 d3 d4 d5 d6 d7 d8 d9 d10 d11 d12 d13 g0 g1 l0 l1 ht0 K0 X1 X2
  have K1 := hid k1
  have B1 := hid b1
  have B2 := hid b2
  have B3 := hid b3
  have hc1 := b1.2
  have hl1 := b1.1
  have hc2 := b2.2
  have hl2 := b2.1
  have hc3 := b3.2
  have hl3 := b3.1
  clear k1 b1 b2 b3
  have hsym : (an.toList != n.toList) = !(n.toList == an.toList) := by
    cases h : (n.toList == an.toList)
    · have : ¬ an.toList = n.toList := fun e => by rw [e] at h; simp at h
      simp [this]
    · have : n.toList = an.toList := by simpa using h
      simp [this]
  cases h1 : (n.toList == an.toList)
  · rw [h1] at HM hsym
    have hsy : (an.toList != n.toList) = true := hsym
    have hsz : (an.toList == n.toList) = false := by simpa [bne] using hsy
    clear hsym h1
    go_wp2_with fail
    go_ret
    exact ⟨ret_bool (by rw [HM.out]; rfl), K1.out⟩
  rw [h1] at HM hsym
  have hsy : (an.toList != n.toList) = false := hsym
  have hsz : (an.toList == n.toList) = true := by simpa [bne] using hsy
  clear hsym h1
  go_wp2_with fail
  refine (fitsTo_any an af aop av asl aon v sl W1).mono ?_
  rintro e w2 ⟨rfl, k2⟩
  have K2 := hid (K1.out.trans k2)
  have C1 := hid (B1.out.keep k2 B1.out.1)
  have C2 := hid (B2.out.keep k2 B2.out.1)
  have C3 := hid (B3.out.keep k2 B3.out.1)
  clear k2 B1 B2 B3 hc1 hl1 hc2 hl2 hc3 hl3
  generalize fitB aop av asl v sl = β at HM ⊢
  cases β
  · go_wp2_with fail
    go_ret
    exact ⟨ret_bool (by rw [HM.out]; rfl), K2.out⟩
  have HM2 : Hid (isB ⟨n, v, sl, fs, nd⟩ ⟨q, on⟩ ⟨an, aop, av, asl, af, aon⟩ = (af.toList.isEmpty || (decide (flagAt fs af < fs.length) && (on.getD (flagAt fs af) false == aon)))) := by show _ = _; rw [HM.out]; rfl
  have hc3 := C3.out.2
  have hl3 := C3.out.1
  clear HM
  go_wp2_with fail
  clear hc3 hl3
  go_loopg [33] fs.length (fun gk i wr => ∃ j : Nat, j + gk = fs.length ∧ i = .int .i64 j ∧ j ≤ flagAt fs af ∧ Keep w wr ∧ Boxed (w.heap.size + 1) #[.int .i64 (q : Int), .slice op on.length oc] wr ∧ Boxed (w.heap.size + 1 + 1) #[.string an, .int .i64 aop, .int .i64 av, .int .i64 asl, .string af, .bool aon] wr)
  case atStart => exact ⟨0, by simp, rfl, Nat.zero_le _, K2.out, C1.out, C2.out⟩
  case round =>
    obtain ⟨j, hj, rfl, hjf, hkp, hb1, hb2⟩ := hrel
    have HK := hid hkp
    have D1 := hid hb1
    have D2 := hid hb2
    have hc1 := hb1.2
    have hl1 := hb1.1
    have hc2 := hb2.2
    have hl2 := hb2.1
    clear hkp hb1 hb2 K2 C1 C2 C3
    by_cases hlt : j < fs.length
    · obtain ⟨fb, foff, fcap, hfv, hfb, -, hfc⟩ := (HF.out.keep hS HK.out).get hlt
      cases hfv
      have hcm := hfc j _ (List.getElem?_eq_getElem hlt)
      have hflt : fb < wr.heap.size := Nat.lt_of_lt_of_le (hS fb hfb) HK.out.size
      have HEQ : Hid (fs[j] = af → flagAt fs af = j) := fun e => by
        have h1 : flagAt fs af ≤ j := by
          unfold flagAt
          exact Nat.le_of_not_lt fun hlt' => by
            have := List.not_of_lt_findIdx hlt'
            simp [e] at this
        omega
      have HNE : Hid (¬ fs[j] = af → j + 1 ≤ flagAt fs af) := fun e => by
        rcases Nat.lt_or_ge j (flagAt fs af) with h | h
        · exact h
        · exfalso
          have hje : flagAt fs af = j := by omega
          have hl : flagAt fs af < fs.length := by omega
          have e2 : fs[flagAt fs af] = af := of_decide_eq_true (List.findIdx_getElem (p := fun f => decide (f = af)) (w := hl))
          exact e (by rw [← e2]; simp [hje])
      have HNE0 : Hid (fs[j] = af → af.toList.isEmpty = false) := fun e => by
        have := HNF.out _ (List.getElem_mem hlt)
        rw [e] at this
        cases hh : af.toList.isEmpty
        · rfl
        · rw [Lib.toList_data] at hh
          have h2 : af.data.toList = [] := by simpa using hh
          rw [h2] at this; cases this
      generalize fs[j] = x at hcm HEQ HNE HNE0
      clear hfc
      by_cases hx : x = af
      · subst hx
        have hfa := HEQ.out rfl
        have hem := HNE0.out rfl
        have hxx : (x.toList == x.toList) = true := by simp
        have hqo : j < on.length := by have := HON.out; omega
        obtain ⟨ob, ooff, hop, hSo, hcell⟩ := (HB.out.keep hS HK.out).cell hqo
        subst hop
        have holt : ob < wr.heap.size := Nat.lt_of_lt_of_le (hS ob hSo) HK.out.size
        have HM3 : Hid (isB ⟨n, v, sl, fs, nd⟩ ⟨q, on⟩ ⟨an, aop, av, asl, x, aon⟩ = (on.getD j false == aon)) := by show _ = _; rw [HM2.out, hem, hfa, decide_eq_true hlt]; rfl
        generalize on.getD j false = γ at hcell HM3
        clear HEQ HNE HNE0 HM2 hfa hem hjf
        go_upto_region 8 with fail
        clear hcm
        go_quiet (fail)
        go_wp2_with fail
        go_ret
        exact ⟨ret_bool (by rw [HM3.out]), Keep.drewN HK.out _⟩
      · have hnx := HNE.out hx
        have hxx : (x.toList == af.toList) = false := by
          rw [beq_eq_false_iff_ne]
          intro e
          rw [Lib.toList_data, Lib.toList_data] at e
          exact hx (bytes_same e)
        clear HEQ HNE HNE0 hx
        go_wp2_with fail
        go_roundg (fs.length - (j + 1))
        case rel => exact ⟨j + 1, by omega, by go_num, hnx, HK.out, D1.out, D2.out⟩
        case measure => omega
    · have hno : ¬ flagAt fs af < fs.length := by omega
      rw [decide_eq_false hno] at HM2
      cases hem : af.toList.isEmpty
      · rw [hem] at HM2
        have h3 : (af.toList == []) = false := by simpa using hem
        go_wp2_with fail
        go_ret
        exact ⟨ret_bool (by rw [HM2.out]; rfl), HK.out⟩
      · rw [hem] at HM2
        have h3 : (af.toList == []) = true := by simpa using hem
        go_wp2_with fail
        go_ret
        exact ⟨ret_bool (by rw [HM2.out]; rfl), HK.out⟩
end Go.Proofs.YtlfonjngbpfelaaGreatDoor
