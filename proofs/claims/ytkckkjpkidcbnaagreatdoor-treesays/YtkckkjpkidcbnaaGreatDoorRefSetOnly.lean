/- quartermasterref.CheckSet and quartermasterref.Is answer as the plain functions chkS and isB say. -/
import Derived.Test.YtkckkjpkidcbnaaGreatDoorValidSet
import Derived.Test.YtkckkjpkidcbnaaGreatDoorRefCheck
namespace Go.Proofs.YtkckkjpkidcbnaaGreatDoor
open Go.RowKit Go.Sort

set_option maxHeartbeats 4000000 in
set_option maxRecDepth 100000 in
theorem refSet_any (S : Nat → Prop) (ps : List PK) (ms : List MB) (tv lv : Value) (w : World) (hS : ∀ b, S b → b < w.heap.size) (hp : PkgsIs S w ps tv) (hm : MbsIs S w ms lv) :
    Calls Tryz.prog 31 #[.agg #[tv], lv] w fun e w' => e = .returned (.int .i64 (chkS ps ms)) ∧ Keep w w' := by
  have HP := hid hp
  have HMS := hid hm
  obtain ⟨tp, tc, rfl, hlen⟩ := hp.len
  obtain ⟨lp, lc, rfl, hllen⟩ := hm.len
  have HX : Hid (chkS ps ms = firstE (mbE ps ms) 0 ms.length) := rfl
  clear hp hm
  go_enter Tryz.func31, Tryz.ntmps31
  go_wp2_with fail
  go_loopg [10, 5] ms.length (fun gk i ls wr => ∃ (j : Nat) (la : Int), j + gk = ms.length ∧ i = .int .i64 j ∧ ls = .int .i64 la ∧ (0 < j → la = (ms.getD (j - 1) MB.zero).pl) ∧ firstE (mbE ps ms) 0 ms.length = firstE (mbE ps ms) j (ms.length - j) ∧ Keep w wr ∧ VarAt w.heap.size 44 (.slice tp ps.length tc) wr)
  case atStart => exact ⟨0, -1, by simp, rfl, rfl, fun h => absurd h (Nat.lt_irrefl 0), rfl, Keep.alloc _ _, VarAt.new _ _ _⟩
  case round =>
    obtain ⟨j, la, hj, rfl, rfl, hla, he, hkp, hvt⟩ := hrel
    have HEQ := hid he
    have HK := hid hkp
    have HV := hid hvt
    have HLA := hid hla
    clear he hkp hvt hla
    by_cases hlt : j < ms.length
    · obtain ⟨mb, moff, mcap, hmv, hmS, -, hrow⟩ := (HMS.out.keep hS HK.out).get hlt
      cases hmv
      obtain ⟨op, oc, hc0, hc1, hon, -⟩ := hrow j _ (List.getElem?_eq_getElem hlt)
      have HST := hid (firstE_step (f := mbE ps ms) hlt)
      have HRET : Hid (∀ x : Int, x ≠ 0 → mbE ps ms j = x → chkS ps ms = x) := fun x hx hy => by rw [HX.out, HEQ.out, HST.out, hy, if_neg hx]
      have HXM : Hid (mbE ps ms j = if ms[j].pl < 0 ∨ (ps.length : Int) ≤ ms[j].pl then 5 else if 0 < j ∧ ms[j].pl ≤ (ms.getD (j - 1) MB.zero).pl then 6 else if ms[j].on.length ≠ (ps.getD ms[j].pl.toNat PK.zero).fl.length then 4 else 0) := by
        show _ = _
        unfold mbE pkOf
        rw [getD_mb ms j hlt]
      have HNX : Hid ((ms.getD (j + 1 - 1) MB.zero).pl = ms[j].pl) := by show _ = _; rw [Nat.add_sub_cancel, getD_mb ms j hlt]
      generalize ms[j] = m at hc0 hc1 hon HXM HNX
      obtain ⟨pl, on⟩ := m
      simp only at hc0 hc1 hon HXM HNX
      have hmlt : mb < wr.heap.size := Nat.lt_of_lt_of_le (hS mb hmS) HK.out.size
      clear hrow
      go_upto_region 5 with fail
      refine at_wp (fun W' => Keep w W' ∧ VarAt w.heap.size 44 (.slice tp ps.length tc) W' ∧ Boxed wr.heap.size #[.int .i64 pl, .slice op on.length oc] W') ⟨HK.out.alloc' _, HV.out.keep (Keep.alloc _ _) HV.out.facts.2.2, Boxed.new _ _ _⟩ ?_
      rintro W1 ⟨k1, v1, b1⟩
      have K1 := hid k1
      have V1 := hid v1
      have B1 := hid b1
      have hcb := b1.2
      have hlb := b1.1
      obtain ⟨ht0, -, htl⟩ := v1.facts
      clear k1 v1 b1 hc0 hc1
      by_cases h0 : pl < 0
      · have HY := hid (HRET.out 5 (by decide) (by rw [HXM.out, if_pos (Or.inl h0)]))
        go_wp2_with fail
        go_ret
        exact ⟨ret_int HY.out.symm, K1.out⟩
      by_cases h1 : (ps.length : Int) ≤ pl
      · have HY := hid (HRET.out 5 (by decide) (by rw [HXM.out, if_pos (Or.inr h1)]))
        go_wp2_with fail
        go_ret
        exact ⟨ret_int HY.out.symm, K1.out⟩
      obtain ⟨q, rfl⟩ : ∃ q : Nat, pl = q := ⟨pl.toNat, by omega⟩
      have hqp : q < ps.length := by omega
      obtain ⟨tb, toff, tcap, htv, htb, -, htrow⟩ := (HP.out.keep hS K1.out).get hqp
      cases htv
      obtain ⟨cs, hcs, hpk⟩ := htrow q hqp
      have HX2 : Hid (mbE ps ms j = if 0 < j ∧ (q : Int) ≤ (ms.getD (j - 1) MB.zero).pl then 6 else if on.length ≠ ps[q].fl.length then 4 else 0) := by
        show _ = _
        rw [HXM.out, if_neg (by omega), Int.toNat_natCast, getD_pk ps q hqp]
      generalize ps[q] = p at hpk HX2
      obtain ⟨kk, a, fl, nt, kids, kp, fp, kc, fc, hnd, hfl, rfl, hf, hn⟩ := hpk.spelt
      obtain ⟨-, -, -, c3, -⟩ := cells14 hcs
      have htl2 : tb < W1.heap.size := Nat.lt_of_lt_of_le (hS tb htb) K1.out.size
      clear hcs hpk htrow hf hn hnd HXM
      rcases p with ⟨pn, pv, psl, fs, nd⟩
      simp only at hfl c3 HX2
      have fin : Hid (mbE ps ms j = (if on.length ≠ fs.length then 4 else 0) → True) := fun _ => trivial
      clear fin
      by_cases hj0 : 0 < j
      · have hla := HLA.out hj0
        rw [← hla] at HX2
        have h0' : (0 : Int) < (j : Int) := by omega
        have hd : decide ((0 : Int) < (j : Int)) = true := decide_eq_true h0'
        clear hla HLA
        by_cases hle : (q : Int) ≤ la
        · have HY := hid (HRET.out 6 (by decide) (by rw [HX2.out, if_pos ⟨by omega, hle⟩]))
          go_wp2_with fail
          go_ret
          exact ⟨ret_int HY.out.symm, K1.out⟩
        · have HX3 : Hid (mbE ps ms j = if on.length ≠ fs.length then 4 else 0) := by show _ = _; rw [HX2.out, if_neg (fun h => hle h.2)]
          clear HX2
          by_cases hne : on.length = fs.length
          · have HY : Hid (mbE ps ms j = 0) := by show _ = _; rw [HX3.out, if_neg (fun h => h hne)]
            have hne1 : ((on.length : Int) == (fs.length : Int)) = true := by simp [hne]
            have hne2 : ((on.length : Int) != (fs.length : Int)) = false := by simp [hne]
            clear HX3 hne
            go_upto_region 10 with fail
            go_quiet (fail)
            have k4 : Keep W1 (W1.drewN nq) := Keep.drewN (Keep.refl _) _
            generalize W1.drewN nq = W4 at k4 ⊢
            have K4 := hid (K1.out.trans k4)
            have V4 := hid (V1.out.keep k4 V1.out.facts.2.2)
            clear k4
            go_wp2_with fail
            go_roundg (ms.length - (j + 1))
            case rel => exact ⟨j + 1, _, by omega, by go_num, rfl, fun _ => HNX.out.symm, by rw [HEQ.out, HST.out, HY.out]; rfl, K4.out, V4.out⟩
            case measure => omega
          · have HY := hid (HRET.out 4 (by decide) (by rw [HX3.out, if_pos hne]))
            have hne0 : ¬ (on.length : Int) = (fs.length : Int) := by omega
            have hne1 : ((on.length : Int) == (fs.length : Int)) = false := by simp [hne0]
            have hne2 : ((on.length : Int) != (fs.length : Int)) = true := by simp [hne0]
            clear HX3 hne
            go_upto_region 10 with fail
            go_quiet (fail)
            go_wp2_with fail
            go_ret
            exact ⟨ret_int HY.out.symm, Keep.drewN K1.out _⟩
      · have HX3 : Hid (mbE ps ms j = if on.length ≠ fs.length then 4 else 0) := by show _ = _; rw [HX2.out, if_neg (fun h => hj0 h.1)]
        have h0' : ¬ (0 : Int) < (j : Int) := by omega
        clear HX2 HLA
        by_cases hne : on.length = fs.length
        · have HY : Hid (mbE ps ms j = 0) := by show _ = _; rw [HX3.out, if_neg (fun h => h hne)]
          have hne1 : ((on.length : Int) == (fs.length : Int)) = true := by simp [hne]
          have hne2 : ((on.length : Int) != (fs.length : Int)) = false := by simp [hne]
          clear HX3 hne
          go_upto_region 10 with fail
          go_quiet (fail)
          have k4 : Keep W1 (W1.drewN nq) := Keep.drewN (Keep.refl _) _
          generalize W1.drewN nq = W4 at k4 ⊢
          have K4 := hid (K1.out.trans k4)
          have V4 := hid (V1.out.keep k4 V1.out.facts.2.2)
          clear k4
          go_wp2_with fail
          go_roundg (ms.length - (j + 1))
          case rel => exact ⟨j + 1, _, by omega, by go_num, rfl, fun _ => HNX.out.symm, by rw [HEQ.out, HST.out, HY.out]; rfl, K4.out, V4.out⟩
          case measure => omega
        · have HY := hid (HRET.out 4 (by decide) (by rw [HX3.out, if_pos hne]))
          have hne0 : ¬ (on.length : Int) = (fs.length : Int) := by omega
          have hne1 : ((on.length : Int) == (fs.length : Int)) = false := by simp [hne0]
          have hne2 : ((on.length : Int) != (fs.length : Int)) = true := by simp [hne0]
          clear HX3 hne
          go_upto_region 10 with fail
          go_quiet (fail)
          go_wp2_with fail
          go_ret
          exact ⟨ret_int HY.out.symm, Keep.drewN K1.out _⟩
    · go_wp2_with fail
      go_ret
      exact ⟨ret_int (by rw [HX.out, HEQ.out, show ms.length - j = 0 by omega]; rfl), HK.out⟩

theorem boxed_at' {W : World} {n : Nat} (h : W.heap.size = n) (cs : Array Value) (T : TypeId) : Boxed n cs (W.alloc (.cells cs T)) := h ▸ Boxed.new W cs T
theorem flag_none {fs : List ByteArray} (h : ∀ f ∈ fs, nameB f.data.toList = true) {x : ByteArray} (hx : x.toList.isEmpty = true) : fs.length ≤ flagAt fs x := by
  rcases Nat.lt_or_ge (flagAt fs x) fs.length with hlt | hge
  · have e : fs[flagAt fs x] = x := of_decide_eq_true (List.findIdx_getElem (p := fun f => decide (f = x)) (w := hlt))
    have hn := h _ (List.getElem_mem hlt)
    rw [e] at hn
    rw [Lib.toList_data] at hx
    have : x.data.toList = [] := by simpa using hx
    rw [this] at hn
    cases hn
  · exact hge

end Go.Proofs.YtkckkjpkidcbnaaGreatDoor
