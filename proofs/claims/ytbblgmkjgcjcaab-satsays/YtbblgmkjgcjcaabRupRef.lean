/- The reference's CheckClause, CheckFormula and CheckProof answer as plain functions say. -/
import Derived.Test.YtbblgmkjgcjcaabRupBase
namespace Go.Proofs.Ytbblgmkjgcjcaab
open Go.RowKit Go.Lib

theorem litB_ref {x vars : Int} (h : 0 ≤ vars) : litB x vars = !(x == 0 || decide (vars < x) || decide (x < -vars)) := by
  unfold litB
  by_cases h1 : x < 0
  · rw [if_pos h1]
    have e1 : (x == 0) = false := beq_eq_false_iff_ne.2 (by omega)
    have e2 : decide (vars < x) = false := decide_eq_false (by omega)
    rw [e1, e2]
    by_cases h2 : x < -vars
    · rw [decide_eq_true h2, decide_eq_false (by omega)]; rfl
    · rw [decide_eq_false h2, decide_eq_true (by omega)]; rfl
  · rw [if_neg h1]
    by_cases h2 : x = 0
    · subst h2; simp
    · have e1 : (x == 0) = false := beq_eq_false_iff_ne.2 h2
      have e3 : decide (x < -vars) = false := decide_eq_false (by omega)
      rw [e1, e3]
      have e4 : decide (0 < x) = true := decide_eq_true (by omega)
      rw [e4]
      by_cases h3 : vars < x
      · rw [decide_eq_true h3, decide_eq_false (by omega)]; rfl
      · rw [decide_eq_false h3, decide_eq_true (by omega)]; rfl
set_option maxHeartbeats 2000000 in
theorem refClause_any (S : Nat → Prop) (c : List Int) (v : Value) (vars : Int) (w : World) (hv : 0 ≤ vars ∧ vars ≤ 400) (hS : ∀ b, S b → b < w.heap.size) (hz : NumsIs S w c v) (hr : ∀ x ∈ c, InR x) :
    Calls Try.prog 49 #[v, .int .i64 vars] w fun e w' => e = .returned (.int .i64 (clauseE c vars)) ∧ w' = w := by
  have HE := hid (show clauseE c vars = if 60 < c.length then 2 else litsE c vars from rfl)
  have HZ := hid hz
  have HR := hid hr
  obtain ⟨p, cp, rfl, hmax⟩ := hz.shape
  have hv0 := hv.1
  have hv4 := hv.2
  clear hz hr hv
  by_cases h : 60 < c.length
  · have h' : (60 : Int) < c.length := by omega
    go_enter Try.func49, Try.ntmps49
    go_wp2_with fail
    go_ret
    exact ⟨ret_int (HE.out.trans (if_pos h)).symm, rfl⟩
  · have h' : ¬ (60 : Int) < c.length := by omega
    have HE2 := hid (HE.out.trans (if_neg h))
    go_enter Try.func49, Try.ntmps49
    go_wp2_with fail
    go_loopg [4, 12] c.length (fun gk rv i wr => ∃ j : Nat, j + gk = c.length ∧ rv = .int .i64 0 ∧ i = .int .i64 j ∧ (c.take j).all (litB · vars) = true ∧ wr = w)
    case atStart => exact ⟨0, by simp, rfl, rfl, by simp, rfl⟩
    case round =>
      obtain ⟨j, hj, rfl, rfl, hno, hw⟩ := hrel
      subst hw
      have HNO := hid hno
      clear hno
      by_cases hlt : j < c.length
      · obtain ⟨b, off, rfl, hb, hcell⟩ := HZ.out.nth hlt
        have hcj := hcell j _ (List.getElem?_eq_getElem hlt)
        have hbl := hS b hb
        have HST := hid (show (c.take (j + 1)).all (litB · vars) = litB c[j] vars by rw [List.take_succ_eq_append_getElem hlt, List.all_append, HNO.out]; simp)
        have HBAD := hid (show litB c[j] vars = false → litsE c vars = 5 from fun e => by
          unfold litsE
          rw [if_neg]
          intro h2
          have := List.all_eq_true.1 h2 c[j] (List.getElem_mem hlt)
          rw [e] at this; cases this)
        have hxr := HR.out _ (List.getElem_mem hlt)
        have HLB := hid (litB_ref (x := c[j]) hv0)
        have hjI : (j : Int) < (c.length : Int) := by omega
        generalize c[j] = x at hcj HST HBAD hxr HLB
        generalize litB x vars = lb at HST HBAD HLB
        have hx1 := hxr.1
        have hx2 := hxr.2
        clear hcell hxr
        by_cases g1 : x = 0
        · have g1' : (x == 0) = true := by simp [g1]
          have HB := hid (HBAD.out (by rw [HLB.out, g1']; rfl))
          clear g1
          go_wp2_with fail
          go_ret
          exact ⟨ret_int (HE2.out.trans HB.out).symm, rfl⟩
        · have g1' : (x == 0) = false := by simp [g1]
          by_cases g2 : vars < x
          · have HB := hid (HBAD.out (by rw [HLB.out, g1', decide_eq_true g2]; rfl))
            clear g1
            go_wp2_with fail
            go_ret
            exact ⟨ret_int (HE2.out.trans HB.out).symm, rfl⟩
          · by_cases g3 : x < -vars
            · have HB := hid (HBAD.out (by rw [HLB.out, g1', decide_eq_false g2, decide_eq_true g3]; rfl))
              clear g1
              go_wp2_with fail
              go_ret
              exact ⟨ret_int (HE2.out.trans HB.out).symm, rfl⟩
            · have HG := hid (show (c.take (j + 1)).all (litB · vars) = true by rw [HST.out, HLB.out, g1', decide_eq_false g2, decide_eq_false g3]; rfl)
              clear g1
              go_wp2_with fail
              go_roundg (c.length - (j + 1))
              case rel => exact ⟨j + 1, by omega, rfl, by go_num, HG.out, rfl⟩
              case measure => omega
      · obtain rfl : j = c.length := by omega
        have HG := hid (show litsE c vars = 0 by have := HNO.out; rw [List.take_length] at this; unfold litsE; rw [if_pos this])
        go_wp2_with fail
        go_ret
        exact ⟨ret_int (HE2.out.trans HG.out).symm, rfl⟩
set_option maxHeartbeats 2000000 in
set_option maxRecDepth 100000 in
theorem refFormula_any (S : Nat → Prop) (vars : Int) (F : List (List Int)) (p : Option Addr) (cap : Nat) (w : World) (hS : ∀ b, S b → b < w.heap.size) (hf : FormIs S w vars F p cap) :
    Calls Try.prog 26 #[.agg #[.int .i64 vars, .slice p F.length cap]] w fun e w' => e = .returned (.int .i64 (formE vars F)) ∧ w' = w.alloc (.cells #[.int .i64 vars, .slice p F.length cap] 24) := by
  have HF := hid hf
  obtain ⟨_, _, hpp, hmax⟩ := hf.row.len
  clear hpp
  have HE := hid (show formE vars F = if vars < 0 then 3 else if 400 < vars then 3 else if 4000 < F.length then 2 else clausesE vars F from rfl)
  clear hf
  have B0 := BoxAt.new w 24 #[.int .i64 vars, .slice p F.length cap]
  have K0 := hid (Keep.alloc w (.cells #[.int .i64 vars, .slice p F.length cap] 24))
  obtain ⟨hc0, -, hl0⟩ := B0.facts
  by_cases h1 : vars < 0
  · go_enter Try.func26, Try.ntmps26
    go_wp2_with fail
    go_ret
    exact ⟨ret_int (HE.out.trans (if_pos h1)).symm, rfl⟩
  · by_cases h2 : 400 < vars
    · go_enter Try.func26, Try.ntmps26
      go_wp2_with fail
      go_ret
      exact ⟨ret_int (HE.out.trans ((if_neg (by omega)).trans (if_pos h2))).symm, rfl⟩
    · by_cases h3 : 4000 < F.length
      · have h3' : (4000 : Int) < F.length := by omega
        go_enter Try.func26, Try.ntmps26
        go_wp2_with fail
        go_ret
        exact ⟨ret_int (HE.out.trans ((if_neg (by omega)).trans ((if_neg (by omega)).trans (if_pos h3)))).symm, rfl⟩
      · have h3' : ¬ (4000 : Int) < F.length := by omega
        have HE2 := hid (HE.out.trans ((if_neg h1).trans ((if_neg h2).trans (if_neg h3))))
        go_enter Try.func26, Try.ntmps26
        go_wp2_with fail
        generalize hWe : w.alloc (.cells #[.int .i64 vars, .slice p F.length cap] 24) = W at hc0 hl0 K0 ⊢
        have HW := hid hWe
        clear hWe
        go_loopg [2, 21] F.length (fun gk rv i wr => ∃ j : Nat, j + gk = F.length ∧ rv = .int .i64 0 ∧ i = .int .i64 j ∧ clausesE vars (F.drop j) = clausesE vars F ∧ wr = W)
        case atStart => exact ⟨0, by simp, rfl, rfl, by simp, rfl⟩
        case round =>
          obtain ⟨j, hj, rfl, rfl, hno, hw⟩ := hrel
          subst hw
          have HNO := hid hno
          clear hno
          by_cases hlt : j < F.length
          · obtain ⟨b, off, cap', cp', cc', hv, hb, -, hcell, hnum, -⟩ := ((HF.out.keep hS K0.out).row).get hlt
            cases hv
            have HCALL := hid (refClause_any S F[j] _ vars wr (by omega) (fun b hb => Nat.lt_of_lt_of_le (hS b hb) K0.out.size) hnum (HF.out.num _ (List.getElem_mem hlt)))
            have HST := hid (HNO.out.symm.trans (clausesE_step (vars := vars) hlt))
            have hbl := Nat.lt_of_lt_of_le (hS b hb) K0.out.size
            clear hnum
            generalize F[j] = c at HCALL HST hcell
            generalize clauseE c vars = r at HCALL HST
            have hc1 := hc0 0
            have hc2 := hc0 1
            go_wp2_with fail
            refine HCALL.out.mono ?_
            rintro e w1 ⟨rfl, hw1⟩
            rw [hw1]
            clear hw1 HCALL
            by_cases hr : r = 0
            · have hr' : (r != 0) = false := by simp [hr]
              have HST2 := hid (HST.out.trans (if_pos hr))
              clear hr
              go_wp2_with fail
              go_roundg (F.length - (j + 1))
              case rel => exact ⟨j + 1, by omega, rfl, by go_num, HST2.out.symm, rfl⟩
              case measure => omega
            · have hr' : (r != 0) = true := by simp [hr]
              have HST2 := hid (HST.out.trans (if_neg hr))
              clear hr
              go_wp2_with fail
              go_ret
              exact ⟨ret_int (by rw [HE2.out, HST2.out]), HW.out.symm⟩
          · obtain rfl : j = F.length := by omega
            go_wp2_with fail
            go_ret
            have := HNO.out
            rw [List.drop_length, clausesE] at this
            exact ⟨ret_int (by rw [HE2.out, ← this]), HW.out.symm⟩
set_option maxHeartbeats 2000000 in
set_option maxRecDepth 100000 in
theorem refProof_any (S : Nat → Prop) (vars : Int) (F : List (List Int)) (p : Option Addr) (cap : Nat) (w : World) (hS : ∀ b, S b → b < w.heap.size) (hf : FormIs S w 0 F p cap) :
    Calls Try.prog 27 #[.slice p F.length cap, .int .i64 vars] w fun e w' => e = .returned (.int .i64 (proofE vars F)) ∧ w' = w := by
  have HF := hid hf
  obtain ⟨_, _, hpp, hmax⟩ := hf.row.len
  clear hpp
  have HE := hid (show proofE vars F = if vars < 0 then 3 else if 400 < vars then 3 else if 40000 < F.length then 2 else clausesE vars F from rfl)
  clear hf
  by_cases h1 : vars < 0
  · go_enter Try.func27, Try.ntmps27
    go_wp2_with fail
    go_ret
    exact ⟨ret_int (HE.out.trans (if_pos h1)).symm, rfl⟩
  · by_cases h2 : 400 < vars
    · go_enter Try.func27, Try.ntmps27
      go_wp2_with fail
      go_ret
      exact ⟨ret_int (HE.out.trans ((if_neg (by omega)).trans (if_pos h2))).symm, rfl⟩
    · by_cases h3 : 40000 < F.length
      · have h3' : (40000 : Int) < F.length := by omega
        go_enter Try.func27, Try.ntmps27
        go_wp2_with fail
        go_ret
        exact ⟨ret_int (HE.out.trans ((if_neg (by omega)).trans ((if_neg (by omega)).trans (if_pos h3)))).symm, rfl⟩
      · have h3' : ¬ (40000 : Int) < F.length := by omega
        have HE2 := hid (HE.out.trans ((if_neg h1).trans ((if_neg h2).trans (if_neg h3))))
        go_enter Try.func27, Try.ntmps27
        go_wp2_with fail
        go_loopg [4, 19] F.length (fun gk rv i wr => ∃ j : Nat, j + gk = F.length ∧ rv = .int .i64 0 ∧ i = .int .i64 j ∧ clausesE vars (F.drop j) = clausesE vars F ∧ wr = w)
        case atStart => exact ⟨0, by simp, rfl, rfl, by simp, rfl⟩
        case round =>
          obtain ⟨j, hj, rfl, rfl, hno, hw⟩ := hrel
          subst hw
          have HNO := hid hno
          clear hno
          by_cases hlt : j < F.length
          · obtain ⟨b, off, cap', cp', cc', hv, hb, -, hcell, hnum, -⟩ := HF.out.row.get hlt
            cases hv
            have HCALL := hid (refClause_any S F[j] _ vars wr (by omega) hS hnum (HF.out.num _ (List.getElem_mem hlt)))
            have HST := hid (HNO.out.symm.trans (clausesE_step (vars := vars) hlt))
            have hbl := hS b hb
            clear hnum
            generalize F[j] = c at HCALL HST hcell
            generalize clauseE c vars = r at HCALL HST
            go_wp2_with fail
            refine HCALL.out.mono ?_
            rintro e w1 ⟨rfl, hw1⟩
            rw [hw1]
            clear hw1 HCALL
            by_cases hr : r = 0
            · have hr' : (r != 0) = false := by simp [hr]
              have HST2 := hid (HST.out.trans (if_pos hr))
              clear hr
              go_wp2_with fail
              go_roundg (F.length - (j + 1))
              case rel => exact ⟨j + 1, by omega, rfl, by go_num, HST2.out.symm, rfl⟩
              case measure => omega
            · have hr' : (r != 0) = true := by simp [hr]
              have HST2 := hid (HST.out.trans (if_neg hr))
              clear hr
              go_wp2_with fail
              go_ret
              exact ⟨ret_int (by rw [HE2.out, HST2.out]), rfl⟩
          · obtain rfl : j = F.length := by omega
            go_wp2_with fail
            go_ret
            have := HNO.out
            rw [List.drop_length, clausesE] at this
            exact ⟨ret_int (by rw [HE2.out, ← this]), rfl⟩
end Go.Proofs.Ytbblgmkjgcjcaab
