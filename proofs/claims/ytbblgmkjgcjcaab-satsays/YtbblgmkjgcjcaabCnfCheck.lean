/- cnf.CheckClause, cnf.Check and cnf.Holds answer as plain functions say. -/
import Derived.Test.YtbblgmkjgcjcaabCnfFunc
namespace Go.Proofs.Ytbblgmkjgcjcaab
open Go.RowKit Go.Lib

/-- A number that an int holds. -/
def InR (x : Int) : Prop := -9223372036854775808 ≤ x ∧ x ≤ 9223372036854775807
def litB (x vars : Int) : Bool := if x < 0 then decide (-(x + 1) < vars) else (decide (0 < x) && decide (x ≤ vars))
def litsE (zs : List Int) (vars : Int) : Int := if zs.all (litB · vars) = true then 0 else 5
def clauseE (c : List Int) (vars : Int) : Int := if 60 < c.length then 2 else litsE c vars
def clausesE (vars : Int) : List (List Int) → Int
  | [] => 0
  | c :: r => if clauseE c vars = 0 then clausesE vars r else clauseE c vars
def formE (vars : Int) (F : List (List Int)) : Int := if vars < 0 then 3 else if 400 < vars then 3 else if 4000 < F.length then 2 else clausesE vars F
theorem litB_iff (x : Int) (n : Nat) : litB x n = true ↔ Lit n x := by
  unfold litB Lit
  split
  · rw [decide_eq_true_iff]; omega
  · rw [Bool.and_eq_true, decide_eq_true_iff, decide_eq_true_iff]; omega
theorem litsE_zero {zs : List Int} {n : Nat} : litsE zs n = 0 ↔ LitsC n zs := by
  unfold litsE LitsC
  split
  · rename_i h
    simp only [true_iff]
    intro x hx
    exact (litB_iff x n).1 (List.all_eq_true.1 h x hx)
  · rename_i h
    constructor
    · intro h2; cases h2
    · intro h2
      exact absurd (List.all_eq_true.2 fun x hx => (litB_iff x n).2 (h2 x hx)) h
theorem clauseE_zero {c : List Int} {n : Nat} : clauseE c n = 0 ↔ c.length ≤ 60 ∧ LitsC n c := by
  unfold clauseE
  split
  · constructor
    · intro h; cases h
    · intro h; omega
  · rw [litsE_zero]
    exact ⟨fun h => ⟨by omega, h⟩, fun h => h.2⟩
theorem clausesE_zero {n : Nat} : ∀ {F : List (List Int)}, clausesE n F = 0 ↔ ∀ c ∈ F, c.length ≤ 60 ∧ LitsC n c
  | [] => by simp [clausesE]
  | c :: r => by
    rw [clausesE]
    by_cases h : clauseE c n = 0
    · rw [if_pos h, clausesE_zero]
      have := clauseE_zero.1 h
      simp only [List.mem_cons, forall_eq_or_imp]
      exact ⟨fun h => ⟨this, h⟩, fun h => h.2⟩
    · rw [if_neg h]
      constructor
      · intro h2; exact absurd h2 h
      · intro h2; exact absurd (clauseE_zero.2 (h2 c List.mem_cons_self)) h
theorem formE_zero {vars : Int} {F : List (List Int)} (h : formE vars F = 0) : ∃ n : Nat, vars = n ∧ n ≤ 400 ∧ F.length ≤ 4000 ∧ ∀ c ∈ F, c.length ≤ 60 ∧ LitsC n c := by
  unfold formE at h
  split at h
  · cases h
  · split at h
    · cases h
    · split at h
      · cases h
      · obtain ⟨n, rfl⟩ : ∃ n : Nat, vars = n := ⟨vars.toNat, by omega⟩
        exact ⟨n, rfl, by omega, by omega, clausesE_zero.1 h⟩
theorem formE_back {n : Nat} {F : List (List Int)} (h1 : n ≤ 400) (h2 : F.length ≤ 4000) (h3 : ∀ c ∈ F, c.length ≤ 60 ∧ LitsC n c) : formE n F = 0 := by
  unfold formE
  rw [if_neg (by omega), if_neg (by omega), if_neg (by omega)]
  exact clausesE_zero.2 h3

set_option maxHeartbeats 1000000 in
theorem isLiteral_any (x vars : Int) (w : World) (hx : InR x) : Calls Try.prog 61 #[.int .i64 x, .int .i64 vars] w fun e w' => e = .returned (.bool (litB x vars)) ∧ w' = w := by
  obtain ⟨h1, h2⟩ := hx
  have HL := hid (show litB x vars = if x < 0 then decide (-(x + 1) < vars) else (decide (0 < x) && decide (x ≤ vars)) from rfl)
  by_cases h : x < 0
  · have HL2 := hid (HL.out.trans (if_pos h))
    go_enter Try.func61, Try.ntmps61
    go_wp2_with fail
    all_goals
      go_ret
      exact ⟨ret_bool (by rw [HL2.out]), rfl⟩
  · have HL2 := hid (HL.out.trans (if_neg h))
    by_cases h3 : 0 < x
    · go_enter Try.func61, Try.ntmps61
      go_wp2_with fail
      all_goals
        go_ret
        exact ⟨ret_bool (by rw [HL2.out, decide_eq_true h3, Bool.true_and]; try rfl), rfl⟩
    · go_enter Try.func61, Try.ntmps61
      go_wp2_with fail
      all_goals
        go_ret
        exact ⟨ret_bool (by rw [HL2.out, decide_eq_false (by omega), Bool.false_and]; try rfl), rfl⟩

set_option maxHeartbeats 1000000 in
theorem checkLiterals_any (S : Nat → Prop) (zs : List Int) (v : Value) (vars : Int) (w : World) (hS : ∀ b, S b → b < w.heap.size) (hz : NumsIs S w zs v) (hr : ∀ x ∈ zs, InR x) :
    Calls Try.prog 42 #[v, .int .i64 vars] w fun e w' => e = .returned (.int .i64 (litsE zs vars)) ∧ w' = w := by
  have HZ := hid hz
  have HR := hid hr
  obtain ⟨p, cp, rfl, hmax⟩ := hz.shape
  clear hz hr
  go_enter Try.func42, Try.ntmps42
  go_wp2_with fail
  go_loopg [9] zs.length (fun gk i wr => ∃ j : Nat, j + gk = zs.length ∧ i = .int .i64 j ∧ (zs.take j).all (litB · vars) = true ∧ wr = w)
  case atStart => exact ⟨0, by simp, rfl, by simp, rfl⟩
  case round =>
    obtain ⟨j, hj, rfl, hno, hw⟩ := hrel
    subst hw
    have HNO := hid hno
    clear hno
    by_cases hlt : j < zs.length
    · obtain ⟨b, off, rfl, hb, hcell⟩ := HZ.out.cellD hlt
      have HCALL := hid (isLiteral_any zs[j] vars wr (HR.out _ (List.getElem_mem hlt)))
      have HST : Hid ((zs.take (j + 1)).all (litB · vars) = litB zs[j] vars) := by
        show _ = _
        rw [List.take_succ_eq_append_getElem hlt, List.all_append, HNO.out]; simp
      have HUP : Hid (litB zs[j] vars = false → litsE zs vars = 5) := fun h => by
        unfold litsE
        rw [if_neg]
        intro h2
        have := List.all_eq_true.1 h2 _ (List.getElem_mem hlt)
        rw [h] at this; cases this
      have hbl := hS b hb
      generalize zs[j] = x at HCALL HST HUP hcell
      generalize litB x vars = β at HCALL HST HUP
      clear HNO
      go_wp2_with fail
      refine HCALL.out.mono ?_
      rintro e w1 ⟨rfl, hw1⟩
      rw [hw1]
      clear hw1 HCALL
      cases β
      · go_wp2_with fail
        go_ret
        exact ⟨ret_int (HUP.out trivial).symm, rfl⟩
      · go_wp2_with fail
        go_roundg (zs.length - (j + 1))
        case rel => exact ⟨j + 1, by omega, by go_num, HST.out, rfl⟩
        case measure => omega
    · obtain rfl : j = zs.length := by omega
      go_wp2_with fail
      go_ret
      have := HNO.out
      rw [List.take_length] at this
      exact ⟨ret_int (by unfold litsE; rw [if_pos this]), rfl⟩

set_option maxHeartbeats 1000000 in
theorem checkClause_any (S : Nat → Prop) (c : List Int) (v : Value) (vars : Int) (w : World) (hS : ∀ b, S b → b < w.heap.size) (hz : NumsIs S w c v) (hr : ∀ x ∈ c, InR x) :
    Calls Try.prog 50 #[v, .int .i64 vars] w fun e w' => e = .returned (.int .i64 (clauseE c vars)) ∧ w' = w := by
  have HC := hid (checkLiterals_any S c v vars w hS hz hr)
  have HE := hid (show clauseE c vars = if 60 < c.length then 2 else litsE c vars from rfl)
  obtain ⟨p, cp, rfl, hmax⟩ := hz.shape
  clear hz hr
  by_cases h : 60 < c.length
  · have h' : (60 : Int) < c.length := by omega
    go_enter Try.func50, Try.ntmps50
    go_wp2_with fail
    go_ret
    exact ⟨ret_int (HE.out.trans (if_pos h)).symm, rfl⟩
  · have h' : ¬ (60 : Int) < c.length := by omega
    go_enter Try.func50, Try.ntmps50
    go_wp2_with fail
    refine HC.out.mono ?_
    rintro e w1 ⟨rfl, hw1⟩
    rw [hw1]
    clear hw1
    have HE2 := hid (HE.out.trans (if_neg h))
    generalize litsE c vars = r at HE2 ⊢
    go_wp2_with fail
    go_ret
    exact ⟨ret_int HE2.out.symm, rfl⟩

/-- The formula lies in memory. -/
structure FormIs (S : Nat → Prop) (w : World) (vars : Int) (F : List (List Int)) (p : Option Addr) (cap : Nat) : Prop where
  row : ClsIs S w F (.slice p F.length cap)
  num : ∀ c ∈ F, ∀ x ∈ c, InR x
theorem FormIs.keep {S : Nat → Prop} {B : Nat} {w w' : World} {vars : Int} {F : List (List Int)} {p : Option Addr} {cap : Nat} (h : FormIs S w vars F p cap) (hS : ∀ b, S b → b < B) (k : Below B w w') : FormIs S w' vars F p cap := ⟨h.row.keep hS k, h.num⟩
theorem clausesE_step {vars : Int} {F : List (List Int)} {j : Nat} (h : j < F.length) : clausesE vars (F.drop j) = if clauseE F[j] vars = 0 then clausesE vars (F.drop (j + 1)) else clauseE F[j] vars := by
  rw [List.drop_eq_getElem_cons h, clausesE]

set_option maxHeartbeats 2000000 in
set_option maxRecDepth 100000 in
theorem formCheck_any (S : Nat → Prop) (vars : Int) (F : List (List Int)) (p : Option Addr) (cap : Nat) (w : World) (hS : ∀ b, S b → b < w.heap.size) (hf : FormIs S w vars F p cap) :
    Calls Try.prog 37 #[.agg #[.int .i64 vars, .slice p F.length cap]] w fun e w' => e = .returned (.int .i64 (formE vars F)) ∧ w' = w.alloc (.cells #[.int .i64 vars, .slice p F.length cap] 24) := by
  have HF := hid hf
  obtain ⟨_, _, hpp, hmax⟩ := hf.row.len
  clear hpp
  have HE := hid (show formE vars F = if vars < 0 then 3 else if 400 < vars then 3 else if 4000 < F.length then 2 else clausesE vars F from rfl)
  clear hf
  have B0 := BoxAt.new w 24 #[.int .i64 vars, .slice p F.length cap]
  have K0 := hid (Keep.alloc w (.cells #[.int .i64 vars, .slice p F.length cap] 24))
  obtain ⟨hc0, -, hl0⟩ := B0.facts
  by_cases h1 : vars < 0
  · go_enter Try.func37, Try.ntmps37
    go_wp2_with fail
    go_ret
    exact ⟨ret_int (HE.out.trans (if_pos h1)).symm, rfl⟩
  · by_cases h2 : 400 < vars
    · go_enter Try.func37, Try.ntmps37
      go_wp2_with fail
      go_ret
      exact ⟨ret_int (HE.out.trans ((if_neg (by omega)).trans (if_pos h2))).symm, rfl⟩
    · by_cases h3 : 4000 < F.length
      · have h3' : (4000 : Int) < F.length := by omega
        go_enter Try.func37, Try.ntmps37
        go_wp2_with fail
        go_ret
        exact ⟨ret_int (HE.out.trans ((if_neg (by omega)).trans ((if_neg (by omega)).trans (if_pos h3)))).symm, rfl⟩
      · have h3' : ¬ (4000 : Int) < F.length := by omega
        have HE2 := hid (HE.out.trans ((if_neg h1).trans ((if_neg h2).trans (if_neg h3))))
        go_enter Try.func37, Try.ntmps37
        go_wp2_with fail
        generalize hWe : w.alloc (.cells #[.int .i64 vars, .slice p F.length cap] 24) = W at hc0 hl0 K0 ⊢
        have HW := hid hWe
        clear hWe
        go_loopg [21] F.length (fun gk i wr => ∃ j : Nat, j + gk = F.length ∧ i = .int .i64 j ∧ clausesE vars (F.drop j) = clausesE vars F ∧ wr = W)
        case atStart => exact ⟨0, by simp, rfl, by simp, rfl⟩
        case round =>
          obtain ⟨j, hj, rfl, hno, hw⟩ := hrel
          subst hw
          have HNO := hid hno
          clear hno
          by_cases hlt : j < F.length
          · obtain ⟨b, off, cap', cp', cc', hv, hb, -, hcell, hnum, -⟩ := ((HF.out.keep hS K0.out).row).get hlt
            cases hv
            have HCALL := hid (checkClause_any S F[j] _ vars wr (fun b hb => Nat.lt_of_lt_of_le (hS b hb) K0.out.size) hnum (HF.out.num _ (List.getElem_mem hlt)))
            have HST := hid (HNO.out.symm.trans (clausesE_step (vars := vars) hlt))
            have hbl := Nat.lt_of_lt_of_le (hS b hb) K0.out.size
            clear hnum
            generalize F[j] = c at HCALL HST hcell
            generalize clauseE c vars = r at HCALL HST
            have hc1 := hc0 0
            have hc2 := hc0 1
            go_wp2_with fail
            refine HCALL.out.mono ?_
            rintro e w1 ⟨rfl, hw1⟩
            rw [hw1]
            clear hw1 HCALL
            by_cases hr : r = 0
            · have hr' : (r != 0) = false := by simp [hr]
              have HST2 := hid (HST.out.trans (if_pos hr))
              clear hr
              go_wp2_with fail
              go_roundg (F.length - (j + 1))
              case rel => exact ⟨j + 1, by omega, by go_num, HST2.out.symm, rfl⟩
              case measure => omega
            · have hr' : (r != 0) = true := by simp [hr]
              have HST2 := hid (HST.out.trans (if_neg hr))
              clear hr
              go_wp2_with fail
              go_ret
              exact ⟨ret_int (by rw [HE2.out, HST2.out]), HW.out.symm⟩
          · obtain rfl : j = F.length := by omega
            go_wp2_with fail
            go_ret
            have := HNO.out
            rw [List.drop_length, clausesE] at this
            exact ⟨ret_int (by rw [HE2.out, ← this]), HW.out.symm⟩
end Go.Proofs.Ytbblgmkjgcjcaab
