/- Proofs as plain data; rup.Check, comesAtOnce, Bad and Refutes. -/
import Derived.Test.YtbblgmkjgcjcaabCnfFollows
namespace Go.Proofs.Ytbblgmkjgcjcaab
open Go.RowKit Go.Lib

/-- A clause comes at once: its literals can't all be otherwise. -/
def negs (c : List Int) : List Int := c.map fun x => -x
def Comes (F : List (List Int)) (c : List Int) : Prop := FailsF F (negs c)
def AllCome (F P : List (List Int)) (n : Nat) : Prop := ∀ i c, i < n → P[i]? = some c → Comes (F ++ P.take i) c
def BadAt (F P : List (List Int)) (k : Int) : Prop := (k = -1 ∧ AllCome F P P.length) ∨ ∃ (i : Nat) (c : List Int), k = i ∧ P[i]? = some c ∧ ¬ Comes (F ++ P.take i) c ∧ AllCome F P i
theorem BadAt.one {F P : List (List Int)} {k k' : Int} (h : BadAt F P k) (h' : BadAt F P k') : k = k' := by
  rcases h with ⟨e, h⟩ | ⟨i, c, e, hc, hn, ha⟩ <;> rcases h' with ⟨e', h'⟩ | ⟨i', c', e', hc', hn', ha'⟩
  · omega
  · exact absurd (h i' c' (List.getElem?_eq_some_iff.1 hc').1 hc') hn'
  · exact absurd (h' i c (List.getElem?_eq_some_iff.1 hc).1 hc) hn
  · rcases Nat.lt_trichotomy i i' with h1 | h1 | h1
    · exact absurd (ha' i c h1 hc) hn
    · omega
    · exact absurd (ha i' c' h1 hc') hn'
/-- A proof refutes: all come at once, and the last one is empty. -/
def Refut (F P : List (List Int)) : Prop := AllCome F P P.length ∧ P.getLast? = some []
def proofE (vars : Int) (P : List (List Int)) : Int := if vars < 0 then 3 else if 400 < vars then 3 else if 40000 < P.length then 2 else clausesE vars P
def badE (vars : Int) (F P : List (List Int)) : Int := if formE vars F ≠ 0 then formE vars F else proofE vars P
theorem proofE_zero {n : Nat} {P : List (List Int)} (h : proofE n P = 0) : P.length ≤ 40000 ∧ ∀ c ∈ P, c.length ≤ 60 ∧ LitsC n c := by
  unfold proofE at h
  split at h
  · cases h
  · split at h
    · cases h
    · split at h
      · cases h
      · exact ⟨by omega, clausesE_zero.1 h⟩
theorem badE_zero {vars : Int} {F P : List (List Int)} (h : badE vars F P = 0) : ∃ n : Nat, vars = n ∧ n ≤ 400 ∧ F.length ≤ 4000 ∧ (∀ c ∈ F, c.length ≤ 60 ∧ LitsC n c) ∧ P.length ≤ 40000 ∧ ∀ c ∈ P, c.length ≤ 60 ∧ LitsC n c := by
  unfold badE at h
  split at h
  · rename_i h1; exact absurd h h1
  · rename_i h1
    obtain ⟨n, rfl, h2, h3, h4⟩ := formE_zero (Decidable.byContradiction h1)
    exact ⟨n, rfl, h2, h3, h4, proofE_zero h⟩
theorem lits_negs {n : Nat} {c : List Int} (h : LitsC n c) : LitsC n (negs c) := fun x hx => by
  obtain ⟨y, hy, rfl⟩ := List.mem_map.1 hx
  exact (h y hy).neg
/-- What comes at once from clauses that hold, holds. -/
theorem comes_holds {n : Nat} {F : List (List Int)} {c : List Int} {m : List Bool} (hF : ∀ c ∈ F, LitsC n c) (hc : LitsC n c) (hM : ∀ c ∈ F, ∃ x ∈ c, inM m x = true) (h : Comes F c) : ∃ x ∈ c, inM m x = true := by
  refine Decidable.byContradiction fun hno => ?_
  refine fails_none hF (lits_negs hc) hM (fun x hx => ?_) h
  obtain ⟨y, hy, rfl⟩ := List.mem_map.1 hx
  rw [inM_neg m (hc y hy).1]
  cases e : inM m y with
  | false => rfl
  | true => exact absurd ⟨y, hy, e⟩ hno
theorem all_holds {n : Nat} {F P : List (List Int)} {m : List Bool} (hF : ∀ c ∈ F, LitsC n c) (hP : ∀ c ∈ P, LitsC n c) (hM : ∀ c ∈ F, ∃ x ∈ c, inM m x = true) : ∀ k, k ≤ P.length → AllCome F P k → ∀ c ∈ P.take k, ∃ x ∈ c, inM m x = true
  | 0, _, _ => by simp
  | k + 1, hk, h => by
    have ih := all_holds hF hP hM k (by omega) (fun i c hi => h i c (by omega))
    intro c hc
    rw [List.take_succ_eq_append_getElem (by omega : k < P.length)] at hc
    rcases List.mem_append.1 hc with hc | hc
    · exact ih c hc
    · rw [List.mem_singleton.1 hc]
      refine comes_holds (F := F ++ P.take k) (fun d hd => ?_) (hP _ (List.getElem_mem _)) (fun d hd => ?_) (h k _ (by omega) (List.getElem?_eq_getElem _))
      · rcases List.mem_append.1 hd with hd | hd
        · exact hF d hd
        · exact hP d (List.mem_of_mem_take hd)
      · rcases List.mem_append.1 hd with hd | hd
        · exact hM d hd
        · exact ih d hd
theorem refut_none {n : Nat} {F P : List (List Int)} {m : List Bool} (hF : ∀ c ∈ F, LitsC n c) (hP : ∀ c ∈ P, LitsC n c) (hM : ∀ c ∈ F, ∃ x ∈ c, inM m x = true) : ¬ Refut F P := by
  rintro ⟨h1, h2⟩
  obtain ⟨x, hx, -⟩ := all_holds hF hP hM P.length (Nat.le_refl _) h1 [] (by rw [List.take_length]; exact List.mem_of_getLast? h2)
  simp at hx
/-- With more clauses no less comes at once. -/
theorem Comes.more {F F' : List (List Int)} {c : List Int} (h : Comes F c) (hF : ∀ d ∈ F, d ∈ F') : Comes F' c := FailsF.more hF (fun _ h => .told h) h
theorem AllCome.more {F F' P : List (List Int)} {n : Nat} (h : AllCome F P n) (hF : ∀ d ∈ F, d ∈ F') : AllCome F' P n := fun i c hi hc => (h i c hi hc).more fun d hd => by
  rcases List.mem_append.1 hd with hd | hd
  · exact List.mem_append_left _ (hF d hd)
  · exact List.mem_append_right _ hd
theorem comes_self {F : List (List Int)} {c : List Int} (h : c ∈ F) : Comes F c := .inr ⟨c, h, fun y hy => .told (List.mem_map.2 ⟨y, hy, rfl⟩)⟩
theorem allcome_self (F : List (List Int)) : AllCome F F F.length := fun _ _ _ hc => comes_self (List.mem_append_left _ (List.mem_of_getElem? hc))
/-- Behind more of the formula a proof stays one. -/
theorem allcome_append {F G P : List (List Int)} (hG : ∀ d ∈ G, d ∈ F) (h : AllCome F P P.length) : AllCome F (G ++ P) (G ++ P).length := by
  intro i c hi hc
  by_cases hl : i < G.length
  · rw [List.getElem?_append_left hl] at hc
    exact comes_self (List.mem_append_left _ (hG c (List.mem_of_getElem? hc)))
  · rw [List.getElem?_append_right (by omega)] at hc
    refine (h (i - G.length) c (List.getElem?_eq_some_iff.1 hc).1 hc).more fun d hd => ?_
    rcases List.mem_append.1 hd with hd | hd
    · exact List.mem_append_left _ hd
    · refine List.mem_append_right _ ?_
      rw [List.take_append]
      exact List.mem_append_right _ hd

set_option maxHeartbeats 2000000 in
set_option maxRecDepth 100000 in
theorem rupCheck_any (S : Nat → Prop) (vars : Int) (F : List (List Int)) (p : Option Addr) (cap : Nat) (w : World) (hS : ∀ b, S b → b < w.heap.size) (hf : FormIs S w 0 F p cap) :
    Calls Try.prog 29 #[.slice p F.length cap, .int .i64 vars] w fun e w' => e = .returned (.int .i64 (proofE vars F)) ∧ w' = w := by
  have HF := hid hf
  obtain ⟨_, _, hpp, hmax⟩ := hf.row.len
  clear hpp
  have HE := hid (show proofE vars F = if vars < 0 then 3 else if 400 < vars then 3 else if 40000 < F.length then 2 else clausesE vars F from rfl)
  clear hf
  by_cases h1 : vars < 0
  · go_enter Try.func29, Try.ntmps29
    go_wp2_with fail
    go_ret
    exact ⟨ret_int (HE.out.trans (if_pos h1)).symm, rfl⟩
  · by_cases h2 : 400 < vars
    · go_enter Try.func29, Try.ntmps29
      go_wp2_with fail
      go_ret
      exact ⟨ret_int (HE.out.trans ((if_neg (by omega)).trans (if_pos h2))).symm, rfl⟩
    · by_cases h3 : 40000 < F.length
      · have h3' : (40000 : Int) < F.length := by omega
        go_enter Try.func29, Try.ntmps29
        go_wp2_with fail
        go_ret
        exact ⟨ret_int (HE.out.trans ((if_neg (by omega)).trans ((if_neg (by omega)).trans (if_pos h3)))).symm, rfl⟩
      · have h3' : ¬ (40000 : Int) < F.length := by omega
        have HE2 := hid (HE.out.trans ((if_neg h1).trans ((if_neg h2).trans (if_neg h3))))
        go_enter Try.func29, Try.ntmps29
        go_wp2_with fail
        go_loopg [4, 19] F.length (fun gk rv i wr => ∃ j : Nat, j + gk = F.length ∧ rv = .int .i64 0 ∧ i = .int .i64 j ∧ clausesE vars (F.drop j) = clausesE vars F ∧ wr = w)
        case atStart => exact ⟨0, by simp, rfl, rfl, by simp, rfl⟩
        case round =>
          obtain ⟨j, hj, rfl, rfl, hno, hw⟩ := hrel
          subst hw
          have HNO := hid hno
          clear hno
          by_cases hlt : j < F.length
          · obtain ⟨b, off, cap', cp', cc', hv, hb, -, hcell, hnum, -⟩ := HF.out.row.get hlt
            cases hv
            have HCALL := hid (checkClause_any S F[j] _ vars wr hS hnum (HF.out.num _ (List.getElem_mem hlt)))
            have HST := hid (HNO.out.symm.trans (clausesE_step (vars := vars) hlt))
            have hbl := hS b hb
            clear hnum
            generalize F[j] = c at HCALL HST hcell
            generalize clauseE c vars = r at HCALL HST
            go_wp2_with fail
            refine HCALL.out.mono ?_
            rintro e w1 ⟨rfl, hw1⟩
            rw [hw1]
            clear hw1 HCALL
            by_cases hr : r = 0
            · have hr' : (r != 0) = false := by simp [hr]
              have HST2 := hid (HST.out.trans (if_pos hr))
              clear hr
              go_wp2_with fail
              go_roundg (F.length - (j + 1))
              case rel => exact ⟨j + 1, by omega, rfl, by go_num, HST2.out.symm, rfl⟩
              case measure => omega
            · have hr' : (r != 0) = true := by simp [hr]
              have HST2 := hid (HST.out.trans (if_neg hr))
              clear hr
              go_wp2_with fail
              go_ret
              exact ⟨ret_int (by rw [HE2.out, HST2.out]), rfl⟩
          · obtain rfl : j = F.length := by omega
            go_wp2_with fail
            go_ret
            have := HNO.out
            rw [List.drop_length, clausesE] at this
            exact ⟨ret_int (by rw [HE2.out, ← this]), rfl⟩
end Go.Proofs.Ytbblgmkjgcjcaab
