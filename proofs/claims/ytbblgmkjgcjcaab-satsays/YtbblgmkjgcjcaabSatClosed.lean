/- What Solve answers at three formulas that are written out. -/
import Derived.Test.YtbblgmkjgcjcaabSatAns
namespace Go.Proofs.Ytbblgmkjgcjcaab
open Go.RowKit Go.Lib

/-- From no literals nothing follows, where each clause has two that differ. -/
theorem der_none {F : List (List Int)} (hF : ∀ c ∈ F, ∀ x ∈ c, ∃ y ∈ c, y ≠ x) {x : Int} (h : Der F [] x) : False := by
  induction h with
  | told h => simp at h
  | @unit c x hc hx _ ih =>
    obtain ⟨y, hy, hne⟩ := hF c hc x hx
    exact ih y hy hne
theorem fails_not {F : List (List Int)} (hF : ∀ c ∈ F, ∀ x ∈ c, ∃ y ∈ c, y ≠ x) (h0 : ∀ c ∈ F, c ≠ []) : ¬ FailsF F [] := by
  rintro (⟨x, h, -⟩ | ⟨c, hc, h⟩)
  · exact der_none hF h
  · cases c with
    | nil => exact h0 _ hc rfl
    | cons a c => exact der_none hF (h a List.mem_cons_self)
def E1 : List (List Int) := [[1, 2]]
def E2 : List (List Int) := [[1, 2], [-1, 2], [1, -2], [-1, -2]]
theorem e1_two : ∀ c ∈ E1, ∀ x ∈ c, ∃ y ∈ c, y ≠ x := by decide
theorem e2_two : ∀ c ∈ E2, ∀ x ∈ c, ∃ y ∈ c, y ≠ x := by decide
theorem e1_lits : ∀ c ∈ E1, LitsC 2 c := by
  intro c hc
  simp only [E1, List.mem_cons, List.not_mem_nil, or_false] at hc
  subst hc
  intro x hx
  simp only [List.mem_cons, List.not_mem_nil, or_false] at hx
  rcases hx with rfl | rfl <;> simp [Lit]
theorem low_first {n : Nat} {F : List (List Int)} (hn : 1 ≤ n) (hF : ∀ c ∈ F, ∀ x ∈ c, ∃ y ∈ c, y ≠ x) : lowU n F [] = some 1 :=
  lowU_is (Nat.le_refl _) hn (fun h => h.elim (fun h => der_none hF h) fun h => der_none hF h) fun j h1 h2 => by omega
theorem der_told {x : Int} {A : List Int} (h : Der [] A x) : x ∈ A := by
  cases h with
  | told h => exact h
  | unit hc => simp at hc
theorem solv_e1 : solv 2 E1 9 = ⟨.model [false, true], 7, []⟩ := by
  unfold solv
  have d2 : Der E1 [-1] 2 := .unit (c := [1, 2]) (by simp [E1]) (by simp) fun y hy hne => by
    simp only [List.mem_cons, List.not_mem_nil, or_false] at hy
    rcases hy with rfl | rfl
    · exact .told (by simp)
    · exact absurd rfl hne
  have hm : ∀ c ∈ E1, ∃ x ∈ c, inM [false, true] x = true := by decide
  have hA : ∀ x ∈ ([-1] : List Int), inM [false, true] x = true := by decide
  have n1 : ¬ FailsF E1 [-1] := fails_none e1_lits (by intro x hx; rw [List.mem_singleton.1 hx]; simp [Lit]) hm hA
  have l1 : lowU 2 E1 [-1] = none := lowU_all fun k h1 h2 => by
    obtain rfl | rfl : k = 1 ∨ k = 2 := by omega
    · exact .inr (.told (by simp))
    · exact .inl d2
  have m1 : modU 2 E1 [-1] = [false, true] := by
    refine ext_getD (by rw [modU_length]; rfl) fun i hi => ?_
    rw [modU_length] at hi
    rw [modU_get hi]
    obtain rfl | rfl : i = 0 ∨ i = 1 := by omega
    · have : ¬ Der E1 [-1] ((0 + 1 : Nat) : Int) := fun h => by
        have := der_holds e1_lits hm hA h
        revert this; decide
      simp only [this, decide_false]; rfl
    · have : Der E1 [-1] ((1 + 1 : Nat) : Int) := d2
      simp only [this, decide_true]; rfl
  have e1 : srch 2 E1 60 ([] ++ [-((1 : Nat) : Int)]) (9 - 1) [] = ⟨.model [false, true], 7, []⟩ := by
    show srch 2 E1 60 [-1] 8 [] = _
    rw [srch_model (by omega) n1 l1, m1]
  rw [srch_first (by omega) (fails_not e1_two (by decide)) (low_first (by omega) e1_two) (by rw [e1]; simp), e1]
theorem solv_e2 : solv 2 E2 9 = ⟨.closed, 6, [[1], [-1], []]⟩ := by
  unfold solv
  have two : ∀ (a b : Int) (A : List Int), [a, b] ∈ E2 → -a ∈ A → Der E2 A b := fun a b A hc hA => .unit hc (by simp) fun y hy hne => by
    simp only [List.mem_cons, List.not_mem_nil, or_false] at hy
    rcases hy with rfl | rfl
    · exact .told hA
    · exact absurd rfl hne
  have f1 : FailsF E2 [-1] := .inl ⟨2, two 1 2 _ (by simp [E2]) (by simp), two 1 (-2) _ (by simp [E2]) (by simp)⟩
  have f2 : FailsF E2 [1] := .inl ⟨2, two (-1) 2 _ (by simp [E2]) (by simp), two (-1) (-2) _ (by simp [E2]) (by simp)⟩
  have e1 : srch 2 E2 60 ([] ++ [-((1 : Nat) : Int)]) (9 - 1) [] = ⟨.closed, 7, [[1]]⟩ := by
    show srch 2 E2 60 [-1] 8 [] = _
    rw [srch_fails (by omega) f1]; rfl
  have e2 : srch 2 E2 60 ([] ++ [((1 : Nat) : Int)]) 7 [[1]] = ⟨.closed, 6, [[1], [-1]]⟩ := by
    show srch 2 E2 60 [1] 7 [[1]] = _
    rw [srch_fails (by omega) f2]; rfl
  rw [srch_both (by omega) (fails_not e2_two (by decide)) (low_first (by omega) e2_two) e1 e2]; rfl
theorem solv_e3 : (solv 2 [] 2).o = .out := by
  unfold solv
  have nf : ∀ A : List Int, (∀ x ∈ A, -x ∉ A) → ¬ FailsF [] A := fun A hA => by
    rintro (⟨x, h1, h2⟩ | ⟨c, hc, -⟩)
    · exact hA x (der_told h1) (der_told h2)
    · simp at hc
  have l1 : lowU 2 [] [-1] = some 2 := lowU_is (by omega) (by omega) (fun h => h.elim (fun h => by have := der_told h; simp at this) fun h => by have := der_told h; simp at this) fun j h1 h2 => by
    obtain rfl : j = 1 := by omega
    exact .inr (.told (by simp))
  have e2 : srch 2 [] 59 ([-1] ++ [-((2 : Nat) : Int)]) (1 - 1) [] = ⟨.out, 0, []⟩ := srch_none _ _ _ _ _
  have e1 : srch 2 [] 60 ([] ++ [-((1 : Nat) : Int)]) (2 - 1) [] = ⟨.out, 0, []⟩ := by
    show srch 2 [] 60 [-1] 1 [] = _
    rw [srch_first (by omega) (nf _ (by decide)) l1 (by rw [e2]; simp), e2]
  rw [srch_first (by omega) (nf _ (by simp)) (low_first (by omega) (by simp)) (by rw [e1]; simp), e1]
end Go.Proofs.Ytbblgmkjgcjcaab
