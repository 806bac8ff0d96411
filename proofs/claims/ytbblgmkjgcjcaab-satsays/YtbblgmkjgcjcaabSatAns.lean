/- What Solve answers, as plain data: an error, the least model, or a proof that there is none. -/
import Derived.Test.YtbblgmkjgcjcaabSatKnown
namespace Go.Proofs.Ytbblgmkjgcjcaab
open Go.RowKit Go.Lib

structure Ans where
  er : Int
  m : List Bool
  P : List (List Int)
def ansOf (r : SRes) : Ans := match r.o with
  | .out => ⟨8, [], []⟩
  | .model m => ⟨0, m, []⟩
  | .closed => ⟨0, [], r.P⟩
noncomputable def solA (vars : Int) (F : List (List Int)) (steps : Int) : Ans :=
  if formE vars F ≠ 0 then ⟨formE vars F, [], []⟩ else if steps < 1 ∨ 40000 < steps then ⟨3, [], []⟩ else ansOf (solv vars.toNat F steps.toNat)
/-- What an answer is, where there is no error. -/
def AnsOk (n : Nat) (F : List (List Int)) (a : Ans) : Prop :=
  (a.P = [] ∧ Mod n F a.m ∧ ∀ o, Mod n F o → LexLe a.m o) ∨ (a.P ≠ [] ∧ a.m = [] ∧ Refut F a.P ∧ a.P.length ≤ 40000 ∧ (∀ c ∈ a.P, c.length ≤ 60 ∧ LitsC n c) ∧ ∀ o, ¬ Mod n F o)
theorem solA_right {n : Nat} {F : List (List Int)} {steps : Int} (h : formE n F = 0) (h1 : 1 ≤ steps) (h2 : steps ≤ 40000) : solA n F steps = ansOf (solv n F steps.toNat) := by
  unfold solA
  rw [if_neg (by simp [h]), if_neg (by omega), Int.toNat_natCast]
theorem ans_or {n : Nat} {F : List (List Int)} {steps : Int} (h : formE n F = 0) (h1 : 1 ≤ steps) (h2 : steps ≤ 40000) : (solA n F steps).er = 0 ∨ (solA n F steps).er = 8 := by
  rw [solA_right h h1 h2]
  unfold ansOf
  cases (solv n F steps.toNat).o <;> simp
theorem solA_ok {vars : Int} {F : List (List Int)} {steps : Int} (h : (solA vars F steps).er = 0) : ∃ n : Nat, vars = n ∧ n ≤ 400 ∧ F.length ≤ 4000 ∧ (∀ c ∈ F, c.length ≤ 60 ∧ LitsC n c) ∧ formE vars F = 0 ∧ AnsOk n F (solA vars F steps) := by
  by_cases hf : formE vars F = 0
  · obtain ⟨n, rfl, h1, h2, h3⟩ := formE_zero hf
    refine ⟨n, rfl, h1, h2, h3, hf, ?_⟩
    by_cases hs : steps < 1 ∨ 40000 < steps
    · unfold solA at h
      rw [if_neg (by simp [hf]), if_pos hs] at h
      cases h
    · rw [solA_right hf (by omega) (by omega)] at h ⊢
      have hF : ∀ c ∈ F, LitsC n c := fun c hc => (h3 c hc).2
      cases e : (solv n F steps.toNat).o with
      | out => rw [ansOf, e] at h; cases h
      | model m =>
        rw [ansOf, e]
        exact .inl ⟨rfl, solv_model hF e⟩
      | closed =>
        rw [ansOf, e]
        obtain ⟨a1, a2, a3, a4⟩ := solv_closed hF e
        refine .inr ⟨fun e2 => ?_, rfl, a1, ?_, a3, a4⟩
        · have e3 : (solv n F steps.toNat).P = [] := e2
          have := a1.2
          rw [e3] at this
          cases this
        · show (solv n F steps.toNat).P.length ≤ 40000
          omega
  · unfold solA at h
    rw [if_pos hf] at h
    exact absurd h hf
/-- What a call that answers leaves. -/
def AnsDone (a : Ans) (w : World) (e : Ending) (w' : World) : Prop :=
  Keep w w' ∧ ∃ mv pv, e = .returned (.tuple #[.agg #[mv, pv], .int .i64 a.er]) ∧ BoolsIs (fun b => w.heap.size ≤ b ∧ b < w'.heap.size) w' a.m mv ∧ ClsIs (fun b => w.heap.size ≤ b ∧ b < w'.heap.size) w' a.P pv
theorem bools_nil (S : Nat → Prop) (w : World) : BoolsIs S w [] (.slice none 0 0) := ⟨none, 0, rfl, by simp, fun h => by simp at h⟩
theorem cls_nil (S : Nat → Prop) (w : World) : ClsIs S w [] (.slice none 0 0) := .inl ⟨rfl, none, 0, rfl⟩
end Go.Proofs.Ytbblgmkjgcjcaab
