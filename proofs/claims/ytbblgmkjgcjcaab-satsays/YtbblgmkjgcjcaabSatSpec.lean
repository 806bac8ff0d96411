/- The search as plain data: what each step does, that a model that it ends at is the least one, and that the clauses of its closed steps refute the formula. -/
import Derived.Test.YtbblgmkjgcjcaabRupBase
namespace Go.Proofs.Ytbblgmkjgcjcaab

/-- A variable is known. -/
def Kn (F : List (List Int)) (A : List Int) (k : Nat) : Prop := Der F A k ∨ Der F A (-(k : Int))
open Classical in
/-- The lowest variable that isn't known. -/
noncomputable def lowU (n : Nat) (F : List (List Int)) (A : List Int) : Option Nat := (List.range' 1 n).find? fun k => decide (¬ Kn F A k)
open Classical in
/-- The model that is known. -/
noncomputable def modU (n : Nat) (F : List (List Int)) (A : List Int) : List Bool := (List.range' 1 n).map fun k => decide (Der F A (k : Nat))

/-- What a step ends at: too many steps, a model, or it is closed. -/
inductive SOut | out | model (m : List Bool) | closed
/-- What is left of the steps, the clauses so far. -/
structure SRes where
  o : SOut
  s : Nat
  P : List (List Int)
open Classical in
/-- A step from the literals A; g: how many deeper ones there may be, s: how many steps may begin, P: the clauses of closed ones. -/
noncomputable def srch (n : Nat) (F : List (List Int)) : Nat → List Int → Nat → List (List Int) → SRes
  | 0, _, s, P => ⟨.out, s, P⟩
  | g + 1, A, s, P =>
    if s = 0 then ⟨.out, s, P⟩ else
    if FailsF F A then ⟨.closed, s - 1, P ++ [negs A]⟩ else
    match lowU n F A with
    | none => ⟨.model (modU n F A), s - 1, P⟩
    | some k =>
      match srch n F g (A ++ [-(k : Int)]) (s - 1) P with
      | ⟨.closed, s1, P1⟩ =>
        match srch n F g (A ++ [(k : Int)]) s1 P1 with
        | ⟨.closed, s2, P2⟩ => ⟨.closed, s2, P2 ++ [negs A]⟩
        | r => r
      | r => r

theorem lowU_none {n : Nat} {F : List (List Int)} {A : List Int} (h : lowU n F A = none) : ∀ k, 1 ≤ k → k ≤ n → Kn F A k := by
  intro k h1 h2
  have := (List.find?_eq_none.1 h) k (List.mem_range'_1.2 ⟨h1, by omega⟩)
  simpa using this
theorem lowU_some {n : Nat} {F : List (List Int)} {A : List Int} {k : Nat} (h : lowU n F A = some k) : 1 ≤ k ∧ k ≤ n ∧ ¬ Kn F A k ∧ ∀ j, 1 ≤ j → j < k → Kn F A j := by
  unfold lowU at h
  have h1 := List.find?_some h
  have h2 := List.mem_range'_1.1 (List.mem_of_find?_eq_some h)
  refine ⟨h2.1, by omega, by simpa using h1, fun j hj1 hj2 => ?_⟩
  obtain ⟨-, pa, pb, e, hno⟩ := List.find?_eq_some_iff_append.1 h
  have hjm : j ∈ pa := by
    have hk : (List.range' 1 n)[pa.length]? = some k := by rw [e]; simp
    have hkk : pa.length = k - 1 := by
      obtain ⟨hl, he⟩ := List.getElem?_eq_some_iff.1 hk
      rw [List.getElem_range'] at he
      omega
    have hj : (List.range' 1 n)[j - 1]? = some j := by
      rw [List.getElem?_range' (by omega)]
      congr 1; omega
    rw [e, List.getElem?_append_left (by omega)] at hj
    exact List.mem_of_getElem? hj
  have := hno j hjm
  simpa using this
theorem lowU_is {n : Nat} {F : List (List Int)} {A : List Int} {k : Nat} (h1 : 1 ≤ k) (h2 : k ≤ n) (h3 : ¬ Kn F A k) (h4 : ∀ j, 1 ≤ j → j < k → Kn F A j) : lowU n F A = some k := by
  cases e : lowU n F A with
  | none => exact absurd (lowU_none e k h1 h2) h3
  | some j =>
    obtain ⟨a, b, c, d⟩ := lowU_some e
    rcases Nat.lt_trichotomy j k with h | h | h
    · exact absurd (h4 j a h) c
    · rw [h]
    · exact absurd (d k h1 h) h3
theorem lowU_all {n : Nat} {F : List (List Int)} {A : List Int} (h : ∀ k, 1 ≤ k → k ≤ n → Kn F A k) : lowU n F A = none := by
  cases e : lowU n F A with
  | none => rfl
  | some j =>
    obtain ⟨a, b, c, -⟩ := lowU_some e
    exact absurd (h j a b) c
theorem modU_length (n : Nat) (F : List (List Int)) (A : List Int) : (modU n F A).length = n := by simp [modU]
open Classical in
theorem modU_get {n : Nat} {F : List (List Int)} {A : List Int} {j : Nat} (h : j < n) : (modU n F A).getD j false = decide (Der F A ((j + 1 : Nat) : Int)) := by
  unfold modU
  rw [List.getD_eq_getElem?_getD, List.getElem?_map, List.getElem?_range' h]
  simp only [Option.map_some, Option.getD_some]
  congr 3; omega

theorem negs_negs (A : List Int) : negs (negs A) = A := by
  simp [negs, List.map_map, Function.comp_def]
theorem mem_negs {A : List Int} {y : Int} : y ∈ negs A ↔ -y ∈ A := by
  unfold negs
  rw [List.mem_map]
  constructor
  · rintro ⟨x, hx, rfl⟩; rw [Int.neg_neg]; exact hx
  · intro h; exact ⟨-y, h, Int.neg_neg y⟩

/-- The clauses of two closed steps close the one they come from. -/
theorem fails_two {F : List (List Int)} {A : List Int} {k : Int} (h1 : negs (A ++ [-k]) ∈ F) (h2 : negs (A ++ [k]) ∈ F) : FailsF F A := by
  refine .inl ⟨k, ?_, ?_⟩
  · refine .unit h1 (mem_negs.2 (by simp)) fun y hy hne => ?_
    have := mem_negs.1 hy
    rw [List.mem_append, List.mem_singleton] at this
    rcases this with h | h
    · exact .told h
    · exact absurd (by omega) hne
  · refine .unit h2 (mem_negs.2 (by simp)) fun y hy hne => ?_
    have := mem_negs.1 hy
    rw [List.mem_append, List.mem_singleton] at this
    rcases this with h | h
    · exact .told h
    · exact absurd (by omega) hne
theorem allcome_push {F P : List (List Int)} {c : List Int} (h : AllCome F P P.length) (hc : Comes (F ++ P) c) : AllCome F (P ++ [c]) (P ++ [c]).length := by
  intro i d hi hd
  by_cases hl : i < P.length
  · rw [List.getElem?_append_left hl] at hd
    rw [List.take_append_of_le_length (by omega)]
    exact h i d hl hd
  · have e : i = P.length := by simp at hi; omega
    subst e
    simp at hd
    subst hd
    simpa using hc

/-- One step, by what comes of it. -/
theorem srch_zero (n : Nat) (F : List (List Int)) (A : List Int) (s : Nat) (P : List (List Int)) : srch n F 0 A s P = ⟨.out, s, P⟩ := rfl
theorem srch_none (n : Nat) (F : List (List Int)) (g : Nat) (A : List Int) (P : List (List Int)) : srch n F (g + 1) A 0 P = ⟨.out, 0, P⟩ := by
  rw [srch]; exact if_pos rfl
theorem srch_fails {n : Nat} {F : List (List Int)} {g : Nat} {A : List Int} {s : Nat} {P : List (List Int)} (hs : s ≠ 0) (h : FailsF F A) : srch n F (g + 1) A s P = ⟨.closed, s - 1, P ++ [negs A]⟩ := by
  rw [srch, if_neg hs, if_pos h]
theorem srch_model {n : Nat} {F : List (List Int)} {g : Nat} {A : List Int} {s : Nat} {P : List (List Int)} (hs : s ≠ 0) (h : ¬ FailsF F A) (hl : lowU n F A = none) : srch n F (g + 1) A s P = ⟨.model (modU n F A), s - 1, P⟩ := by
  rw [srch, if_neg hs, if_neg h, hl]
theorem srch_first {n : Nat} {F : List (List Int)} {g : Nat} {A : List Int} {s : Nat} {P : List (List Int)} {k : Nat} (hs : s ≠ 0) (h : ¬ FailsF F A) (hl : lowU n F A = some k) (hc : (srch n F g (A ++ [-(k : Int)]) (s - 1) P).o ≠ .closed) :
    srch n F (g + 1) A s P = srch n F g (A ++ [-(k : Int)]) (s - 1) P := by
  rw [srch, if_neg hs, if_neg h, hl]
  dsimp only
  generalize srch n F g (A ++ [-(k : Int)]) (s - 1) P = r at hc ⊢
  obtain ⟨o, s1, P1⟩ := r
  cases o <;> first | rfl | exact absurd rfl hc
theorem srch_second {n : Nat} {F : List (List Int)} {g : Nat} {A : List Int} {s s1 : Nat} {P P1 : List (List Int)} {k : Nat} (hs : s ≠ 0) (h : ¬ FailsF F A) (hl : lowU n F A = some k) (h1 : srch n F g (A ++ [-(k : Int)]) (s - 1) P = ⟨.closed, s1, P1⟩) (hc : (srch n F g (A ++ [(k : Int)]) s1 P1).o ≠ .closed) :
    srch n F (g + 1) A s P = srch n F g (A ++ [(k : Int)]) s1 P1 := by
  rw [srch, if_neg hs, if_neg h, hl]
  simp only [h1]
  generalize srch n F g (A ++ [(k : Int)]) s1 P1 = r at hc ⊢
  obtain ⟨o, s2, P2⟩ := r
  cases o <;> first | rfl | exact absurd rfl hc
theorem srch_both {n : Nat} {F : List (List Int)} {g : Nat} {A : List Int} {s s1 s2 : Nat} {P P1 P2 : List (List Int)} {k : Nat} (hs : s ≠ 0) (h : ¬ FailsF F A) (hl : lowU n F A = some k) (h1 : srch n F g (A ++ [-(k : Int)]) (s - 1) P = ⟨.closed, s1, P1⟩) (h2 : srch n F g (A ++ [(k : Int)]) s1 P1 = ⟨.closed, s2, P2⟩) :
    srch n F (g + 1) A s P = ⟨.closed, s2, P2 ++ [negs A]⟩ := by
  rw [srch, if_neg hs, if_neg h, hl]
  simp only [h1, h2]

/-- What a step that is closed leaves. -/
structure ClosedBy (n : Nat) (F : List (List Int)) (A : List Int) (s : Nat) (P : List (List Int)) (s' : Nat) (P' : List (List Int)) : Prop where
  pre : P <+: P'
  last : P'.getLast? = some (negs A)
  come : AllCome F P P.length → AllCome F P' P'.length
  few : P'.length + s' ≤ P.length + s
  lits : (∀ c ∈ P, c.length ≤ 60 ∧ LitsC n c) → ∀ c ∈ P', c.length ≤ 60 ∧ LitsC n c
theorem srch_closed {n : Nat} {F : List (List Int)} : ∀ (g : Nat) (A : List Int) (s : Nat) (P : List (List Int)) (s' : Nat) (P' : List (List Int)), A.length + g ≤ 61 → LitsC n A → srch n F g A s P = ⟨.closed, s', P'⟩ → ClosedBy n F A s P s' P'
  | 0, A, s, P, s', P', _, _, h => by rw [srch_zero] at h; injection h with h; cases h
  | g + 1, A, s, P, s', P', hg, hA, h => by
    have hown : (∀ c ∈ P, c.length ≤ 60 ∧ LitsC n c) → (negs A).length ≤ 60 ∧ LitsC n (negs A) := fun _ => ⟨by simp [negs]; omega, lits_negs hA⟩
    by_cases hs : s = 0
    · subst hs; rw [srch_none] at h; injection h with h; cases h
    by_cases hf : FailsF F A
    · rw [srch_fails hs hf] at h
      injection h with _ h1 h2
      subst h1 h2
      refine ⟨List.prefix_append _ _, by simp, fun hc => allcome_push hc ?_, by simp; omega, fun hl c hc => ?_⟩
      · unfold Comes; rw [negs_negs]
        exact hf.more (fun d hd => List.mem_append_left _ hd) fun x hx => .told hx
      · rcases List.mem_append.1 hc with hc | hc
        · exact hl c hc
        · rw [List.mem_singleton.1 hc]; exact hown hl
    · cases hl : lowU n F A with
      | none => rw [srch_model hs hf hl] at h; injection h with h; cases h
      | some k =>
        obtain ⟨hk1, hk2, -, -⟩ := lowU_some hl
        have hlit : Lit n (k : Int) := by unfold Lit; omega
        have hA1 : LitsC n (A ++ [-(k : Int)]) := fun x hx => by
          rcases List.mem_append.1 hx with hx | hx
          · exact hA x hx
          · rw [List.mem_singleton.1 hx]; exact hlit.neg
        have hA2 : LitsC n (A ++ [(k : Int)]) := fun x hx => by
          rcases List.mem_append.1 hx with hx | hx
          · exact hA x hx
          · rw [List.mem_singleton.1 hx]; exact hlit
        cases e1 : srch n F g (A ++ [-(k : Int)]) (s - 1) P with
        | mk o1 s1 P1 =>
          cases o1 with
          | out => rw [srch_first hs hf hl (by rw [e1]; simp), e1] at h; injection h with h; cases h
          | model m => rw [srch_first hs hf hl (by rw [e1]; simp), e1] at h; injection h with h; cases h
          | closed =>
            have i1 := srch_closed g _ _ _ _ _ (by simp; omega) hA1 e1
            cases e2 : srch n F g (A ++ [(k : Int)]) s1 P1 with
            | mk o2 s2 P2 =>
              cases o2 with
              | out => rw [srch_second hs hf hl e1 (by rw [e2]; simp), e2] at h; injection h with h; cases h
              | model m => rw [srch_second hs hf hl e1 (by rw [e2]; simp), e2] at h; injection h with h; cases h
              | closed =>
                have i2 := srch_closed g _ _ _ _ _ (by simp; omega) hA2 e2
                rw [srch_both hs hf hl e1 e2] at h
                injection h with _ h1 h2
                subst h1 h2
                have a1 := i1.few
                have a2 := i2.few
                refine ⟨(i1.pre.trans i2.pre).trans (List.prefix_append _ _), by simp, fun hc => allcome_push (i2.come (i1.come hc)) ?_, by simp; omega, fun hll c hc => ?_⟩
                · unfold Comes; rw [negs_negs]
                  refine fails_two (k := k) (List.mem_append_right _ (i2.pre.subset (List.mem_of_getLast? i1.last))) (List.mem_append_right _ (List.mem_of_getLast? i2.last))
                · rcases List.mem_append.1 hc with hc | hc
                  · exact i2.lits (i1.lits hll) c hc
                  · rw [List.mem_singleton.1 hc]; exact hown hll

/-- A model of the clauses. -/
def Mod (n : Nat) (F : List (List Int)) (m : List Bool) : Prop := m.length = n ∧ ∀ c ∈ F, ∃ x ∈ c, inM m x = true
def InAll (A : List Int) (m : List Bool) : Prop := ∀ x ∈ A, inM m x = true
/-- The same, or below it: false where the other one is true, at the first place where they differ. -/
def LexLe (m o : List Bool) : Prop := m = o ∨ ∃ j, j < m.length ∧ (∀ i < j, m.getD i false = o.getD i false) ∧ m.getD j false = false ∧ o.getD j false = true
theorem ext_getD {m o : List Bool} (hl : m.length = o.length) (h : ∀ i < m.length, m.getD i false = o.getD i false) : m = o := by
  refine List.ext_getElem hl fun i h1 h2 => ?_
  have := h i h1
  rwa [List.getD_eq_getElem?_getD, List.getD_eq_getElem?_getD, List.getElem?_eq_getElem h1, List.getElem?_eq_getElem h2, Option.getD_some, Option.getD_some] at this
theorem LexLe.anti {m o : List Bool} (h : LexLe m o) (h' : LexLe o m) : m = o := by
  rcases h with h | ⟨j, h1, h2, h3, h4⟩
  · exact h
  rcases h' with h' | ⟨j', h1', h2', h3', h4'⟩
  · exact h'.symm
  rcases Nat.lt_trichotomy j j' with e | e | e
  · have := h2' j e; rw [h3, h4] at this; cases this
  · subst e; rw [h3] at h4'; cases h4'
  · have := h2 j' e; rw [h3', h4'] at this; cases this
theorem inM_pos {m : List Bool} {k : Nat} (h : 1 ≤ k) : inM m (k : Int) = m.getD (k - 1) false := by
  unfold inM
  have h1 : decide ((0 : Int) < k) = true := by simp; omega
  rw [h1]; simp
theorem inM_negp {m : List Bool} {k : Nat} (h : 1 ≤ k) : inM m (-(k : Int)) = !m.getD (k - 1) false := by
  rw [inM_neg m (by omega), inM_pos h]
theorem no_both {n : Nat} {F : List (List Int)} {A : List Int} {m : List Bool} (hF : ∀ c ∈ F, LitsC n c) (hm : Mod n F m) (hA : InAll A m) {x : Int} (h : Der F A x) : inM m x = true := der_holds hF hm.2 hA h

/-- The model that is known is one, and all that are models are it. -/
theorem modU_mod {n : Nat} {F : List (List Int)} {A : List Int} (hF : ∀ c ∈ F, LitsC n c) (hA : LitsC n A) (hf : ¬ FailsF F A) (hl : lowU n F A = none) : Mod n F (modU n F A) ∧ InAll A (modU n F A) := by
  have hall := lowU_none hl
  have hder : ∀ x, Lit n x → Der F A x → inM (modU n F A) x = true := by
    intro x hx hd
    obtain ⟨h0, hn⟩ := hx
    rcases Int.lt_or_gt_of_ne h0 with h | h
    · obtain ⟨k, rfl⟩ : ∃ k : Nat, x = -(k : Int) := ⟨x.natAbs, by omega⟩
      rw [inM_negp (by omega), modU_get (by omega)]
      have : ((k - 1 + 1 : Nat) : Int) = k := by omega
      rw [this]
      have hno : ¬ Der F A (k : Int) := fun h' => hf (.inl ⟨_, h', hd⟩)
      simp [hno]
    · obtain ⟨k, rfl⟩ : ∃ k : Nat, x = (k : Int) := ⟨x.natAbs, by omega⟩
      rw [inM_pos (by omega), modU_get (by omega)]
      have : ((k - 1 + 1 : Nat) : Int) = k := by omega
      rw [this]
      simp [hd]
  refine ⟨⟨modU_length _ _ _, fun c hc => ?_⟩, fun x hx => hder x (hA x hx) (.told hx)⟩
  refine Classical.byContradiction fun hno => hf (.inr ⟨c, hc, fun y hy => ?_⟩)
  have hy' := hF c hc y hy
  rcases hall y.natAbs (by have := hy'.1; omega) hy'.2 with h | h
  · rcases Int.lt_or_gt_of_ne hy'.1 with h0 | h0
    · rwa [show -y = (y.natAbs : Int) by omega]
    · exact absurd ⟨y, hy, hder y hy' (by rwa [show y = (y.natAbs : Int) by omega])⟩ hno
  · rcases Int.lt_or_gt_of_ne hy'.1 with h0 | h0
    · exact absurd ⟨y, hy, hder y hy' (by rwa [show y = -(y.natAbs : Int) by omega])⟩ hno
    · rwa [show -y = -(y.natAbs : Int) by omega]
theorem agree {n : Nat} {F : List (List Int)} {A : List Int} {m o : List Bool} (hF : ∀ c ∈ F, LitsC n c) (hm : Mod n F m) (hAm : InAll A m) (ho : Mod n F o) (hAo : InAll A o) {k : Nat} (h1 : 1 ≤ k) (h : Kn F A k) : m.getD (k - 1) false = o.getD (k - 1) false := by
  rcases h with h | h
  · have a := der_holds hF hm.2 hAm h
    have b := der_holds hF ho.2 hAo h
    rw [inM_pos h1] at a b
    rw [a, b]
  · have a := der_holds hF hm.2 hAm h
    have b := der_holds hF ho.2 hAo h
    rw [inM_negp h1] at a b
    revert a b
    cases m.getD (k - 1) false <;> cases o.getD (k - 1) false <;> simp

/-- A step that is closed has no model; one that ends at a model ends at the least of its own. -/
theorem closed_none {n : Nat} {F : List (List Int)} {A : List Int} {s s' : Nat} {P' : List (List Int)} (hF : ∀ c ∈ F, LitsC n c) (h : ClosedBy n F A s [] s' P') {o : List Bool} (ho : Mod n F o) : ¬ InAll A o := by
  intro hA
  have hc := h.come (fun i c hi => by simp at hi)
  have hl := h.lits (by simp)
  obtain ⟨x, hx, hxo⟩ := all_holds hF (fun c hc => (hl c hc).2) ho.2 P'.length (Nat.le_refl _) hc (negs A) (by rw [List.take_length]; exact List.mem_of_getLast? h.last)
  have hy := mem_negs.1 hx
  have := hA _ hy
  rw [inM_neg o ((hl _ (List.mem_of_getLast? h.last)).2 x hx).1, hxo] at this
  cases this
theorem srch_none_mod {n : Nat} {F : List (List Int)} (hF : ∀ c ∈ F, LitsC n c) : ∀ (g : Nat) (A : List Int) (s : Nat) (P : List (List Int)) (s' : Nat) (P' : List (List Int)), LitsC n A → srch n F g A s P = ⟨.closed, s', P'⟩ → ∀ o, Mod n F o → ¬ InAll A o
  | 0, A, s, P, s', P', _, h => by rw [srch_zero] at h; injection h with h; cases h
  | g + 1, A, s, P, s', P', hA, h => by
    intro o ho hAo
    by_cases hs : s = 0
    · subst hs; rw [srch_none] at h; injection h with h; cases h
    by_cases hf : FailsF F A
    · exact fails_none hF hA ho.2 hAo hf
    · cases hl : lowU n F A with
      | none => rw [srch_model hs hf hl] at h; injection h with h; cases h
      | some k =>
        obtain ⟨hk1, hk2, -, -⟩ := lowU_some hl
        have hlit : Lit n (k : Int) := by unfold Lit; omega
        have hA1 : LitsC n (A ++ [-(k : Int)]) := fun x hx => by
          rcases List.mem_append.1 hx with hx | hx
          · exact hA x hx
          · rw [List.mem_singleton.1 hx]; exact hlit.neg
        have hA2 : LitsC n (A ++ [(k : Int)]) := fun x hx => by
          rcases List.mem_append.1 hx with hx | hx
          · exact hA x hx
          · rw [List.mem_singleton.1 hx]; exact hlit
        cases e1 : srch n F g (A ++ [-(k : Int)]) (s - 1) P with
        | mk o1 s1 P1 =>
          cases o1 with
          | out => rw [srch_first hs hf hl (by rw [e1]; simp), e1] at h; injection h with h; cases h
          | model m => rw [srch_first hs hf hl (by rw [e1]; simp), e1] at h; injection h with h; cases h
          | closed =>
            have i1 := srch_none_mod hF g _ _ _ _ _ hA1 e1 o ho
            cases e2 : srch n F g (A ++ [(k : Int)]) s1 P1 with
            | mk o2 s2 P2 =>
              cases o2 with
              | out => rw [srch_second hs hf hl e1 (by rw [e2]; simp), e2] at h; injection h with h; cases h
              | model m => rw [srch_second hs hf hl e1 (by rw [e2]; simp), e2] at h; injection h with h; cases h
              | closed =>
                have i2 := srch_none_mod hF g _ _ _ _ _ hA2 e2 o ho
                cases ek : inM o (k : Int) with
                | true =>
                  refine i2 fun x hx => ?_
                  rcases List.mem_append.1 hx with hx | hx
                  · exact hAo x hx
                  · rw [List.mem_singleton.1 hx]; exact ek
                | false =>
                  refine i1 fun x hx => ?_
                  rcases List.mem_append.1 hx with hx | hx
                  · exact hAo x hx
                  · rw [List.mem_singleton.1 hx, inM_neg o (by omega), ek]; rfl
theorem srch_least {n : Nat} {F : List (List Int)} (hF : ∀ c ∈ F, LitsC n c) : ∀ (g : Nat) (A : List Int) (s : Nat) (P : List (List Int)) (s' : Nat) (P' : List (List Int)) (m : List Bool), LitsC n A → srch n F g A s P = ⟨.model m, s', P'⟩ → Mod n F m ∧ InAll A m ∧ ∀ o, Mod n F o → InAll A o → LexLe m o
  | 0, A, s, P, s', P', m, _, h => by rw [srch_zero] at h; injection h with h; cases h
  | g + 1, A, s, P, s', P', m, hA, h => by
    by_cases hs : s = 0
    · subst hs; rw [srch_none] at h; injection h with h; cases h
    by_cases hf : FailsF F A
    · rw [srch_fails hs hf] at h; injection h with h; cases h
    · cases hl : lowU n F A with
      | none =>
        rw [srch_model hs hf hl] at h
        injection h with h _ _
        injection h with h
        subst h
        obtain ⟨h1, h2⟩ := modU_mod hF hA hf hl
        refine ⟨h1, h2, fun o ho hAo => .inl (ext_getD (by rw [modU_length, ho.1]) fun i hi => ?_)⟩
        rw [modU_length] at hi
        exact agree hF h1 h2 ho hAo (k := i + 1) (by omega) (lowU_none hl (i + 1) (by omega) (by omega))
      | some k =>
        obtain ⟨hk1, hk2, hkn, hbel⟩ := lowU_some hl
        have hlit : Lit n (k : Int) := by unfold Lit; omega
        have hA1 : LitsC n (A ++ [-(k : Int)]) := fun x hx => by
          rcases List.mem_append.1 hx with hx | hx
          · exact hA x hx
          · rw [List.mem_singleton.1 hx]; exact hlit.neg
        have hA2 : LitsC n (A ++ [(k : Int)]) := fun x hx => by
          rcases List.mem_append.1 hx with hx | hx
          · exact hA x hx
          · rw [List.mem_singleton.1 hx]; exact hlit
        have hput : ∀ (o : List Bool) (x : Int), InAll A o → inM o x = true → InAll (A ++ [x]) o := fun o x hAo hx y hy => by
          rcases List.mem_append.1 hy with hy | hy
          · exact hAo y hy
          · rw [List.mem_singleton.1 hy]; exact hx
        cases e1 : srch n F g (A ++ [-(k : Int)]) (s - 1) P with
        | mk o1 s1 P1 =>
          cases o1 with
          | out => rw [srch_first hs hf hl (by rw [e1]; simp), e1] at h; injection h with h; cases h
          | model m1 =>
            rw [srch_first hs hf hl (by rw [e1]; simp), e1] at h
            injection h with h _ _
            injection h with h
            subst h
            obtain ⟨j1, j2, j3⟩ := srch_least hF g _ _ _ _ _ _ hA1 e1
            have hAm : InAll A m1 := fun x hx => j2 x (List.mem_append_left _ hx)
            refine ⟨j1, hAm, fun o ho hAo => ?_⟩
            cases ek : inM o (k : Int) with
            | false => exact j3 o ho (hput o _ hAo (by rw [inM_neg o (by omega), ek]; rfl))
            | true =>
              have hk := j2 (-(k : Int)) (by simp)
              rw [inM_negp hk1] at hk
              rw [inM_pos hk1] at ek
              refine .inr ⟨k - 1, by rw [j1.1]; omega, fun i hi => ?_, by simpa using hk, ek⟩
              exact agree hF j1 hAm ho hAo (k := i + 1) (by omega) (hbel (i + 1) (by omega) (by omega))
          | closed =>
            have i1 := srch_none_mod hF g _ _ _ _ _ hA1 e1
            cases e2 : srch n F g (A ++ [(k : Int)]) s1 P1 with
            | mk o2 s2 P2 =>
              cases o2 with
              | out => rw [srch_second hs hf hl e1 (by rw [e2]; simp), e2] at h; injection h with h; cases h
              | model m2 =>
                rw [srch_second hs hf hl e1 (by rw [e2]; simp), e2] at h
                injection h with h _ _
                injection h with h
                subst h
                obtain ⟨j1, j2, j3⟩ := srch_least hF g _ _ _ _ _ _ hA2 e2
                refine ⟨j1, fun x hx => j2 x (List.mem_append_left _ hx), fun o ho hAo => ?_⟩
                cases ek : inM o (k : Int) with
                | true => exact j3 o ho (hput o _ hAo ek)
                | false => exact absurd (hput o _ hAo (by rw [inM_neg o (by omega), ek]; rfl)) (i1 o ho)
              | closed => rw [srch_both hs hf hl e1 e2] at h; injection h with h; cases h

/-- What Solve tells: the steps' number, the model, the proof. -/
noncomputable def solv (n : Nat) (F : List (List Int)) (s : Nat) : SRes := srch n F 61 [] s []
theorem solv_model {n : Nat} {F : List (List Int)} {s : Nat} (hF : ∀ c ∈ F, LitsC n c) {m : List Bool} (h : (solv n F s).o = .model m) : Mod n F m ∧ ∀ o, Mod n F o → LexLe m o := by
  unfold solv at h
  cases e : srch n F 61 [] s [] with
  | mk o s' P' =>
    rw [e] at h
    cases h
    obtain ⟨a, -, b⟩ := srch_least hF _ _ _ _ _ _ _ (by intro x hx; simp at hx) e
    exact ⟨a, fun o ho => b o ho (by intro x hx; simp at hx)⟩
theorem solv_closed {n : Nat} {F : List (List Int)} {s : Nat} (hF : ∀ c ∈ F, LitsC n c) (h : (solv n F s).o = .closed) : Refut F (solv n F s).P ∧ (solv n F s).P.length ≤ s ∧ (∀ c ∈ (solv n F s).P, c.length ≤ 60 ∧ LitsC n c) ∧ ∀ o, ¬ Mod n F o := by
  unfold solv at h ⊢
  cases e : srch n F 61 [] s [] with
  | mk o s' P' =>
    rw [e] at h
    cases h
    have c := srch_closed 61 _ _ _ _ _ (by simp) (by intro x hx; simp at hx) e
    refine ⟨⟨c.come (fun i d hi => by simp at hi), c.last⟩, by have := c.few; simp at this ⊢; omega, c.lits (by simp), fun o ho => ?_⟩
    exact closed_none hF c ho (by intro x hx; simp at hx)
/-- With a clause more that holds in the least model it is the least one. -/
theorem least_same {n : Nat} {F F' : List (List Int)} {m d : List Bool} (hsub : ∀ c ∈ F, c ∈ F') (hm : ∀ o, Mod n F o → LexLe m o) (hm' : Mod n F' m) (hd : Mod n F' d) (hd' : ∀ o, Mod n F' o → LexLe d o) : d = m :=
  LexLe.anti (hd' m hm') (hm d ⟨hd.1, fun c hc => hd.2 c (hsub c hc)⟩)
end Go.Proofs.Ytbblgmkjgcjcaab
