/- What follows from literals by clauses, as plain data: which literals are derived, when it fails, and that a table of known literals, grown clause by clause, ends at just those. -/
import Derived.Test.YtbblgmkjgcjcaabCnfBase
namespace Go.Proofs.Ytbblgmkjgcjcaab

/-- What is derived from the literals A by the clauses F. -/
inductive Der (F : List (List Int)) (A : List Int) : Int → Prop
  | told {x : Int} : x ∈ A → Der F A x
  | unit {c : List Int} {x : Int} : c ∈ F → x ∈ c → (∀ y ∈ c, y ≠ x → Der F A (-y)) → Der F A x
/-- It fails: two don't agree, or of a clause none can hold. -/
def FailsF (F : List (List Int)) (A : List Int) : Prop :=
  (∃ x, Der F A x ∧ Der F A (-x)) ∨ (∃ c ∈ F, ∀ y ∈ c, Der F A (-y))
theorem Der.more {F F' : List (List Int)} {A A' : List Int} (hF : ∀ c ∈ F, c ∈ F') (hA : ∀ x ∈ A, Der F' A' x) {x : Int} (h : Der F A x) : Der F' A' x := by
  induction h with
  | told h => exact hA _ h
  | unit hc hx _ ih => exact .unit (hF _ hc) hx ih
theorem FailsF.more {F F' : List (List Int)} {A A' : List Int} (hF : ∀ c ∈ F, c ∈ F') (hA : ∀ x ∈ A, Der F' A' x) (h : FailsF F A) : FailsF F' A' := by
  rcases h with ⟨x, h1, h2⟩ | ⟨c, hc, h⟩
  · exact .inl ⟨x, h1.more hF hA, h2.more hF hA⟩
  · exact .inr ⟨c, hF _ hc, fun y hy => (h y hy).more hF hA⟩

/-- A literal of variables from 1 to n. -/
def Lit (n : Nat) (x : Int) : Prop := x ≠ 0 ∧ x.natAbs ≤ n
def LitsC (n : Nat) (c : List Int) : Prop := ∀ x ∈ c, Lit n x
theorem Lit.neg {n : Nat} {x : Int} (h : Lit n x) : Lit n (-x) := by
  unfold Lit at h ⊢; omega
theorem Der.lit {n : Nat} {F : List (List Int)} {A : List Int} (hF : ∀ c ∈ F, LitsC n c) (hA : LitsC n A) {x : Int} (h : Der F A x) : Lit n x := by
  cases h with
  | told h => exact hA _ h
  | unit hc hx _ => exact hF _ hc _ hx

/-- Does a literal hold in a model? -/
def inM (m : List Bool) (x : Int) : Bool := (m.getD (x.natAbs - 1) false) == decide (0 < x)
theorem inM_neg (m : List Bool) {x : Int} (h : x ≠ 0) : inM m (-x) = !inM m x := by
  unfold inM
  rw [Int.natAbs_neg]
  rcases Int.lt_or_gt_of_ne h with h | h
  · have h1 : decide (0 < x) = false := by simp; omega
    have h2 : decide (0 < -x) = true := by simp; omega
    rw [h1, h2]; cases m.getD (x.natAbs - 1) false <;> rfl
  · have h1 : decide (0 < x) = true := by simp; omega
    have h2 : decide (0 < -x) = false := by simp; omega
    rw [h1, h2]; cases m.getD (x.natAbs - 1) false <;> rfl
theorem der_holds {n : Nat} {F : List (List Int)} {A : List Int} {m : List Bool} (hF : ∀ c ∈ F, LitsC n c) (hM : ∀ c ∈ F, ∃ x ∈ c, inM m x = true) (hA : ∀ x ∈ A, inM m x = true) {x : Int} (h : Der F A x) : inM m x = true := by
  induction h with
  | told h => exact hA _ h
  | @unit c x hc hx _ ih =>
    obtain ⟨y, hy, hm⟩ := hM c hc
    by_cases e : y = x
    · exact e ▸ hm
    · have := ih y hy e
      rw [inM_neg m (hF c hc y hy).1, hm] at this
      exact absurd this (by decide)
theorem fails_none {n : Nat} {F : List (List Int)} {A : List Int} {m : List Bool} (hF : ∀ c ∈ F, LitsC n c) (hA' : LitsC n A) (hM : ∀ c ∈ F, ∃ x ∈ c, inM m x = true) (hA : ∀ x ∈ A, inM m x = true) : ¬ FailsF F A := by
  rintro (⟨x, h1, h2⟩ | ⟨c, hc, h⟩)
  · have a := der_holds hF hM hA h1
    have b := der_holds hF hM hA h2
    rw [inM_neg m (h1.lit hF hA').1, a] at b
    exact absurd b (by decide)
  · obtain ⟨y, hy, hm⟩ := hM c hc
    have b := der_holds hF hM hA (h y hy)
    rw [inM_neg m (hF c hc y hy).1, hm] at b
    exact absurd b (by decide)

/-- What is known of a literal's variable. -/
def kn (K : List Int) (x : Int) : Int := K.getD x.natAbs 0
/-- The first literal that can hold, and whether another one can. -/
def canH (K : List Int) : Int → List Int → Int × Bool
  | f, [] => (f, false)
  | f, x :: c => if kn K x = -x ∨ x = f then canH K f c else if f ≠ 0 then (f, true) else canH K x c
/-- A clause is asked. -/
def ask1 (K L : List Int) (c : List Int) : Option (List Int × List Int) :=
  if (canH K 0 c).2 = true then some (K, L) else if (canH K 0 c).1 = 0 then none
  else if kn K (canH K 0 c).1 = 0 then some (K.set (canH K 0 c).1.natAbs (canH K 0 c).1, L ++ [(canH K 0 c).1]) else some (K, L)
/-- Clauses are asked, one behind the other, up to one that fails. -/
def askL : List (List Int) → List Int → List Int → Option (List Int × List Int)
  | [], K, L => some (K, L)
  | c :: cs, K, L => match ask1 K L c with
    | none => none
    | some (K', L') => askL cs K' L'

/-- The clause asks for nothing more. -/
def Closed (K : List Int) (c : List Int) : Prop :=
  (∃ y ∈ c, kn K y ≠ -y) ∧ ∀ x ∈ c, (∀ y ∈ c, y ≠ x → kn K y = -y) → kn K x = x

theorem canH_more {n : Nat} {K : List Int} : ∀ {c : List Int} {f : Int}, f ≠ 0 → LitsC n c →
    ((canH K f c).2 = true → ∃ y ∈ c, y ≠ f ∧ kn K y ≠ -y) ∧ ((canH K f c).2 = false → (∀ y ∈ c, y ≠ f → kn K y = -y) ∧ (canH K f c).1 = f)
  | [], f, _, _ => ⟨fun h => by simp [canH] at h, fun _ => ⟨by simp, by simp [canH]⟩⟩
  | x :: c, f, hf, hc => by
    have ih := canH_more (K := K) (c := c) hf (fun y hy => hc y (List.mem_cons_of_mem _ hy))
    by_cases h : kn K x = -x ∨ x = f
    · have e : canH K f (x :: c) = canH K f c := by simp [canH, h]
      rw [e]
      refine ⟨fun h1 => ?_, fun h1 => ⟨?_, (ih.2 h1).2⟩⟩
      · obtain ⟨y, hy, h2⟩ := ih.1 h1; exact ⟨y, List.mem_cons_of_mem _ hy, h2⟩
      · intro y hy hne
        rcases List.mem_cons.1 hy with rfl | hy
        · exact h.resolve_right hne
        · exact (ih.2 h1).1 y hy hne
    · have e : canH K f (x :: c) = (f, true) := by simp [canH, h, hf]
      rw [e]
      refine ⟨fun _ => ⟨x, List.mem_cons_self, fun h2 => h (.inr h2), fun h2 => h (.inl h2)⟩, fun h1 => by simp at h1⟩
/-- What canH says of a clause. -/
theorem canH_says {n : Nat} {K : List Int} : ∀ {c : List Int}, LitsC n c →
    ((canH K 0 c).2 = true → ∃ x ∈ c, ∃ y ∈ c, y ≠ x ∧ kn K x ≠ -x ∧ kn K y ≠ -y)
    ∧ ((canH K 0 c).2 = false → (canH K 0 c).1 = 0 → ∀ y ∈ c, kn K y = -y)
    ∧ ((canH K 0 c).2 = false → (canH K 0 c).1 ≠ 0 → (canH K 0 c).1 ∈ c ∧ kn K (canH K 0 c).1 ≠ -(canH K 0 c).1 ∧ ∀ y ∈ c, y ≠ (canH K 0 c).1 → kn K y = -y)
  | [], _ => ⟨by simp [canH], by simp, by simp [canH]⟩
  | x :: c, hc => by
    have hx : x ≠ 0 := (hc x List.mem_cons_self).1
    have hc' : LitsC n c := fun y hy => hc y (List.mem_cons_of_mem _ hy)
    by_cases h : kn K x = -x
    · have e : canH K 0 (x :: c) = canH K 0 c := by simp [canH, h]
      rw [e]
      obtain ⟨i1, i2, i3⟩ := canH_says (K := K) hc'
      refine ⟨fun h1 => ?_, fun h1 h2 => ?_, fun h1 h2 => ?_⟩
      · obtain ⟨a, ha, b, hb, h3⟩ := i1 h1
        exact ⟨a, List.mem_cons_of_mem _ ha, b, List.mem_cons_of_mem _ hb, h3⟩
      · intro y hy
        rcases List.mem_cons.1 hy with rfl | hy
        · exact h
        · exact i2 h1 h2 y hy
      · obtain ⟨a, b, d⟩ := i3 h1 h2
        refine ⟨List.mem_cons_of_mem _ a, b, fun y hy hne => ?_⟩
        rcases List.mem_cons.1 hy with rfl | hy
        · exact h
        · exact d y hy hne
    · have e : canH K 0 (x :: c) = canH K x c := by simp [canH, h, hx]
      rw [e]
      obtain ⟨i1, i2⟩ := canH_more (K := K) hx hc'
      refine ⟨fun h1 => ?_, fun h1 h2 => ?_, fun h1 h2 => ?_⟩
      · obtain ⟨y, hy, h2, h3⟩ := i1 h1
        exact ⟨x, List.mem_cons_self, y, List.mem_cons_of_mem _ hy, h2, h, h3⟩
      · exact absurd ((i2 h1).2.symm.trans h2) hx
      · rw [(i2 h1).2]
        refine ⟨List.mem_cons_self, h, fun y hy hne => ?_⟩
        rcases List.mem_cons.1 hy with rfl | hy
        · exact absurd rfl hne
        · exact (i2 h1).1 y hy hne

/-- The table and the list say the same, and all of it is derived. -/
structure Good (n : Nat) (F : List (List Int)) (A : List Int) (K L : List Int) : Prop where
  len : K.length = n + 1
  own : ∀ i < K.length, K.getD i 0 = 0 ∨ (K.getD i 0).natAbs = i
  iff : ∀ x, x ∈ L ↔ (x ≠ 0 ∧ kn K x = x)
  cnt : L.length + K.count 0 = n + 1
  der : ∀ x ∈ L, Der F A x
theorem good_none (n : Nat) (F : List (List Int)) (A : List Int) : Good n F A (List.replicate (n + 1) 0) [] := by
  refine ⟨by simp, fun i _ => .inl ?_, fun x => ?_, by simp, by simp⟩
  · simp [List.getD_eq_getElem?_getD, List.getElem?_replicate]; split <;> simp
  · simp only [List.not_mem_nil, false_iff, kn]
    rintro ⟨h, h2⟩
    apply h
    rw [← h2]
    simp [List.getD_eq_getElem?_getD, List.getElem?_replicate]; split <;> simp
theorem Good.le {n : Nat} {F : List (List Int)} {A K L : List Int} (h : Good n F A K L) : L.length ≤ n + 1 := by have := h.cnt; omega
theorem Good.lits {n : Nat} {F : List (List Int)} {A K L : List Int} (h : Good n F A K L) {x : Int} (hx : x ∈ L) : Lit n x := by
  have h1 := (h.iff x).1 hx
  refine ⟨h1.1, ?_⟩
  have : x.natAbs < K.length := by
    rcases Nat.lt_or_ge x.natAbs K.length with h2 | h2
    · exact h2
    · have := h1.2; simp [kn, List.getD_eq_getElem?_getD, List.getElem?_eq_none h2] at this; exact absurd this.symm h1.1
  have := h.len; omega
theorem kn_set {K : List Int} {f : Int} (hf : f.natAbs < K.length) (x : Int) : kn (K.set f.natAbs f) x = if x.natAbs = f.natAbs then f else kn K x := by
  unfold kn
  by_cases h : x.natAbs = f.natAbs
  · simp [h, List.getD_eq_getElem?_getD, hf]
  · simp [List.getD_eq_getElem?_getD, h, Ne.symm h]
theorem kn_cases {n : Nat} {F : List (List Int)} {A K L : List Int} (h : Good n F A K L) (x : Int) : kn K x = 0 ∨ kn K x = x ∨ kn K x = -x := by
  rcases Nat.lt_or_ge x.natAbs K.length with h2 | h2
  · rcases h.own _ h2 with h3 | h3
    · exact .inl h3
    · have h4 : (kn K x).natAbs = x.natAbs := h3
      rcases Int.natAbs_eq_natAbs_iff.1 h4 with h5 | h5
      · exact .inr (.inl h5)
      · exact .inr (.inr h5)
  · left; simp [kn, List.getD_eq_getElem?_getD, List.getElem?_eq_none h2]
theorem der_of_kn {n : Nat} {F : List (List Int)} {A K L : List Int} (h : Good n F A K L) {y : Int} (hy : y ≠ 0) (h1 : kn K y = -y) : Der F A (-y) := by
  refine h.der _ ((h.iff _).2 ⟨by omega, ?_⟩)
  have : kn K (-y) = kn K y := by simp [kn, Int.natAbs_neg]
  rw [this, h1]

/-- A clause, of the formula or an assumed literal alone, is asked: what is known stays right; it fails only if it does. -/
theorem ask1_good {n : Nat} {F : List (List Int)} {A K L c : List Int} (h : Good n F A K L) (hc : LitsC n c) (hd : c ∈ F ∨ ∃ a ∈ A, c = [a]) :
    match ask1 K L c with
    | none => FailsF F A
    | some (K', L') => Good n F A K' L' ∧ Closed K' c ∧ (K' = K ∧ L' = L ∨ ∃ f, Lit n f ∧ f ∈ c ∧ kn K f = 0 ∧ K' = K.set f.natAbs f ∧ L' = L ++ [f]) := by
  obtain ⟨s1, s2, s3⟩ := canH_says (K := K) hc
  unfold ask1
  by_cases h1 : (canH K 0 c).2 = true
  · rw [if_pos h1]
    obtain ⟨x, hx, y, hy, hne, a, b⟩ := s1 h1
    refine ⟨h, ⟨⟨x, hx, a⟩, fun z hz hall => ?_⟩, .inl ⟨rfl, rfl⟩⟩
    by_cases e : x = z
    · exact absurd (hall y hy (by rw [← e]; exact hne)) b
    · exact absurd (hall x hx e) a
  · rw [if_neg h1]
    have h1 : (canH K 0 c).2 = false := by simpa using h1
    by_cases h2 : (canH K 0 c).1 = 0
    · rw [if_pos h2]
      have hall := s2 h1 h2
      rcases hd with hd | ⟨a, ha, rfl⟩
      · exact .inr ⟨c, hd, fun y hy => der_of_kn h (hc y hy).1 (hall y hy)⟩
      · exact .inl ⟨a, .told ha, der_of_kn h (hc a (by simp)).1 (hall a (by simp))⟩
    · rw [if_neg h2]
      obtain ⟨a, b, d⟩ := s3 h1 h2
      generalize hfe : (canH K 0 c).1 = f at *
      have hfl := hc f a
      have hfK : f.natAbs < K.length := by have := h.len; have := hfl.2; omega
      by_cases h3 : kn K f = 0
      · rw [if_pos h3]
        have hK' : ∀ x, kn (K.set f.natAbs f) x = if x.natAbs = f.natAbs then f else kn K x := kn_set hfK
        refine ⟨⟨by simp [h.len], ?_, ?_, ?_, ?_⟩, ⟨⟨f, a, ?_⟩, ?_⟩, .inr ⟨f, hfl, a, h3, rfl, rfl⟩⟩
        · intro i hi
          rw [List.length_set] at hi
          by_cases e : f.natAbs = i
          · right; subst e; simp [List.getD_eq_getElem?_getD, hfK]
          · have := h.own i hi
            simpa [List.getD_eq_getElem?_getD, List.getElem?_set, e] using this
        · intro x
          rw [hK' x, List.mem_append, List.mem_singleton]
          by_cases e : x.natAbs = f.natAbs
          · rw [if_pos e]
            constructor
            · rintro (hx | hx)
              · exfalso
                have h4 := (h.iff x).1 hx
                have h5 : kn K x = kn K f := by simp [kn, e]
                rw [h5, h3] at h4; exact h4.1 h4.2.symm
              · exact ⟨hx ▸ hfl.1, hx.symm⟩
            · rintro ⟨_, hx⟩; exact .inr hx.symm
          · rw [if_neg e]
            constructor
            · rintro (hx | hx)
              · exact (h.iff x).1 hx
              · exact absurd (by rw [hx]) e
            · intro hx; exact .inl ((h.iff x).2 hx)
        · have h4 : K[f.natAbs] = 0 := by simpa [kn, List.getD_eq_getElem?_getD, hfK] using h3
          have h5 := List.count_set (a := f) (b := (0 : Int)) hfK
          have h6 : 0 < K.count 0 := List.count_pos_iff.2 (h4 ▸ List.getElem_mem hfK)
          have := h.cnt
          rw [h5, List.length_append, List.length_singleton]
          simp only [h4, beq_self_eq_true, if_true]
          have h7 : (f == (0 : Int)) = false := by simpa using hfl.1
          rw [h7]; simp; omega
        · intro x hx
          rcases List.mem_append.1 hx with hx | hx
          · exact h.der x hx
          · rw [List.mem_singleton.1 hx]
            rcases hd with hd | ⟨a', ha', rfl⟩
            · exact .unit hd a (fun y hy hne => der_of_kn h (hc y hy).1 (d y hy hne))
            · rw [List.mem_singleton.1 a]; exact .told ha'
        · rw [hK' f, if_pos rfl]; have := hfl.1; omega
        · intro x hx hall
          rw [hK' x]
          by_cases e : x = f
          · rw [e, if_pos rfl]
          · have h4 := hall f a (Ne.symm e)
            rw [hK' f, if_pos rfl] at h4
            have := hfl.1; omega
      · rw [if_neg h3]
        have h4 : kn K f = f := by
          rcases kn_cases h f with h4 | h4 | h4
          · exact absurd h4 h3
          · exact h4
          · exact absurd h4 b
        refine ⟨h, ⟨⟨f, a, b⟩, fun x hx hall => ?_⟩, .inl ⟨rfl, rfl⟩⟩
        by_cases e : x = f
        · rw [e, h4]
        · exact absurd (hall f a (Ne.symm e)) b

/-- Of the formula's clauses each is still to be asked, asks for nothing, or a literal of it doesn't hold any more and is still to be gone through. -/
def Inv (F : List (List Int)) (K L : List Int) (n : Nat) (T : List Int → Prop) : Prop :=
  ∀ c ∈ F, T c ∨ Closed K c ∨ ∃ j, n ≤ j ∧ ∃ x, L[j]? = some x ∧ -x ∈ c
theorem inv_ask {n : Nat} {F : List (List Int)} {A K L c K' L' : List Int} {k : Nat} {T : List Int → Prop} (hF : ∀ c ∈ F, LitsC n c) (h : Good n F A K L) (hk : k ≤ L.length)
    (hcl : Closed K' c) (hs : K' = K ∧ L' = L ∨ ∃ f, Lit n f ∧ f ∈ c ∧ kn K f = 0 ∧ K' = K.set f.natAbs f ∧ L' = L ++ [f])
    (hi : Inv F K L k (fun d => d = c ∨ T d)) : Inv F K' L' k T := by
  intro d hd
  rcases hi d hd with (rfl | ht) | hcd | ⟨j, hj, x, hx, hxd⟩
  · exact .inr (.inl hcl)
  · exact .inl ht
  · rcases hs with ⟨rfl, rfl⟩ | ⟨f, hf, hfc, hf0, rfl, rfl⟩
    · exact .inr (.inl hcd)
    · by_cases hm : -f ∈ d
      · exact .inr (.inr ⟨L.length, hk, f, by simp, hm⟩)
      · have hfK : f.natAbs < K.length := by have := h.len; have := hf.2; omega
        have hK' : ∀ x, kn (K.set f.natAbs f) x = if x.natAbs = f.natAbs then f else kn K x := kn_set hfK
        have hfals : ∀ y ∈ d, (kn (K.set f.natAbs f) y = -y ↔ kn K y = -y) := by
          intro y hy
          rw [hK' y]
          by_cases e : y.natAbs = f.natAbs
          · rw [if_pos e]
            have h5 : kn K y = kn K f := by simp [kn, e]
            rw [h5, hf0]
            have := (hF d hd y hy).1
            constructor
            · intro h6; exact absurd (by rw [h6]; simpa using hy) hm
            · intro h6; omega
          · rw [if_neg e]
        refine .inr (.inl ⟨?_, fun x hx hall => ?_⟩)
        · obtain ⟨y, hy, h1⟩ := hcd.1
          exact ⟨y, hy, fun h2 => h1 ((hfals y hy).1 h2)⟩
        · have h1 := hcd.2 x hx (fun y hy hne => (hfals y hy).1 (hall y hy hne))
          rw [hK' x]
          by_cases e : x.natAbs = f.natAbs
          · have h5 : kn K x = kn K f := by simp [kn, e]
            have := (hF d hd x hx).1
            rw [h5, hf0] at h1; omega
          · rw [if_neg e]; exact h1
  · refine .inr (.inr ⟨j, hj, x, ?_, hxd⟩)
    rcases hs with ⟨_, rfl⟩ | ⟨f, _, _, _, _, rfl⟩
    · exact hx
    · have hjl : j < L.length := by
        rcases Nat.lt_or_ge j L.length with h1 | h1
        · exact h1
        · rw [List.getElem?_eq_none h1] at hx; exact absurd hx (by simp)
      rw [List.getElem?_append_left hjl]; exact hx
/-- Many are asked. -/
theorem askL_good {n : Nat} {F : List (List Int)} {A : List Int} {k : Nat} {T : List Int → Prop} (hF : ∀ c ∈ F, LitsC n c) : ∀ {cs : List (List Int)} {K L : List Int}, Good n F A K L → (∀ c ∈ cs, LitsC n c ∧ (c ∈ F ∨ ∃ a ∈ A, c = [a])) → k ≤ L.length →
    Inv F K L k (fun d => d ∈ cs ∨ T d) →
    match askL cs K L with
    | none => FailsF F A
    | some (K', L') => Good n F A K' L' ∧ k ≤ L'.length ∧ Inv F K' L' k T ∧ (∀ x ∈ L, x ∈ L') ∧ (∀ a, [a] ∈ cs → a ∈ L') ∧ (∃ M, L' = L ++ M)
  | [], K, L, h, _, hk, hi => ⟨h, hk, fun c hc => by have := hi c hc; simpa using this, fun _ h => h, by simp, [], by simp⟩
  | c :: cs, K, L, h, hcs, hk, hi => by
    have h1 := ask1_good h (hcs c List.mem_cons_self).1 (hcs c List.mem_cons_self).2
    unfold askL
    cases e : ask1 K L c with
    | none => rw [e] at h1; exact h1
    | some p =>
      obtain ⟨K', L'⟩ := p
      rw [e] at h1
      obtain ⟨g, hcl, hs⟩ := h1
      have hL' : ∃ M, L' = L ++ M := by
        rcases hs with ⟨_, rfl⟩ | ⟨f, _, _, _, _, rfl⟩
        · exact ⟨[], by simp⟩
        · exact ⟨[f], rfl⟩
      obtain ⟨M, hM⟩ := hL'
      have hk' : k ≤ L'.length := by rw [hM, List.length_append]; omega
      have hi' := inv_ask (T := fun d => d ∈ cs ∨ T d) hF h hk hcl hs (fun d hd => by
        have := hi d hd
        rcases this with (h2 | h2) | h2
        · rcases List.mem_cons.1 h2 with h3 | h3
          · exact .inl (.inl h3)
          · exact .inl (.inr (.inl h3))
        · exact .inl (.inr (.inr h2))
        · exact .inr h2)
      have ih := askL_good (T := T) hF g (fun d hd => hcs d (List.mem_cons_of_mem _ hd)) hk' hi'
      have hself : ∀ a, c = [a] → a ∈ L' := by
        rintro a rfl
        have hal : Lit n a := (hcs [a] List.mem_cons_self).1 a (by simp)
        exact (g.iff a).2 ⟨hal.1, hcl.2 a (by simp) (by simp)⟩
      show match askL cs K' L' with
        | none => FailsF F A
        | some (K', L') => Good n F A K' L' ∧ k ≤ L'.length ∧ Inv F K' L' k T ∧ (∀ x ∈ L, x ∈ L') ∧ (∀ a, [a] ∈ c :: cs → a ∈ L') ∧ (∃ M, L' = L ++ M)
      revert ih
      cases askL cs K' L' with
      | none => exact id
      | some q =>
        obtain ⟨K2, L2⟩ := q
        rintro ⟨g2, hk2, hi2, hl2, ha2, M2, hM2⟩
        refine ⟨g2, hk2, hi2, fun x hx => hl2 x (by rw [hM]; exact List.mem_append_left _ hx), fun a ha => ?_, M ++ M2, by rw [hM2, hM, List.append_assoc]⟩
        rcases List.mem_cons.1 ha with h2 | h2
        · exact hl2 a (hself a h2.symm)
        · exact ha2 a h2

/-- Where nothing is to be asked any more, what is known is what is derived, and it doesn't fail. -/
theorem good_done {n : Nat} {F : List (List Int)} {A K L : List Int} (hF : ∀ c ∈ F, LitsC n c) (h : Good n F A K L) (ha : ∀ a ∈ A, a ∈ L) (hi : Inv F K L L.length (fun _ => False)) :
    (∀ x, x ∈ L ↔ Der F A x) ∧ ¬ FailsF F A := by
  have hcl : ∀ c ∈ F, Closed K c := by
    intro c hc
    rcases hi c hc with h1 | h1 | ⟨j, hj, x, hx, _⟩
    · exact h1.elim
    · exact h1
    · rw [List.getElem?_eq_none hj] at hx; exact absurd hx (by simp)
  have hkn : ∀ y, y ≠ 0 → -y ∈ L → kn K y = -y := by
    intro y _ hm
    have := ((h.iff _).1 hm).2
    simpa [kn, Int.natAbs_neg] using this
  have hd : ∀ x, Der F A x → x ∈ L := by
    intro x hx
    induction hx with
    | told hx => exact ha _ hx
    | @unit c x hc hx _ ih =>
      have hxl := hF c hc x hx
      exact (h.iff x).2 ⟨hxl.1, (hcl c hc).2 x hx (fun y hy hne => hkn y (hF c hc y hy).1 (ih y hy hne))⟩
  refine ⟨fun x => ⟨h.der x, hd x⟩, ?_⟩
  rintro (⟨x, h1, h2⟩ | ⟨c, hc, hall⟩)
  · have a := (h.iff x).1 (hd x h1)
    have b := hkn x a.1 (hd _ h2)
    have := a.1; have := a.2; omega
  · obtain ⟨y, hy, hne⟩ := (hcl c hc).1
    exact hne (hkn y (hF c hc y hy).1 (hd _ (hall y hy)))
/-- All that are known, by variable. -/
def known (K : List Int) : List Int := K.filter (fun x => !(x == 0))
theorem good_mem {n : Nat} {F : List (List Int)} {A K L : List Int} (h : Good n F A K L) (x : Int) : x ∈ known K ↔ x ∈ L := by
  unfold known
  rw [List.mem_filter, h.iff x]
  constructor
  · rintro ⟨hm, hx⟩
    have hx : x ≠ 0 := by simpa using hx
    refine ⟨hx, ?_⟩
    obtain ⟨i, hi, e⟩ := List.getElem_of_mem hm
    have h1 : K.getD i 0 = x := by simp [List.getD_eq_getElem?_getD, hi, e]
    rcases h.own i hi with h2 | h2
    · rw [h1] at h2; exact absurd h2 hx
    · rw [h1] at h2; unfold kn; rw [h2, h1]
  · rintro ⟨hx, hk⟩
    refine ⟨?_, by simpa using hx⟩
    have hlt : x.natAbs < K.length := by
      rcases Nat.lt_or_ge x.natAbs K.length with h2 | h2
      · exact h2
      · simp [kn, List.getD_eq_getElem?_getD, List.getElem?_eq_none h2] at hk; exact absurd hk.symm hx
    have h1 : K[x.natAbs] = x := by simpa [kn, List.getD_eq_getElem?_getD, hlt] using hk
    exact h1 ▸ List.getElem_mem hlt
theorem good_same {n : Nat} {F F' : List (List Int)} {A A' K L K' L' : List Int} (h : Good n F A K L) (h' : Good n F' A' K' L') (hs : ∀ x, x ∈ L ↔ x ∈ L') : K = K' := by
  have hpt : ∀ i, K.getD i 0 = K'.getD i 0 := by
    have half : ∀ {F F' : List (List Int)} {A A' K L K' L' : List Int}, Good n F A K L → Good n F' A' K' L' → (∀ x, x ∈ L → x ∈ L') → ∀ i, K.getD i 0 ≠ 0 → K'.getD i 0 = K.getD i 0 := by
      intro F F' A A' K L K' L' h h' hs i hne
      have hi : i < K.length := by
        rcases Nat.lt_or_ge i K.length with h2 | h2
        · exact h2
        · simp [List.getD_eq_getElem?_getD, List.getElem?_eq_none h2] at hne
      have h2 := (h.own i hi).resolve_left hne
      have hx : K.getD i 0 ∈ L := (h.iff _).2 ⟨hne, by unfold kn; rw [h2]⟩
      have := ((h'.iff _).1 (hs _ hx)).2
      unfold kn at this; rw [h2] at this; exact this
    intro i
    by_cases h1 : K.getD i 0 = 0
    · by_cases h2 : K'.getD i 0 = 0
      · rw [h1, h2]
      · exact half h' h (fun x => (hs x).2) i h2
    · exact (half h h' (fun x => (hs x).1) i h1).symm
  refine List.ext_getElem (by rw [h.len, h'.len]) (fun i h1 h2 => ?_)
  have := hpt i
  simpa [List.getD_eq_getElem?_getD, h1, h2] using this
theorem known_len (K : List Int) : (known K).length ≤ K.length := List.length_filter_le ..
end Go.Proofs.Ytbblgmkjgcjcaab
