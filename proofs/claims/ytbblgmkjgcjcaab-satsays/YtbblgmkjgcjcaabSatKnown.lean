/- What is known, by variable, as a list: its first gap is the lowest variable that isn't known; where there is none it is the model. -/
import Derived.Test.YtbblgmkjgcjcaabSatSpec
namespace Go.Proofs.Ytbblgmkjgcjcaab

/-- Two lists of numbers that go up and have the same members are the same. -/
theorem up_ext : ∀ {a b : List Nat}, a.Pairwise (· < ·) → b.Pairwise (· < ·) → (∀ x, x ∈ a ↔ x ∈ b) → a = b
  | [], [], _, _, _ => rfl
  | [], y :: b, _, _, h => absurd ((h y).2 List.mem_cons_self) (by simp)
  | x :: a, [], _, _, h => absurd ((h x).1 List.mem_cons_self) (by simp)
  | x :: a, y :: b, ha, hb, h => by
    obtain ⟨ha1, ha2⟩ := List.pairwise_cons.1 ha
    obtain ⟨hb1, hb2⟩ := List.pairwise_cons.1 hb
    have hxy : x = y := by
      rcases List.mem_cons.1 ((h x).1 List.mem_cons_self) with e | e
      · exact e
      · rcases List.mem_cons.1 ((h y).2 List.mem_cons_self) with e' | e'
        · exact e'.symm
        · have := hb1 x e; have := ha1 y e'; omega
    subst hxy
    congr 1
    refine up_ext ha2 hb2 fun z => ⟨fun hz => ?_, fun hz => ?_⟩
    · rcases List.mem_cons.1 ((h z).1 (List.mem_cons_of_mem _ hz)) with e | e
      · subst e; exact absurd (ha1 z hz) (Nat.lt_irrefl _)
      · exact e
    · rcases List.mem_cons.1 ((h z).2 (List.mem_cons_of_mem _ hz)) with e | e
      · subst e; exact absurd (hb1 z hz) (Nat.lt_irrefl _)
      · exact e

/-- The literals that follow, by variable. -/
structure ByVar (n : Nat) (F : List (List Int)) (A : List Int) (l : List Int) : Prop where
  up : l.Pairwise fun x y => x.natAbs < y.natAbs
  mem : ∀ x, x ∈ l ↔ Der F A x
  lit : LitsC n l

theorem byvar_known {n : Nat} {F : List (List Int)} {A K L : List Int} (h : Good n F A K L) (hL : ∀ x, x ∈ L ↔ Der F A x) : ByVar n F A (known K) := by
  refine ⟨?_, fun x => (good_mem h x).trans (hL x), fun x hx => h.lits ((good_mem h x).1 hx)⟩
  unfold known
  rw [List.pairwise_filter, List.pairwise_iff_getElem]
  intro i j hi hj hij h1 h2
  have hx : K[i] ≠ 0 := by simpa using h1
  have hy : K[j] ≠ 0 := by simpa using h2
  have e1 : K.getD i 0 = K[i] := by simp [List.getD_eq_getElem?_getD, hi]
  have e2 : K.getD j 0 = K[j] := by simp [List.getD_eq_getElem?_getD, hj]
  have a := h.own i hi
  have b := h.own j hj
  rw [e1] at a
  rw [e2] at b
  have a := a.resolve_left hx
  have b := b.resolve_left hy
  omega

open Classical in
theorem ByVar.vars {n : Nat} {F : List (List Int)} {A l : List Int} (h : ByVar n F A l) : l.map Int.natAbs = (List.range' 1 n).filter fun k => decide (Kn F A k) := by
  refine up_ext (List.pairwise_map.2 h.up) (List.Pairwise.filter _ (List.pairwise_lt_range' ..)) fun k => ?_
  rw [List.mem_map, List.mem_filter, List.mem_range'_1]
  constructor
  · rintro ⟨x, hx, rfl⟩
    have hl := h.lit x hx
    have hd := (h.mem x).1 hx
    refine ⟨⟨by have := hl.1; omega, by have := hl.2; omega⟩, decide_eq_true ?_⟩
    rcases Int.lt_or_gt_of_ne hl.1 with h0 | h0
    · exact .inr (by rwa [show -(x.natAbs : Int) = x by omega])
    · exact .inl (by rwa [show (x.natAbs : Int) = x by omega])
  · rintro ⟨-, hk⟩
    rcases of_decide_eq_true hk with hd | hd
    · exact ⟨_, (h.mem _).2 hd, by simp⟩
    · exact ⟨_, (h.mem _).2 hd, by simp⟩
/-- Where it is as long as there are variables all are known, and it is the model. -/
theorem ByVar.full {n : Nat} {F : List (List Int)} {A l : List Int} (h : ByVar n F A l) : l.length = n ↔ lowU n F A = none := by
  classical
  have hv := congrArg List.length h.vars
  rw [List.length_map] at hv
  constructor
  · intro e
    refine lowU_all fun k h1 h2 => ?_
    have e2 : ((List.range' 1 n).filter fun k => decide (Kn F A k)).length = (List.range' 1 n).length := by rw [← hv, e]; simp
    have := (List.length_filter_eq_length_iff.1 e2) k (List.mem_range'_1.2 ⟨h1, by omega⟩)
    exact of_decide_eq_true this
  · intro e
    have hall := lowU_none e
    have e2 : ((List.range' 1 n).filter fun k => decide (Kn F A k)).length = (List.range' 1 n).length := List.length_filter_eq_length_iff.2 fun k hk => by
      have := List.mem_range'_1.1 hk
      exact decide_eq_true (hall k this.1 (by omega))
    rw [hv, e2]; simp
theorem ByVar.short {n : Nat} {F : List (List Int)} {A l : List Int} (h : ByVar n F A l) : l.length ≤ n := by
  classical
  have hv := congrArg List.length h.vars
  rw [List.length_map] at hv
  have := List.length_filter_le (fun k => decide (Kn F A k)) (List.range' 1 n)
  simp at this; omega
theorem ByVar.model {n : Nat} {F : List (List Int)} {A l : List Int} (h : ByVar n F A l) (hf : ¬ FailsF F A) (hl : lowU n F A = none) : l.map (fun x => decide (0 < x)) = modU n F A := by
  classical
  have hlen := h.full.2 hl
  have hall := lowU_none hl
  have hv : l.map Int.natAbs = List.range' 1 n := by
    rw [h.vars]
    refine List.filter_eq_self.2 fun k hk => ?_
    have := List.mem_range'_1.1 hk
    exact decide_eq_true (hall k this.1 (by omega))
  refine ext_getD (by rw [List.length_map, modU_length, hlen]) fun i hi => ?_
  rw [List.length_map] at hi
  rw [modU_get (by omega), List.getD_eq_getElem?_getD, List.getElem?_map, List.getElem?_eq_getElem hi]
  simp only [Option.map_some, Option.getD_some]
  have hn : (l[i]).natAbs = i + 1 := by
    have := congrArg (fun q => q[i]?) hv
    simp only [List.getElem?_map, List.getElem?_eq_getElem hi, Option.map_some] at this
    rw [List.getElem?_range' (by omega)] at this
    have := Option.some.inj this
    omega
  have hd := (h.mem _).1 (List.getElem_mem hi)
  generalize l[i] = x at hn hd
  by_cases hx : 0 < x
  · have : ((i + 1 : Nat) : Int) = x := by omega
    rw [this]; simp [hx, hd]
  · have e : ((i + 1 : Nat) : Int) = -x := by omega
    rw [e]
    have hno : ¬ Der F A (-x) := fun h' => hf (.inl ⟨x, hd, h'⟩)
    simp [hx, hno]
/-- The first gap. -/
theorem ByVar.gap {n : Nat} {F : List (List Int)} {A l : List Int} {k : Nat} (h : ByVar n F A l) (hl : lowU n F A = some k) : (∀ (i : Nat) x, i < k - 1 → l[i]? = some x → x.natAbs = i + 1) ∧ k - 1 ≤ l.length ∧ ∀ x, l[k - 1]? = some x → x.natAbs ≠ k := by
  classical
  obtain ⟨h1, h2, h3, h4⟩ := lowU_some hl
  have hv := h.vars
  have hsp : List.range' 1 n = List.range' 1 (k - 1) ++ k :: List.range' (k + 1) (n - k) := by
    have e1 := @List.range'_append_1 1 (k - 1) (n - k + 1)
    rw [show k - 1 + (n - k + 1) = n by omega, List.range'_succ, show 1 + (k - 1) = k by omega] at e1
    exact e1.symm
  rw [hsp, List.filter_append, List.filter_cons, if_neg (by simpa using h3)] at hv
  have hfull : (List.range' 1 (k - 1)).filter (fun k => decide (Kn F A k)) = List.range' 1 (k - 1) := List.filter_eq_self.2 fun j hj => by
    have := List.mem_range'_1.1 hj
    exact decide_eq_true (h4 j this.1 (by omega))
  rw [hfull] at hv
  have hget : ∀ i : Nat, (l[i]?).map Int.natAbs = (List.range' 1 (k - 1) ++ (List.range' (k + 1) (n - k)).filter fun k => decide (Kn F A k))[i]? := fun i => by rw [← hv, List.getElem?_map]
  have hlen := congrArg List.length hv
  rw [List.length_map, List.length_append, List.length_range'] at hlen
  refine ⟨fun i x hi hx => ?_, by omega, fun x hx e => ?_⟩
  · have := hget i
    rw [hx, List.getElem?_append_left (by simpa using hi), List.getElem?_range' hi] at this
    have := Option.some.inj this
    omega
  · have := hget (k - 1)
    rw [hx, List.getElem?_append_right (by simp)] at this
    have hm := List.mem_of_getElem? this.symm
    have := List.mem_range'_1.1 (List.mem_filter.1 hm).1
    omega
end Go.Proofs.Ytbblgmkjgcjcaab
