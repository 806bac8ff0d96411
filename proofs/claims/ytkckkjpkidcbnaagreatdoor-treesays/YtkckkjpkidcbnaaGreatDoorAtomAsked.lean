/- Plain facts: what is printed is read as it was, and what is read is printed as it was. -/
import Derived.Test.YtkckkjpkidcbnaaGreatDoorAtomParsed
import Derived.Laws.StructEq
namespace Go.Proofs.YtkckkjpkidcbnaaGreatDoor

theorem tw_app {p : UInt8 → Bool} : ∀ (a b : List UInt8), (∀ c ∈ a, p c = true) → (a ++ b).takeWhile p = a ++ b.takeWhile p
  | [], _, _ => rfl
  | x :: a, b, h => by
    rw [List.cons_append, List.takeWhile_cons, if_pos (h x (by simp)), tw_app a b (fun c hc => h c (by simp [hc]))]; rfl
theorem dw_app {p : UInt8 → Bool} : ∀ (a b : List UInt8), (∀ c ∈ a, p c = true) → (a ++ b).dropWhile p = b.dropWhile p
  | [], _, _ => rfl
  | x :: a, b, h => by
    rw [List.cons_append, List.dropWhile_cons, if_pos (h x (by simp)), dw_app a b (fun c hc => h c (by simp [hc]))]
/-- b is empty or begins with one of the marks. -/
def Starts (m b : List UInt8) : Prop := b = [] ∨ ∃ c r, b = c :: r ∧ m.contains c = true
theorem parts_app {m a b : List UInt8} (ha : ∀ c ∈ a, m.contains c = false) (hb : Starts m b) : ahead (a ++ b) m = a ∧ tailOf (a ++ b) m = b := by
  have ha' : ∀ c ∈ a, (!m.contains c) = true := fun c hc => by rw [ha c hc]; rfl
  unfold ahead tailOf
  rw [tw_app a b ha', dw_app a b ha']
  rcases hb with rfl | ⟨c, r, rfl, hc⟩
  · exact ⟨by simp, rfl⟩
  · have : ¬ (!m.contains c) = true := by rw [hc]; decide
    rw [List.takeWhile_cons, List.dropWhile_cons, if_neg this, if_neg this]
    exact ⟨by simp, rfl⟩
theorem starts_tail (l m : List UInt8) : Starts m (tailOf l m) := by
  unfold tailOf
  cases h : l.dropWhile fun c => !m.contains c with
  | nil => exact Or.inl rfl
  | cons c r =>
    refine Or.inr ⟨c, r, rfl, ?_⟩
    have := List.head?_dropWhile_not (fun c => !m.contains c) l
    rw [h] at this
    simpa using this
theorem app_parts (l m : List UInt8) : ahead l m ++ tailOf l m = l := List.takeWhile_append_dropWhile

theorem okB_marks {c : UInt8} (h : okB c = true) : [43, 45].contains c = false ∧ [58].contains c = false ∧ [61, 60, 62].contains c = false := by
  have : 48 ≤ c.toNat ∧ c.toNat ≤ 57 ∨ 97 ≤ c.toNat ∧ c.toNat ≤ 122 := by
    simp [okB, letB, digB] at h; omega
  have ne : ∀ d : UInt8, (d.toNat < 48 ∨ 57 < d.toNat ∧ d.toNat < 97) → ¬ c = d := fun d hd e => by subst e; omega
  simp [ne 43 (by decide), ne 45 (by decide), ne 58 (by decide), ne 60 (by decide), ne 61 (by decide), ne 62 (by decide)]
theorem dig_ok {i : Nat} (h : i < 100) : ∀ c ∈ Lib.decDigits i, okB c = true := by
  have key : ∀ j : Nat, j < 10 → okB (UInt8.ofNat (48 + j)) = true := by decide
  intro c hc
  by_cases h1 : i < 10
  · rw [Lib.decDigits_one h1] at hc
    simp only [List.mem_singleton] at hc
    subst hc; exact key i h1
  · rw [Lib.decDigits_two h1 h] at hc
    simp only [List.mem_cons, List.not_mem_nil, or_false] at hc
    rcases hc with rfl | rfl
    · exact key _ (by omega)
    · exact key _ (by omega)
theorem atoi_one : ∀ i : Fin 10, Lib.atoiAll [UInt8.ofNat (48 + i.val)] = .ok (i.val : Int) := by decide +kernel
theorem atoi_two : ∀ i : Fin 100, Lib.atoiAll [UInt8.ofNat (48 + i.val / 10), UInt8.ofNat (48 + i.val % 10)] = .ok (i.val : Int) := by decide +kernel
theorem atoi_dig {i : Nat} (h : i < 100) : Lib.atoiAll (Lib.decDigits i) = .ok (i : Int) := by
  by_cases h1 : i < 10
  · rw [Lib.decDigits_one h1]; exact atoi_one ⟨i, h1⟩
  · rw [Lib.decDigits_two h1 h]; exact atoi_two ⟨i, h⟩
theorem num_dig {i : Nat} (h : i < 100) : numB (Lib.decDigits i) = true ∧ numV (Lib.decDigits i) = (i : Int) := by
  unfold numB numV
  rw [atoi_dig h]
  exact ⟨by simp [itoa_nat], rfl⟩
theorem num_itoa {l : List UInt8} (h : numB l = true) : Lib.itoa (numV l) = l := by
  unfold numB at h
  unfold numV
  rcases hh : Lib.atoiAll l with v | _ | _
  · rw [hh] at h; simpa using h
  · rw [hh] at h; cases h
  · rw [hh] at h; cases h

theorem name_ok {n : List UInt8} (h : nameB n = true) : ∀ c ∈ n, okB c = true := by
  simp [nameB] at h; exact h.2

/-- The pieces of a text that is printed. -/
theorem text_parts {n : List UInt8} {op v sl : Int} {f : List UInt8} {on : Bool} (hc : chk n op v sl f on = 0) :
    flL (textOf n op v sl f on) = (if f = [] then [] else (if on then 43 else 45) :: f) ∧ slL (textOf n op v sl f on) = (if sl = 0 then [] else 58 :: Lib.itoa sl) ∧ veL (textOf n op v sl f on) = (if op = 0 then [] else signL op ++ Lib.itoa v) ∧ nmL (textOf n op v sl f on) = n := by
  obtain ⟨h1, h2, h3, h4, h5, h6, h7, h8⟩ := chk_zero hc
  have hv0 : 0 ≤ v ∧ v ≤ 99 := by
    by_cases e : op = 0
    · subst e; rw [verB_zero h7]; decide
    · have := verB_pos e h7; omega
  obtain ⟨v, rfl⟩ := Int.eq_ofNat_of_zero_le hv0.1
  obtain ⟨sl, rfl⟩ := Int.eq_ofNat_of_zero_le h5
  have nok := name_ok h1
  have vok := dig_ok (i := v) (by omega)
  have sok := dig_ok (i := sl) (by omega)
  have sg : op = 0 ∨ ∃ c r, signL op = c :: r ∧ [61, 60, 62].contains c = true ∧ (∀ x ∈ signL op, [43, 45].contains x = false ∧ [58].contains x = false) := by
    by_cases e : op = 0
    · exact Or.inl e
    · right
      have : op = 1 ∨ op = 2 ∨ op = 3 := by omega
      rcases this with rfl | rfl | rfl
      · exact ⟨61, [], rfl, by decide, by decide⟩
      · exact ⟨62, [61], rfl, by decide, by decide⟩
      · exact ⟨60, [], rfl, by decide, by decide⟩
  have A : textOf n op v sl f on = ((n ++ (if op = 0 then [] else signL op ++ Lib.decDigits v)) ++ (if (sl : Int) = 0 then [] else 58 :: Lib.decDigits sl)) ++ (if f = [] then [] else (if on then 43 else 45) :: f) := by
    unfold textOf; rw [itoa_nat, itoa_nat]
  rw [itoa_nat, itoa_nat]
  have F := parts_app (m := [43, 45]) (a := (n ++ (if op = 0 then [] else signL op ++ Lib.decDigits v)) ++ (if (sl : Int) = 0 then [] else 58 :: Lib.decDigits sl)) (b := (if f = [] then [] else (if on then 43 else 45) :: f)) (by
    intro c hc
    rcases List.mem_append.1 hc with hc | hc
    · rcases List.mem_append.1 hc with hc | hc
      · exact (okB_marks (nok c hc)).1
      · split at hc
        · cases hc
        · rename_i e
          rcases List.mem_append.1 hc with hc | hc
          · rcases sg with e' | ⟨_, _, _, _, g⟩
            · exact absurd e' e
            · exact (g c hc).1
          · exact (okB_marks (vok c hc)).1
    · split at hc
      · cases hc
      · rcases List.mem_cons.1 hc with rfl | hc
        · decide
        · exact (okB_marks (sok c hc)).1) (by
    split
    · exact Or.inl rfl
    · refine Or.inr ⟨_, _, rfl, ?_⟩
      cases on <;> decide)
  have S := parts_app (m := [58]) (a := n ++ (if op = 0 then [] else signL op ++ Lib.decDigits v)) (b := (if (sl : Int) = 0 then [] else 58 :: Lib.decDigits sl)) (by
    intro c hc
    rcases List.mem_append.1 hc with hc | hc
    · exact (okB_marks (nok c hc)).2.1
    · split at hc
      · cases hc
      · rename_i e
        rcases List.mem_append.1 hc with hc | hc
        · rcases sg with e' | ⟨_, _, _, _, g⟩
          · exact absurd e' e
          · exact (g c hc).2
        · exact (okB_marks (vok c hc)).2.1) (by
    split
    · exact Or.inl rfl
    · exact Or.inr ⟨58, _, rfl, by decide⟩)
  have V := parts_app (m := [61, 60, 62]) (a := n) (b := (if op = 0 then [] else signL op ++ Lib.decDigits v)) (fun c hc => (okB_marks (nok c hc)).2.2) (by
    split
    · exact Or.inl rfl
    · rename_i e
      rcases sg with e' | ⟨c, r, g1, g2, _⟩
      · exact absurd e' e
      · rw [g1]; exact Or.inr ⟨c, _, rfl, g2⟩)
  unfold nmL veL slL flL a2L a1L
  rw [A, F.1, F.2, S.1, S.2, V.1, V.2]
  exact ⟨rfl, rfl, rfl, rfl⟩

theorem text_len {n : List UInt8} {op v sl : Int} {f : List UInt8} {on : Bool} (hc : chk n op v sl f on = 0) : (textOf n op v sl f on).length ≤ 100 := by
  obtain ⟨h1, h2, h3, h4, h5, h6, h7, h8⟩ := chk_zero hc
  have hv0 : 0 ≤ v ∧ v ≤ 99 := by
    by_cases e : op = 0
    · subst e; rw [verB_zero h7]; decide
    · have := verB_pos e h7; omega
  obtain ⟨v, rfl⟩ := Int.eq_ofNat_of_zero_le hv0.1
  obtain ⟨sl, rfl⟩ := Int.eq_ofNat_of_zero_le h5
  have l1 := nameB_le h1
  have l2 : f.length ≤ 8 := by
    rcases h2 with rfl | h2
    · simp
    · exact nameB_le h2
  have l3 := decDigits_le (i := v) (by omega)
  have l4 := decDigits_le (i := sl) (by omega)
  have l5 : (signL op).length ≤ 2 := by
    have : op = 0 ∨ op = 1 ∨ op = 2 ∨ op = 3 := by omega
    rcases this with rfl | rfl | rfl | rfl <;> decide
  unfold textOf
  rw [itoa_nat, itoa_nat]
  have p1 : (if op = 0 then [] else signL op ++ Lib.decDigits v).length ≤ 4 := by split <;> simp <;> omega
  have p2 : (if (sl : Int) = 0 then [] else 58 :: Lib.decDigits sl).length ≤ 3 := by split <;> simp <;> omega
  have p3 : (if f = [] then [] else (if on then 43 else 45 : UInt8) :: f).length ≤ 9 := by split <;> simp <;> omega
  simp only [List.length_append]
  omega

theorem verOp_text (op : Int) (d : List UInt8) (h0 : op ≠ 0) (h1 : 0 ≤ op) (h2 : op < 4) : verOp (signL op ++ d) = op ∧ verDig (signL op ++ d) = d := by
  have : op = 1 ∨ op = 2 ∨ op = 3 := by omega
  rcases this with rfl | rfl | rfl
  · exact ⟨rfl, rfl⟩
  · exact ⟨rfl, rfl⟩
  · exact ⟨rfl, rfl⟩

/-- WHAT IS PRINTED IS READ. -/
theorem parse_text {n : List UInt8} {op v sl : Int} {f : List UInt8} {on : Bool} (hc : chk n op v sl f on = 0) :
    prsE (textOf n op v sl f on) = 0 ∧ nmL (textOf n op v sl f on) = n ∧ opV (veL (textOf n op v sl f on)) = op ∧ verV (veL (textOf n op v sl f on)) = v ∧ slotV (slL (textOf n op v sl f on)) = sl ∧ (flL (textOf n op v sl f on)).drop 1 = f ∧ onV (flL (textOf n op v sl f on)) = on := by
  obtain ⟨p1, p2, p3, p4⟩ := text_parts hc
  have hl := text_len hc
  obtain ⟨h1, h2, h3, h4, h5, h6, h7, h8⟩ := chk_zero hc
  have hv0 : 0 ≤ v ∧ v ≤ 99 := by
    by_cases e : op = 0
    · subst e; rw [verB_zero h7]; decide
    · have := verB_pos e h7; omega
  obtain ⟨v', hv'⟩ := Int.eq_ofNat_of_zero_le hv0.1
  obtain ⟨sl', hsl'⟩ := Int.eq_ofNat_of_zero_le h5
  have nv : numB (Lib.itoa v) = true ∧ numV (Lib.itoa v) = v := by
    rw [hv', itoa_nat]; exact num_dig (by omega)
  have ns : numB (Lib.itoa sl) = true ∧ numV (Lib.itoa sl) = sl := by
    rw [hsl', itoa_nat]; exact num_dig (by omega)
  have q1 : (flL (textOf n op v sl f on)).drop 1 = f := by
    rw [p1]; split
    · rename_i e; rw [e]; rfl
    · rfl
  have q2 : onV (flL (textOf n op v sl f on)) = on := by
    rw [p1]; split
    · rename_i e
      cases on
      · rfl
      · exact absurd e (h8 rfl)
    · cases on <;> rfl
  have q3 : slotV (slL (textOf n op v sl f on)) = sl := by
    rw [p2]
    by_cases e : sl = 0
    · rw [if_pos e, e]; rfl
    · rw [if_neg e]; unfold slotV; rw [if_neg (by simp)]; exact ns.2
  have q4 : opV (veL (textOf n op v sl f on)) = op ∧ verV (veL (textOf n op v sl f on)) = v := by
    rw [p3]
    by_cases e : op = 0
    · subst e; rw [if_pos rfl]; exact ⟨rfl, (verB_zero h7).symm⟩
    · rw [if_neg e]
      have hne : signL op ++ Lib.itoa v ≠ [] := by
        have : op = 1 ∨ op = 2 ∨ op = 3 := by omega
        rcases this with rfl | rfl | rfl <;> (intro h; cases h)
      obtain ⟨g1, g2⟩ := verOp_text op (Lib.itoa v) e h3 h4
      unfold opV verV
      rw [if_neg hne, if_neg hne, g1, g2]
      exact ⟨rfl, nv.2⟩
  refine ⟨?_, p4, q4.1, q4.2, q3, q1, q2⟩
  have ok : readOk (textOf n op v sl f on) = true := by
    unfold readOk
    have o1 : flagOk (flL (textOf n op v sl f on)) = true := by
      unfold flagOk
      rw [q1, p1]
      by_cases e : f = []
      · rw [if_pos e]; rfl
      · rw [decide_eq_true (p := f ≠ []) e, Bool.or_true]
    have o2 : slotOk (slL (textOf n op v sl f on)) = true := by
      rw [p2]
      by_cases e : sl = 0
      · rw [if_pos e]; rfl
      · rw [if_neg e]
        unfold slotOk
        rw [show (58 :: Lib.itoa sl).drop 1 = Lib.itoa sl from rfl, ns.1, ns.2, decide_eq_true e]
        rfl
    have o3 : verOk (veL (textOf n op v sl f on)) = true := by
      rw [p3]
      by_cases e : op = 0
      · rw [if_pos e]; rfl
      · rw [if_neg e]
        obtain ⟨g1, g2⟩ := verOp_text op (Lib.itoa v) e h3 h4
        unfold verOk
        rw [g1, g2, nv.1, decide_eq_true e]
        simp
    rw [o1, o2, o3]; rfl
  unfold prsE
  rw [if_neg (by omega), if_neg (by rw [ok]; decide), p4, q4.1, q4.2, q3, q1, q2]
  exact hc

/-- WHAT IS READ IS PRINTED. -/
theorem text_parse {l : List UInt8} (h : prsE l = 0) : chk (nmL l) (opV (veL l)) (verV (veL l)) (slotV (slL l)) ((flL l).drop 1) (onV (flL l)) = 0 ∧ textOf (nmL l) (opV (veL l)) (verV (veL l)) (slotV (slL l)) ((flL l).drop 1) (onV (flL l)) = l := by
  unfold prsE at h
  split at h
  · cases h
  split at h
  · cases h
  rename_i h1 h2
  refine ⟨h, ?_⟩
  have ok : readOk l = true := by
    cases e : readOk l
    · exact absurd e h2
    · rfl
  unfold readOk at ok
  simp only [Bool.and_eq_true] at ok
  obtain ⟨⟨o1, o2⟩, o3⟩ := ok
  have F : (if (flL l).drop 1 = [] then [] else (if onV (flL l) then 43 else 45) :: (flL l).drop 1) = flL l := by
    rcases starts_tail l [43, 45] with e | ⟨c, r, e, hc⟩
    · have e' : flL l = [] := e
      rw [e']; rfl
    · have e' : flL l = c :: r := e
      rw [e'] at o1 ⊢
      have hr : r ≠ [] := by unfold flagOk at o1; simpa using o1
      rw [show (c :: r).drop 1 = r from rfl, if_neg hr]
      have : c = 43 ∨ c = 45 := by simpa using hc
      rcases this with rfl | rfl <;> rfl
  have S : (if slotV (slL l) = 0 then [] else 58 :: Lib.itoa (slotV (slL l))) = slL l := by
    rcases starts_tail (a1L l) [58] with e | ⟨c, r, e, hc⟩
    · have e' : slL l = [] := e
      rw [e']; rfl
    · have e' : slL l = c :: r := e
      rw [e'] at o2 ⊢
      have hc' : c = 58 := by simpa using hc
      unfold slotOk at o2
      rw [show (c :: r).drop 1 = r from rfl] at o2
      simp only [Bool.or_eq_true, Bool.and_eq_true, decide_eq_true_eq] at o2
      have o2' := o2.resolve_left (by simp)
      have sv : slotV (c :: r) = numV r := by unfold slotV; rw [if_neg (by simp)]; rfl
      rw [sv, if_neg o2'.2, num_itoa o2'.1, hc']
  have V : (if opV (veL l) = 0 then [] else signL (opV (veL l)) ++ Lib.itoa (verV (veL l))) = veL l := by
    by_cases e : veL l = []
    · rw [e]; rfl
    · unfold opV verV
      rw [if_neg e, if_neg e]
      unfold verOk at o3
      simp only [Bool.or_eq_true, Bool.and_eq_true, decide_eq_true_eq] at o3
      have o3' := o3.resolve_left e
      rw [if_neg o3'.1, num_itoa o3'.2]
      generalize veL l = t at o3' e ⊢
      by_cases c1 : [61].isPrefixOf t = true
      · have hv : verOp t = 1 := verOp_one c1
        rw [verDig_of hv rfl, hv]
        obtain ⟨x, hx⟩ := List.isPrefixOf_iff_prefix.1 c1
        subst hx; rfl
      · by_cases c2 : [62, 61].isPrefixOf t = true
        · have hv : verOp t = 2 := verOp_two (Bool.eq_false_iff.2 c1) c2
          rw [verDig_of hv rfl, hv]
          obtain ⟨x, hx⟩ := List.isPrefixOf_iff_prefix.1 c2
          subst hx; rfl
        · by_cases c3 : [60].isPrefixOf t = true
          · have hv : verOp t = 3 := verOp_three (Bool.eq_false_iff.2 c1) (Bool.eq_false_iff.2 c2) c3
            rw [verDig_of hv rfl, hv]
            obtain ⟨x, hx⟩ := List.isPrefixOf_iff_prefix.1 c3
            subst hx; rfl
          · exact absurd (verOp_none (Bool.eq_false_iff.2 c1) (Bool.eq_false_iff.2 c2) (Bool.eq_false_iff.2 c3)) o3'.1
  unfold textOf
  rw [F, S, V]
  show ((nmL l ++ veL l) ++ slL l) ++ flL l = l
  have e1 : nmL l ++ veL l = a2L l := app_parts _ _
  have e2 : a2L l ++ slL l = a1L l := app_parts _ _
  have e3 : a1L l ++ flL l = l := app_parts _ _
  rw [e1, e2, e3]

/-- UNLIKE ATOMS HAVE UNLIKE TEXTS. -/
theorem text_inj {n n' : List UInt8} {op v sl op' v' sl' : Int} {f f' : List UInt8} {on on' : Bool} (h : chk n op v sl f on = 0) (h' : chk n' op' v' sl' f' on' = 0) (e : textOf n op v sl f on = textOf n' op' v' sl' f' on') :
    n = n' ∧ op = op' ∧ v = v' ∧ sl = sl' ∧ f = f' ∧ on = on' := by
  obtain ⟨_, a1, a2, a3, a4, a5, a6⟩ := parse_text h
  obtain ⟨_, b1, b2, b3, b4, b5, b6⟩ := parse_text h'
  rw [e] at a1 a2 a3 a4 a5 a6
  exact ⟨a1.symm.trans b1, a2.symm.trans b2, a3.symm.trans b3, a4.symm.trans b4, a5.symm.trans b5, a6.symm.trans b6⟩
end Go.Proofs.YtkckkjpkidcbnaaGreatDoor
/- Two atoms are compared field by field; the closed fact asked holds wherever what the program lays is laid. -/
namespace Go.Proofs.YtkckkjpkidcbnaaGreatDoor
open Go.RowKit

def sameB (n : ByteArray) (op v sl : Int) (f : ByteArray) (on : Bool) (n' : ByteArray) (op' v' sl' : Int) (f' : ByteArray) (on' : Bool) : Bool :=
  (n.toList == n'.toList) && ((op == op') && ((v == v') && ((sl == sl') && ((f.toList == f'.toList) && (on == on')))))
theorem sameB_true {n : ByteArray} {op v sl : Int} {f : ByteArray} {on : Bool} {n' : ByteArray} {op' v' sl' : Int} {f' : ByteArray} {on' : Bool} :
    sameB n op v sl f on n' op' v' sl' f' on' = true ↔ n.data.toList = n'.data.toList ∧ op = op' ∧ v = v' ∧ sl = sl' ∧ f.data.toList = f'.data.toList ∧ on = on' := by
  unfold sameB
  rw [Lib.toList_data, Lib.toList_data, Lib.toList_data, Lib.toList_data]
  simp

set_option maxHeartbeats 1000000 in
theorem eqAtom (n : ByteArray) (op v sl : Int) (f : ByteArray) (on : Bool) (n' : ByteArray) (op' v' sl' : Int) (f' : ByteArray) (on' : Bool) (w : World) :
    (Op.equalIn 10000 23 (.agg #[.string n, .int .i64 op, .int .i64 v, .int .i64 sl, .string f, .bool on]) (.agg #[.string n', .int .i64 op', .int .i64 v', .int .i64 sl', .string f', .bool on'])).run Tryz.prog w = .ok (sameB n op v sl f on n' op' v' sl' f' on') w := by
  have u3 := Tryz.underlying3
  have a3 := Tryz.isAgg3
  have z3 := Tryz.sizeOf3
  have hS : Tryz.prog.underlying 23 = some (.struct (Tryz.prog.fieldsOf 23)) := by kernel_rfl
  have hp : Tryz.prog.stoodInHeld 23 = false := by kernel_rfl
  rw [show (10000 : Nat) = 9999 + 1 from rfl, run_equalIn_agg w 9999 23 _ _ hS hp]
  clear hS hp
  simp only [Program.fieldsOf, Tryz.underlying23]
  go_simp
  unfold sameB
  by_cases h1 : n.toList = n'.toList <;> by_cases h2 : op = op' <;> by_cases h3 : v = v' <;> by_cases h4 : sl = sl' <;> by_cases h5 : f.toList = f'.toList <;> by_cases h6 : on = on' <;> simp [h1, h2, h3, h4, h5, h6]

theorem itoa_one {k : Nat} (h : k < 10) : Lib.itoa (k : Int) = [UInt8.ofNat (48 + k)] := by rw [itoa_nat, Lib.decDigits_one h]
theorem asked_text : textOf [97, 49] 2 2 1 [120] true = [97, 49, 62, 61, 50, 58, 49, 43, 120] := by
  have e2 : Lib.itoa 2 = [50] := itoa_one (k := 2) (by decide)
  have e1 : Lib.itoa 1 = [49] := itoa_one (k := 1) (by decide)
  unfold textOf
  rw [e1, e2]
  rfl
theorem asked_chk : chk [97, 49] 2 2 1 [120] true = 0 := by decide

/-- What Parse answers of a text that is an atom's. -/
theorem parse_of_text (s : ByteArray) (w : World) (hE : Env w) {n : List UInt8} {op v sl : Int} {f : List UInt8} {on : Bool} (hc : chk n op v sl f on = 0) (hs : s.data.toList = textOf n op v sl f on) :
    Calls Tryz.prog 176 #[.string s] w fun e w' => e = .returned (.tuple #[.agg #[.string ⟨n.toArray⟩, .int .i64 op, .int .i64 v, .int .i64 sl, .string ⟨f.toArray⟩, .bool on], .int .i64 0]) ∧ Keep w w' := by
  refine (parse_any s w hE).mono ?_
  rintro e w' ⟨n', f', op', v', sl', on', rfl, h1, _, k⟩
  obtain ⟨p0, p1, p2, p3, p4, p5, p6⟩ := parse_text hc
  rw [← hs] at p0 p1 p2 p3 p4 p5 p6
  obtain ⟨q1, q2, q3, q4, q5, q6⟩ := h1 p0
  refine ⟨?_, k⟩
  have en : n' = ⟨n.toArray⟩ := by cases n'; simp at q1; rw [← p1, ← q1]
  have ef : f' = ⟨f.toArray⟩ := by cases f'; simp at q5; rw [← p5]; simp; rw [← q5]
  rw [p0, en, ef, q2, p2, q3, p3, q4, p4, q6, p6]

end Go.Proofs.YtkckkjpkidcbnaaGreatDoor
