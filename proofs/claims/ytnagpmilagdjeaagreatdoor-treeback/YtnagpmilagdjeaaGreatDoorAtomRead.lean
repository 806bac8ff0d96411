/- atom.part, readFlag, readSlot, readVersion and read take a text apart as the plain functions ahead, tailOf and their kin say, of every text of at most 20000 bytes. -/
import Derived.Test.YtnagpmilagdjeaaGreatDoorAtomIndex
namespace Go.Proofs.YtnagpmilagdjeaaGreatDoor
open Go.RowKit

theorem index_parts (m : List UInt8) : ∀ l : List UInt8, (Lib.indexAny l m = -1 ∧ ahead l m = l ∧ tailOf l m = []) ∨ ∃ i : Nat, Lib.indexAny l m = (i : Int) ∧ i < l.length ∧ ahead l m = l.take i ∧ tailOf l m = l.drop i
  | [] => Or.inl ⟨rfl, rfl, rfl⟩
  | b :: l => by
    cases hb : m.contains b
    · have hb' : (!m.contains b) = true := by rw [hb]; rfl
      rcases index_parts m l with ⟨h1, h2, h3⟩ | ⟨i, h1, h2, h3, h4⟩
      · left
        unfold ahead at h2; unfold tailOf at h3
        refine ⟨?_, ?_, ?_⟩
        · unfold Lib.indexAny; rw [hb, h1]; simp
        · unfold ahead; rw [List.takeWhile_cons, if_pos hb', h2]
        · unfold tailOf; rw [List.dropWhile_cons, if_pos hb', h3]
      · right
        unfold ahead at h3; unfold tailOf at h4
        refine ⟨i + 1, ?_, by simp; omega, ?_, ?_⟩
        · unfold Lib.indexAny
          rw [hb, h1, if_neg (by decide), if_neg (by rw [beq_iff_eq]; omega)]
          omega
        · unfold ahead; rw [List.takeWhile_cons, if_pos hb', h3]; rfl
        · unfold tailOf; rw [List.dropWhile_cons, if_pos hb', h4]; rfl
    · have hb' : ¬ (!m.contains b) = true := by rw [hb]; decide
      right
      refine ⟨0, ?_, by simp, ?_, ?_⟩
      · unfold Lib.indexAny; rw [hb]; rfl
      · unfold ahead; rw [List.takeWhile_cons, if_neg hb']; rfl
      · unfold tailOf; rw [List.dropWhile_cons, if_neg hb']; rfl

set_option maxHeartbeats 1000000 in
theorem part_any (s m : ByteArray) (w : World) (hs : s.size ≤ 20000) (h1 : 1 ≤ m.size) (h3 : m.size ≤ 100) (hm : Asc m.data.toList) :
    Calls Tryz.prog 208 #[.string s, .string m] w fun e w' => ∃ a t : ByteArray, e = .returned (.tuple #[.string a, .string t]) ∧ a.data.toList = ahead s.data.toList m.data.toList ∧ t.data.toList = tailOf s.data.toList m.data.toList ∧ Keep w w' := by
  have HM : Hid (Asc m.data.toList) := hm
  clear hm
  have hl := size_list s
  rcases index_parts m.data.toList s.data.toList with ⟨e1, e2, e3⟩ | ⟨i, e1, e2, e3, e4⟩
  · have H1 : Hid (Lib.indexAny s.data.toList m.data.toList = -1) := e1
    have H2 : Hid (ahead s.data.toList m.data.toList = s.data.toList) := e2
    have H3 : Hid (tailOf s.data.toList m.data.toList = []) := e3
    clear e1 e2 e3 hl
    go_enter Tryz.func208, Tryz.ntmps208
    go_wp2_with fail
    refine (indexAny_any _ _ _ hs h1 h3 HM.out).mono ?_
    rintro e w1 ⟨rfl, k1⟩
    rw [H1.out]
    go_wp2_with fail
    go_ret2
    exact ⟨s, ⟨#[]⟩, rfl, H2.out.symm, H3.out.symm, k1⟩
  · rw [hl] at e2
    have H1 : Hid (Lib.indexAny s.data.toList m.data.toList = (i : Int)) := e1
    have H2 : Hid (ahead s.data.toList m.data.toList = s.data.toList.take i) := e3
    have H3 : Hid (tailOf s.data.toList m.data.toList = s.data.toList.drop i) := e4
    clear e1 e3 e4 hl
    have q1 : (0 : Int) ≤ (i : Int) := by omega
    have q2 : (i : Int) ≤ (s.size : Int) := by omega
    have q3 : ¬ ((i : Int) < 0) := by omega
    go_enter Tryz.func208, Tryz.ntmps208
    go_wp2_with fail
    refine (indexAny_any _ _ _ hs h1 h3 HM.out).mono ?_
    rintro e w1 ⟨rfl, k1⟩
    rw [H1.out]
    go_wp2_with fail
    go_region
    go_wp2
    go_ret2
    exact ⟨s.extract 0 i, s.extract i s.size, rfl, by rw [H2.out, Lib.extract_data]; simp, by rw [H3.out, Lib.extract_to_end], k1.drew⟩

/-- The atom that a reader fills, in its block. -/
def AtomAt (b : Nat) (n : ByteArray) (op v sl : Int) (f : ByteArray) (on : Bool) (w : World) : Prop := w.heap[b]? = some (.cells #[.string n, .int .i64 op, .int .i64 v, .int .i64 sl, .string f, .bool on] 23 (0, 0))
theorem AtomAt.facts {b : Nat} {n f : ByteArray} {op v sl : Int} {on : Bool} {w : World} (h : AtomAt b n op v sl f on w) :
    (∀ o, w.cell? ⟨b, o, none⟩ = (#[.string n, .int .i64 op, .int .i64 v, .int .i64 sl, .string f, .bool on] : Array Value)[o]?) ∧ (∀ o, w.frozen? ⟨b, o, none⟩ = false) ∧ b < w.heap.size := by
  unfold AtomAt at h
  refine ⟨fun o => by simp [World.cell?, h], fun o => by simp [World.frozen?, h], (Array.getElem?_eq_some_iff.1 h).1⟩
theorem heap_set {b : Nat} {cs : Array Value} {T : TypeId} {w : World} (h : w.heap[b]? = some (.cells cs T (0, 0))) (i : Nat) (x : Value) : (w.setCell ⟨b, i, none⟩ x).heap[b]? = some (.cells (cs.setIfInBounds i x) T (0, 0)) := by
  simp [World.setCell, Array.getElem?_modify, h]
theorem AtomAt.below {b B : Nat} {n f : ByteArray} {op v sl : Int} {on : Bool} {w w' : World} (h : AtomAt b n op v sl f on w) (k : Below B w w') (hB : b < B) : AtomAt b n op v sl f on w' := by
  unfold AtomAt at *; rw [k.block b hB]; exact h
theorem below_set (w : World) (b i : Nat) (x : Value) : Below b w (w.setCell ⟨b, i, none⟩ x) := (Below.refl _ _).setCell (p := ⟨b, i, none⟩) (Nat.le_refl _) x

theorem byte_eq (c d : UInt8) : ((c.toNat : Int) == (d.toNat : Int)) = decide (some c = some d) := by
  by_cases e : c = d
  · subst e; simp
  · have : ¬ c.toNat = d.toNat := fun h => e (UInt8.toNat_inj.1 h)
    rw [decide_eq_false (fun h => e (Option.some.inj h)), beq_eq_false_iff_ne]
    omega
theorem list_cons (t : ByteArray) (h : 0 < t.size) : t.data.toList = t[0] :: t.data.toList.drop 1 := by
  have := take_snoc t 0 h
  rw [← List.take_append_drop 1 t.data.toList]
  rw [this]
  simp

set_option maxHeartbeats 1000000 in
theorem readFlag_any (b : Nat) (n f : ByteArray) (op v sl : Int) (on : Bool) (t : ByteArray) (w : World) (h : AtomAt b n op v sl f on w) :
    Calls Tryz.prog 209 #[.pointer (some ⟨b, 0, none⟩), .string t] w fun e w' => e = .returned (.bool (flagOk t.data.toList)) ∧ (∃ (f' : ByteArray) (on' : Bool), AtomAt b n op v sl f' on' w' ∧ (t.data.toList = [] → f' = f ∧ on' = on) ∧ (t.data.toList ≠ [] → f'.data.toList = t.data.toList.drop 1 ∧ on' = onV t.data.toList)) ∧ Below b w w' := by
  by_cases ht : t.data.toList = []
  · have he := empty_true ht
    have HF : Hid (flagOk t.data.toList = true) := by show _ = _; simp [flagOk, ht]
    have HT : Hid (t.data.toList = []) := ht
    clear ht
    go_enter Tryz.func209, Tryz.ntmps209
    go_wp2
    go_ret
    exact ⟨ret_bool HF.out.symm, ⟨f, on, h, fun _ => ⟨rfl, rfl⟩, fun e => absurd HT.out e⟩, Below.refl _ _⟩
  · have he := empty_false ht
    have hp : 0 < t.size := by
      rcases Nat.eq_zero_or_pos t.size with e | e
      · exact absurd (List.length_eq_zero_iff.1 (by rw [size_list]; exact e)) ht
      · exact e
    have HT : Hid (t.data.toList ≠ []) := ht
    have HH : Hid (t.data.toList = t[0] :: t.data.toList.drop 1) := list_cons t hp
    obtain ⟨hc, hz, hb⟩ := h.facts
    have H : Hid (AtomAt b n op v sl f on w) := h
    have q1 : (1 : Int) ≤ (t.size : Int) := by omega
    have q2 : (0 : Int) < (t.size : Int) := by omega
    clear ht h
    go_enter Tryz.func209, Tryz.ntmps209
    go_wp2_with fail
    go_region
    go_wp2_with fail
    go_ret
    refine ⟨ret_bool ?_, ⟨t.extract 1 t.size, (((t[0]).toNat : Int) == 43), ?_, fun e => absurd e HT.out, fun _ => ⟨by rw [Lib.extract_to_end], ?_⟩⟩, ?_⟩
    · rw [Lib.toList_data, Lib.extract_to_end]
      unfold flagOk
      rw [decide_eq_false HT.out]
      cases t.data.toList.drop 1 <;> rfl
    · exact heap_set (heap_set H.out 5 _) 4 _
    · rw [HH.out]
      exact byte_eq _ 43
    · exact ((below_set w b 5 _).trans (below_set _ b 4 _)).drew

set_option maxHeartbeats 1000000 in
theorem readSlot_any (b : Nat) (n f : ByteArray) (op v sl : Int) (on : Bool) (t : ByteArray) (w : World) (h : AtomAt b n op v sl f on w) (hE : Env w) (hs : t.size ≤ 20000) :
    Calls Tryz.prog 210 #[.pointer (some ⟨b, 0, none⟩), .string t] w fun e w' => e = .returned (.bool (slotOk t.data.toList)) ∧ (∃ sl' : Int, AtomAt b n op v sl' f on w' ∧ (t.data.toList = [] → sl' = sl) ∧ (t.data.toList ≠ [] → slotOk t.data.toList = true → sl' = numV (t.data.toList.drop 1))) ∧ Below b w w' := by
  by_cases ht : t.data.toList = []
  · have he := empty_true ht
    have HF : Hid (slotOk t.data.toList = true) := by show _ = _; simp [slotOk, ht]
    have HT : Hid (t.data.toList = []) := ht
    clear ht
    go_enter Tryz.func210, Tryz.ntmps210
    go_wp2
    go_ret
    exact ⟨ret_bool HF.out.symm, ⟨sl, h, fun _ => rfl, fun e => absurd HT.out e⟩, Below.refl _ _⟩
  · have he := empty_false ht
    have hp : 0 < t.size := by
      rcases Nat.eq_zero_or_pos t.size with e | e
      · exact absurd (List.length_eq_zero_iff.1 (by rw [size_list]; exact e)) ht
      · exact e
    have HT : Hid (t.data.toList ≠ []) := ht
    have HS : Hid (slotOk t.data.toList = (numB (t.data.toList.drop 1) && decide (numV (t.data.toList.drop 1) ≠ 0))) := by show _ = _; unfold slotOk; rw [decide_eq_false ht]; rfl
    have hb : b < w.heap.size := h.facts.2.2
    have H : Hid (AtomAt b n op v sl f on w) := h
    have HE : Hid (Env w) := hE
    have q1 : (1 : Int) ≤ (t.size : Int) := by omega
    have hx : (t.extract 1 t.size).size ≤ 20000 := by rw [← size_list, Lib.extract_to_end, List.length_drop, size_list]; omega
    clear ht h hE
    go_enter Tryz.func210, Tryz.ntmps210
    go_wp2_with fail
    refine (number_any _ _ HE.out hx).mono ?_
    rintro e w1 ⟨k, rfl, hk, k1⟩
    rw [Lib.extract_to_end] at hk ⊢
    have H1 : Hid (AtomAt b n op v sl f on w1) := H.out.below k1 hb
    obtain ⟨hc, hz, _⟩ := H1.out.facts
    cases hn : numB (t.data.toList.drop 1)
    · have HN : Hid (numB (t.data.toList.drop 1) = false) := hn
      clear hn hk
      go_wp2
      go_ret
      refine ⟨ret_bool (by rw [HS.out, HN.out]; rfl), ⟨k, heap_set H1.out 3 _, fun e => absurd e HT.out, fun _ e => ?_⟩, (k1.mono (Nat.le_of_lt hb)).trans (below_set w1 b 3 _)⟩
      rw [HS.out, HN.out] at e; cases e
    · have HN : Hid (numB (t.data.toList.drop 1) = true) := hn
      have hk' := hk hn
      have HK : Hid (k = numV (t.data.toList.drop 1)) := hk'
      clear hn hk hk'
      go_wp2
      go_ret
      refine ⟨ret_bool (by rw [HS.out, HN.out, ← HK.out]; simp; rfl), ⟨k, heap_set H1.out 3 _, fun e => absurd e HT.out, fun _ _ => HK.out⟩, (k1.mono (Nat.le_of_lt hb)).trans (below_set w1 b 3 _)⟩
end Go.Proofs.YtnagpmilagdjeaaGreatDoor
