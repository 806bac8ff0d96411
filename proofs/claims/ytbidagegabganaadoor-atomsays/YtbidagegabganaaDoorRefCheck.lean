/- The reference's CheckAtom answers as the plain function chk says, of any atom. -/
import Derived.Test.YtbidagegabganaaDoorRefName
namespace Go.Proofs.YtbidagegabganaaDoor
open Go.RowKit

/-- The ways through the numbers of an atom whose names are right. -/
theorem chk_ways (n : List UInt8) (op v sl : Int) (f : List UInt8) (on : Bool) (hn : nameB n = true) (hf : f = [] ∨ nameB f = true) :
    (op < 0 ∧ Hid (chk n op v sl f on = 3)) ∨ (0 ≤ op ∧ 3 < op ∧ Hid (chk n op v sl f on = 3)) ∨ (0 ≤ op ∧ op ≤ 3 ∧ sl < 0 ∧ Hid (chk n op v sl f on = 3)) ∨ (0 ≤ op ∧ op ≤ 3 ∧ 0 ≤ sl ∧ 9 < sl ∧ Hid (chk n op v sl f on = 3))
    ∨ (0 ≤ op ∧ op ≤ 3 ∧ 0 ≤ sl ∧ sl ≤ 9 ∧ (op == 0) = true ∧ (v != 0) = true ∧ Hid (chk n op v sl f on = 3))
    ∨ (0 ≤ op ∧ op ≤ 3 ∧ 0 ≤ sl ∧ sl ≤ 9 ∧ (op == 0) = false ∧ 0 < op ∧ v < 1 ∧ Hid (chk n op v sl f on = 3))
    ∨ (0 ≤ op ∧ op ≤ 3 ∧ 0 ≤ sl ∧ sl ≤ 9 ∧ (op == 0) = false ∧ 0 < op ∧ 1 ≤ v ∧ 99 < v ∧ Hid (chk n op v sl f on = 3))
    ∨ (0 ≤ op ∧ op ≤ 3 ∧ 0 ≤ sl ∧ sl ≤ 9 ∧ (op == 0) = true ∧ (v != 0) = false ∧ op ≤ 0 ∧ Hid (chk n op v sl f on = if on = true ∧ f = [] then 4 else 0))
    ∨ (0 ≤ op ∧ op ≤ 3 ∧ 0 ≤ sl ∧ sl ≤ 9 ∧ (op == 0) = false ∧ 0 < op ∧ 1 ≤ v ∧ v ≤ 99 ∧ Hid (chk n op v sl f on = if on = true ∧ f = [] then 4 else 0)) := by
  rcases chk_form n op v sl f on hn hf with ⟨r1, HC⟩ | ⟨r1, r2, HC⟩ | ⟨r1, r2, r3, HC⟩ | ⟨r1, r2, r3, r4, HC⟩ | ⟨r1, r2, r3, r4, HV, HC⟩ | ⟨r1, r2, r3, r4, HV, HC⟩
  · exact Or.inl ⟨r1, HC⟩
  · exact Or.inr (Or.inl ⟨r1, by omega, HC⟩)
  · exact Or.inr (Or.inr (Or.inl ⟨r1, by omega, r3, HC⟩))
  · exact Or.inr (Or.inr (Or.inr (Or.inl ⟨r1, by omega, r3, r4, HC⟩)))
  · have hv := HV.out
    unfold verB at hv
    by_cases e : op = 0
    · rw [if_pos e] at hv
      exact Or.inr (Or.inr (Or.inr (Or.inr (Or.inl ⟨r1, by omega, r3, r4, by simp [e], by simpa using hv, HC⟩))))
    · rw [if_neg e] at hv
      by_cases e1 : v < 1
      · exact Or.inr (Or.inr (Or.inr (Or.inr (Or.inr (Or.inl ⟨r1, by omega, r3, r4, by simp [e], by omega, e1, HC⟩)))))
      · have e2 : 99 < v := by
          have h1 : decide (1 ≤ v) = true := decide_eq_true (by omega)
          rw [h1] at hv
          simpa using hv
        exact Or.inr (Or.inr (Or.inr (Or.inr (Or.inr (Or.inr (Or.inl ⟨r1, by omega, r3, r4, by simp [e], by omega, by omega, e2, HC⟩))))))
  · have hv := HV.out
    by_cases e : op = 0
    · have : v = 0 := by subst e; exact verB_zero hv
      exact Or.inr (Or.inr (Or.inr (Or.inr (Or.inr (Or.inr (Or.inr (Or.inl ⟨r1, by omega, r3, r4, by simp [e], by simp [this], by omega, HC⟩)))))))
    · obtain ⟨a, b⟩ := verB_pos e hv
      exact Or.inr (Or.inr (Or.inr (Or.inr (Or.inr (Or.inr (Or.inr (Or.inr ⟨r1, by omega, r3, r4, by simp [e], by omega, a, b, HC⟩)))))))

set_option maxHeartbeats 1000000 in
theorem refCheck_bad (n f : ByteArray) (op v sl : Int) (on : Bool) (w : World) (h : nameB n.data.toList = false ∨ (f.data.toList ≠ [] ∧ nameB f.data.toList = false)) :
    Calls Tryd.prog 8 #[.agg #[.string n, .int .i64 op, .int .i64 v, .int .i64 sl, .string f, .bool on]] w fun e w' => e = .returned (.int .i64 (chk n.data.toList op v sl f.data.toList on)) ∧ Keep w w' := by
  have HC : Hid (chk n.data.toList op v sl f.data.toList on = 1) := by show _ = _; unfold chk; rw [if_pos h]
  have k0 := Keep.alloc w (.cells #[.string n, .int .i64 op, .int .i64 v, .int .i64 sl, .string f, .bool on] 23)
  have a0 : Hid (AtomAt w.heap.size n op v sl f on (w.alloc (.cells #[.string n, .int .i64 op, .int .i64 v, .int .i64 sl, .string f, .bool on] 23))) := one_new _ _
  cases hn : nameB n.data.toList
  · have HN : Hid (nameB n.data.toList = false) := hn
    clear hn h
    go_enter Tryd.func8, Tryd.ntmps8
    go_wp2_with fail
    generalize w.alloc (.cells #[.string n, .int .i64 op, .int .i64 v, .int .i64 sl, .string f, .bool on] 23) = W0 at k0 a0 ⊢
    refine (isName_any _ _).mono ?_
    rintro e w1 ⟨rfl, k1⟩
    rw [HN.out]
    have K1 : Keep w w1 := k0.trans k1
    go_wp2_with fail
    go_ret
    exact ⟨ret_int HC.out.symm, K1⟩
  · have HN : Hid (nameB n.data.toList = true) := hn
    rw [hn] at h
    obtain ⟨h1, h2⟩ : f.data.toList ≠ [] ∧ nameB f.data.toList = false := h.resolve_left (by simp)
    have HF : Hid (nameB f.data.toList = false) := h2
    have hfe := empty_false h1
    clear hn h h1 h2
    go_enter Tryd.func8, Tryd.ntmps8
    go_wp2_with fail
    generalize w.alloc (.cells #[.string n, .int .i64 op, .int .i64 v, .int .i64 sl, .string f, .bool on] 23) = W0 at k0 a0 ⊢
    refine (isName_any _ _).mono ?_
    rintro e w1 ⟨rfl, k1⟩
    rw [HN.out]
    have K1 : Keep w w1 := k0.trans k1
    have a1 : Hid (AtomAt w.heap.size n op v sl f on w1) := a0.out.below k1 a0.out.facts.2.2
    obtain ⟨hc1, _, _⟩ := a1.out.facts
    go_wp2_with fail
    refine (isName_any _ _).mono ?_
    rintro e w2 ⟨rfl, k2⟩
    rw [HF.out]
    have K2 : Keep w w2 := K1.trans k2
    go_wp2_with fail
    go_ret
    exact ⟨ret_int HC.out.symm, K2⟩

set_option maxHeartbeats 4000000 in
theorem refCheck_empty (n f : ByteArray) (op v sl : Int) (on : Bool) (w : World) (hn : nameB n.data.toList = true) (hf : f.data.toList = []) :
    Calls Tryd.prog 8 #[.agg #[.string n, .int .i64 op, .int .i64 v, .int .i64 sl, .string f, .bool on]] w fun e w' => e = .returned (.int .i64 (chk n.data.toList op v sl f.data.toList on)) ∧ Keep w w' := by
  have hr := chk_ways n.data.toList op v sl f.data.toList on hn (Or.inl hf)
  have HN : Hid (nameB n.data.toList = true) := hn
  have HF : Hid (f.data.toList = []) := hf
  have hfe := empty_true hf
  have k0 := Keep.alloc w (.cells #[.string n, .int .i64 op, .int .i64 v, .int .i64 sl, .string f, .bool on] 23)
  have a0 : Hid (AtomAt w.heap.size n op v sl f on (w.alloc (.cells #[.string n, .int .i64 op, .int .i64 v, .int .i64 sl, .string f, .bool on] 23))) := one_new _ _
  clear hn hf
  go_enter Tryd.func8, Tryd.ntmps8
  go_wp2_with fail
  generalize w.alloc (.cells #[.string n, .int .i64 op, .int .i64 v, .int .i64 sl, .string f, .bool on] 23) = W0 at k0 a0 ⊢
  refine (isName_any _ _).mono ?_
  rintro e w1 ⟨rfl, k1⟩
  rw [HN.out]
  have K1 : Keep w w1 := k0.trans k1
  have a1 : Hid (AtomAt w.heap.size n op v sl f on w1) := a0.out.below k1 a0.out.facts.2.2
  obtain ⟨hc1, _, _⟩ := a1.out.facts
  have HON : Hid (∀ c : Int, c = (if on = true ∧ f.data.toList = [] then 4 else 0) → c = if on = true then 4 else 0) := fun c e => by rw [e]; simp [HF.out]
  rcases hr with ⟨r1, HC⟩ | ⟨r1, r2, HC⟩ | ⟨r1, r2, r3, HC⟩ | ⟨r1, r2, r3, r4, HC⟩ | ⟨r1, r2, r3, r4, r5, r6, HC⟩ | ⟨r1, r2, r3, r4, r5, r6, r7, HC⟩ | ⟨r1, r2, r3, r4, r5, r6, r7, r8, HC⟩ | ⟨r1, r2, r3, r4, r5, r6, r7, HC⟩ | ⟨r1, r2, r3, r4, r5, r6, r7, r8, HC⟩
  iterate 7
    · go_wp2_with fail
      go_ret
      exact ⟨ret_int HC.out.symm, K1⟩
  iterate 2
    · cases on
      · have HC' : Hid (chk n.data.toList op v sl f.data.toList false = 0) := HON.out _ HC.out
        clear HC HON
        go_wp2_with fail
        go_ret
        exact ⟨ret_int HC'.out.symm, K1⟩
      · have HC' : Hid (chk n.data.toList op v sl f.data.toList true = 4) := HON.out _ HC.out
        clear HC HON
        go_wp2_with fail
        go_ret
        exact ⟨ret_int HC'.out.symm, K1⟩

set_option maxHeartbeats 4000000 in
theorem refCheck_flag (n f : ByteArray) (op v sl : Int) (on : Bool) (w : World) (hn : nameB n.data.toList = true) (hf : nameB f.data.toList = true) :
    Calls Tryd.prog 8 #[.agg #[.string n, .int .i64 op, .int .i64 v, .int .i64 sl, .string f, .bool on]] w fun e w' => e = .returned (.int .i64 (chk n.data.toList op v sl f.data.toList on)) ∧ Keep w w' := by
  have hr := chk_ways n.data.toList op v sl f.data.toList on hn (Or.inr hf)
  have HN : Hid (nameB n.data.toList = true) := hn
  have HF : Hid (nameB f.data.toList = true) := hf
  have hfe := empty_false (nameB_pos hf)
  have HP : Hid (f.data.toList ≠ []) := nameB_pos hf
  have k0 := Keep.alloc w (.cells #[.string n, .int .i64 op, .int .i64 v, .int .i64 sl, .string f, .bool on] 23)
  have a0 : Hid (AtomAt w.heap.size n op v sl f on (w.alloc (.cells #[.string n, .int .i64 op, .int .i64 v, .int .i64 sl, .string f, .bool on] 23))) := one_new _ _
  clear hn hf
  go_enter Tryd.func8, Tryd.ntmps8
  go_wp2_with fail
  generalize w.alloc (.cells #[.string n, .int .i64 op, .int .i64 v, .int .i64 sl, .string f, .bool on] 23) = W0 at k0 a0 ⊢
  refine (isName_any _ _).mono ?_
  rintro e w1 ⟨rfl, k1⟩
  rw [HN.out]
  have K1 : Keep w w1 := k0.trans k1
  have a1 : Hid (AtomAt w.heap.size n op v sl f on w1) := a0.out.below k1 a0.out.facts.2.2
  obtain ⟨hc1, _, _⟩ := a1.out.facts
  go_wp2_with fail
  refine (isName_any _ _).mono ?_
  rintro e w2 ⟨rfl, k2⟩
  rw [HF.out]
  have K2 : Keep w w2 := K1.trans k2
  have a2 : Hid (AtomAt w.heap.size n op v sl f on w2) := a1.out.below k2 a1.out.facts.2.2
  clear hc1
  obtain ⟨hc2, _, _⟩ := a2.out.facts
  rcases hr with ⟨r1, HC⟩ | ⟨r1, r2, HC⟩ | ⟨r1, r2, r3, HC⟩ | ⟨r1, r2, r3, r4, HC⟩ | ⟨r1, r2, r3, r4, r5, r6, HC⟩ | ⟨r1, r2, r3, r4, r5, r6, r7, HC⟩ | ⟨r1, r2, r3, r4, r5, r6, r7, r8, HC⟩ | ⟨r1, r2, r3, r4, r5, r6, r7, HC⟩ | ⟨r1, r2, r3, r4, r5, r6, r7, r8, HC⟩
  iterate 7
    · go_wp2_with fail
      go_ret
      exact ⟨ret_int HC.out.symm, K2⟩
  iterate 2
    · have HC' : Hid (chk n.data.toList op v sl f.data.toList on = 0) := by show _ = _; rw [HC.out, if_neg (fun h => HP.out h.2)]
      clear HC
      cases on
      · go_wp2_with fail
        go_ret
        exact ⟨ret_int HC'.out.symm, K2⟩
      · go_wp2_with fail
        go_ret
        exact ⟨ret_int HC'.out.symm, K2⟩

theorem refCheck_any (n f : ByteArray) (op v sl : Int) (on : Bool) (w : World) :
    Calls Tryd.prog 8 #[.agg #[.string n, .int .i64 op, .int .i64 v, .int .i64 sl, .string f, .bool on]] w fun e w' => e = .returned (.int .i64 (chk n.data.toList op v sl f.data.toList on)) ∧ Keep w w' := by
  cases hn : nameB n.data.toList
  · exact refCheck_bad n f op v sl on w (Or.inl hn)
  · by_cases hf : f.data.toList = []
    · exact refCheck_empty n f op v sl on w hn hf
    · cases hg : nameB f.data.toList
      · exact refCheck_bad n f op v sl on w (Or.inr ⟨hf, hg⟩)
      · exact refCheck_flag n f op v sl on w hn hg
end Go.Proofs.YtbidagegabganaaDoor
