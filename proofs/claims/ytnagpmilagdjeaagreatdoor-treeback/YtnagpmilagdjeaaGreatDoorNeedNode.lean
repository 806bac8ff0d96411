/- need.isLeaf, need.hasForm and need.checkNode answer as the plain functions leafB, formB and nodeE say, of any need's own fields; nothing that was there is changed. -/
import Derived.Test.YtnagpmilagdjeaaGreatDoorNeedMath
namespace Go.Proofs.YtnagpmilagdjeaaGreatDoor
open Go.RowKit

set_option maxHeartbeats 1000000 in
theorem isLeaf_any (k : Int) (n f : ByteArray) (op v sl : Int) (on : Bool) (fl : ByteArray) (nt : Bool) (kp : Option Addr) (len cap : Nat) (w : World) :
    Calls Tryz.prog 112 #[.agg #[.int .i64 k, .string n, .int .i64 op, .int .i64 v, .int .i64 sl, .string f, .bool on, .string fl, .bool nt, .slice kp len cap]] w fun e w' => e = .returned (.bool (leafB k)) ∧ Keep w w' := by
  by_cases h1 : k = 1
  · have h1' : (k == 1) = true := by simp [h1]
    have H : Hid (leafB k = true) := by show leafB k = true; simp [leafB, h1]
    clear h1
    go_enter Tryz.func112, Tryz.ntmps112
    go_wp2
    go_ret
    exact ⟨ret_bool H.out.symm, Keep.alloc _ _⟩
  · have h1' : (k == 1) = false := by simp [h1]
    have H : Hid (leafB k = (k == 2)) := by show leafB k = (k == 2); simp [leafB, h1]
    clear h1
    go_enter Tryz.func112, Tryz.ntmps112
    go_wp2
    go_ret
    exact ⟨ret_bool H.out.symm, Keep.alloc _ _⟩

theorem form_ways (k : Int) (a : At) (fl : ByteArray) (nt : Bool) (len : Nat) :
    (k < 1 ∧ Hid (formB k a fl nt len = false)) ∨ (¬ k < 1 ∧ 5 < k ∧ Hid (formB k a fl nt len = false))
    ∨ (¬ k < 1 ∧ ¬ 5 < k ∧ Hid (leafB k = true) ∧ (0 : Int) < len ∧ Hid (formB k a fl nt len = false))
    ∨ (¬ k < 1 ∧ ¬ 5 < k ∧ Hid (leafB k = true) ∧ ¬ (0 : Int) < len ∧ (k == 5) = false ∧ Hid (formB k a fl nt len = (fl.toList.isEmpty && !nt)))
    ∨ (¬ k < 1 ∧ ¬ 5 < k ∧ Hid (leafB k = false) ∧ Hid (zeroB a = false) ∧ Hid (formB k a fl nt len = false))
    ∨ (¬ k < 1 ∧ ¬ 5 < k ∧ Hid (leafB k = false) ∧ Hid (zeroB a = true) ∧ (k == 5) = true ∧ Hid (formB k a fl nt len = true))
    ∨ (¬ k < 1 ∧ ¬ 5 < k ∧ Hid (leafB k = false) ∧ Hid (zeroB a = true) ∧ (k == 5) = false ∧ Hid (formB k a fl nt len = (fl.toList.isEmpty && !nt))) := by
  by_cases h1 : k < 1
  · exact Or.inl ⟨h1, by show _ = _; simp [formB]; omega⟩
  · by_cases h2 : 5 < k
    · exact Or.inr (Or.inl ⟨h1, h2, by show _ = _; simp [formB]; omega⟩)
    · have e1 : decide (1 ≤ k) = true := decide_eq_true (by omega)
      have e2 : decide (k ≤ 5) = true := decide_eq_true (by omega)
      cases h3 : leafB k
      · cases h4 : zeroB a
        · exact Or.inr (Or.inr (Or.inr (Or.inr (Or.inl ⟨h1, h2, rfl, rfl, by show _ = _; unfold formB; rw [e1, e2, h3, h4]; simp⟩))))
        · cases h5 : (k == 5)
          · exact Or.inr (Or.inr (Or.inr (Or.inr (Or.inr (Or.inr ⟨h1, h2, rfl, rfl, rfl, by show _ = _; unfold formB; rw [e1, e2, h3, h4, h5]; simp⟩)))))
          · exact Or.inr (Or.inr (Or.inr (Or.inr (Or.inr (Or.inl ⟨h1, h2, rfl, rfl, rfl, by show _ = _; unfold formB; rw [e1, e2, h3, h4, h5]; simp⟩)))))
      · by_cases h4 : (0 : Int) < len
        · refine Or.inr (Or.inr (Or.inl ⟨h1, h2, rfl, h4, ?_⟩))
          show _ = _
          unfold formB; rw [e1, e2, h3, decide_eq_true (by omega)]; simp
        · have h5 : (k == 5) = false := by
            simp [leafB] at h3
            simp; omega
          refine Or.inr (Or.inr (Or.inr (Or.inl ⟨h1, h2, rfl, h4, h5, ?_⟩)))
          show _ = _
          unfold formB; rw [e1, e2, h3, h5, decide_eq_false (by omega)]; simp

set_option maxHeartbeats 4000000 in
theorem hasForm_any (k : Int) (n f : ByteArray) (op v sl : Int) (on : Bool) (fl : ByteArray) (nt : Bool) (kp : Option Addr) (len cap : Nat) (w : World) :
    Calls Tryz.prog 110 #[.agg #[.int .i64 k, .string n, .int .i64 op, .int .i64 v, .int .i64 sl, .string f, .bool on, .string fl, .bool nt, .slice kp len cap]] w fun e w' => e = .returned (.bool (formB k ⟨n, op, v, sl, f, on⟩ fl nt len)) ∧ Keep w w' := by
  rcases form_ways k ⟨n, op, v, sl, f, on⟩ fl nt len with ⟨h1, H⟩ | ⟨h1, h2, H⟩ | ⟨h1, h2, L, h3, H⟩ | ⟨h1, h2, L, h3, h4, H⟩ | ⟨h1, h2, L, Z, H⟩ | ⟨h1, h2, L, Z, h4, H⟩ | ⟨h1, h2, L, Z, h4, H⟩
  · go_enter Tryz.func110, Tryz.ntmps110
    go_wp2
    go_ret
    exact ⟨ret_bool H.out.symm, Keep.alloc _ _⟩
  · go_enter Tryz.func110, Tryz.ntmps110
    go_wp2
    go_ret
    exact ⟨ret_bool H.out.symm, Keep.alloc _ _⟩
  all_goals
    have hb0 := Boxed.new w #[.int .i64 k, .string n, .int .i64 op, .int .i64 v, .int .i64 sl, .string f, .bool on, .string fl, .bool nt, .slice kp len cap] 26
    have K0 := Keep.alloc w (.cells #[.int .i64 k, .string n, .int .i64 op, .int .i64 v, .int .i64 sl, .string f, .bool on, .string fl, .bool nt, .slice kp len cap] 26)
    have HB0 : Hid (Boxed w.heap.size #[.int .i64 k, .string n, .int .i64 op, .int .i64 v, .int .i64 sl, .string f, .bool on, .string fl, .bool nt, .slice kp len cap] (w.alloc (.cells #[.int .i64 k, .string n, .int .i64 op, .int .i64 v, .int .i64 sl, .string f, .bool on, .string fl, .bool nt, .slice kp len cap] 26))) := hb0
    clear hb0
    go_enter Tryz.func110, Tryz.ntmps110
    go_wp2_with fail
    generalize w.alloc (.cells #[.int .i64 k, .string n, .int .i64 op, .int .i64 v, .int .i64 sl, .string f, .bool on, .string fl, .bool nt, .slice kp len cap] 26) = W0 at K0 HB0 ⊢
    refine (isLeaf_any _ _ _ _ _ _ _ _ _ _ _ _ _).mono ?_
    rintro e w1 ⟨rfl, k1⟩
    rw [L.out]
    have HB1 : Hid (Boxed w.heap.size #[.int .i64 k, .string n, .int .i64 op, .int .i64 v, .int .i64 sl, .string f, .bool on, .string fl, .bool nt, .slice kp len cap] w1) := HB0.out.keep k1 HB0.out.1
    have K1 := K0.trans k1
    clear k1 HB0
    have hc1 := HB1.out.2
    have hl1 := HB1.out.1
    go_wp2_with fail
  · go_ret
    exact ⟨ret_bool H.out.symm, K1⟩
  all_goals
    refine (isLeaf_any _ _ _ _ _ _ _ _ _ _ _ _ _).mono ?_
    rintro e w2 ⟨rfl, k2⟩
    rw [L.out]
    have HB2 : Hid (Boxed w.heap.size #[.int .i64 k, .string n, .int .i64 op, .int .i64 v, .int .i64 sl, .string f, .bool on, .string fl, .bool nt, .slice kp len cap] w2) := HB1.out.keep k2 HB1.out.1
    have K2 := K1.trans k2
    clear k2 HB1 hc1 hl1
    have hc2 := HB2.out.2
    have hl2 := HB2.out.1
  · cases hfe : fl.toList.isEmpty <;> cases nt
    all_goals
      rw [hfe] at H
      go_wp2_with fail
      go_ret
      exact ⟨ret_bool H.out.symm, K2⟩
  · have heq := fun wx => eqAtom n op v sl f on ⟨#[]⟩ 0 0 0 ⟨#[]⟩ false wx
    rw [show sameB n op v sl f on ⟨#[]⟩ 0 0 0 ⟨#[]⟩ false = false from Z.out] at heq
    go_wp2_with fail
    go_ret
    exact ⟨ret_bool H.out.symm, K2⟩
  · have heq := fun wx => eqAtom n op v sl f on ⟨#[]⟩ 0 0 0 ⟨#[]⟩ false wx
    rw [show sameB n op v sl f on ⟨#[]⟩ 0 0 0 ⟨#[]⟩ false = true from Z.out] at heq
    go_wp2_with fail
    go_ret
    exact ⟨ret_bool H.out.symm, K2⟩
  · have heq := fun wx => eqAtom n op v sl f on ⟨#[]⟩ 0 0 0 ⟨#[]⟩ false wx
    rw [show sameB n op v sl f on ⟨#[]⟩ 0 0 0 ⟨#[]⟩ false = true from Z.out] at heq
    cases hfe : fl.toList.isEmpty <;> cases nt
    all_goals
      rw [hfe] at H
      go_wp2_with fail
      go_ret
      exact ⟨ret_bool H.out.symm, K2⟩

theorem node_ways (k : Int) (a : At) (fl : ByteArray) (nt : Bool) (kids : List NT) :
    (Hid (formB k a fl nt kids.length = false) ∧ Hid (nodeE (.node k a fl nt kids) = 4))
    ∨ (Hid (formB k a fl nt kids.length = true) ∧ (k == 5) = true ∧ Hid (nameB fl.data.toList = false) ∧ Hid (nodeE (.node k a fl nt kids) = 1))
    ∨ (Hid (formB k a fl nt kids.length = true) ∧ (k == 5) = true ∧ Hid (nameB fl.data.toList = true) ∧ Hid (leafB k = false) ∧ Hid (nodeE (.node k a fl nt kids) = 0))
    ∨ (Hid (formB k a fl nt kids.length = true) ∧ (k == 5) = false ∧ Hid (leafB k = false) ∧ Hid (nodeE (.node k a fl nt kids) = 0))
    ∨ (Hid (formB k a fl nt kids.length = true) ∧ (k == 5) = false ∧ Hid (leafB k = true) ∧ Hid (nodeE (.node k a fl nt kids) = chkA a)) := by
  cases h : formB k a fl nt kids.length
  · exact Or.inl ⟨rfl, by show _ = _; rw [nodeE, if_pos h]⟩
  · by_cases h5 : k = 5
    · have h5' : (k == 5) = true := by simp [h5]
      have hl : leafB k = false := by subst h5; rfl
      cases hn : nameB fl.data.toList
      · exact Or.inr (Or.inl ⟨rfl, h5', rfl, by show _ = _; rw [nodeE, if_neg (by rw [h]; decide), if_pos ⟨h5, hn⟩]⟩)
      · refine Or.inr (Or.inr (Or.inl ⟨rfl, h5', rfl, hl, ?_⟩))
        show _ = _
        rw [nodeE, if_neg (by rw [h]; decide), if_neg (by rw [hn]; simp), if_neg (by rw [hl]; decide)]
    · have h5' : (k == 5) = false := by simp [h5]
      cases hl : leafB k
      · refine Or.inr (Or.inr (Or.inr (Or.inl ⟨rfl, h5', rfl, ?_⟩)))
        show _ = _
        rw [nodeE, if_neg (by rw [h]; decide), if_neg (fun e => h5 e.1), if_neg (by rw [hl]; decide)]
      · refine Or.inr (Or.inr (Or.inr (Or.inr ⟨rfl, h5', rfl, ?_⟩)))
        show _ = _
        rw [nodeE, if_neg (by rw [h]; decide), if_neg (fun e => h5 e.1), if_pos hl]

set_option maxHeartbeats 4000000 in
theorem checkNode_any (k : Int) (n f : ByteArray) (op v sl : Int) (on : Bool) (fl : ByteArray) (nt : Bool) (kp : Option Addr) (kids : List NT) (cap : Nat) (w : World) :
    Calls Tryz.prog 59 #[.agg #[.int .i64 k, .string n, .int .i64 op, .int .i64 v, .int .i64 sl, .string f, .bool on, .string fl, .bool nt, .slice kp kids.length cap]] w fun e w' => e = .returned (.int .i64 (nodeE (.node k ⟨n, op, v, sl, f, on⟩ fl nt kids))) ∧ Keep w w' := by
  have hways := node_ways k ⟨n, op, v, sl, f, on⟩ fl nt kids
  generalize kids.length = len at hways ⊢
  rcases hways with ⟨F, H⟩ | ⟨F, h5, M, H⟩ | ⟨F, h5, M, L, H⟩ | ⟨F, h5, L, H⟩ | ⟨F, h5, L, H⟩
  all_goals
    have hb0 := Boxed.new w #[.int .i64 k, .string n, .int .i64 op, .int .i64 v, .int .i64 sl, .string f, .bool on, .string fl, .bool nt, .slice kp len cap] 26
    have K0 := Keep.alloc w (.cells #[.int .i64 k, .string n, .int .i64 op, .int .i64 v, .int .i64 sl, .string f, .bool on, .string fl, .bool nt, .slice kp len cap] 26)
    have HB0 : Hid (Boxed w.heap.size #[.int .i64 k, .string n, .int .i64 op, .int .i64 v, .int .i64 sl, .string f, .bool on, .string fl, .bool nt, .slice kp len cap] (w.alloc (.cells #[.int .i64 k, .string n, .int .i64 op, .int .i64 v, .int .i64 sl, .string f, .bool on, .string fl, .bool nt, .slice kp len cap] 26))) := hb0
    clear hb0
    go_enter Tryz.func59, Tryz.ntmps59
    go_wp2_with fail
    generalize w.alloc (.cells #[.int .i64 k, .string n, .int .i64 op, .int .i64 v, .int .i64 sl, .string f, .bool on, .string fl, .bool nt, .slice kp len cap] 26) = W0 at K0 HB0 ⊢
    refine (hasForm_any _ _ _ _ _ _ _ _ _ _ _ _ _).mono ?_
    rintro e w1 ⟨rfl, k1⟩
    rw [F.out]
    have HB1 : Hid (Boxed w.heap.size #[.int .i64 k, .string n, .int .i64 op, .int .i64 v, .int .i64 sl, .string f, .bool on, .string fl, .bool nt, .slice kp len cap] w1) := HB0.out.keep k1 HB0.out.1
    have K1 := K0.trans k1
    clear k1 HB0
    have hc1 := HB1.out.2
    have hl1 := HB1.out.1
    go_wp2_with fail
  · go_ret
    exact ⟨ret_int H.out.symm, K1⟩
  · refine (name_any _ _).mono ?_
    rintro e w2 ⟨rfl, rfl⟩
    rw [M.out]
    go_wp2_with fail
    go_ret
    exact ⟨ret_int H.out.symm, K1⟩
  · refine (name_any _ _).mono ?_
    rintro e w2 ⟨rfl, rfl⟩
    rw [M.out]
    go_wp2_with fail
    refine (isLeaf_any _ _ _ _ _ _ _ _ _ _ _ _ _).mono ?_
    rintro e w2 ⟨rfl, k2⟩
    rw [L.out]
    go_wp2_with fail
    go_ret
    exact ⟨ret_int H.out.symm, K1.trans k2⟩
  · refine (isLeaf_any _ _ _ _ _ _ _ _ _ _ _ _ _).mono ?_
    rintro e w2 ⟨rfl, k2⟩
    rw [L.out]
    go_wp2_with fail
    go_ret
    exact ⟨ret_int H.out.symm, K1.trans k2⟩
  · refine (isLeaf_any _ _ _ _ _ _ _ _ _ _ _ _ _).mono ?_
    rintro e w2 ⟨rfl, k2⟩
    rw [L.out]
    have HB2 : Hid (Boxed w.heap.size #[.int .i64 k, .string n, .int .i64 op, .int .i64 v, .int .i64 sl, .string f, .bool on, .string fl, .bool nt, .slice kp len cap] w2) := HB1.out.keep k2 HB1.out.1
    have K2 := K1.trans k2
    clear k2 HB1 hc1 hl1
    have hc2 := HB2.out.2
    have hl2 := HB2.out.1
    go_wp2_with fail
    refine (check_any _ _ _ _ _ _ _).mono ?_
    rintro e w3 ⟨rfl, k3⟩
    have K3 := K2.trans k3
    clear hc2 hl2
    go_wp2_with fail
    go_ret
    exact ⟨ret_int H.out.symm, K3⟩
end Go.Proofs.YtnagpmilagdjeaaGreatDoor
