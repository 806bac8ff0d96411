/- AtomSays returns true, of any atom, any text, any version and slot, wherever what the program lays is laid; nothing that was there is changed. -/
import Derived.Test.YtkckkjpkidcbnaaDoorAtomBackWalk
import Derived.Test.YtkckkjpkidcbnaaDoorRefRead
import Derived.Lib.QuietBelow
import Derived.BigQuiet
namespace Go.Proofs.YtkckkjpkidcbnaaDoor
open Go.RowKit Go.Sort

theorem hid {p : Prop} (h : p) : Hid p := h
theorem refText_is (n f t : ByteArray) (op v sl : Int) (on : Bool) (w : World) (hc : chk n.data.toList op v sl f.data.toList on = 0) (ht : t.data.toList = textOf n.data.toList op v sl f.data.toList on) :
    Calls Tryd.prog 15 #[.agg #[.string n, .int .i64 op, .int .i64 v, .int .i64 sl, .string f, .bool on]] w fun e w' => e = .returned (.string t) ∧ Keep w w' := by
  refine (refText_ok n f op v sl on w hc).mono ?_
  rintro e w' ⟨⟨t', rfl, ht'⟩, k⟩
  exact ⟨by rw [bytes_eq (ht'.trans ht.symm)], k⟩

theorem name_keep (s : ByteArray) (w : World) :
    Calls Tryd.prog 10 #[.string s] w fun e w' => e = .returned (.bool (nameB s.data.toList)) ∧ Keep w w' := by
  refine (name_any s w).mono ?_
  rintro e w' ⟨rfl, rfl⟩
  exact ⟨rfl, Keep.refl _⟩

theorem prs_two (s : ByteArray) (h : 20000 < s.size) : prsE s.data.toList = 2 := by
  unfold prsE
  rw [if_pos (by rw [size_list]; exact h)]

set_option maxHeartbeats 8000000 in
set_option maxRecDepth 100000 in
theorem says_walk (n f : ByteArray) (op v sl : Int) (on : Bool) (s : ByteArray) (ver slot : Int) (w : World) (hE : Env w) :
    Calls Tryd.prog 3 #[.agg #[.string n, .int .i64 op, .int .i64 v, .int .i64 sl, .string f, .bool on], .string s, .int .i64 ver, .int .i64 slot] w fun e w' => e = .returned (.bool true) ∧ Keep w w' := by
  have HE : Hid (Env w) := hE
  clear hE
  have k0 : Keep w (w.alloc (.cells #[.string n, .int .i64 op, .int .i64 v, .int .i64 sl, .string f, .bool on] 23)) := Keep.alloc _ _
  have a0 : Hid (AtomAt w.heap.size n op v sl f on (w.alloc (.cells #[.string n, .int .i64 op, .int .i64 v, .int .i64 sl, .string f, .bool on] 23))) := one_new _ _
  go_enter Tryd.func3, Tryd.ntmps3
  go_wp2_with fail
  generalize w.alloc (.cells #[.string n, .int .i64 op, .int .i64 v, .int .i64 sl, .string f, .bool on] 23) = W0 at k0 a0 ⊢
  have hb0 : w.heap.size < W0.heap.size := a0.out.facts.2.2
  refine (print_any _ _ _ _ _ _ _ (HE.out.keep k0).1).mono ?_
  rintro e w1 ⟨t, rfl, ht, ht', k1⟩
  have K1 : Keep w w1 := k0.trans k1
  have a1 : Hid (AtomAt w.heap.size n op v sl f on w1) := a0.out.below k1 (by omega)
  have hb1 : w.heap.size < w1.heap.size := a1.out.facts.2.2
  have HT : Hid (chk n.data.toList op v sl f.data.toList on = 0 → t.data.toList = textOf n.data.toList op v sl f.data.toList on) := ht
  have HT' : Hid (chk n.data.toList op v sl f.data.toList on ≠ 0 → t = ⟨#[]⟩) := ht'
  clear ht ht' k1
  generalize hc : chk n.data.toList op v sl f.data.toList on = c at HT HT' ⊢
  have HC : Hid (chk n.data.toList op v sl f.data.toList on = c) := hc
  clear hc
  go_wp2_with fail
  refine (parse_any _ _ (HE.out.keep K1)).mono ?_
  rintro e w2 ⟨n5, f5, op5, v5, sl5, on5, rfl, hp5, hz5, k2⟩
  have K2 : Keep w w2 := K1.trans k2
  have a2 : Hid (AtomAt w.heap.size n op v sl f on w2) := a1.out.below k2 hb1
  have HP := hid hp5
  have HZ := hid hz5
  clear hp5 hz5 k2
  have hb2 : w.heap.size < w2.heap.size := a2.out.facts.2.2
  obtain ⟨hca2, _, _⟩ := a2.out.facts
  go_wp2_with fail
  have K2a : Keep w (w2.alloc (.cells #[.string n5, .int .i64 op5, .int .i64 v5, .int .i64 sl5, .string f5, .bool on5] 23)) := K2.alloc' _
  have a2a : Hid (AtomAt w.heap.size n op v sl f on (w2.alloc (.cells #[.string n5, .int .i64 op5, .int .i64 v5, .int .i64 sl5, .string f5, .bool on5] 23))) := a2.out.below (Keep.alloc _ _) hb2
  have b2a : Hid (AtomAt w2.heap.size n5 op5 v5 sl5 f5 on5 (w2.alloc (.cells #[.string n5, .int .i64 op5, .int .i64 v5, .int .i64 sl5, .string f5, .bool on5] 23))) := one_new _ _
  generalize w2.alloc (.cells #[.string n5, .int .i64 op5, .int .i64 v5, .int .i64 sl5, .string f5, .bool on5] 23) = W2 at K2a a2a b2a ⊢
  generalize hbb : w2.heap.size = b0 at b2a ⊢
  have hb2a : w.heap.size < W2.heap.size := a2a.out.facts.2.2
  have hb2b : b0 < W2.heap.size := b2a.out.facts.2.2
  have hww : w.heap.size ≤ b0 := by omega
  clear hbb hca2
  refine (refCheck_any _ _ _ _ _ _ _).mono ?_
  rintro e w3 ⟨rfl, k3⟩
  have K3 : Keep w w3 := K2a.trans k3
  have a3 : Hid (AtomAt w.heap.size n op v sl f on w3) := a2a.out.below k3 hb2a
  have b3 : Hid (AtomAt b0 n5 op5 v5 sl5 f5 on5 w3) := b2a.out.below k3 hb2b
  have hb3 : w.heap.size < w3.heap.size := a3.out.facts.2.2
  have hb3b : b0 < w3.heap.size := b3.out.facts.2.2
  rw [HC.out]
  clear k3 hb0 hb1 hb2 hb2a hb2b
  have kg : ∀ d os, Keep w (grow (redrawn w3 d) os) := fun d os => K3.trans (below_regrown w3 d os)
  have KG := hid kg
  clear kg
  have cell : ∀ o d os, (grow (redrawn w3 d) os).cell? ⟨w.heap.size, o, none⟩ = (#[.string n, .int .i64 op, .int .i64 v, .int .i64 sl, .string f, .bool on] : Array Value)[o]? := fun o d os => (a3.out.below (below_regrown w3 d os) hb3).facts.1 o
  have cAsk := hid (show ∀ d os, Calls Tryd.prog 9 #[] (grow (redrawn w3 d) os) fun e w'' => e = .returned (.bool true) ∧ ∃ p : Regrown, w'' = grow (redrawn w3 p.d) p.os from fun d os => Calls.regrown_of (asked_any _ (HE.out.keep (KG.out d os))))
  generalize hbe : nameB s.data.toList = β
  have cName := hid (show ∀ d os, Calls Tryd.prog 10 #[.string s] (grow (redrawn w3 d) os) fun e w'' => e = .returned (.bool β) ∧ ∃ p : Regrown, w'' = grow (redrawn w3 p.d) p.os from fun d os => by rw [← hbe]; exact Calls.regrown_of (name_keep _ _))
  have cIsN := hid (show ∀ d os, Calls Tryd.prog 11 #[.string s] (grow (redrawn w3 d) os) fun e w'' => e = .returned (.bool β) ∧ ∃ p : Regrown, w'' = grow (redrawn w3 p.d) p.os from fun d os => by rw [← hbe]; exact Calls.regrown_of (isName_any _ _))
  clear hbe
  have cChk := hid (show ∀ d os, Calls Tryd.prog 12 #[.agg #[.string n, .int .i64 op, .int .i64 v, .int .i64 sl, .string f, .bool on]] (grow (redrawn w3 d) os) fun e w'' => e = .returned (.int .i64 c) ∧ ∃ p : Regrown, w'' = grow (redrawn w3 p.d) p.os from fun d os => by rw [← HC.out]; exact Calls.regrown_of (check_any _ _ _ _ _ _ _))
  generalize hga : fitB op v sl ver slot = γ
  have cFit := hid (show ∀ d os, Calls Tryd.prog 13 #[.agg #[.string n, .int .i64 op, .int .i64 v, .int .i64 sl, .string f, .bool on], .int .i64 ver, .int .i64 slot] (grow (redrawn w3 d) os) fun e w'' => e = .returned (.bool γ) ∧ ∃ p : Regrown, w'' = grow (redrawn w3 p.d) p.os from fun d os => by rw [← hga]; exact Calls.regrown_of (fits_any _ _ _ _ _ _ _ _ _))
  have cFiT := hid (show ∀ d os, Calls Tryd.prog 14 #[.agg #[.string n, .int .i64 op, .int .i64 v, .int .i64 sl, .string f, .bool on], .int .i64 ver, .int .i64 slot] (grow (redrawn w3 d) os) fun e w'' => e = .returned (.bool γ) ∧ ∃ p : Regrown, w'' = grow (redrawn w3 p.d) p.os from fun d os => by rw [← hga]; exact Calls.regrown_of (fitsTo_any _ _ _ _ _ _ _ _ _))
  clear hga
  by_cases hc0 : c = 0
  · subst hc0
    have cTxt := hid (show ∀ d os, Calls Tryd.prog 15 #[.agg #[.string n, .int .i64 op, .int .i64 v, .int .i64 sl, .string f, .bool on]] (grow (redrawn w3 d) os) fun e w'' => e = .returned (.string t) ∧ ∃ p : Regrown, w'' = grow (redrawn w3 p.d) p.os from fun d os => Calls.regrown_of (refText_is _ _ _ _ _ _ _ _ HC.out (HT.out rfl)))
    clear HT HT'
    go_wp2_with fail
    refine wp_region_quiet_below (by kernel_rfl) (by kernel_rfl) ?_
    repeat (first | quiet_step (first | exact cAsk.out _ _ | exact cName.out _ _ | exact cIsN.out _ _ | exact cChk.out _ _ | exact cFit.out _ _ | exact cFiT.out _ _ | exact cTxt.out _ _) | go_big_quiet_step (first | exact cAsk.out _ _ | exact cName.out _ _ | exact cIsN.out _ _ | exact cChk.out _ _ | exact cFit.out _ _ | exact cFiT.out _ _ | exact cTxt.out _ _))
    refine wpQuiet_nil ?_
    intro _ hw'
    obtain ⟨⟨dq, osq⟩, hw''⟩ := hw'
    subst hw''
    have k4 := below_regrown w3 dq osq
    generalize grow (redrawn w3 dq) osq = w4 at k4 ⊢
    have K4 : Keep w w4 := K3.trans k4
    have b4 : Hid (AtomAt b0 n5 op5 v5 sl5 f5 on5 w4) := b3.out.below k4 hb3b
    have hb4 : b0 < w4.heap.size := b4.out.facts.2.2
    clear cell cAsk cName cIsN cChk cFit cFiT KG k4 a3 b3
    clear cTxt
    by_cases hl : 20000 < s.size
    · have hl' : (20000 : Int) < (s.size : Int) := by omega
      have HP5 : Hid (prsE s.data.toList = 2) := prs_two s hl
      obtain ⟨rfl, rfl, rfl, rfl, rfl, rfl⟩ := HZ.out (by rw [HP5.out]; decide)
      rw [HP5.out]
      have heq := fun wx => eqAtom ⟨#[]⟩ 0 0 0 ⟨#[]⟩ false ⟨#[]⟩ 0 0 0 ⟨#[]⟩ false wx
      have hsm : sameB ⟨#[]⟩ 0 0 0 ⟨#[]⟩ false ⟨#[]⟩ 0 0 0 ⟨#[]⟩ false = true := sameB_true.2 ⟨rfl, rfl, rfl, rfl, rfl, rfl⟩
      rw [hsm] at heq
      clear hsm
      obtain ⟨hcb4, _, _⟩ := b4.out.facts
      go_wp2_with fail
      go_ret
      exact ⟨rfl, K4⟩
    · have hl' : ¬ (20000 : Int) < (s.size : Int) := by omega
      have HS : Hid (s.size ≤ 20000) := by show _ ≤ _; omega
      clear hl
      go_wp2_with fail
      refine (refRead_any _ _ (HE.out.keep K4) HS.out).mono ?_
      rintro e w5 ⟨n6, f6, op6, v6, sl6, on6, rfl, hp6, hz6, k5⟩
      have K5 : Keep w w5 := K4.trans k5
      have b5 : Hid (AtomAt b0 n5 op5 v5 sl5 f5 on5 w5) := b4.out.below k5 hb4
      have hsm : sameB n5 op5 v5 sl5 f5 on5 n6 op6 v6 sl6 f6 on6 = true := by
        by_cases hz : prsE s.data.toList = 0
        · obtain ⟨p1, p2, p3, p4, p5, p6⟩ := HP.out hz
          obtain ⟨q1, q2, q3, q4, q5, q6⟩ := hp6 hz
          exact sameB_true.2 ⟨p1.trans q1.symm, p2.trans q2.symm, p3.trans q3.symm, p4.trans q4.symm, p5.trans q5.symm, p6.trans q6.symm⟩
        · obtain ⟨p1, p2, p3, p4, p5, p6⟩ := HZ.out hz
          obtain ⟨q1, q2, q3, q4, q5, q6⟩ := hz6 hz
          exact sameB_true.2 ⟨by rw [p1, q1], p2.trans q2.symm, p3.trans q3.symm, p4.trans q4.symm, by rw [p5, q5], p6.trans q6.symm⟩
      have heq := fun wx => eqAtom n5 op5 v5 sl5 f5 on5 n6 op6 v6 sl6 f6 on6 wx
      rw [hsm] at heq
      clear hsm hp6 hz6 k5
      obtain ⟨hcb5, _, hlb5⟩ := b5.out.facts
      go_wp2_with fail
      go_ret
      exact ⟨rfl, K5.alloc' _⟩
  · have hc' : (c == 0) = false := by simpa using hc0
    have hc'' : (c != 0) = true := by simpa using hc0
    have htt := HT'.out hc0
    subst htt
    clear hc0 HT HT'
    go_wp2_with fail
    refine wp_region_quiet_below (by kernel_rfl) (by kernel_rfl) ?_
    repeat (first | quiet_step (first | exact cAsk.out _ _ | exact cName.out _ _ | exact cIsN.out _ _ | exact cChk.out _ _ | exact cFit.out _ _ | exact cFiT.out _ _) | go_big_quiet_step (first | exact cAsk.out _ _ | exact cName.out _ _ | exact cIsN.out _ _ | exact cChk.out _ _ | exact cFit.out _ _ | exact cFiT.out _ _))
    refine wpQuiet_nil ?_
    intro _ hw'
    obtain ⟨⟨dq, osq⟩, hw''⟩ := hw'
    subst hw''
    have k4 := below_regrown w3 dq osq
    generalize grow (redrawn w3 dq) osq = w4 at k4 ⊢
    have K4 : Keep w w4 := K3.trans k4
    have b4 : Hid (AtomAt b0 n5 op5 v5 sl5 f5 on5 w4) := b3.out.below k4 hb3b
    have hb4 : b0 < w4.heap.size := b4.out.facts.2.2
    clear cell cAsk cName cIsN cChk cFit cFiT KG k4 a3 b3
    by_cases hl : 20000 < s.size
    · have hl' : (20000 : Int) < (s.size : Int) := by omega
      have HP5 : Hid (prsE s.data.toList = 2) := prs_two s hl
      obtain ⟨rfl, rfl, rfl, rfl, rfl, rfl⟩ := HZ.out (by rw [HP5.out]; decide)
      rw [HP5.out]
      have heq := fun wx => eqAtom ⟨#[]⟩ 0 0 0 ⟨#[]⟩ false ⟨#[]⟩ 0 0 0 ⟨#[]⟩ false wx
      have hsm : sameB ⟨#[]⟩ 0 0 0 ⟨#[]⟩ false ⟨#[]⟩ 0 0 0 ⟨#[]⟩ false = true := sameB_true.2 ⟨rfl, rfl, rfl, rfl, rfl, rfl⟩
      rw [hsm] at heq
      clear hsm
      obtain ⟨hcb4, _, _⟩ := b4.out.facts
      go_wp2_with fail
      go_ret
      exact ⟨rfl, K4⟩
    · have hl' : ¬ (20000 : Int) < (s.size : Int) := by omega
      have HS : Hid (s.size ≤ 20000) := by show _ ≤ _; omega
      clear hl
      go_wp2_with fail
      refine (refRead_any _ _ (HE.out.keep K4) HS.out).mono ?_
      rintro e w5 ⟨n6, f6, op6, v6, sl6, on6, rfl, hp6, hz6, k5⟩
      have K5 : Keep w w5 := K4.trans k5
      have b5 : Hid (AtomAt b0 n5 op5 v5 sl5 f5 on5 w5) := b4.out.below k5 hb4
      have hsm : sameB n5 op5 v5 sl5 f5 on5 n6 op6 v6 sl6 f6 on6 = true := by
        by_cases hz : prsE s.data.toList = 0
        · obtain ⟨p1, p2, p3, p4, p5, p6⟩ := HP.out hz
          obtain ⟨q1, q2, q3, q4, q5, q6⟩ := hp6 hz
          exact sameB_true.2 ⟨p1.trans q1.symm, p2.trans q2.symm, p3.trans q3.symm, p4.trans q4.symm, p5.trans q5.symm, p6.trans q6.symm⟩
        · obtain ⟨p1, p2, p3, p4, p5, p6⟩ := HZ.out hz
          obtain ⟨q1, q2, q3, q4, q5, q6⟩ := hz6 hz
          exact sameB_true.2 ⟨by rw [p1, q1], p2.trans q2.symm, p3.trans q3.symm, p4.trans q4.symm, by rw [p5, q5], p6.trans q6.symm⟩
      have heq := fun wx => eqAtom n5 op5 v5 sl5 f5 on5 n6 op6 v6 sl6 f6 on6 wx
      rw [hsm] at heq
      clear hsm hp6 hz6 k5
      obtain ⟨hcb5, _, hlb5⟩ := b5.out.facts
      go_wp2_with fail
      go_ret
      exact ⟨rfl, K5.alloc' _⟩
end Go.Proofs.YtkckkjpkidcbnaaDoor
