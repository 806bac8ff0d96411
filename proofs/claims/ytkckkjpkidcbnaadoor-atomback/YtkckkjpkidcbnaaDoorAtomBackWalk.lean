/- AtomBack returns true, of any two atoms and any text, wherever what the program lays is laid; nothing that was there is changed. -/
import Derived.Test.YtkckkjpkidcbnaaDoorAtomAsked
namespace Go.Proofs.YtkckkjpkidcbnaaDoor
open Go.RowKit

/-- What Print answers, of any atom. -/
theorem print_any (n f : ByteArray) (op v sl : Int) (on : Bool) (w : World) (hs : Signs w) :
    Calls Tryd.prog 6 #[.agg #[.string n, .int .i64 op, .int .i64 v, .int .i64 sl, .string f, .bool on]] w fun e w' => ∃ t : ByteArray, e = .returned (.tuple #[.string t, .int .i64 (chk n.data.toList op v sl f.data.toList on)]) ∧ (chk n.data.toList op v sl f.data.toList on = 0 → t.data.toList = textOf n.data.toList op v sl f.data.toList on) ∧ (chk n.data.toList op v sl f.data.toList on ≠ 0 → t = ⟨#[]⟩) ∧ Keep w w' := by
  by_cases h : chk n.data.toList op v sl f.data.toList on = 0
  · refine (print_ok n f op v sl on w hs h).mono ?_
    rintro e w' ⟨rfl, k⟩
    exact ⟨_, by rw [h], fun _ => by simp, fun e => absurd h e, k⟩
  · refine (print_bad n f op v sl on w h).mono ?_
    rintro e w' ⟨rfl, k⟩
    exact ⟨⟨#[]⟩, rfl, fun e => absurd e h, fun _ => rfl, k⟩
theorem bytes_eq {n m : ByteArray} (h : n.data.toList = m.data.toList) : n = m := by
  cases n; cases m; simp at h; rw [h]
theorem back_bytes (n : ByteArray) : (⟨n.data.toList.toArray⟩ : ByteArray) = n := bytes_eq (by simp)

set_option maxHeartbeats 4000000 in
theorem back_walk (n f : ByteArray) (op v sl : Int) (on : Bool) (n' f' : ByteArray) (op' v' sl' : Int) (on' : Bool) (s : ByteArray) (w : World) (hE : Env w) :
    Calls Tryd.prog 4 #[.agg #[.string n, .int .i64 op, .int .i64 v, .int .i64 sl, .string f, .bool on], .agg #[.string n', .int .i64 op', .int .i64 v', .int .i64 sl', .string f', .bool on'], .string s] w fun e w' => e = .returned (.bool true) ∧ Keep w w' := by
  have HE : Hid (Env w) := hE
  clear hE
  have k0 : Keep w ((w.alloc (.cells #[.string n, .int .i64 op, .int .i64 v, .int .i64 sl, .string f, .bool on] 23)).alloc (.cells #[.string n', .int .i64 op', .int .i64 v', .int .i64 sl', .string f', .bool on'] 23)) := (Keep.alloc _ _).alloc' _
  have a0 : Hid (AtomAt w.heap.size n op v sl f on ((w.alloc (.cells #[.string n, .int .i64 op, .int .i64 v, .int .i64 sl, .string f, .bool on] 23)).alloc (.cells #[.string n', .int .i64 op', .int .i64 v', .int .i64 sl', .string f', .bool on'] 23))) := two_first _ _ _
  have b0 : Hid (AtomAt (w.heap.size + 1) n' op' v' sl' f' on' ((w.alloc (.cells #[.string n, .int .i64 op, .int .i64 v, .int .i64 sl, .string f, .bool on] 23)).alloc (.cells #[.string n', .int .i64 op', .int .i64 v', .int .i64 sl', .string f', .bool on'] 23))) := two_second _ _ _
  go_enter Tryd.func4, Tryd.ntmps4
  go_wp2_with fail
  generalize ((w.alloc (.cells #[.string n, .int .i64 op, .int .i64 v, .int .i64 sl, .string f, .bool on] 23)).alloc (.cells #[.string n', .int .i64 op', .int .i64 v', .int .i64 sl', .string f', .bool on'] 23)) = W0 at k0 a0 b0 ⊢
  have hb0 : w.heap.size + 1 < W0.heap.size := b0.out.facts.2.2
  refine (print_any _ _ _ _ _ _ _ (HE.out.keep k0).1).mono ?_
  rintro e w1 ⟨t, rfl, ht, ht', k1⟩
  have K1 : Keep w w1 := k0.trans k1
  have a1 : Hid (AtomAt w.heap.size n op v sl f on w1) := a0.out.below k1 (by omega)
  have b1 : Hid (AtomAt (w.heap.size + 1) n' op' v' sl' f' on' w1) := b0.out.below k1 hb0
  have hb1 : w.heap.size + 1 < w1.heap.size := b1.out.facts.2.2
  obtain ⟨hcb1, _, _⟩ := b1.out.facts
  have HT : Hid (chk n.data.toList op v sl f.data.toList on = 0 → t.data.toList = textOf n.data.toList op v sl f.data.toList on) := ht
  clear ht ht' k1
  generalize hc : chk n.data.toList op v sl f.data.toList on = c at HT ⊢
  have HC : Hid (chk n.data.toList op v sl f.data.toList on = c) := hc
  clear hc
  go_wp2_with fail
  refine (print_any _ _ _ _ _ _ _ (HE.out.keep K1).1).mono ?_
  rintro e w2 ⟨u, rfl, hu, hu', k2⟩
  have K2 : Keep w w2 := K1.trans k2
  have a2 : Hid (AtomAt w.heap.size n op v sl f on w2) := a1.out.below k2 (by omega)
  have b2 : Hid (AtomAt (w.heap.size + 1) n' op' v' sl' f' on' w2) := b1.out.below k2 hb1
  have hb2 : w.heap.size + 1 < w2.heap.size := b2.out.facts.2.2
  have HU : Hid (chk n'.data.toList op' v' sl' f'.data.toList on' = 0 → u.data.toList = textOf n'.data.toList op' v' sl' f'.data.toList on') := hu
  clear hu hu' k2 hcb1
  generalize hd : chk n'.data.toList op' v' sl' f'.data.toList on' = d at HU ⊢
  have HD : Hid (chk n'.data.toList op' v' sl' f'.data.toList on' = d) := hd
  clear hd
  go_wp2_with fail
  refine (asked_any _ (HE.out.keep K2)).mono ?_
  rintro e w3 ⟨rfl, k3⟩
  have K3 : Keep w w3 := K2.trans k3
  have a3 : Hid (AtomAt w.heap.size n op v sl f on w3) := a2.out.below k3 (by omega)
  have b3 : Hid (AtomAt (w.heap.size + 1) n' op' v' sl' f' on' w3) := b2.out.below k3 hb2
  have hb3 : w.heap.size + 1 < w3.heap.size := b3.out.facts.2.2
  clear k3
  by_cases hc0 : c = 0
  · subst hc0
    have TT := HT.out rfl
    have HTT : Hid (t.data.toList = textOf n.data.toList op v sl f.data.toList on) := TT
    clear TT HT
    by_cases hd0 : d = 0
    · subst hd0
      have UU := HU.out rfl
      have hsame : ∃ β : Bool, (t.toList == u.toList) = β ∧ sameB n op v sl f on n' op' v' sl' f' on' = β := by
        refine ⟨_, rfl, ?_⟩
        rw [Lib.toList_data, Lib.toList_data, HTT.out, UU, Bool.eq_iff_iff, sameB_true, beq_iff_eq]
        constructor
        · rintro ⟨e1, e2, e3, e4, e5, e6⟩
          rw [e1, e2, e3, e4, e5, e6]
        · exact fun e => text_inj HC.out HD.out e
      obtain ⟨β, hβ1, hβ2⟩ := hsame
      have heq := fun wx => eqAtom n op v sl f on n' op' v' sl' f' on' wx
      rw [hβ2] at heq
      clear UU HU hβ2
      obtain ⟨hca3, _, _⟩ := a3.out.facts
      obtain ⟨hcb3, _, _⟩ := b3.out.facts
      go_wp2_with fail
      clear heq hcb3 hβ1
      refine (parse_of_text t _ (HE.out.keep K3) HC.out HTT.out).mono ?_
      rintro e w4 ⟨rfl, k4⟩
      rw [back_bytes n, back_bytes f]
      have K4 : Keep w w4 := K3.trans k4
      have a4 : Hid (AtomAt w.heap.size n op v sl f on w4) := a3.out.below k4 (by omega)
      have hb4 : w.heap.size < w4.heap.size := a4.out.facts.2.2
      clear hca3 k4
      obtain ⟨hca4, _, _⟩ := a4.out.facts
      have heq4 := fun wx => eqAtom n op v sl f on n op v sl f on wx
      have hsm : sameB n op v sl f on n op v sl f on = true := sameB_true.2 ⟨rfl, rfl, rfl, rfl, rfl, rfl⟩
      rw [hsm] at heq4
      clear hsm
      have K4a : Keep w (w4.alloc (.cells #[.string n, .int .i64 op, .int .i64 v, .int .i64 sl, .string f, .bool on] 23)) := K4.alloc' _
      have E5 : Env (w4.alloc (.cells #[.string n, .int .i64 op, .int .i64 v, .int .i64 sl, .string f, .bool on] 23)) := HE.out.keep K4a
      have HE5 : Hid (Env (w4.alloc (.cells #[.string n, .int .i64 op, .int .i64 v, .int .i64 sl, .string f, .bool on] 23))) := E5
      clear E5
      go_wp2_with fail
      refine (parse_any _ _ HE5.out).mono ?_
      rintro e w5 ⟨n5, f5, op5, v5, sl5, on5, rfl, hp5, _, k5⟩
      have K5 : Keep w w5 := K4a.trans k5
      by_cases hz : prsE s.data.toList = 0
      · have H5 := hp5 hz
        have HP5 : Hid (prsE s.data.toList = 0) := hz
        have hck : chk n5.data.toList op5 v5 sl5 f5.data.toList on5 = 0 ∧ textOf n5.data.toList op5 v5 sl5 f5.data.toList on5 = s.data.toList := by
          obtain ⟨d1, d2, d3, d4, d5, d6⟩ := H5
          rw [d1, d2, d3, d4, d5, d6]
          exact text_parse hz
        have HCK : Hid (chk n5.data.toList op5 v5 sl5 f5.data.toList on5 = 0 ∧ textOf n5.data.toList op5 v5 sl5 f5.data.toList on5 = s.data.toList) := hck
        have K6 : Keep w (w5.alloc (.cells #[.string n5, .int .i64 op5, .int .i64 v5, .int .i64 sl5, .string f5, .bool on5] 23)) := K5.alloc' _
        have E6 : Hid (Env (w5.alloc (.cells #[.string n5, .int .i64 op5, .int .i64 v5, .int .i64 sl5, .string f5, .bool on5] 23))) := HE.out.keep K6
        clear hp5 H5 hck hz
        rw [HP5.out]
        go_wp2_with fail
        refine (print_ok _ _ _ _ _ _ _ E6.out.1 HCK.out.1).mono ?_
        rintro e w7 ⟨rfl, k7⟩
        rw [HCK.out.2]
        have hss : (s.data.toList == s.toList) = true := by rw [Lib.toList_data]; simp
        have K7 : Keep w w7 := K6.trans k7
        go_wp2_with fail
        go_ret
        exact ⟨rfl, K7⟩
      · have hz' : (prsE s.data.toList == 0) = false := by simpa using hz
        clear hp5 hz
        go_wp2_with fail
        go_ret
        exact ⟨rfl, K5.alloc' _⟩
    · have hd' : (d == 0) = false := by simpa using hd0
      clear hd0 HU HD
      obtain ⟨hca3, _, _⟩ := a3.out.facts
      go_wp2_with fail
      refine (parse_of_text t _ (HE.out.keep K3) HC.out HTT.out).mono ?_
      rintro e w4 ⟨rfl, k4⟩
      rw [back_bytes n, back_bytes f]
      have K4 : Keep w w4 := K3.trans k4
      have a4 : Hid (AtomAt w.heap.size n op v sl f on w4) := a3.out.below k4 (by omega)
      have hb4 : w.heap.size < w4.heap.size := a4.out.facts.2.2
      clear hca3 k4
      obtain ⟨hca4, _, _⟩ := a4.out.facts
      have heq4 := fun wx => eqAtom n op v sl f on n op v sl f on wx
      have hsm : sameB n op v sl f on n op v sl f on = true := sameB_true.2 ⟨rfl, rfl, rfl, rfl, rfl, rfl⟩
      rw [hsm] at heq4
      clear hsm
      have K4a : Keep w (w4.alloc (.cells #[.string n, .int .i64 op, .int .i64 v, .int .i64 sl, .string f, .bool on] 23)) := K4.alloc' _
      have E5 : Env (w4.alloc (.cells #[.string n, .int .i64 op, .int .i64 v, .int .i64 sl, .string f, .bool on] 23)) := HE.out.keep K4a
      have HE5 : Hid (Env (w4.alloc (.cells #[.string n, .int .i64 op, .int .i64 v, .int .i64 sl, .string f, .bool on] 23))) := E5
      clear E5
      go_wp2_with fail
      refine (parse_any _ _ HE5.out).mono ?_
      rintro e w5 ⟨n5, f5, op5, v5, sl5, on5, rfl, hp5, _, k5⟩
      have K5 : Keep w w5 := K4a.trans k5
      by_cases hz : prsE s.data.toList = 0
      · have H5 := hp5 hz
        have HP5 : Hid (prsE s.data.toList = 0) := hz
        have hck : chk n5.data.toList op5 v5 sl5 f5.data.toList on5 = 0 ∧ textOf n5.data.toList op5 v5 sl5 f5.data.toList on5 = s.data.toList := by
          obtain ⟨d1, d2, d3, d4, d5, d6⟩ := H5
          rw [d1, d2, d3, d4, d5, d6]
          exact text_parse hz
        have HCK : Hid (chk n5.data.toList op5 v5 sl5 f5.data.toList on5 = 0 ∧ textOf n5.data.toList op5 v5 sl5 f5.data.toList on5 = s.data.toList) := hck
        have K6 : Keep w (w5.alloc (.cells #[.string n5, .int .i64 op5, .int .i64 v5, .int .i64 sl5, .string f5, .bool on5] 23)) := K5.alloc' _
        have E6 : Hid (Env (w5.alloc (.cells #[.string n5, .int .i64 op5, .int .i64 v5, .int .i64 sl5, .string f5, .bool on5] 23))) := HE.out.keep K6
        clear hp5 H5 hck hz
        rw [HP5.out]
        go_wp2_with fail
        refine (print_ok _ _ _ _ _ _ _ E6.out.1 HCK.out.1).mono ?_
        rintro e w7 ⟨rfl, k7⟩
        rw [HCK.out.2]
        have hss : (s.data.toList == s.toList) = true := by rw [Lib.toList_data]; simp
        have K7 : Keep w w7 := K6.trans k7
        go_wp2_with fail
        go_ret
        exact ⟨rfl, K7⟩
      · have hz' : (prsE s.data.toList == 0) = false := by simpa using hz
        clear hp5 hz
        go_wp2_with fail
        go_ret
        exact ⟨rfl, K5.alloc' _⟩
  · have hc' : (c == 0) = false := by simpa using hc0
    clear hc0 HT HU HD HC
    have E5 : Env w3 := HE.out.keep K3
    have HE5 : Hid (Env w3) := E5
    clear E5
    go_wp2_with fail
    refine (parse_any _ _ HE5.out).mono ?_
    rintro e w5 ⟨n5, f5, op5, v5, sl5, on5, rfl, hp5, _, k5⟩
    have K5 : Keep w w5 := K3.trans k5
    by_cases hz : prsE s.data.toList = 0
    · have H5 := hp5 hz
      have HP5 : Hid (prsE s.data.toList = 0) := hz
      have hck : chk n5.data.toList op5 v5 sl5 f5.data.toList on5 = 0 ∧ textOf n5.data.toList op5 v5 sl5 f5.data.toList on5 = s.data.toList := by
        obtain ⟨d1, d2, d3, d4, d5, d6⟩ := H5
        rw [d1, d2, d3, d4, d5, d6]
        exact text_parse hz
      have HCK : Hid (chk n5.data.toList op5 v5 sl5 f5.data.toList on5 = 0 ∧ textOf n5.data.toList op5 v5 sl5 f5.data.toList on5 = s.data.toList) := hck
      have K6 : Keep w (w5.alloc (.cells #[.string n5, .int .i64 op5, .int .i64 v5, .int .i64 sl5, .string f5, .bool on5] 23)) := K5.alloc' _
      have E6 : Hid (Env (w5.alloc (.cells #[.string n5, .int .i64 op5, .int .i64 v5, .int .i64 sl5, .string f5, .bool on5] 23))) := HE.out.keep K6
      clear hp5 H5 hck hz
      rw [HP5.out]
      go_wp2_with fail
      refine (print_ok _ _ _ _ _ _ _ E6.out.1 HCK.out.1).mono ?_
      rintro e w7 ⟨rfl, k7⟩
      rw [HCK.out.2]
      have hss : (s.data.toList == s.toList) = true := by rw [Lib.toList_data]; simp
      have K7 : Keep w w7 := K6.trans k7
      go_wp2_with fail
      go_ret
      exact ⟨rfl, K7⟩
    · have hz' : (prsE s.data.toList == 0) = false := by simpa using hz
      clear hp5 hz
      go_wp2_with fail
      go_ret
      exact ⟨rfl, K5.alloc' _⟩
end Go.Proofs.YtkckkjpkidcbnaaDoor
