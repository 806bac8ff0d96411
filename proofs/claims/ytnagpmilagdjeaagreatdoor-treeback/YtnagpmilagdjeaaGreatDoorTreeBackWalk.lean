/- TreeBack's walk: of any tree and any text the law returns true. -/
import Derived.Test.YtnagpmilagdjeaaGreatDoorTreePrint
import Derived.Test.YtnagpmilagdjeaaGreatDoorTreeSame
namespace Go.Proofs.YtnagpmilagdjeaaGreatDoor
open Go.RowKit

set_option maxHeartbeats 8000000 in
set_option maxRecDepth 100000 in
theorem treeBack_walk (S : Nat → Prop) (ps : List PK) (v : Value) (s : ByteArray) (w : World) (hS : ∀ b, S b → b < w.heap.size) (hp : PkgsIs S w ps v) (hE : Env w) (hM : MaxAt w) :
    Calls Tryz.prog 6 #[.agg #[v], .string s] w fun e w' => e = .returned (.bool true) ∧ Keep w w' := by
  have HP := hid hp
  have HE := hid hE
  have HM := hid hM
  obtain ⟨tp, tc, rfl, hlen⟩ := hp.len
  clear hp hE hM
  go_enter Tryz.func6, Tryz.ntmps6
  go_wp2_with fail
  refine at_calls (fun W' => Keep w W' ∧ VarAt w.heap.size 44 (.slice tp ps.length tc) W') ⟨Keep.alloc _ _, VarAt.new _ _ _⟩ ?_
  rintro W0 ⟨k0, v0⟩
  refine (treePrint_any S ps _ W0 (fun b hb => Nat.lt_of_lt_of_le (hS b hb) k0.size) (HP.out.keep hS k0) (HE.out.keep k0).1).mono ?_
  rintro e w1 ⟨s1, rfl, hs1, k1⟩
  have K1 := hid (k0.trans k1)
  have V1 := hid (v0.keep k1 v0.facts.2.2)
  clear k0 v0 k1
  by_cases hc : chkT ps = 0
  · have HC := hid hc
    have HT1 := hid (hs1 hc)
    rw [hc]
    clear hc hs1
    go_wp2_with fail
    refine (treeParse_any s1 w1 (HE.out.keep K1.out) (HM.out.keep K1.out)).mono ?_
    rintro e w2 ⟨v2, rfl, -, hp2, k2⟩
    obtain ⟨p2, c2, rfl, hl2⟩ := hp2.len
    have HP2 := hid hp2
    have K2 := hid (K1.out.trans k2)
    have V2 := hid (V1.out.keep k2 V1.out.facts.2.2)
    have hs1z := size_list s1
    clear hp2 k2 V1
    by_cases hl : s1.size ≤ 20000
    · have HRT : Hid (rdT s1.data.toList = (0, 0, ps)) := by show _ = _; rw [HT1.out]; exact rdT_text HC.out (by rw [← HT1.out, hs1z]; exact hl)
      rw [HRT.out] at HP2 hl2 ⊢
      simp only at HP2 hl2 ⊢
      have hl' : (s1.size : Int) ≤ 20000 := by omega
      have hd : decide ((s1.size : Int) ≤ 20000) = true := decide_eq_true hl'
      obtain ⟨hc2, -, hlt2⟩ := V2.out.facts
      go_wp2_with fail
      refine at_calls (fun W' => Keep w W' ∧ Keep w2 W') ⟨K2.out.alloc' _, Keep.alloc _ _⟩ ?_
      rintro W3 ⟨k3, k23⟩
      refine (sameTree_any (fun b => b < w2.heap.size) ps _ _ W3 (fun b hb => Nat.lt_of_lt_of_le hb k23.size) (PkgsIs.keep (fun _ h => h) k23 (PkgsIs.mono (fun _ _ => rfl) (fun b hb => Nat.lt_of_lt_of_le (hS b hb) K2.out.size) (HP.out.keep hS K2.out))) (PkgsIs.keep (fun _ h => h) k23 (PkgsIs.mono (fun _ _ => rfl) (fun _ h => h.2) HP2.out))).mono ?_
      rintro e w4 ⟨rfl, k4⟩
      have K4 := hid (k3.trans k4)
      clear k3 k23 k4 hc2
      go_wp2_with fail
      refine (treeParse_any s _ (HE.out.keep K4.out) (HM.out.keep K4.out)).mono ?_
      rintro e w5 ⟨v5, rfl, -, hp5, k5⟩
      have HP5 := hid hp5
      have K5' := hid k5
      have K5 := hid (K4.out.trans k5)
      have HRD := hid (rdT_forth (l := s.data.toList))
      obtain ⟨p5, c5, rfl, hl5⟩ := hp5.len
      clear hp5 k5
      generalize rdT s.data.toList = rr at HP5 HRD hl5 ⊢
      obtain ⟨re, ra, rp⟩ := rr
      simp only at HP5 HRD hl5 ⊢
      by_cases hz : re = 0
      · subst hz
        obtain ⟨hck, htx⟩ := HRD.out rfl
        have HCK := hid hck
        have HTX := hid htx
        clear hck htx
        go_wp2_with fail
        refine at_calls (fun W' => Keep w W' ∧ Keep w5 W' ∧ VarAt w5.heap.size 44 (.slice p5 rp.length c5) W') ⟨K5.out.alloc' _, Keep.alloc _ _, VarAt.new _ _ _⟩ ?_
        rintro W6 ⟨k6, k56, v6⟩
        refine (forest_any W6 (HE.out.keep k6) (HM.out.keep k6)).mono ?_
        rintro e w7 ⟨rfl, k7⟩
        have K7 := hid (k6.trans k7)
        have K57 := hid (k56.trans k7)
        have V7 := hid (v6.keep k7 v6.facts.2.2)
        clear k6 k56 v6 k7
        obtain ⟨hc7, -, hl7⟩ := V7.out.facts
        go_wp2_with fail
        refine (treePrint_any (fun b => b < w5.heap.size) rp _ w7 (fun b hb => Nat.lt_of_lt_of_le hb K57.out.size) (PkgsIs.keep (fun _ h => h) K57.out (PkgsIs.mono (fun _ _ => rfl) (fun _ h => h.2) HP5.out)) (HE.out.keep K7.out).1).mono ?_
        rintro e w8 ⟨t8, rfl, ht8, k8⟩
        have K8 := hid (K7.out.trans k8)
        have heq : (t8.toList == s.toList) = true := by rw [Lib.toList_data, Lib.toList_data, ht8 HCK.out, HTX.out]; simp
        rw [HCK.out]
        clear ht8 k8 hc7
        go_wp2_with fail
        go_ret
        exact ⟨rfl, K8.out⟩
      · have hz1 : (re == 0) = false := by simp [hz]
        have hz2 : (re != 0) = true := by simp [hz]
        clear hz
        go_wp2_with fail
        refine at_calls (fun W' => Keep w W') (K5.out.alloc' _) ?_
        intro W6 k6
        have K6 := hid k6
        clear k6
        refine (forest_any W6 (HE.out.keep K6.out) (HM.out.keep K6.out)).mono ?_
        rintro e w7 ⟨rfl, k7⟩
        have K7 := hid (K6.out.trans k7)
        clear k7
        go_wp2_with fail
        refine (forest_any w7 (HE.out.keep K7.out) (HM.out.keep K7.out)).mono ?_
        rintro e w8 ⟨rfl, k8⟩
        have K8 := hid (K7.out.trans k8)
        clear k8
        go_wp2_with fail
        go_ret
        exact ⟨rfl, K8.out⟩
    · have hl' : ¬ (s1.size : Int) ≤ 20000 := by omega
      have hd : decide ((s1.size : Int) ≤ 20000) = false := decide_eq_false hl'
      generalize rdT s1.data.toList = rq at HP2 hl2 ⊢
      go_wp2_with fail
      refine at_calls (fun W' => Keep w W') (K2.out.alloc' _) ?_
      intro W3 k3
      have K4 := hid k3
      clear k3
      refine (treeParse_any s _ (HE.out.keep K4.out) (HM.out.keep K4.out)).mono ?_
      rintro e w5 ⟨v5, rfl, -, hp5, k5⟩
      have HP5 := hid hp5
      have K5' := hid k5
      have K5 := hid (K4.out.trans k5)
      have HRD := hid (rdT_forth (l := s.data.toList))
      obtain ⟨p5, c5, rfl, hl5⟩ := hp5.len
      clear hp5 k5
      generalize rdT s.data.toList = rr at HP5 HRD hl5 ⊢
      obtain ⟨re, ra, rp⟩ := rr
      simp only at HP5 HRD hl5 ⊢
      by_cases hz : re = 0
      · subst hz
        obtain ⟨hck, htx⟩ := HRD.out rfl
        have HCK := hid hck
        have HTX := hid htx
        clear hck htx
        go_wp2_with fail
        refine at_calls (fun W' => Keep w W' ∧ Keep w5 W' ∧ VarAt w5.heap.size 44 (.slice p5 rp.length c5) W') ⟨K5.out.alloc' _, Keep.alloc _ _, VarAt.new _ _ _⟩ ?_
        rintro W6 ⟨k6, k56, v6⟩
        refine (forest_any W6 (HE.out.keep k6) (HM.out.keep k6)).mono ?_
        rintro e w7 ⟨rfl, k7⟩
        have K7 := hid (k6.trans k7)
        have K57 := hid (k56.trans k7)
        have V7 := hid (v6.keep k7 v6.facts.2.2)
        clear k6 k56 v6 k7
        obtain ⟨hc7, -, hl7⟩ := V7.out.facts
        go_wp2_with fail
        refine (treePrint_any (fun b => b < w5.heap.size) rp _ w7 (fun b hb => Nat.lt_of_lt_of_le hb K57.out.size) (PkgsIs.keep (fun _ h => h) K57.out (PkgsIs.mono (fun _ _ => rfl) (fun _ h => h.2) HP5.out)) (HE.out.keep K7.out).1).mono ?_
        rintro e w8 ⟨t8, rfl, ht8, k8⟩
        have K8 := hid (K7.out.trans k8)
        have heq : (t8.toList == s.toList) = true := by rw [Lib.toList_data, Lib.toList_data, ht8 HCK.out, HTX.out]; simp
        rw [HCK.out]
        clear ht8 k8 hc7
        go_wp2_with fail
        go_ret
        exact ⟨rfl, K8.out⟩
      · have hz1 : (re == 0) = false := by simp [hz]
        have hz2 : (re != 0) = true := by simp [hz]
        clear hz
        go_wp2_with fail
        refine at_calls (fun W' => Keep w W') (K5.out.alloc' _) ?_
        intro W6 k6
        have K6 := hid k6
        clear k6
        refine (forest_any W6 (HE.out.keep K6.out) (HM.out.keep K6.out)).mono ?_
        rintro e w7 ⟨rfl, k7⟩
        have K7 := hid (K6.out.trans k7)
        clear k7
        go_wp2_with fail
        refine (forest_any w7 (HE.out.keep K7.out) (HM.out.keep K7.out)).mono ?_
        rintro e w8 ⟨rfl, k8⟩
        have K8 := hid (K7.out.trans k8)
        clear k8
        go_wp2_with fail
        go_ret
        exact ⟨rfl, K8.out⟩
  · have hc1 : (chkT ps == 0) = false := by simp [hc]
    have hc2 : (chkT ps != 0) = true := by simp [hc]
    clear hc hs1
    go_wp2_with fail
    refine (treeParse_any s _ (HE.out.keep K1.out) (HM.out.keep K1.out)).mono ?_
    rintro e w5 ⟨v5, rfl, -, hp5, k5⟩
    have HP5 := hid hp5
    have K5' := hid k5
    have K5 := hid (K1.out.trans k5)
    have HRD := hid (rdT_forth (l := s.data.toList))
    obtain ⟨p5, c5, rfl, hl5⟩ := hp5.len
    clear hp5 k5
    generalize rdT s.data.toList = rr at HP5 HRD hl5 ⊢
    obtain ⟨re, ra, rp⟩ := rr
    simp only at HP5 HRD hl5 ⊢
    by_cases hz : re = 0
    · subst hz
      obtain ⟨hck, htx⟩ := HRD.out rfl
      have HCK := hid hck
      have HTX := hid htx
      clear hck htx
      go_wp2_with fail
      refine at_calls (fun W' => Keep w W' ∧ Keep w5 W' ∧ VarAt w5.heap.size 44 (.slice p5 rp.length c5) W') ⟨K5.out.alloc' _, Keep.alloc _ _, VarAt.new _ _ _⟩ ?_
      rintro W6 ⟨k6, k56, v6⟩
      refine (forest_any W6 (HE.out.keep k6) (HM.out.keep k6)).mono ?_
      rintro e w7 ⟨rfl, k7⟩
      have K7 := hid (k6.trans k7)
      have K57 := hid (k56.trans k7)
      have V7 := hid (v6.keep k7 v6.facts.2.2)
      clear k6 k56 v6 k7
      obtain ⟨hc7, -, hl7⟩ := V7.out.facts
      go_wp2_with fail
      refine (treePrint_any (fun b => b < w5.heap.size) rp _ w7 (fun b hb => Nat.lt_of_lt_of_le hb K57.out.size) (PkgsIs.keep (fun _ h => h) K57.out (PkgsIs.mono (fun _ _ => rfl) (fun _ h => h.2) HP5.out)) (HE.out.keep K7.out).1).mono ?_
      rintro e w8 ⟨t8, rfl, ht8, k8⟩
      have K8 := hid (K7.out.trans k8)
      have heq : (t8.toList == s.toList) = true := by rw [Lib.toList_data, Lib.toList_data, ht8 HCK.out, HTX.out]; simp
      rw [HCK.out]
      clear ht8 k8 hc7
      go_wp2_with fail
      go_ret
      exact ⟨rfl, K8.out⟩
    · have hz1 : (re == 0) = false := by simp [hz]
      have hz2 : (re != 0) = true := by simp [hz]
      clear hz
      go_wp2_with fail
      refine at_calls (fun W' => Keep w W') (K5.out.alloc' _) ?_
      intro W6 k6
      have K6 := hid k6
      clear k6
      refine (forest_any W6 (HE.out.keep K6.out) (HM.out.keep K6.out)).mono ?_
      rintro e w7 ⟨rfl, k7⟩
      have K7 := hid (K6.out.trans k7)
      clear k7
      go_wp2_with fail
      refine (forest_any w7 (HE.out.keep K7.out) (HM.out.keep K7.out)).mono ?_
      rintro e w8 ⟨rfl, k8⟩
      have K8 := hid (K7.out.trans k8)
      clear k8
      go_wp2_with fail
      go_ret
      exact ⟨rfl, K8.out⟩
end Go.Proofs.YtnagpmilagdjeaaGreatDoor
