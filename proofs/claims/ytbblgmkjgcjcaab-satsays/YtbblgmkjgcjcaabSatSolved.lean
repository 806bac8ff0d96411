/- The closed fact of solving: one has a model, one has none, one takes too many steps. -/
import Derived.Test.YtbblgmkjgcjcaabSatSolve
import Derived.Test.YtbblgmkjgcjcaabSatClosed
import Derived.Test.YtbblgmkjgcjcaabSatEq
import Derived.Test.YtbblgmkjgcjcaabRupLaw
namespace Go.Proofs.Ytbblgmkjgcjcaab
open Go.RowKit Go.Lib

theorem e1_small : ∀ c ∈ E1, c.length ≤ 60 ∧ LitsC 2 c := fun c hc => ⟨(by revert c; decide : ∀ c ∈ E1, c.length ≤ 60) c hc, e1_lits c hc⟩
theorem e2_small : ∀ c ∈ E2, c.length ≤ 60 ∧ LitsC 2 c := f1_lits
theorem solA_e1 : solA 2 E1 9 = ⟨0, [false, true], []⟩ := by
  have h := solA_right (n := 2) (F := E1) (steps := 9) (formE_back (n := 2) (by decide) (by decide) e1_small) (by decide) (by decide)
  have e : (solv 2 E1 (9 : Int).toNat) = ⟨.model [false, true], 7, []⟩ := solv_e1
  rw [e] at h; exact h
theorem solA_e2 : solA 2 E2 9 = ⟨0, [], [[1], [-1], []]⟩ := by
  have h := solA_right (n := 2) (F := E2) (steps := 9) (formE_back (n := 2) (by decide) (by decide) e2_small) (by decide) (by decide)
  have e : (solv 2 E2 (9 : Int).toNat) = ⟨.closed, 6, [[1], [-1], []]⟩ := solv_e2
  rw [e] at h; exact h
theorem solA_e3 : solA 2 [] 2 = ⟨8, [], []⟩ := by
  have h := solA_right (n := 2) (F := []) (steps := 2) (formE_back (n := 2) (by decide) (by decide) (by simp)) (by decide) (by decide)
  have e : (solv 2 [] (2 : Int).toNat).o = .out := solv_e3
  unfold ansOf at h
  rw [e] at h; exact h

set_option maxHeartbeats 4000000 in
set_option maxRecDepth 100000 in
theorem solved_any (w : World) : Calls Try.prog 34 #[] w fun e w' => e = .returned (.bool true) ∧ Keep w w' := by
  go_enter Try.func34, Try.ntmps34
  have b0 := hid (put_cls w E1 (fun c hc => Nat.le_trans (e1_small c hc).1 (by omega)) (by decide))
  go_wp2_with fail
  refine at_calls (fun W' => Keep w W' ∧ W'.heap.size = w.heap.size + E1.length + 1 ∧ ClsIs (fun b => w.heap.size ≤ b ∧ b < W'.heap.size) W' E1 (.slice (some ⟨w.heap.size + 1, 0, none⟩) E1.length E1.length)) ?_ ?_
  · exact b0.out
  rintro W0 ⟨k0, s0, c0⟩
  refine (solve_any (fun b => w.heap.size ≤ b ∧ b < W0.heap.size) 2 E1 (some ⟨w.heap.size + 1, 0, none⟩) 1 9 W0 (fun b hb => hb.2) ⟨c0, lits_num (n := 2) (by omega) e1_small⟩).mono ?_
  rintro e w1 hd
  rw [solA_e1] at hd
  obtain ⟨k1, mv1, pv1, rfl, hm1, hp1⟩ := hd
  have HM1 := hid hm1
  have HP1 := hid hp1
  obtain ⟨mp1, mc1, rfl, -⟩ := hm1.shape
  obtain ⟨pp1, pc1, rfl, -⟩ := hp1.len
  have K1 := hid (k0.trans k1)
  clear k0 s0 c0 k1 hm1 hp1 b0
  go_upto_region 2 with fail
  refine at_wp (fun W' => Keep w1 W' ∧ BoxAt w1.heap.size 53 #[.slice mp1 2 mc1, .slice pp1 0 pc1] W') ⟨Keep.alloc _ _, BoxAt.new _ _ _⟩ ?_
  rintro W1 ⟨k1, b1⟩
  have KB := hid (show Keep w W1 from K1.out.trans k1)
  have B1 := hid b1
  have M1 := hid (HM1.out.keep (B := w1.heap.size) (fun b hb => hb.2) k1)
  have L1 := hid k1.size
  clear k1 b1 HM1 HP1 K1
  generalize w1.heap.size = ba at B1 M1 L1 ⊢
  have b0 := hid (put_cls W1 E2 (fun c hc => Nat.le_trans (e2_small c hc).1 (by omega)) (by decide))
  go_wp2_with fail
  refine at_calls (fun W' => Keep W1 W' ∧ W'.heap.size = W1.heap.size + E2.length + 1 ∧ ClsIs (fun b => W1.heap.size ≤ b ∧ b < W'.heap.size) W' E2 (.slice (some ⟨W1.heap.size + 1 + 1 + 1 + 1, 0, none⟩) E2.length E2.length)) ?_ ?_
  · exact b0.out
  rintro W2 ⟨k2, s2, c2⟩
  refine (solve_any (fun b => W1.heap.size ≤ b ∧ b < W2.heap.size) 2 E2 (some ⟨W1.heap.size + 1 + 1 + 1 + 1, 0, none⟩) 4 9 W2 (fun b hb => hb.2) ⟨c2, lits_num (n := 2) (by omega) e2_small⟩).mono ?_
  rintro e w3 hd
  rw [solA_e2] at hd
  obtain ⟨k3, mv3, pv3, rfl, hm3, hp3⟩ := hd
  have HP3 := hid hp3
  obtain ⟨mp3, mc3, rfl, -⟩ := hm3.shape
  obtain ⟨pp3, pc3, rfl, -⟩ := hp3.len
  have K3 := hid (k2.trans k3)
  clear k2 s2 c2 k3 hm3 hp3 b0
  go_upto_region 3 with fail
  refine at_wp (fun W' => Keep w3 W' ∧ BoxAt w3.heap.size 53 #[.slice mp3 0 mc3, .slice pp3 3 pc3] W') ⟨Keep.alloc _ _, BoxAt.new _ _ _⟩ ?_
  rintro W3 ⟨k4, b4⟩
  have KC := hid (show Keep w W3 from KB.out.trans (K3.out.trans k4))
  have B3 := hid b4
  have B1b := hid (B1.out.keep (K3.out.trans k4) B1.out.facts.2.2)
  have M1b := hid (M1.out.keep (B := W1.heap.size) (fun b hb => Nat.lt_of_lt_of_le hb.2 L1.out) (K3.out.trans k4))
  have P3 := hid (HP3.out.keep (B := w3.heap.size) (fun b hb => hb.2) k4)
  have L3 := hid k4.size
  have L13 := hid (Nat.le_trans L1.out (K3.out.trans k4).size)
  clear k4 b4 HP3 K3 B1 M1 KB L1
  generalize w3.heap.size = bb at B3 P3 L3 ⊢
  have b0 := hid (solve_any (fun _ => False) 2 [] none 0 2 W3 (fun b hb => hb.elim) ⟨cls_nil _ _, by simp⟩)
  go_wp2_with fail
  refine b0.out.mono ?_
  rintro e w5 hd
  rw [solA_e3] at hd
  obtain ⟨k5, mv5, pv5, rfl, hm5, hp5⟩ := hd
  obtain ⟨mp5, mc5, rfl, -⟩ := hm5.shape
  obtain ⟨pp5, pc5, rfl, -⟩ := hp5.len
  have K5 := hid k5
  clear k5 hm5 hp5 b0
  go_upto_region 4 with fail
  refine at_wp (fun W' => Keep w5 W') (Keep.alloc _ _) ?_
  rintro W5 k6
  have KD := hid (show Keep w W5 from KC.out.trans (K5.out.trans k6))
  have B1c := hid (B1b.out.keep (K5.out.trans k6) B1b.out.facts.2.2)
  have B3c := hid (B3.out.keep (K5.out.trans k6) B3.out.facts.2.2)
  have M1c := hid (M1b.out.keep (B := W3.heap.size) (fun b hb => Nat.lt_of_lt_of_le hb.2 L13.out) (K5.out.trans k6))
  have P3c := hid (P3.out.keep (B := W3.heap.size) (fun b hb => Nat.lt_of_lt_of_le hb.2 L3.out) (K5.out.trans k6))
  have Lc := hid (K5.out.trans k6).size
  clear k6 K5 B1b B3 M1b P3 KC
  obtain ⟨hcb, -, hlb⟩ := B1c.out.facts
  have hc0 : W5.cell? ⟨ba, 0, none⟩ = some (.slice mp1 2 mc1) := hcb 0
  clear hcb
  go_wp2_with fail
  refine at_calls (fun W' => Keep W5 W' ∧ BoolsIs (fun b => b = W5.heap.size) W' [false, true] (.slice (some ⟨W5.heap.size, 0, none⟩) 2 2) ∧ W5.heap.size < W'.heap.size) ?_ ?_
  · have bx := BoxAt.new W5 4 #[.bool false, .bool true]
    refine ⟨Keep.alloc _ _, ⟨_, 2, rfl, by simp, fun _ => ⟨_, 0, rfl, rfl, fun j x hx => ?_⟩⟩, by rw [alloc_size]; omega⟩
    rw [Nat.zero_add, bx.facts.1]
    match j with
    | 0 => simpa using hx
    | 1 => simpa using hx
    | j + 2 => simp at hx
  rintro W6 ⟨k6, n6, s6⟩
  refine (equalB_any (fun b => b < W6.heap.size) [false, true] [false, true] _ _ W6 (fun b hb => hb) ((M1c.out.keep (B := W5.heap.size) (fun b hb => by have := hb.2; have := L13.out; have := Lc.out; omega) k6).mono (fun _ _ => rfl) (fun b hb => by have := hb.2; have := L13.out; have := Lc.out; have := k6.size; omega)) (n6.mono (fun _ _ => rfl) (fun b hb => by rw [hb]; exact s6))).mono ?_
  rintro e w7 ⟨rfl, k7⟩
  have KE := hid (show Keep W5 w7 from k6.trans k7)
  clear k6 n6 s6 k7 hc0
  have B3d := hid (B3c.out.keep KE.out B3c.out.facts.2.2)
  have P3d := hid (P3c.out.keep (B := W5.heap.size) (fun b hb => by have := hb.2; have := L3.out; have := Lc.out; omega) KE.out)
  have hLd := KE.out.size
  obtain ⟨hcb, -, hlb3⟩ := B3d.out.facts
  have hc1 : w7.cell? ⟨bb, 1, none⟩ = some (.slice pp3 3 pc3) := hcb 1
  clear hcb
  have b0 := hid (put_cls w7 [[1], [-1], []] (by intro c hc; simp at hc; rcases hc with rfl | rfl | rfl <;> simp) (by decide))
  have heq : ([false, true] == [false, true]) = true := by decide
  rw [heq]
  clear heq
  go_wp2_with fail
  refine at_calls (fun W' => Keep w7 W' ∧ W'.heap.size = w7.heap.size + 3 + 1 ∧ ClsIs (fun b => w7.heap.size ≤ b ∧ b < W'.heap.size) W' [[1], [-1], []] (.slice (some ⟨w7.heap.size + 1 + 1 + 1, 0, none⟩) 3 3)) ?_ ?_
  · exact b0.out
  rintro W8 ⟨k8, s8, c8⟩
  refine (sameClauses_any (fun b => b < W8.heap.size) [[1], [-1], []] [[1], [-1], []] _ _ W8 (fun b hb => hb) ((P3d.out.keep (B := w7.heap.size) (fun b hb => by have := hb.2; have := L3.out; have := Lc.out; omega) k8).mono (fun _ _ => rfl) (fun b hb => by have := hb.2; have := L3.out; have := Lc.out; have := k8.size; omega)) (c8.mono (fun _ _ => rfl) (fun b hb => hb.2))).mono ?_
  rintro e w9 ⟨rfl, k9⟩
  have KF := hid (KD.out.trans (KE.out.trans (k8.trans k9)))
  have heq : (([[1], [-1], []] : List (List Int)) == [[1], [-1], []]) = true := by decide
  rw [heq]
  clear heq k8 s8 c8 k9 b0 hc1
  go_wp2_with fail
  go_ret
  exact ⟨rfl, KF.out⟩
end Go.Proofs.Ytbblgmkjgcjcaab
