/- SatSays returns true, of any formula and number that lie in memory; nothing that was there is changed. -/
import Derived.Test.YtbblgmkjgcjcaabSatRSolved
import Derived.Test.YtbblgmkjgcjcaabSatSolved
import Derived.Test.YtbblgmkjgcjcaabRupRef
namespace Go.Proofs.Ytbblgmkjgcjcaab
open Go.RowKit Go.Lib

set_option maxHeartbeats 8000000 in
set_option maxRecDepth 100000 in
theorem satSays_walk (S : Nat → Prop) (vars : Int) (F : List (List Int)) (steps : Int) (p : Option Addr) (cap : Nat) (w : World) (hS : ∀ b, S b → b < w.heap.size) (hf : FormIs S w vars F p cap) :
    Calls Try.prog 8 #[.agg #[.int .i64 vars, .slice p F.length cap], .int .i64 steps] w fun e w' => e = .returned (.bool true) ∧ Keep w w' := by
  have HF := hid hf
  clear hf
  go_enter Try.func8, Try.ntmps8
  go_wp2_with fail
  refine at_calls (fun W' => Keep w W' ∧ BoxAt w.heap.size 24 #[.int .i64 vars, .slice p F.length cap] W') ⟨Keep.alloc _ _, BoxAt.new _ _ _⟩ ?_
  rintro W0 ⟨k0, b0⟩
  refine (solve_any S vars F p cap steps W0 (fun b hb => Nat.lt_of_lt_of_le (hS b hb) k0.size) (HF.out.keep hS k0)).mono ?_
  rintro e w1 ⟨k1, mv, pv, rfl, hm, hp⟩
  have HE := hid (show solA vars F steps = if formE vars F ≠ 0 then ⟨formE vars F, [], []⟩ else if steps < 1 ∨ 40000 < steps then ⟨3, [], []⟩ else ansOf (solv vars.toNat F steps.toNat) from rfl)
  generalize solA vars F steps = a at hm hp HE ⊢
  have HM1 := hid hm
  have HP1 := hid hp
  obtain ⟨mp, mc, rfl, hml⟩ := hm.shape
  obtain ⟨pp, pc, rfl, hpl⟩ := hp.len
  have K1 := hid (k0.trans k1)
  have B1 := hid (b0.keep k1 b0.facts.2.2)
  clear k0 b0 k1 hm hp
  go_upto_region 2 with fail
  refine at_wp (fun W' => Keep w1 W' ∧ BoxAt w1.heap.size 53 #[.slice mp a.m.length mc, .slice pp a.P.length pc] W') ⟨Keep.alloc _ _, BoxAt.new _ _ _⟩ ?_
  rintro W1 ⟨k2, b2⟩
  have KW := hid (K1.out.trans k2)
  have BF := hid (B1.out.keep k2 B1.out.facts.2.2)
  have BA := hid b2
  have MW := hid ((HM1.out.keep (B := w1.heap.size) (fun b hb => hb.2) k2).mono (S' := fun b => b < W1.heap.size) (fun _ _ => rfl) fun b hb => Nat.lt_of_lt_of_le hb.2 k2.size)
  have PW := hid ((HP1.out.keep (B := w1.heap.size) (fun b hb => hb.2) k2).mono (S' := fun b => b < W1.heap.size) (fun _ _ => rfl) fun b hb => Nat.lt_of_lt_of_le hb.2 k2.size)
  clear k2 b2 HM1 HP1 K1 B1
  generalize w1.heap.size = ba at BA ⊢
  obtain ⟨hcb, -, hlb⟩ := BF.out.facts
  have hc0 : W1.cell? ⟨w.heap.size, 0, none⟩ = some (.int .i64 vars) := hcb 0
  have hc1 : W1.cell? ⟨w.heap.size, 1, none⟩ = some (.slice p F.length cap) := hcb 1
  clear hcb
  go_wp2_with fail
  refine (refFormula_any S vars F p cap W1 (fun b hb => Nat.lt_of_lt_of_le (hS b hb) KW.out.size) (HF.out.keep hS KW.out)).mono ?_
  rintro e w2 ⟨rfl, hw2⟩
  have k2 : Keep W1 w2 := by rw [hw2]; exact Keep.alloc _ _
  have K2 := hid k2
  have KX := hid (KW.out.trans k2)
  have BF2 := hid (BF.out.keep k2 BF.out.facts.2.2)
  have BA2 := hid (BA.out.keep k2 BA.out.facts.2.2)
  have MW2 := hid ((MW.out.keep (B := W1.heap.size) (fun b hb => hb) k2).mono (S' := fun b => b < w2.heap.size) (fun _ _ => rfl) fun b hb => Nat.lt_of_lt_of_le hb k2.size)
  have PW2 := hid ((PW.out.keep (B := W1.heap.size) (fun b hb => hb) k2).mono (S' := fun b => b < w2.heap.size) (fun _ _ => rfl) fun b hb => Nat.lt_of_lt_of_le hb k2.size)
  clear hw2 k2 hc0 hc1 BF BA MW PW KW K2
  have HZ := hid (fun h : formE vars F = 0 => formE_zero h)
  generalize formE vars F = r at HE HZ ⊢
  by_cases hr : r = 0
  rotate_left
  · have hr' : (r == 0) = false := beq_eq_false_iff_ne.2 hr
    have HE2 := hid (HE.out.trans (if_pos hr))
    clear hr
    have HER := hid (show (a.er == r) = true by rw [HE2.out]; simp)
    have HMEQ := hid (show (a.m == []) = true by rw [HE2.out]; rfl)
    have HPEQ := hid (show (a.P == []) = true by rw [HE2.out]; rfl)
    go_upto_region 6 with fail
    refine at_wp (fun W' => Keep w2 W' ∧ BoxAt w2.heap.size 53 #[.slice none 0 0, .slice none 0 0] W') ⟨Keep.alloc _ _, BoxAt.new _ _ _⟩ ?_
    rintro W3 ⟨k3, q3⟩
    have K3 := hid (KX.out.trans k3)
    have A3 := hid (BA2.out.keep k3 BA2.out.facts.2.2)
    have Q3 := hid q3
    have MA := hid ((MW2.out.keep (B := w2.heap.size) (fun b hb => hb) k3).mono (S' := fun b => b < W3.heap.size) (fun _ _ => rfl) fun b hb => Nat.lt_of_lt_of_le hb k3.size)
    have PA := hid ((PW2.out.keep (B := w2.heap.size) (fun b hb => hb) k3).mono (S' := fun b => b < W3.heap.size) (fun _ _ => rfl) fun b hb => Nat.lt_of_lt_of_le hb k3.size)
    have MQ := hid (bools_nil (fun b => b < W3.heap.size) W3)
    have PQ := hid (cls_nil (fun b => b < W3.heap.size) W3)
    clear k3 q3
    generalize w2.heap.size = bw at Q3 ⊢
    have her : (a.er == r) = true := HER.out
    have HL3 := hid (And.intro A3.out.facts.2.2 Q3.out.facts.2.2)
    go_wp2_with fail
    refine (solved_any W3).mono ?_
    rintro e w4 ⟨rfl, k4⟩
    have K4 := hid (K3.out.trans k4)
    have A4 := hid (A3.out.keep k4 A3.out.facts.2.2)
    have Q4 := hid (Q3.out.keep k4 Q3.out.facts.2.2)
    have MA4 := hid ((MA.out.keep (B := W3.heap.size) (fun b hb => hb) k4).mono (S' := fun b => b < w4.heap.size) (fun _ _ => rfl) fun b hb => Nat.lt_of_lt_of_le hb k4.size)
    have PA4 := hid ((PA.out.keep (B := W3.heap.size) (fun b hb => hb) k4).mono (S' := fun b => b < w4.heap.size) (fun _ _ => rfl) fun b hb => Nat.lt_of_lt_of_le hb k4.size)
    have MQ4 := hid ((MQ.out.keep (B := W3.heap.size) (fun b hb => hb) k4).mono (S' := fun b => b < w4.heap.size) (fun _ _ => rfl) fun b hb => Nat.lt_of_lt_of_le hb k4.size)
    have PQ4 := hid ((PQ.out.keep (B := W3.heap.size) (fun b hb => hb) k4).mono (S' := fun b => b < w4.heap.size) (fun _ _ => rfl) fun b hb => Nat.lt_of_lt_of_le hb k4.size)
    clear k4
    obtain ⟨hca, -, hla4⟩ := A4.out.facts
    have ha0 : w4.cell? ⟨ba, 0, none⟩ = some (.slice mp a.m.length mc) := hca 0
    obtain ⟨hcq, -, hlq4⟩ := Q4.out.facts
    have hq0 : w4.cell? ⟨bw, 0, none⟩ = some (.slice none 0 0) := hcq 0
    clear hca hcq
    go_wp2_with fail
    refine (equalB_any (fun b => b < w4.heap.size) a.m [] (.slice mp a.m.length mc) (.slice none 0 0) w4 (fun b hb => hb) MA4.out MQ4.out).mono ?_
    rintro e w5 ⟨rfl, k5⟩
    have K5 := hid (K4.out.trans k5)
    have A5 := hid (A4.out.keep k5 A4.out.facts.2.2)
    have Q5 := hid (Q4.out.keep k5 Q4.out.facts.2.2)
    have PA5 := hid ((PA4.out.keep (B := w4.heap.size) (fun b hb => hb) k5).mono (S' := fun b => b < w5.heap.size) (fun _ _ => rfl) fun b hb => Nat.lt_of_lt_of_le hb k5.size)
    have PQ5 := hid ((PQ4.out.keep (B := w4.heap.size) (fun b hb => hb) k5).mono (S' := fun b => b < w5.heap.size) (fun _ _ => rfl) fun b hb => Nat.lt_of_lt_of_le hb k5.size)
    rw [HMEQ.out]
    clear k5 ha0 hq0
    obtain ⟨hca, -, hla5⟩ := A5.out.facts
    have ha1 : w5.cell? ⟨ba, 1, none⟩ = some (.slice pp a.P.length pc) := hca 1
    obtain ⟨hcq, -, hlq5⟩ := Q5.out.facts
    have hq1 : w5.cell? ⟨bw, 1, none⟩ = some (.slice none 0 0) := hcq 1
    clear hca hcq
    go_wp2_with fail
    refine (sameClauses_any (fun b => b < w5.heap.size) a.P [] (.slice pp a.P.length pc) (.slice none 0 0) w5 (fun b hb => hb) PA5.out PQ5.out).mono ?_
    rintro e w6 ⟨rfl, k6⟩
    have K6 := hid (K5.out.trans k6)
    rw [HPEQ.out]
    clear k6 ha1 hq1
    go_wp2_with fail
    go_ret
    exact ⟨rfl, K6.out⟩
  have hr' : (r == 0) = true := by rw [hr]; rfl
  obtain ⟨n, hvn, hn4, hFl, hcl⟩ := HZ.out hr
  have HCL := hid hcl
  have HE2 := hid (HE.out.trans (if_neg (by simp [hr])))
  clear hcl HE HZ
  subst hr
  subst hvn
  by_cases hs1 : steps < 1
  · have HE3 := hid (HE2.out.trans (if_pos (.inl hs1)))
    have HER := hid (show (a.er == 3) = true by rw [HE3.out]; simp)
    have HMEQ := hid (show (a.m == []) = true by rw [HE3.out]; rfl)
    have HPEQ := hid (show (a.P == []) = true by rw [HE3.out]; rfl)
    go_upto_region 6 with fail
    refine at_wp (fun W' => Keep w2 W' ∧ BoxAt w2.heap.size 53 #[.slice none 0 0, .slice none 0 0] W') ⟨Keep.alloc _ _, BoxAt.new _ _ _⟩ ?_
    rintro W3 ⟨k3, q3⟩
    have K3 := hid (KX.out.trans k3)
    have A3 := hid (BA2.out.keep k3 BA2.out.facts.2.2)
    have Q3 := hid q3
    have MA := hid ((MW2.out.keep (B := w2.heap.size) (fun b hb => hb) k3).mono (S' := fun b => b < W3.heap.size) (fun _ _ => rfl) fun b hb => Nat.lt_of_lt_of_le hb k3.size)
    have PA := hid ((PW2.out.keep (B := w2.heap.size) (fun b hb => hb) k3).mono (S' := fun b => b < W3.heap.size) (fun _ _ => rfl) fun b hb => Nat.lt_of_lt_of_le hb k3.size)
    have MQ := hid (bools_nil (fun b => b < W3.heap.size) W3)
    have PQ := hid (cls_nil (fun b => b < W3.heap.size) W3)
    clear k3 q3
    generalize w2.heap.size = bw at Q3 ⊢
    have her : (a.er == 3) = true := HER.out
    have HL3 := hid (And.intro A3.out.facts.2.2 Q3.out.facts.2.2)
    go_wp2_with fail
    refine (solved_any W3).mono ?_
    rintro e w4 ⟨rfl, k4⟩
    have K4 := hid (K3.out.trans k4)
    have A4 := hid (A3.out.keep k4 A3.out.facts.2.2)
    have Q4 := hid (Q3.out.keep k4 Q3.out.facts.2.2)
    have MA4 := hid ((MA.out.keep (B := W3.heap.size) (fun b hb => hb) k4).mono (S' := fun b => b < w4.heap.size) (fun _ _ => rfl) fun b hb => Nat.lt_of_lt_of_le hb k4.size)
    have PA4 := hid ((PA.out.keep (B := W3.heap.size) (fun b hb => hb) k4).mono (S' := fun b => b < w4.heap.size) (fun _ _ => rfl) fun b hb => Nat.lt_of_lt_of_le hb k4.size)
    have MQ4 := hid ((MQ.out.keep (B := W3.heap.size) (fun b hb => hb) k4).mono (S' := fun b => b < w4.heap.size) (fun _ _ => rfl) fun b hb => Nat.lt_of_lt_of_le hb k4.size)
    have PQ4 := hid ((PQ.out.keep (B := W3.heap.size) (fun b hb => hb) k4).mono (S' := fun b => b < w4.heap.size) (fun _ _ => rfl) fun b hb => Nat.lt_of_lt_of_le hb k4.size)
    clear k4
    obtain ⟨hca, -, hla4⟩ := A4.out.facts
    have ha0 : w4.cell? ⟨ba, 0, none⟩ = some (.slice mp a.m.length mc) := hca 0
    obtain ⟨hcq, -, hlq4⟩ := Q4.out.facts
    have hq0 : w4.cell? ⟨bw, 0, none⟩ = some (.slice none 0 0) := hcq 0
    clear hca hcq
    go_wp2_with fail
    refine (equalB_any (fun b => b < w4.heap.size) a.m [] (.slice mp a.m.length mc) (.slice none 0 0) w4 (fun b hb => hb) MA4.out MQ4.out).mono ?_
    rintro e w5 ⟨rfl, k5⟩
    have K5 := hid (K4.out.trans k5)
    have A5 := hid (A4.out.keep k5 A4.out.facts.2.2)
    have Q5 := hid (Q4.out.keep k5 Q4.out.facts.2.2)
    have PA5 := hid ((PA4.out.keep (B := w4.heap.size) (fun b hb => hb) k5).mono (S' := fun b => b < w5.heap.size) (fun _ _ => rfl) fun b hb => Nat.lt_of_lt_of_le hb k5.size)
    have PQ5 := hid ((PQ4.out.keep (B := w4.heap.size) (fun b hb => hb) k5).mono (S' := fun b => b < w5.heap.size) (fun _ _ => rfl) fun b hb => Nat.lt_of_lt_of_le hb k5.size)
    rw [HMEQ.out]
    clear k5 ha0 hq0
    obtain ⟨hca, -, hla5⟩ := A5.out.facts
    have ha1 : w5.cell? ⟨ba, 1, none⟩ = some (.slice pp a.P.length pc) := hca 1
    obtain ⟨hcq, -, hlq5⟩ := Q5.out.facts
    have hq1 : w5.cell? ⟨bw, 1, none⟩ = some (.slice none 0 0) := hcq 1
    clear hca hcq
    go_wp2_with fail
    refine (sameClauses_any (fun b => b < w5.heap.size) a.P [] (.slice pp a.P.length pc) (.slice none 0 0) w5 (fun b hb => hb) PA5.out PQ5.out).mono ?_
    rintro e w6 ⟨rfl, k6⟩
    have K6 := hid (K5.out.trans k6)
    rw [HPEQ.out]
    clear k6 ha1 hq1
    go_wp2_with fail
    go_ret
    exact ⟨rfl, K6.out⟩
  by_cases hs2 : 40000 < steps
  · have HE3 := hid (HE2.out.trans (if_pos (.inr hs2)))
    have HER := hid (show (a.er == 3) = true by rw [HE3.out]; simp)
    have HMEQ := hid (show (a.m == []) = true by rw [HE3.out]; rfl)
    have HPEQ := hid (show (a.P == []) = true by rw [HE3.out]; rfl)
    go_upto_region 6 with fail
    refine at_wp (fun W' => Keep w2 W' ∧ BoxAt w2.heap.size 53 #[.slice none 0 0, .slice none 0 0] W') ⟨Keep.alloc _ _, BoxAt.new _ _ _⟩ ?_
    rintro W3 ⟨k3, q3⟩
    have K3 := hid (KX.out.trans k3)
    have A3 := hid (BA2.out.keep k3 BA2.out.facts.2.2)
    have Q3 := hid q3
    have MA := hid ((MW2.out.keep (B := w2.heap.size) (fun b hb => hb) k3).mono (S' := fun b => b < W3.heap.size) (fun _ _ => rfl) fun b hb => Nat.lt_of_lt_of_le hb k3.size)
    have PA := hid ((PW2.out.keep (B := w2.heap.size) (fun b hb => hb) k3).mono (S' := fun b => b < W3.heap.size) (fun _ _ => rfl) fun b hb => Nat.lt_of_lt_of_le hb k3.size)
    have MQ := hid (bools_nil (fun b => b < W3.heap.size) W3)
    have PQ := hid (cls_nil (fun b => b < W3.heap.size) W3)
    clear k3 q3
    generalize w2.heap.size = bw at Q3 ⊢
    have her : (a.er == 3) = true := HER.out
    have HL3 := hid (And.intro A3.out.facts.2.2 Q3.out.facts.2.2)
    go_wp2_with fail
    refine (solved_any W3).mono ?_
    rintro e w4 ⟨rfl, k4⟩
    have K4 := hid (K3.out.trans k4)
    have A4 := hid (A3.out.keep k4 A3.out.facts.2.2)
    have Q4 := hid (Q3.out.keep k4 Q3.out.facts.2.2)
    have MA4 := hid ((MA.out.keep (B := W3.heap.size) (fun b hb => hb) k4).mono (S' := fun b => b < w4.heap.size) (fun _ _ => rfl) fun b hb => Nat.lt_of_lt_of_le hb k4.size)
    have PA4 := hid ((PA.out.keep (B := W3.heap.size) (fun b hb => hb) k4).mono (S' := fun b => b < w4.heap.size) (fun _ _ => rfl) fun b hb => Nat.lt_of_lt_of_le hb k4.size)
    have MQ4 := hid ((MQ.out.keep (B := W3.heap.size) (fun b hb => hb) k4).mono (S' := fun b => b < w4.heap.size) (fun _ _ => rfl) fun b hb => Nat.lt_of_lt_of_le hb k4.size)
    have PQ4 := hid ((PQ.out.keep (B := W3.heap.size) (fun b hb => hb) k4).mono (S' := fun b => b < w4.heap.size) (fun _ _ => rfl) fun b hb => Nat.lt_of_lt_of_le hb k4.size)
    clear k4
    obtain ⟨hca, -, hla4⟩ := A4.out.facts
    have ha0 : w4.cell? ⟨ba, 0, none⟩ = some (.slice mp a.m.length mc) := hca 0
    obtain ⟨hcq, -, hlq4⟩ := Q4.out.facts
    have hq0 : w4.cell? ⟨bw, 0, none⟩ = some (.slice none 0 0) := hcq 0
    clear hca hcq
    go_wp2_with fail
    refine (equalB_any (fun b => b < w4.heap.size) a.m [] (.slice mp a.m.length mc) (.slice none 0 0) w4 (fun b hb => hb) MA4.out MQ4.out).mono ?_
    rintro e w5 ⟨rfl, k5⟩
    have K5 := hid (K4.out.trans k5)
    have A5 := hid (A4.out.keep k5 A4.out.facts.2.2)
    have Q5 := hid (Q4.out.keep k5 Q4.out.facts.2.2)
    have PA5 := hid ((PA4.out.keep (B := w4.heap.size) (fun b hb => hb) k5).mono (S' := fun b => b < w5.heap.size) (fun _ _ => rfl) fun b hb => Nat.lt_of_lt_of_le hb k5.size)
    have PQ5 := hid ((PQ4.out.keep (B := w4.heap.size) (fun b hb => hb) k5).mono (S' := fun b => b < w5.heap.size) (fun _ _ => rfl) fun b hb => Nat.lt_of_lt_of_le hb k5.size)
    rw [HMEQ.out]
    clear k5 ha0 hq0
    obtain ⟨hca, -, hla5⟩ := A5.out.facts
    have ha1 : w5.cell? ⟨ba, 1, none⟩ = some (.slice pp a.P.length pc) := hca 1
    obtain ⟨hcq, -, hlq5⟩ := Q5.out.facts
    have hq1 : w5.cell? ⟨bw, 1, none⟩ = some (.slice none 0 0) := hcq 1
    clear hca hcq
    go_wp2_with fail
    refine (sameClauses_any (fun b => b < w5.heap.size) a.P [] (.slice pp a.P.length pc) (.slice none 0 0) w5 (fun b hb => hb) PA5.out PQ5.out).mono ?_
    rintro e w6 ⟨rfl, k6⟩
    have K6 := hid (K5.out.trans k6)
    rw [HPEQ.out]
    clear k6 ha1 hq1
    go_wp2_with fail
    go_ret
    exact ⟨rfl, K6.out⟩
  obtain ⟨s, hss⟩ : ∃ s : Nat, steps = (s : Int) := ⟨steps.toNat, by omega⟩
  subst hss
  have HE3 := hid (show a = ansOf (solv n F s) from (HE2.out.trans (if_neg (by omega))).trans (by rw [Int.toNat_natCast, Int.toNat_natCast]))
  have HER := hid (show (a.er == a.er) = true by simp)
  have HMEQ := hid (show (a.m == a.m) = true by simp)
  have HPEQ := hid (show (a.P == a.P) = true by simp)
  obtain ⟨hcb, -, hlb2⟩ := BF2.out.facts
  have hc0 : w2.cell? ⟨w.heap.size, 0, none⟩ = some (.int .i64 (n : Int)) := hcb 0
  have hc1 : w2.cell? ⟨w.heap.size, 1, none⟩ = some (.slice p F.length cap) := hcb 1
  clear hcb HE2
  go_wp2_with fail
  refine at_calls (fun W' => Keep w2 W' ∧ BoxAt w2.heap.size 53 #[.slice none 0 0, .slice none 0 0] W') ⟨Keep.alloc _ _, BoxAt.new _ _ _⟩ ?_
  rintro W2 ⟨k3, q3⟩
  refine (rsolved_any S n s F p cap W2 (fun b hb => Nat.lt_of_lt_of_le (hS b hb) (KX.out.trans k3).size) (HF.out.keep hS (KX.out.trans k3)).row hn4 hFl HCL.out (by omega)).mono ?_
  rintro e w3 hd
  rw [← HE3.out] at hd
  obtain ⟨k4, mv', pv', rfl, hm', hp'⟩ := hd
  have HM' := hid hm'
  have HP' := hid hp'
  obtain ⟨mp', mc', rfl, hml'⟩ := hm'.shape
  obtain ⟨pp', pc', rfl, hpl'⟩ := hp'.len
  have KR := hid (show Keep w2 w3 from k3.trans k4)
  have Q4 := hid (q3.keep k4 q3.facts.2.2)
  have HLT := hid (show w2.heap.size < W2.heap.size from q3.facts.2.2)
  clear k3 q3 k4 hm' hp' hc0 hc1
  have HLW := hid (show ba < w2.heap.size from BA2.out.facts.2.2)
  obtain ⟨bw, hbw⟩ : ∃ bw, bw = w2.heap.size := ⟨_, rfl⟩
  rw [← hbw] at Q4 HLT HLW ⊢
  have HBW := hid hbw
  clear hbw
  obtain ⟨hcq, hfq, hlq⟩ := Q4.out.facts
  have hq0 : w3.cell? ⟨bw, 0, none⟩ = some (.slice none 0 0) := hcq 0
  have hq1 : w3.cell? ⟨bw, 1, none⟩ = some (.slice none 0 0) := hcq 1
  have hfq0 := hfq 0
  have hfq1 := hfq 1
  clear hcq hfq
  go_upto_region 8 with fail
  have HQ := hid (show Keep w2 ((w3.setCell ⟨bw, 0, none⟩ (.slice mp' a.m.length mc')).setCell ⟨bw, 1, none⟩ (.slice pp' a.P.length pc')) ∧ BoxAt bw 53 #[.slice mp' a.m.length mc', .slice pp' a.P.length pc'] ((w3.setCell ⟨bw, 0, none⟩ (.slice mp' a.m.length mc')).setCell ⟨bw, 1, none⟩ (.slice pp' a.P.length pc')) ∧ BoolsIs (fun b => b < ((w3.setCell ⟨bw, 0, none⟩ (.slice mp' a.m.length mc')).setCell ⟨bw, 1, none⟩ (.slice pp' a.P.length pc')).heap.size) ((w3.setCell ⟨bw, 0, none⟩ (.slice mp' a.m.length mc')).setCell ⟨bw, 1, none⟩ (.slice pp' a.P.length pc')) a.m (.slice mp' a.m.length mc') ∧ ClsIs (fun b => b < ((w3.setCell ⟨bw, 0, none⟩ (.slice mp' a.m.length mc')).setCell ⟨bw, 1, none⟩ (.slice pp' a.P.length pc')).heap.size) ((w3.setCell ⟨bw, 0, none⟩ (.slice mp' a.m.length mc')).setCell ⟨bw, 1, none⟩ (.slice pp' a.P.length pc')) a.P (.slice pp' a.P.length pc') from by
    refine ⟨Below.trans KR.out (Below.mono (Below.trans (below_set w3 bw 0 _) (below_set _ bw 1 _)) (by rw [HBW.out]; exact Nat.le_refl _)), (Q4.out.set 0 _).set 1 _, HM'.out.mono (fun q hq => World.cell?_of_block (w := w3) (other_two (by have := hq.1; have := HLT.out; omega))) fun b hb => by rw [size_two]; exact hb.2, HP'.out.mono (fun q hq => World.cell?_of_block (w := w3) (other_two (by have := hq.1; have := HLT.out; omega))) fun b hb => by rw [size_two]; exact hb.2⟩)
  refine at_wp (fun W' => Keep w2 W' ∧ BoxAt bw 53 #[.slice mp' a.m.length mc', .slice pp' a.P.length pc'] W' ∧ BoolsIs (fun b => b < W'.heap.size) W' a.m (.slice mp' a.m.length mc') ∧ ClsIs (fun b => b < W'.heap.size) W' a.P (.slice pp' a.P.length pc')) ?_ ?_
  · exact HQ.out
  rintro W3 ⟨k5, q5, m5, p5⟩
  have K3 := hid (KX.out.trans k5)
  have A3 := hid (BA2.out.keep k5 BA2.out.facts.2.2)
  have Q3 := hid q5
  have MA := hid ((MW2.out.keep (B := w2.heap.size) (fun b hb => hb) k5).mono (S' := fun b => b < W3.heap.size) (fun _ _ => rfl) fun b hb => Nat.lt_of_lt_of_le hb k5.size)
  have PA := hid ((PW2.out.keep (B := w2.heap.size) (fun b hb => hb) k5).mono (S' := fun b => b < W3.heap.size) (fun _ _ => rfl) fun b hb => Nat.lt_of_lt_of_le hb k5.size)
  have MQ := hid m5
  have PQ := hid p5
  clear k5 q5 m5 p5 HQ hq0 hq1 hfq0 hfq1 hlq
  have her : (a.er == a.er) = true := HER.out
  have HL3 := hid (And.intro A3.out.facts.2.2 Q3.out.facts.2.2)
  go_wp2_with fail
  refine (solved_any W3).mono ?_
  rintro e w4 ⟨rfl, k4⟩
  have K4 := hid (K3.out.trans k4)
  have A4 := hid (A3.out.keep k4 A3.out.facts.2.2)
  have Q4 := hid (Q3.out.keep k4 Q3.out.facts.2.2)
  have MA4 := hid ((MA.out.keep (B := W3.heap.size) (fun b hb => hb) k4).mono (S' := fun b => b < w4.heap.size) (fun _ _ => rfl) fun b hb => Nat.lt_of_lt_of_le hb k4.size)
  have PA4 := hid ((PA.out.keep (B := W3.heap.size) (fun b hb => hb) k4).mono (S' := fun b => b < w4.heap.size) (fun _ _ => rfl) fun b hb => Nat.lt_of_lt_of_le hb k4.size)
  have MQ4 := hid ((MQ.out.keep (B := W3.heap.size) (fun b hb => hb) k4).mono (S' := fun b => b < w4.heap.size) (fun _ _ => rfl) fun b hb => Nat.lt_of_lt_of_le hb k4.size)
  have PQ4 := hid ((PQ.out.keep (B := W3.heap.size) (fun b hb => hb) k4).mono (S' := fun b => b < w4.heap.size) (fun _ _ => rfl) fun b hb => Nat.lt_of_lt_of_le hb k4.size)
  clear k4
  obtain ⟨hca, -, hla4⟩ := A4.out.facts
  have ha0 : w4.cell? ⟨ba, 0, none⟩ = some (.slice mp a.m.length mc) := hca 0
  obtain ⟨hcq, -, hlq4⟩ := Q4.out.facts
  have hq0 : w4.cell? ⟨bw, 0, none⟩ = some (.slice mp' a.m.length mc') := hcq 0
  clear hca hcq
  go_wp2_with fail
  refine (equalB_any (fun b => b < w4.heap.size) a.m a.m (.slice mp a.m.length mc) (.slice mp' a.m.length mc') w4 (fun b hb => hb) MA4.out MQ4.out).mono ?_
  rintro e w5 ⟨rfl, k5⟩
  have K5 := hid (K4.out.trans k5)
  have A5 := hid (A4.out.keep k5 A4.out.facts.2.2)
  have Q5 := hid (Q4.out.keep k5 Q4.out.facts.2.2)
  have PA5 := hid ((PA4.out.keep (B := w4.heap.size) (fun b hb => hb) k5).mono (S' := fun b => b < w5.heap.size) (fun _ _ => rfl) fun b hb => Nat.lt_of_lt_of_le hb k5.size)
  have PQ5 := hid ((PQ4.out.keep (B := w4.heap.size) (fun b hb => hb) k5).mono (S' := fun b => b < w5.heap.size) (fun _ _ => rfl) fun b hb => Nat.lt_of_lt_of_le hb k5.size)
  rw [HMEQ.out]
  clear k5 ha0 hq0
  obtain ⟨hca, -, hla5⟩ := A5.out.facts
  have ha1 : w5.cell? ⟨ba, 1, none⟩ = some (.slice pp a.P.length pc) := hca 1
  obtain ⟨hcq, -, hlq5⟩ := Q5.out.facts
  have hq1 : w5.cell? ⟨bw, 1, none⟩ = some (.slice pp' a.P.length pc') := hcq 1
  clear hca hcq
  go_wp2_with fail
  refine (sameClauses_any (fun b => b < w5.heap.size) a.P a.P (.slice pp a.P.length pc) (.slice pp' a.P.length pc') w5 (fun b hb => hb) PA5.out PQ5.out).mono ?_
  rintro e w6 ⟨rfl, k6⟩
  have K6 := hid (K5.out.trans k6)
  rw [HPEQ.out]
  clear k6 ha1 hq1
  go_wp2_with fail
  go_ret
  exact ⟨rfl, K6.out⟩
end Go.Proofs.Ytbblgmkjgcjcaab
