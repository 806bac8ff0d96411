/- The closed fact of proofs: one refutes, one doesn't. -/
import Derived.Test.YtbblgmkjgcjcaabRupBad
namespace Go.Proofs.Ytbblgmkjgcjcaab
open Go.RowKit Go.Lib

/-- Clauses that are written out, in memory. -/
def putCs (w : World) : List (List Int) → World
  | [] => w
  | c :: cs => putCs (w.alloc (.cells (c.map (Value.int .i64)).toArray 3)) cs
def cvals (s : Nat) : List (List Int) → List Value
  | [] => []
  | c :: cs => .slice (some ⟨s, 0, none⟩) c.length c.length :: cvals (s + 1) cs
def putRows (w : World) (cs : List (List Int)) : World := (putCs w cs).alloc (.cells (cvals w.heap.size cs).toArray 38)
theorem putCs_keep : ∀ (cs : List (List Int)) (w : World), Keep w (putCs w cs) ∧ (putCs w cs).heap.size = w.heap.size + cs.length
  | [], w => ⟨Keep.refl _, rfl⟩
  | c :: cs, w => by
    obtain ⟨h1, h2⟩ := putCs_keep cs (w.alloc (.cells (c.map (Value.int .i64)).toArray 3))
    refine ⟨(Keep.alloc _ _).trans h1, ?_⟩
    show (putCs (w.alloc _) cs).heap.size = _
    rw [h2, alloc_size, List.length_cons]; omega
theorem putCs_nums : ∀ (cs : List (List Int)) (w : World), (∀ c ∈ cs, c.length ≤ 1000) → ∀ (i : Nat) c v, cs[i]? = some c → (cvals w.heap.size cs)[i]? = some v → NumsIs (fun b => w.heap.size ≤ b ∧ b < w.heap.size + cs.length) (putCs w cs) c v
  | [], _, _, i, c, v, hc, _ => by simp at hc
  | d :: cs, w, hl, i, c, v, hc, hv => by
    have hs := alloc_size w (.cells (d.map (Value.int .i64)).toArray 3)
    cases i with
    | zero =>
      have e1 : d = c := by simpa using hc
      have e2 : Value.slice (some ⟨w.heap.size, 0, none⟩) d.length d.length = v := by simpa [cvals] using hv
      subst e1 e2
      have b1 := BoxAt.new w 3 (d.map (Value.int .i64)).toArray
      have b2 := b1.keep (putCs_keep cs _).1 b1.facts.2.2
      refine ⟨_, d.length, rfl, by have := hl d List.mem_cons_self; omega, fun _ => ⟨w.heap.size, 0, rfl, ⟨Nat.le_refl _, by simp only [List.length_cons]; omega⟩, fun j y hy => ?_⟩⟩
      show (putCs (w.alloc _) cs).cell? _ = _
      rw [b2.facts.1]; simp [hy]
    | succ i =>
      have h1 := putCs_nums cs (w.alloc (.cells (d.map (Value.int .i64)).toArray 3)) (fun c hc => hl c (List.mem_cons_of_mem _ hc)) i c v (by simpa using hc) (by rw [hs]; simpa [cvals] using hv)
      exact h1.mono (fun _ _ => rfl) fun b hb => by rw [hs] at hb; simp only [List.length_cons]; omega
theorem cvals_len : ∀ (cs : List (List Int)) (s : Nat), (cvals s cs).length = cs.length
  | [], _ => rfl
  | _ :: cs, s => by rw [cvals, List.length_cons, List.length_cons, cvals_len cs]
theorem put_cls (w : World) (cs : List (List Int)) (hl : ∀ c ∈ cs, c.length ≤ 1000) (hc : cs.length ≤ 1000) : Keep w (putRows w cs) ∧ (putRows w cs).heap.size = w.heap.size + cs.length + 1 ∧ ClsIs (fun b => w.heap.size ≤ b ∧ b < (putRows w cs).heap.size) (putRows w cs) cs (.slice (some ⟨w.heap.size + cs.length, 0, none⟩) cs.length cs.length) := by
  obtain ⟨k1, s1⟩ := putCs_keep cs w
  have s2 : (putRows w cs).heap.size = w.heap.size + cs.length + 1 := by unfold putRows; rw [alloc_size, s1]
  refine ⟨k1.alloc' _, s2, Or.inr ⟨w.heap.size + cs.length, 0, cs.length, rfl, ⟨⟨by omega, by omega⟩, Nat.le_refl _⟩, by omega, fun j c hj => ?_⟩⟩
  have hjl : j < cs.length := (List.getElem?_eq_some_iff.1 hj).1
  have hv : (cvals w.heap.size cs)[j]? = some (cvals w.heap.size cs)[j]! := by
    have : j < (cvals w.heap.size cs).length := by rw [cvals_len]; exact hjl
    simp [this]
  generalize (cvals w.heap.size cs)[j]! = v at hv
  refine ⟨v, ?_, ((putCs_nums cs w hl j c v hj hv).keep (B := (putCs w cs).heap.size) (fun b hb => by rw [s1]; exact hb.2) (Keep.alloc _ _)).mono (fun _ _ => rfl) fun b hb => ⟨hb.1, by omega⟩⟩
  have b := BoxAt.new (putCs w cs) 38 (cvals w.heap.size cs).toArray
  rw [s1] at b
  show (World.alloc _ _).cell? _ = _
  rw [Nat.zero_add, b.facts.1]
  simpa using hv

def F1 : List (List Int) := [[1, 2], [-1, 2], [1, -2], [-1, -2]]
theorem f1_lits : ∀ c ∈ F1, c.length ≤ 60 ∧ LitsC 2 c := by
  intro c hc
  simp only [F1, List.mem_cons, List.not_mem_nil, or_false] at hc
  rcases hc with rfl | rfl | rfl | rfl <;> refine ⟨by decide, fun x hx => ?_⟩ <;> simp only [List.mem_cons, List.not_mem_nil, or_false] at hx <;> rcases hx with rfl | rfl <;> exact ⟨by decide, by decide⟩
theorem f1_formE : formE 2 F1 = 0 := formE_back (n := 2) (by decide) (by decide) f1_lits
theorem f1_not : ∀ x, ¬ Der F1 [] x := by
  intro x h
  induction h with
  | told h => simp at h
  | @unit c x hc hx _ ih =>
    simp only [F1, List.mem_cons, List.not_mem_nil, or_false] at hc
    rcases hc with rfl | rfl | rfl | rfl <;> simp only [List.mem_cons, List.not_mem_nil, or_false] at hx <;> rcases hx with rfl | rfl
    · exact ih 2 (by simp) (by decide)
    · exact ih 1 (by simp) (by decide)
    · exact ih 2 (by simp) (by decide)
    · exact ih (-1) (by simp) (by decide)
    · exact ih (-2) (by simp) (by decide)
    · exact ih 1 (by simp) (by decide)
    · exact ih (-2) (by simp) (by decide)
    · exact ih (-1) (by simp) (by decide)
theorem f1_no : ¬ FailsF F1 [] := by
  rintro (⟨x, h, -⟩ | ⟨c, hc, h⟩)
  · exact f1_not x h
  · simp only [F1, List.mem_cons, List.not_mem_nil, or_false] at hc
    rcases hc with rfl | rfl | rfl | rfl
    · exact f1_not _ (h 1 (by simp))
    · exact f1_not _ (h (-1) (by simp))
    · exact f1_not _ (h 1 (by simp))
    · exact f1_not _ (h (-1) (by simp))
/-- A literal of a clause of two follows where the other one doesn't hold. -/
theorem der_two {F : List (List Int)} {A : List Int} {a b : Int} (hc : [a, b] ∈ F) (h : Der F A (-a)) : Der F A b := .unit hc (by simp) fun y hy hne => by
  simp only [List.mem_cons, List.not_mem_nil, or_false] at hy
  rcases hy with rfl | rfl
  · exact h
  · exact absurd rfl hne
theorem f1_one : Comes F1 [1] := by
  have h1 : Der F1 (negs [1]) (-1) := .told (by simp [negs])
  exact .inl ⟨2, der_two (a := 1) (by simp [F1]) h1, der_two (a := 1) (by simp [F1]) h1⟩
theorem f1_two (A : List Int) : FailsF (F1 ++ [[1]]) A := by
  have h1 : Der (F1 ++ [[1]]) A 1 := .unit (c := [1]) (by simp) (by simp) fun y hy hne => absurd (by simpa using hy) hne
  exact .inl ⟨2, der_two (a := -1) (by simp [F1]) (by rw [Int.neg_neg]; exact h1), der_two (a := -1) (by simp [F1]) (by rw [Int.neg_neg]; exact h1)⟩
theorem f1_ref : Refut F1 [[1], []] := by
  refine ⟨fun i c hi hc => ?_, rfl⟩
  match i, hc with
  | 0, hc => cases hc; exact f1_one
  | 1, hc => cases hc; exact f1_two _
  | i + 2, hc => simp at hc
theorem f1_noref : ¬ Refut F1 [[]] := fun h => f1_no (h.1 0 [] (by simp) rfl)
theorem f1_bad {k : Int} (h : BadAt F1 [[1], [-2], [1, -1]] k) : k = -1 := by
  refine h.one (.inl ⟨rfl, fun i c hi hc => ?_⟩)
  match i, hc with
  | 0, hc => cases hc; exact f1_one
  | 1, hc => cases hc; exact f1_two _
  | 2, hc => cases hc; exact FailsF.more (F := F1 ++ [[1]]) (A := negs [1, -1]) (fun d hd => by
      rcases List.mem_append.1 hd with hd | hd
      · exact List.mem_append_left _ hd
      · exact List.mem_append_right _ (by simp at hd ⊢; exact .inl hd)) (fun _ h => .told h) (f1_two _)
  | i + 3, hc => simp at hc
theorem f1_badE {P : List (List Int)} (h1 : P.length ≤ 40000) (h2 : ∀ c ∈ P, c.length ≤ 60 ∧ LitsC 2 c) : badE 2 F1 P = 0 := by
  unfold badE
  rw [if_neg (by rw [f1_formE]; simp)]
  unfold proofE
  rw [if_neg (by decide), if_neg (by decide), if_neg (by omega)]
  exact (clausesE_zero (n := 2)).2 h2
theorem small_lits {cs : List (List Int)} (h : cs.all (fun c => decide (c.length ≤ 60) && c.all fun x => x != 0 && decide (x.natAbs ≤ 2)) = true) : ∀ c ∈ cs, c.length ≤ 60 ∧ LitsC 2 c := by
  intro c hc
  have h1 := List.all_eq_true.1 h c hc
  rw [Bool.and_eq_true, decide_eq_true_iff] at h1
  refine ⟨h1.1, fun x hx => ?_⟩
  have h2 := List.all_eq_true.1 h1.2 x hx
  rw [Bool.and_eq_true, decide_eq_true_iff] at h2
  exact ⟨by simpa using h2.1, h2.2⟩
theorem lits_num {n : Nat} {cs : List (List Int)} (hn : n ≤ 1000) (h : ∀ c ∈ cs, c.length ≤ 60 ∧ LitsC n c) : ∀ c ∈ cs, ∀ x ∈ c, InR x := fun c hc x hx => by
  have := ((h c hc).2 x hx).2
  unfold InR; omega

def P1 : List (List Int) := [[1], []]
def P2 : List (List Int) := [[]]
def P3 : List (List Int) := [[1], [-2], [1, -1]]
theorem p1_lits : ∀ c ∈ P1, c.length ≤ 60 ∧ LitsC 2 c := small_lits (by decide)
theorem p2_lits : ∀ c ∈ P2, c.length ≤ 60 ∧ LitsC 2 c := small_lits (by decide)
theorem p3_lits : ∀ c ∈ P3, c.length ≤ 60 ∧ LitsC 2 c := small_lits (by decide)
set_option maxHeartbeats 4000000 in
set_option maxRecDepth 100000 in
theorem refuted_any (w : World) : Calls Try.prog 28 #[] w fun e w' => e = .returned (.bool true) ∧ Keep w w' := by
  go_enter Try.func28, Try.ntmps28
  go_upto_region 2 with fail
  obtain ⟨kf, sf, cf⟩ := put_cls w F1 (fun c hc => Nat.le_trans (f1_lits c hc).1 (by omega)) (by decide)
  have bf := BoxAt.new (putRows w F1) 24 #[.int .i64 2, .slice (some ⟨w.heap.size + F1.length, 0, none⟩) F1.length F1.length]
  rw [sf] at bf
  have kf2 := kf.alloc' (.cells #[.int .i64 2, .slice (some ⟨w.heap.size + F1.length, 0, none⟩) F1.length F1.length] 24)
  have cf2 := cf.keep (B := (putRows w F1).heap.size) (fun b hb => hb.2) (Keep.alloc (putRows w F1) (.cells #[.int .i64 2, .slice (some ⟨w.heap.size + F1.length, 0, none⟩) F1.length F1.length] 24))
  have sf2 := alloc_size (putRows w F1) (.cells #[.int .i64 2, .slice (some ⟨w.heap.size + F1.length, 0, none⟩) F1.length F1.length] 24)
  rw [sf] at sf2 cf2
  have HQ := hid (And.intro kf2 (And.intro bf (And.intro cf2 sf2)))
  clear kf sf cf bf kf2 cf2 sf2
  refine at_wp (fun W' => Keep w W' ∧ BoxAt (w.heap.size + 1 + 1 + 1 + 1 + 1) 24 #[.int .i64 2, .slice (some ⟨w.heap.size + 1 + 1 + 1 + 1, 0, none⟩) 4 4] W' ∧ ClsIs (fun b => w.heap.size ≤ b ∧ b < w.heap.size + F1.length + 1) W' F1 (.slice (some ⟨w.heap.size + 1 + 1 + 1 + 1, 0, none⟩) F1.length 4) ∧ W'.heap.size = w.heap.size + F1.length + 1 + 1) ?_ ?_
  · exact HQ.out
  rintro W0 ⟨k0, b0, c0, s0⟩
  have K0 := hid k0
  have B0 := hid b0
  have C0 := hid (c0.mono (w' := W0) (S' := fun b => w.heap.size ≤ b ∧ b < W0.heap.size) (fun _ _ => rfl) (fun b hb => ⟨hb.1, by omega⟩))
  clear k0 b0 c0 HQ s0
  generalize w.heap.size + 1 + 1 + 1 + 1 + 1 = b5 at B0 ⊢
  generalize w.heap.size + 1 + 1 + 1 + 1 = b4 at B0 C0 ⊢
  obtain ⟨hcb, -, hlb⟩ := B0.out.facts
  have hc0 : W0.cell? ⟨b5, 0, none⟩ = some (.int .i64 2) := hcb 0
  have hc1 : W0.cell? ⟨b5, 1, none⟩ = some (.slice (some ⟨b4, 0, none⟩) 4 4) := hcb 1
  clear hcb
  have b0 := hid (put_cls W0 P1 (by intro c hc; exact Nat.le_trans ((p1_lits c hc).1) (by omega)) (by decide))
  go_wp2_with fail
  refine at_calls (fun W' => Keep W0 W' ∧ W'.heap.size = W0.heap.size + P1.length + 1 ∧ ClsIs (fun b => W0.heap.size ≤ b ∧ b < W'.heap.size) W' P1 (.slice (some ⟨W0.heap.size + 1 + 1, 0, none⟩) P1.length P1.length)) ?_ ?_
  · exact b0.out
  rintro X0 ⟨kx0, sx0, cx0⟩
  refine (refutes_any (fun b => w.heap.size ≤ b ∧ b < X0.heap.size) 2 F1 P1 (some ⟨b4, 0, none⟩) 4 (some ⟨W0.heap.size + 1 + 1, 0, none⟩) P1.length X0 (fun b hb => hb.2) ⟨(C0.out.keep (B := W0.heap.size) (fun b hb => hb.2) kx0).mono (fun _ _ => rfl) (fun b hb => ⟨hb.1, Nat.lt_of_lt_of_le hb.2 kx0.size⟩), lits_num (n := 2) (by omega) f1_lits⟩ ⟨cx0.mono (fun _ _ => rfl) (fun b hb => ⟨Nat.le_trans K0.out.size hb.1, hb.2⟩), lits_num (n := 2) (by omega) p1_lits⟩).mono ?_
  rintro e w1 ⟨ky0, hd0⟩
  have K1 := hid (K0.out.trans (kx0.trans ky0))
  have KK0 := hid (kx0.trans ky0)
  clear kx0 sx0 cx0 ky0 b0 hc0 hc1
  rcases hd0 with ⟨h, -⟩ | ⟨-, r0, rfl, hr0⟩
  · exact absurd (f1_badE (by decide) p1_lits) h
  obtain rfl : r0 = true := hr0.2 f1_ref
  clear hr0
  have B1 := hid (B0.out.keep KK0.out B0.out.facts.2.2)
  have C1 := hid (show ClsIs (fun b => w.heap.size ≤ b ∧ b < w1.heap.size) w1 F1 (.slice (some ⟨b4, 0, none⟩) F1.length 4) from (C0.out.keep (B := W0.heap.size) (fun b hb => hb.2) KK0.out).mono (fun _ _ => rfl) (fun b hb => ⟨hb.1, Nat.lt_of_lt_of_le hb.2 KK0.out.size⟩))
  obtain ⟨hcb, -, hlb1⟩ := B1.out.facts
  have hc0 : w1.cell? ⟨b5, 0, none⟩ = some (.int .i64 2) := hcb 0
  have hc1 : w1.cell? ⟨b5, 1, none⟩ = some (.slice (some ⟨b4, 0, none⟩) 4 4) := hcb 1
  clear hcb KK0
  have b1 := hid (put_cls w1 P2 (by intro c hc; exact Nat.le_trans ((p2_lits c hc).1) (by omega)) (by decide))
  go_wp2_with fail
  refine at_calls (fun W' => Keep w1 W' ∧ W'.heap.size = w1.heap.size + P2.length + 1 ∧ ClsIs (fun b => w1.heap.size ≤ b ∧ b < W'.heap.size) W' P2 (.slice (some ⟨w1.heap.size + 1, 0, none⟩) P2.length P2.length)) ?_ ?_
  · exact b1.out
  rintro X1 ⟨kx1, sx1, cx1⟩
  refine (refutes_any (fun b => w.heap.size ≤ b ∧ b < X1.heap.size) 2 F1 P2 (some ⟨b4, 0, none⟩) 4 (some ⟨w1.heap.size + 1, 0, none⟩) P2.length X1 (fun b hb => hb.2) ⟨(C1.out.keep (B := w1.heap.size) (fun b hb => hb.2) kx1).mono (fun _ _ => rfl) (fun b hb => ⟨hb.1, Nat.lt_of_lt_of_le hb.2 kx1.size⟩), lits_num (n := 2) (by omega) f1_lits⟩ ⟨cx1.mono (fun _ _ => rfl) (fun b hb => ⟨Nat.le_trans K1.out.size hb.1, hb.2⟩), lits_num (n := 2) (by omega) p2_lits⟩).mono ?_
  rintro e w2 ⟨ky1, hd1⟩
  have K2 := hid (K1.out.trans (kx1.trans ky1))
  have KK1 := hid (kx1.trans ky1)
  clear kx1 sx1 cx1 ky1 b1 hc0 hc1
  rcases hd1 with ⟨h, -⟩ | ⟨-, r1, rfl, hr1⟩
  · exact absurd (f1_badE (by decide) p2_lits) h
  obtain rfl : r1 = false := by
    cases r1 with
    | false => rfl
    | true => exact absurd (hr1.1 rfl) f1_noref
  clear hr1
  have B2 := hid (B1.out.keep KK1.out B1.out.facts.2.2)
  have C2 := hid (show ClsIs (fun b => w.heap.size ≤ b ∧ b < w2.heap.size) w2 F1 (.slice (some ⟨b4, 0, none⟩) F1.length 4) from (C1.out.keep (B := w1.heap.size) (fun b hb => hb.2) KK1.out).mono (fun _ _ => rfl) (fun b hb => ⟨hb.1, Nat.lt_of_lt_of_le hb.2 KK1.out.size⟩))
  obtain ⟨hcb, -, hlb2⟩ := B2.out.facts
  have hc0 : w2.cell? ⟨b5, 0, none⟩ = some (.int .i64 2) := hcb 0
  have hc1 : w2.cell? ⟨b5, 1, none⟩ = some (.slice (some ⟨b4, 0, none⟩) 4 4) := hcb 1
  clear hcb KK1
  have b2 := hid (put_cls w2 P3 (by intro c hc; exact Nat.le_trans ((p3_lits c hc).1) (by omega)) (by decide))
  go_wp2_with fail
  refine at_calls (fun W' => Keep w2 W' ∧ W'.heap.size = w2.heap.size + P3.length + 1 ∧ ClsIs (fun b => w2.heap.size ≤ b ∧ b < W'.heap.size) W' P3 (.slice (some ⟨w2.heap.size + 1 + 1 + 1, 0, none⟩) P3.length P3.length)) ?_ ?_
  · exact b2.out
  rintro X2 ⟨kx2, sx2, cx2⟩
  refine (bad_any (fun b => w.heap.size ≤ b ∧ b < X2.heap.size) 2 F1 P3 (some ⟨b4, 0, none⟩) 4 (some ⟨w2.heap.size + 1 + 1 + 1, 0, none⟩) P3.length X2 (fun b hb => hb.2) ⟨(C2.out.keep (B := w2.heap.size) (fun b hb => hb.2) kx2).mono (fun _ _ => rfl) (fun b hb => ⟨hb.1, Nat.lt_of_lt_of_le hb.2 kx2.size⟩), lits_num (n := 2) (by omega) f1_lits⟩ ⟨cx2.mono (fun _ _ => rfl) (fun b hb => ⟨Nat.le_trans K2.out.size hb.1, hb.2⟩), lits_num (n := 2) (by omega) p3_lits⟩).mono ?_
  rintro e w3 ⟨ky2, hd2⟩
  have K3 := hid (K2.out.trans (kx2.trans ky2))
  have KK2 := hid (kx2.trans ky2)
  clear kx2 sx2 cx2 ky2 b2 hc0 hc1
  rcases hd2 with ⟨h, -⟩ | ⟨-, k3, rfl, hk3⟩
  · exact absurd (f1_badE (by decide) p3_lits) h
  obtain rfl : k3 = -1 := f1_bad hk3
  clear hk3
  go_wp2_with fail
  go_ret
  exact ⟨rfl, K3.out⟩
end Go.Proofs.Ytbblgmkjgcjcaab
