/- What the statements of formulas use besides: slices.Contains and Equal of numbers, the closed fact. -/
import Derived.Test.YtbblgmkjgcjcaabCnfFollows
namespace Go.Proofs.Ytbblgmkjgcjcaab
open Go.RowKit Go.Lib

set_option maxHeartbeats 2000000 in
theorem indexInt_any (S : Nat → Prop) (zs : List Int) (y : Int) (p : Option Addr) (cp : Nat) (w : World) (hS : ∀ b, S b → b < w.heap.size) (hz : NumsIs S w zs (.slice p zs.length cp)) :
    Calls Try.prog 47 #[.slice p zs.length cp, .int .i64 y] w fun e w' => ∃ n : Int, e = .returned (.int .i64 n) ∧ decide (0 ≤ n) = zs.contains y ∧ w' = w := by
  have hmax : zs.length ≤ 9223372036854775807 := by obtain ⟨_, _, _, h⟩ := hz.shape; exact h
  have HZ := hid hz
  clear hz
  go_enter Try.func47, Try.ntmps47
  go_wp2_with fail
  go_loopg [8] zs.length (fun gk i wr => ∃ j : Nat, j + gk = zs.length ∧ i = .int .i64 j ∧ (zs.take j).contains y = false ∧ wr = w)
  case atStart => exact ⟨0, by simp, rfl, by simp, rfl⟩
  case round =>
    obtain ⟨j, hj, rfl, hno, hw⟩ := hrel
    subst hw
    have HNO := hid hno
    clear hno
    by_cases hlt : j < zs.length
    · obtain ⟨b, off, rfl, hb, hcell⟩ := HZ.out.cellD hlt
      have HST : Hid ((zs.take (j + 1)).contains y = (y == zs[j])) := take_contains hlt HNO.out
      have HUP : Hid ((y == zs[j]) = true → zs.contains y = true) := fun h => by
        have : y = zs[j] := by simpa using h
        rw [this]; simp
      have hbl := hS b hb
      generalize zs[j] = x at HST HUP hcell
      clear HNO
      cases hyx : (y == x)
      · rw [hyx] at HST
        go_wp2_with fail
        go_roundg (zs.length - (j + 1))
        case rel => exact ⟨j + 1, by omega, by go_num, HST.out, rfl⟩
        case measure => omega
      · have HUP2 := hid (HUP.out hyx)
        go_wp2_with fail
        go_ret
        exact ⟨(j : Int), rfl, by rw [HUP2.out]; exact decide_eq_true (by omega), rfl⟩
    · obtain rfl : j = zs.length := by omega
      go_wp2_with fail
      go_ret
      refine ⟨-1, rfl, ?_, rfl⟩
      have := HNO.out
      rw [List.take_length] at this
      rw [this]; rfl
set_option maxHeartbeats 1000000 in
theorem containsInt_any (S : Nat → Prop) (zs : List Int) (y : Int) (p : Option Addr) (cp : Nat) (w : World) (hS : ∀ b, S b → b < w.heap.size) (hz : NumsIs S w zs (.slice p zs.length cp)) :
    Calls Try.prog 19 #[.slice p zs.length cp, .int .i64 y] w fun e w' => e = .returned (.bool (zs.contains y)) ∧ w' = w := by
  have HI := hid (indexInt_any S zs y p cp w hS hz)
  clear hz
  go_enter Try.func19, Try.ntmps19
  go_wp2_with fail
  refine HI.out.mono ?_
  rintro e w1 ⟨n, rfl, hn, hw1⟩
  rw [hw1]
  have HN := hid hn
  clear hn hw1 HI
  go_wp2_with fail
  go_ret
  exact ⟨ret_bool HN.out, rfl⟩
theorem equalNums_any (S : Nat → Prop) (v u : Value) (xs ys : List Int) (w : World) (h : NumsIs S w xs v) (h' : NumsIs S w ys u) :
    Calls Try.prog 20 #[v, u] w fun e w' => e = .returned (.bool (xs == ys)) ∧ ∃ q, w' = w.drewN q := by
  obtain ⟨q, d, rfl, hl'⟩ := h'.shape
  obtain ⟨p, c, rfl, hl⟩ := h.shape
  by_cases hne : xs.length = ys.length
  · by_cases h0 : xs = []
    · subst h0
      have hy : ys = [] := List.length_eq_zero_iff.1 hne.symm
      subst hy
      refine (Try.slices_Equal_int_empty p q c 0 d w (by omega)).mono ?_
      rintro e w' ⟨rfl, rfl⟩
      exact ⟨rfl, 0, rfl⟩
    · have hp := List.length_pos_iff.2 h0
      obtain ⟨g, o, rfl, -, hc⟩ := h.get hp
      obtain ⟨g', o', rfl, -, hc'⟩ := h'.get (by omega)
      refine (Try.slices_Equal_int g o xs.length c g' o' ys.length d xs ys w (Nat.le_refl _) (Nat.le_refl _) (by omega) (by omega) hc hc').mono ?_
      rintro e w' ⟨rfl, q, rfl⟩
      exact ⟨ret_bool (by rw [List.take_length, List.take_length]), q, rfl⟩
  · refine (Try.slices_Equal_int_lens p q xs.length c ys.length d w hne).mono ?_
    rintro e w' ⟨rfl, rfl⟩
    refine ⟨ret_bool ?_, 0, rfl⟩
    symm
    exact beq_eq_false_iff_ne.2 fun e => hne (by rw [e])

/-- The closed fact, as plain data. -/
def F0 : List (List Int) := [[1, 2], [-2, 3, 3]]
theorem f0_lits : ∀ c ∈ F0, LitsC 3 c := by
  intro c hc x hx
  simp only [F0, List.mem_cons, List.not_mem_nil, or_false] at hc
  rcases hc with rfl | rfl
  · simp only [List.mem_cons, List.not_mem_nil, or_false] at hx
    rcases hx with rfl | rfl <;> exact ⟨by decide, by decide⟩
  · simp only [List.mem_cons, List.not_mem_nil, or_false] at hx
    rcases hx with rfl | rfl | rfl <;> exact ⟨by decide, by decide⟩
theorem f0_two : Der F0 [-1] 2 := .unit (c := [1, 2]) (by simp [F0]) (by simp) fun y hy hne => by
  simp only [List.mem_cons, List.not_mem_nil, or_false] at hy
  rcases hy with rfl | rfl
  · exact .told (by simp)
  · exact absurd rfl hne
theorem f0_three {A : List Int} (h : Der F0 A 2) : Der F0 A 3 := .unit (c := [-2, 3, 3]) (by simp [F0]) (by simp) fun y hy hne => by
  simp only [List.mem_cons, List.not_mem_nil, or_false] at hy
  rcases hy with rfl | rfl | rfl
  · exact h
  · exact absurd rfl hne
  · exact absurd rfl hne
theorem f0_model : ∀ c ∈ F0, ∃ x ∈ c, inM [false, true, true] x = true := by
  intro c hc
  simp only [F0, List.mem_cons, List.not_mem_nil, or_false] at hc
  rcases hc with rfl | rfl
  · exact ⟨2, by simp, by decide⟩
  · exact ⟨3, by simp, by decide⟩
theorem f0_no : ¬ FailsF F0 [-1] := fails_none f0_lits (fun x hx => by
  rw [List.mem_singleton.1 hx]; exact ⟨by decide, by decide⟩) f0_model (fun x hx => by
  rw [List.mem_singleton.1 hx]; decide)
theorem f0_fails : FailsF F0 [-1, -3] := by
  have h2 : Der F0 [-1, -3] 2 := f0_two.more (fun _ h => h) (fun x hx => by rw [List.mem_singleton.1 hx]; exact .told (by simp))
  exact .inl ⟨3, f0_three h2, .told (by simp)⟩
theorem f0_known {K L : List Int} (h : Good 3 F0 [-1] K L) (hL : ∀ x, x ∈ L ↔ Der F0 [-1] x) : known K = [-1, 2, 3] := by
  have hl := h.len
  have k1 := ((h.iff (-1)).1 ((hL _).2 (.told (by simp)))).2
  have k2 := ((h.iff 2).1 ((hL _).2 f0_two)).2
  have k3 := ((h.iff 3).1 ((hL _).2 (f0_three f0_two))).2
  have k0 : K.getD 0 0 = 0 := by
    rcases h.own 0 (by omega) with h0 | h0
    · exact h0
    · omega
  match K, hl, k0, k1, k2, k3 with
  | [a, b, c, d], _, k0, k1, k2, k3 =>
    have e0 : a = 0 := k0
    have e1 : b = -1 := k1
    have e2 : c = 2 := k2
    have e3 : d = 3 := k3
    subst e0 e1 e2 e3
    rfl

theorem box_nums {b : Nat} {T : TypeId} {zs : List Int} {w : World} {S : Nat → Prop} (h : BoxAt b T (zs.map (Value.int .i64)).toArray w) (hS : S b) (hl : zs.length ≤ 1000) {n cap : Nat} (hn : n = zs.length) : NumsIs S w zs (.slice (some ⟨b, 0, none⟩) n cap) := by
  subst hn
  refine ⟨_, _, rfl, by omega, fun _ => ⟨b, 0, rfl, hS, fun j x hx => ?_⟩⟩
  rw [h.facts.1]
  simp [hx]
/-- The closed fact's formula in memory. -/
theorem f0_form (w : World) : let w1 := w.alloc (.cells #[.int .i64 1, .int .i64 2] 3)
    let w2 := w1.alloc (.cells #[.int .i64 (-2), .int .i64 3, .int .i64 3] 3)
    let w3 := w2.alloc (.cells #[.slice (some ⟨w.heap.size, 0, none⟩) 2 2, .slice (some ⟨w.heap.size + 1, 0, none⟩) 3 3] 38)
    Keep w w3 ∧ FormIs (fun b => w.heap.size ≤ b ∧ b < w.heap.size + 3) w3 3 F0 (some ⟨w.heap.size + 2, 0, none⟩) 2 ∧ w3.heap.size = w.heap.size + 3 := by
  intro w1 w2 w3
  have s1 : w1.heap.size = w.heap.size + 1 := alloc_size _ _
  have s2 : w2.heap.size = w.heap.size + 2 := by rw [show w2.heap.size = w1.heap.size + 1 from alloc_size _ _, s1]
  have s3 : w3.heap.size = w.heap.size + 3 := by rw [show w3.heap.size = w2.heap.size + 1 from alloc_size _ _, s2]
  have k12 : Keep w1 w2 := Keep.alloc _ _
  have k23 : Keep w2 w3 := Keep.alloc _ _
  have b1 : BoxAt w.heap.size 3 (([1, 2] : List Int).map (Value.int .i64)).toArray w3 := (BoxAt.new w 3 _).keep (k12.trans k23) (by rw [s1]; omega)
  have b2 : BoxAt (w.heap.size + 1) 3 (([-2, 3, 3] : List Int).map (Value.int .i64)).toArray w3 := by
    have := (BoxAt.new w1 3 #[.int .i64 (-2), .int .i64 3, .int .i64 3]).keep k23 (by rw [s2]; omega)
    rw [s1] at this; exact this
  have b3 : BoxAt (w.heap.size + 2) 38 #[.slice (some ⟨w.heap.size, 0, none⟩) 2 2, .slice (some ⟨w.heap.size + 1, 0, none⟩) 3 3] w3 := by
    have := BoxAt.new w2 38 #[.slice (some ⟨w.heap.size, 0, none⟩) 2 2, .slice (some ⟨w.heap.size + 1, 0, none⟩) 3 3]
    rw [s2] at this; exact this
  refine ⟨((Keep.alloc _ _).alloc' _).alloc' _, ⟨Or.inr ⟨w.heap.size + 2, 0, 2, rfl, ⟨⟨by omega, by omega⟩, by simp [F0]⟩, by simp [F0], fun j c hc => ?_⟩, fun c hc x hx => ?_⟩, s3⟩
  · match j, hc with
    | 0, hc =>
      have hc2 : [1, 2] = c := by simpa [F0] using hc
      subst hc2
      exact ⟨_, b3.facts.1 0, box_nums b1 ⟨Nat.le_refl _, by omega⟩ (by simp) rfl⟩
    | 1, hc =>
      have hc2 : [-2, 3, 3] = c := by simpa [F0] using hc
      subst hc2
      exact ⟨_, b3.facts.1 1, box_nums b2 ⟨by omega, by omega⟩ (by simp) rfl⟩
    | j + 2, hc => simp [F0] at hc
  · have := (f0_lits c hc x hx).2
    unfold InR; omega
theorem f0_folE {A : List Int} (h1 : A.length ≤ 400) (h2 : LitsC 3 A) : folE 3 F0 A = 0 := by
  have e : formE 3 F0 = 0 := formE_back (n := 3) (by decide) (by decide) fun c hc => ⟨by
    simp only [F0, List.mem_cons, List.not_mem_nil, or_false] at hc
    rcases hc with rfl | rfl <;> decide, f0_lits c hc⟩
  unfold folE
  rw [if_neg (by rw [e]; simp), if_neg (by omega)]
  exact (litsE_zero (n := 3)).2 h2
theorem f0_holds : holdsE 3 F0 [true, false, false] = 0 ∧ holdsB 3 F0 [true, false, false] = true := by decide

set_option maxHeartbeats 4000000 in
set_option maxRecDepth 100000 in
theorem followed_any (w : World) : Calls Try.prog 13 #[] w fun e w' => e = .returned (.bool true) ∧ Keep w w' := by
  go_enter Try.func13, Try.ntmps13
  go_upto_region 2 with fail
  obtain ⟨kf, ff, sf⟩ := f0_form w
  refine at_wp (fun W' => Keep w W' ∧ BoxAt (w.heap.size + 1 + 1 + 1) 24 #[.int .i64 3, .slice (some ⟨w.heap.size + 1 + 1, 0, none⟩) 2 2] W' ∧ FormIs (fun b => w.heap.size ≤ b ∧ b < w.heap.size + 3) W' 3 F0 (some ⟨w.heap.size + 1 + 1, 0, none⟩) 2 ∧ w.heap.size + 4 ≤ W'.heap.size) ⟨kf.alloc' _, ?_, ff.keep (B := w.heap.size + 3) (fun b hb => hb.2) (Below.mono (Keep.alloc _ _) (by rw [sf]; omega)), by rw [alloc_size, sf]; omega⟩ ?_
  · have := BoxAt.new (((w.alloc (.cells #[.int .i64 1, .int .i64 2] 3)).alloc (.cells #[.int .i64 (-2), .int .i64 3, .int .i64 3] 3)).alloc (.cells #[.slice (some ⟨w.heap.size, 0, none⟩) 2 2, .slice (some ⟨w.heap.size + 1, 0, none⟩) 3 3] 38)) 24 #[.int .i64 3, .slice (some ⟨w.heap.size + 1 + 1, 0, none⟩) 2 2]
    rw [sf] at this; exact this
  clear kf ff sf
  rintro W0 ⟨k0, b0, f0, s0⟩
  have K0 := hid k0
  have B0 := hid b0
  have FF := hid f0
  clear k0 b0 f0
  generalize hb4 : w.heap.size + 1 + 1 + 1 = b4 at B0 ⊢
  generalize hb3 : w.heap.size + 1 + 1 = b3 at B0 FF ⊢
  obtain ⟨hcb, -, hlb⟩ := B0.out.facts
  have hc0 : W0.cell? ⟨b4, 0, none⟩ = some (.int .i64 3) := hcb 0
  have hc1 : W0.cell? ⟨b4, 1, none⟩ = some (.slice (some ⟨b3, 0, none⟩) 2 2) := hcb 1
  have HB4 := hid hb4
  clear hcb hb3 hb4
  go_wp2_with fail
  refine at_calls (fun W' => Keep W0 W' ∧ NumsIs (fun b => w.heap.size ≤ b ∧ b < W'.heap.size) W' [-1] (.slice (some ⟨W0.heap.size, 0, none⟩) 1 1)) ⟨Keep.alloc _ _, box_nums (BoxAt.new _ _ _) ⟨K0.out.size, by rw [alloc_size]; omega⟩ (by simp) rfl⟩ ?_
  rintro W1 ⟨k1, n1⟩
  refine (follows_any (fun b => w.heap.size ≤ b ∧ b < W1.heap.size) 3 F0 [-1] _ _ _ W1 (fun b hb => hb.2) ⟨(FF.out.row.keep (B := W0.heap.size) (fun b hb => by omega) k1).mono (fun _ _ => rfl) (fun b hb => ⟨hb.1, by have := k1.size; omega⟩), FF.out.num⟩ n1 (fun x hx => by rw [List.mem_singleton.1 hx]; exact ⟨by decide, by decide⟩)).mono ?_
  rintro e w2 ⟨k2, hd⟩
  have K2 := hid (K0.out.trans (k1.trans k2))
  have K02 := hid (k1.trans k2)
  rcases hd with ⟨h, -⟩ | ⟨-, n, hn, hd⟩
  · exact absurd (f0_folE (by simp) (fun x hx => by rw [List.mem_singleton.1 hx]; exact ⟨by decide, by decide⟩)) h
  obtain rfl : n = 3 := by omega
  rcases hd with ⟨v, K, L, rfl, hg, hL, -, hnu⟩ | ⟨-, hf⟩
  rotate_left
  · exact absurd hf f0_no
  have HNU := hid (hnu.mono (w' := w2) (S' := fun b => w.heap.size ≤ b ∧ b < w2.heap.size) (fun _ _ => rfl) (fun b hb => ⟨Nat.le_trans K0.out.size (Nat.le_trans k1.size hb.1), hb.2⟩))
  have HKN := hid (f0_known hg hL)
  clear k1 n1 k2 hg hL hnu hn hc0 hc1
  have B2 := hid (B0.out.keep K02.out B0.out.facts.2.2)
  obtain ⟨hcb, -, hlb2⟩ := B2.out.facts
  have hc0 : w2.cell? ⟨b4, 0, none⟩ = some (.int .i64 3) := hcb 0
  have hc1 : w2.cell? ⟨b4, 1, none⟩ = some (.slice (some ⟨b3, 0, none⟩) 2 2) := hcb 1
  have FF2 := hid (show FormIs (fun b => w.heap.size ≤ b ∧ b < w2.heap.size) w2 3 F0 (some ⟨b3, 0, none⟩) 2 from ⟨(FF.out.row.keep (B := W0.heap.size) (fun b hb => by omega) K02.out).mono (fun _ _ => rfl) (fun b hb => ⟨hb.1, by have := K02.out.size; omega⟩), FF.out.num⟩)
  clear hcb K02
  go_wp2_with fail
  refine at_calls (fun W' => Keep w2 W' ∧ NumsIs (fun b => w.heap.size ≤ b ∧ b < W'.heap.size) W' [-1, -3] (.slice (some ⟨w2.heap.size, 0, none⟩) 2 2)) ⟨Keep.alloc _ _, box_nums (BoxAt.new _ _ _) ⟨K2.out.size, by rw [alloc_size]; omega⟩ (by simp) rfl⟩ ?_
  rintro W3 ⟨k3, n3⟩
  have hl2 : LitsC 3 [-1, -3] := fun x hx => by
    simp only [List.mem_cons, List.not_mem_nil, or_false] at hx
    rcases hx with rfl | rfl <;> exact ⟨by decide, by decide⟩
  refine (follows_any (fun b => w.heap.size ≤ b ∧ b < W3.heap.size) 3 F0 [-1, -3] _ _ _ W3 (fun b hb => hb.2) ⟨(FF2.out.row.keep (B := w2.heap.size) (fun b hb => hb.2) k3).mono (fun _ _ => rfl) (fun b hb => ⟨hb.1, Nat.lt_of_lt_of_le hb.2 k3.size⟩), FF2.out.num⟩ n3 (fun x hx => by have := (hl2 x hx).2; unfold InR; omega)).mono ?_
  rintro e w4 ⟨k4, hd⟩
  have K4 := hid (K2.out.trans (k3.trans k4))
  have K24 := hid (k3.trans k4)
  rcases hd with ⟨h, -⟩ | ⟨-, n, hn, hd⟩
  · exact absurd (f0_folE (by simp) hl2) h
  rcases hd with ⟨-, -, -, -, -, -, hno, -⟩ | ⟨rfl, -⟩
  · exact absurd f0_fails hno
  clear k3 n3 k4 hn hc0 hc1 hl2
  have B4 := hid (B2.out.keep K24.out B2.out.facts.2.2)
  obtain ⟨hcb, -, hlb4⟩ := B4.out.facts
  have hc0 : w4.cell? ⟨b4, 0, none⟩ = some (.int .i64 3) := hcb 0
  have hc1 : w4.cell? ⟨b4, 1, none⟩ = some (.slice (some ⟨b3, 0, none⟩) 2 2) := hcb 1
  have FF4 := hid (show FormIs (fun b => w.heap.size ≤ b ∧ b < w4.heap.size) w4 3 F0 (some ⟨b3, 0, none⟩) 2 from ⟨(FF2.out.row.keep (B := w2.heap.size) (fun b hb => hb.2) K24.out).mono (fun _ _ => rfl) (fun b hb => ⟨hb.1, Nat.lt_of_lt_of_le hb.2 K24.out.size⟩), FF2.out.num⟩)
  have HNU4 := hid ((HNU.out.keep (B := w2.heap.size) (fun b hb => hb.2) K24.out).mono (w' := w4) (S' := fun b => w.heap.size ≤ b ∧ b < w4.heap.size) (fun _ _ => rfl) (fun b hb => ⟨hb.1, Nat.lt_of_lt_of_le hb.2 K24.out.size⟩))
  clear hcb K24
  go_wp2_with fail
  refine at_calls (fun W' => Keep w4 W' ∧ BoolsIs (fun b => w.heap.size ≤ b ∧ b < W'.heap.size) W' [true, false, false] (.slice (some ⟨w4.heap.size, 0, none⟩) 3 3)) ⟨Keep.alloc _ _, _, 3, rfl, by simp, fun _ => ⟨w4.heap.size, 0, rfl, ⟨K4.out.size, by rw [alloc_size]; omega⟩, fun j x hx => ?_⟩⟩ ?_
  · rw [(BoxAt.new w4 4 #[.bool true, .bool false, .bool false]).facts.1]
    match j, hx with
    | 0, hx => cases hx; rfl
    | 1, hx => cases hx; rfl
    | 2, hx => cases hx; rfl
    | j + 3, hx => simp at hx
  rintro W5 ⟨k5, n5⟩
  refine (holds_any (fun b => w.heap.size ≤ b ∧ b < W5.heap.size) 3 F0 _ _ [true, false, false] _ W5 (fun b hb => hb.2) ⟨(FF4.out.row.keep (B := w4.heap.size) (fun b hb => hb.2) k5).mono (fun _ _ => rfl) (fun b hb => ⟨hb.1, Nat.lt_of_lt_of_le hb.2 k5.size⟩), FF4.out.num⟩ n5).mono ?_
  rintro e w6 ⟨rfl, k6⟩
  have K6 := hid (K4.out.trans (k5.trans k6))
  have K46 := hid (k5.trans k6)
  rw [f0_holds.1, f0_holds.2]
  have HNU6 := hid ((HNU4.out.keep (B := w4.heap.size) (fun b hb => hb.2) K46.out).mono (w' := w6) (S' := fun b => w.heap.size ≤ b ∧ b < w6.heap.size) (fun _ _ => rfl) (fun b hb => ⟨hb.1, Nat.lt_of_lt_of_le hb.2 K46.out.size⟩))
  clear k5 n5 k6 hc0 hc1 K46
  go_wp2_with fail
  refine at_calls (fun W' => Keep w6 W' ∧ NumsIs (fun b => w.heap.size ≤ b ∧ b < W'.heap.size) W' [-1, 2, 3] (.slice (some ⟨w6.heap.size, 0, none⟩) 3 3)) ⟨Keep.alloc _ _, box_nums (BoxAt.new _ _ _) ⟨K6.out.size, by rw [alloc_size]; omega⟩ (by simp) rfl⟩ ?_
  rintro W7 ⟨k7, n7⟩
  refine (equalNums_any (fun b => w.heap.size ≤ b ∧ b < W7.heap.size) _ _ (known K) [-1, 2, 3] W7 ((HNU6.out.keep (B := w6.heap.size) (fun b hb => hb.2) k7).mono (fun _ _ => rfl) (fun b hb => ⟨hb.1, Nat.lt_of_lt_of_le hb.2 k7.size⟩)) n7).mono ?_
  rintro e w8 ⟨rfl, q, rfl⟩
  have K8 := hid (K6.out.trans (k7.trans (Keep.drewN (Keep.refl W7) q)))
  rw [HKN.out]
  generalize W7.drewN q = W8 at K8 ⊢
  clear k7 n7
  go_wp2_with fail
  go_ret
  exact ⟨rfl, K8.out⟩
end Go.Proofs.Ytbblgmkjgcjcaab
