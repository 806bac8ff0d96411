/- sat's bothSigns and step: what the search does is what srch says. -/
import Derived.Test.YtbblgmkjgcjcaabSatMem
import Derived.Test.YtbblgmkjgcjcaabSatParts
import Derived.Test.YtbblgmkjgcjcaabCnfLaw
namespace Go.Proofs.Ytbblgmkjgcjcaab
open Go.RowKit Go.Lib

theorem own_farS {v v' : Value} {w : World} (h : v'.ownBlock = v.ownBlock ∨ v'.ownBlock = some w.heap.size) : v'.ownBlock = v.ownBlock ∨ ∃ g, v'.ownBlock = some g ∧ w.heap.size ≤ g := h.imp id fun h => ⟨_, h, Nat.le_refl _⟩
theorem one_atS {b : Nat} {T : TypeId} {v : Value} {w : World} (h : VarAt b T v w) : ∀ j u, [v][j]? = some u → w.cell? ((⟨b, 0, none⟩ : Addr).add j) = some u := by
  intro j u hu
  cases j with
  | zero =>
    have : v = u := by simpa using hu
    subst this
    have hadd : (⟨b, 0, none⟩ : Addr).add 0 = ⟨b, 0, none⟩ := by unfold Addr.add; split <;> simp_all
    rw [hadd]
    exact h.facts.1
  | succ j => simp at hu
theorem at_anyS {P : Program} {md : Region.Mode} {ops : Array Oper} {Q : Exit → Act → World → Prop} {S : World → Prop} {fuel : Nat} {listed : Array Bool} {a : Act} {W : World} (R : World → Prop) (hR : R W) (h : ∀ W', R W' → wpAnyH P md ops Q S fuel listed a W') : wpAnyH P md ops Q S fuel listed a W := h W hR
/-- The step with the variable false, and, if that is closed, the one with it true. -/
noncomputable def both (n : Nat) (F : List (List Int)) (g : Nat) (A : List Int) (k s : Nat) (P : List (List Int)) : SRes :=
  match srch n F g (A ++ [-(k : Int)]) s P with
  | ⟨.closed, s1, P1⟩ => srch n F g (A ++ [(k : Int)]) s1 P1
  | r => r
theorem both_first {n : Nat} {F : List (List Int)} {g : Nat} {A : List Int} {k s : Nat} {P : List (List Int)} (h : (srch n F g (A ++ [-(k : Int)]) s P).o ≠ .closed) : both n F g A k s P = srch n F g (A ++ [-(k : Int)]) s P := by
  unfold both
  generalize srch n F g (A ++ [-(k : Int)]) s P = r at h ⊢
  obtain ⟨o, s1, P1⟩ := r
  cases o <;> first | rfl | exact absurd rfl h
theorem both_second {n : Nat} {F : List (List Int)} {g : Nat} {A : List Int} {k s s1 : Nat} {P P1 : List (List Int)} (h : srch n F g (A ++ [-(k : Int)]) s P = ⟨.closed, s1, P1⟩) : both n F g A k s P = srch n F g (A ++ [(k : Int)]) s1 P1 := by
  unfold both; rw [h]
theorem srch_as_both {n : Nat} {F : List (List Int)} {g : Nat} {A : List Int} {s : Nat} {P : List (List Int)} {k : Nat} (hs : s ≠ 0) (h : ¬ FailsF F A) (hl : lowU n F A = some k) :
    ((both n F g A k (s - 1) P).o ≠ .closed → srch n F (g + 1) A s P = both n F g A k (s - 1) P) ∧ ((both n F g A k (s - 1) P).o = .closed → srch n F (g + 1) A s P = ⟨.closed, (both n F g A k (s - 1) P).s, (both n F g A k (s - 1) P).P ++ [negs A]⟩) := by
  cases e1 : srch n F g (A ++ [-(k : Int)]) (s - 1) P with
  | mk o1 s1 P1 =>
    cases o1 with
    | out => rw [both_first (by rw [e1]; simp)]; exact ⟨fun hc => srch_first hs h hl hc, fun hc => by rw [e1] at hc; cases hc⟩
    | model m => rw [both_first (by rw [e1]; simp)]; exact ⟨fun hc => srch_first hs h hl hc, fun hc => by rw [e1] at hc; cases hc⟩
    | closed =>
      rw [both_second e1]
      refine ⟨fun hc => srch_second hs h hl e1 hc, fun hc => ?_⟩
      cases e2 : srch n F g (A ++ [(k : Int)]) s1 P1 with
      | mk o2 s2 P2 =>
        rw [e2] at hc
        cases hc
        exact srch_both hs h hl e1 e2
/-- What a step leaves, where the search says r. -/
def StepDone (d : SD) (B N : Nat) (K : List Int) (F : List (List Int)) (r : SRes) (w : World) (e : Ending) (w' : World) : Prop :=
  ∃ d' : SD, d'.sb = d.sb ∧ d'.x.n = d.x.n ∧ d'.x.bx = d.x.bx ∧ Turn d.own d'.own w w' ∧
    ((r.o = .out ∧ e = .returned (.tuple #[.bool false, .int .i64 8])) ∨ (∃ m, r.o = .model m ∧ e = .returned (.tuple #[.bool false, .int .i64 0]) ∧ SrM d' B N K F w' ∧ BoolsIs (fun b => N ≤ b ∧ b < w'.heap.size) w' m d'.mv) ∨ (r.o = .closed ∧ e = .returned (.tuple #[.bool true, .int .i64 0]) ∧ SrM d' B N K F w' ∧ d'.s = r.s ∧ d'.P = r.P))
def StepOK (F : List (List Int)) (n g : Nat) : Prop := ∀ (d : SD) (B N : Nat) (K : List Int) (S : Nat → Prop) (A : List Int) (av : Value) (w : World), SrM d B N K F w → d.x.n = n → A.length + g = 61 → NumsIs S w A av → (∀ b, S b → b < w.heap.size ∧ ¬ d.own b) → LitsC n A → d.P.length + d.s ≤ 40000 →
  Calls Try.prog 53 #[.pointer (some ⟨d.sb, 0, none⟩), av] w fun e w' => StepDone d B N K F (srch n F g A d.s d.P) w e w'

set_option maxHeartbeats 4000000 in
set_option maxRecDepth 100000 in
theorem both_any (F : List (List Int)) (n g : Nat) (hst : StepOK F n g) (d : SD) (B N : Nat) (K : List Int) (S : Nat → Prop) (A : List Int) (av : Value) (k : Nat) (w : World) (h : SrM d B N K F w) (hxn : d.x.n = n) (hg : A.length + 1 + g = 61) (ha : NumsIs S w A av) (hS : ∀ b, S b → b < w.heap.size ∧ ¬ d.own b) (hA : LitsC n A) (hk : 1 ≤ k ∧ k ≤ n) (hn : n ≤ 400) (hP : d.P.length + d.s ≤ 40000) :
    Calls Try.prog 68 #[.pointer (some ⟨d.sb, 0, none⟩), av, .int .i64 (k : Int)] w fun e w' => StepDone d B N K F (both n F g A k d.s d.P) w e w' := by
  obtain ⟨i0, hi, hz0, hz1, hz2⟩ := info_parts infoInt
  have ix0 : ∀ w : World, (Instr.index 106 (.agg #[.int .i64 (-1), .int .i64 1]) (.int .i64 0)).run Try.prog w = .ok (.int .i64 (-1)) w := fun _ => by kernel_rfl
  have ix1 : ∀ w : World, (Instr.index 106 (.agg #[.int .i64 (-1), .int .i64 1]) (.int .i64 1)).run Try.prog w = .ok (.int .i64 1) w := fun _ => by kernel_rfl
  have HST := hid hst
  have HX := hid h
  have HA := hid ha
  have HLA := hid hA
  have HS0 := hid hS
  have HPS := hid hP
  have HXN := hid hxn
  have hk1 := hk.1
  have hk2 := hk.2
  have hlit : Lit n (k : Int) := ⟨by omega, by omega⟩
  have HLIT := hid hlit
  obtain ⟨ap, ac, rfl, halen⟩ := ha.shape
  clear hst h ha hA hS hP hxn hk hlit
  go_enter Try.func68, Try.ntmps68
  go_wp2_with fail
  go_loopg [11] 2 (fun gk iv wr => ∃ (i : Nat) (d1 : SD), i + gk = 2 ∧ iv = .int .i64 (i : Int) ∧ SrM d1 B N K F wr ∧ Turn d.own d1.own w wr ∧ (d1.sb = d.sb ∧ d1.x.n = d.x.n ∧ d1.x.bx = d.x.bx) ∧ ((i = 0 ∧ d1 = d) ∨ (i = 1 ∧ srch n F g (A ++ [-(k : Int)]) d.s d.P = ⟨.closed, d1.s, d1.P⟩) ∨ (i = 2 ∧ both n F g A k d.s d.P = ⟨.closed, d1.s, d1.P⟩)))
  case atStart => exact ⟨0, d, rfl, rfl, HX.out, Turn.refl _ _, ⟨rfl, rfl, rfl⟩, .inl ⟨rfl, rfl⟩⟩
  case round =>
    obtain ⟨i, d1, hi', rfl, hx1, ht1, hid1, hcase⟩ := hrel
    have X1 := hid hx1
    have T1 := hid ht1
    have ID1 := hid hid1
    have hsb : d1.sb = d.sb := hid1.1
    have HSB := hid hsb
    clear hx1 ht1 hid1 hsb
    have N1 := hid (HA.out.turn T1.out HS0.out)
    have HS1 := hid (show ∀ b, S b → b < wr.heap.size ∧ ¬ d1.own b from fun b hb => ⟨Nat.lt_of_lt_of_le (HS0.out b hb).1 T1.out.size, fun e => (T1.out.new b e).elim (HS0.out b hb).2 fun e => by have := (HS0.out b hb).1; omega⟩)
    have HCL := hid (cloneI_any S A ap ac wr (fun b hb => (HS1.out b hb).1) N1.out (by omega))
    rcases hcase with ⟨rfl, hd⟩ | ⟨rfl, hs1⟩ | ⟨rfl, hb⟩
    · have HD1 := hid hd
      clear hd
      have hgk : gk = 2 := by omega
      clear hi'
      go_wp2_with fail
      refine HCL.out.mono ?_
      rintro e w2 ⟨v2, rfl, how2, k2⟩
      obtain ⟨p2, c2, hv2⟩ := how2.ints.len
      subst hv2
      have HOW2 := hid how2
      have K2 := hid k2
      clear how2 k2 HCL
      have hsz := K2.out.size
      go_wp2_with (at_builtin; refine wpList_append_own_at _ rfl _ _ 26 rfl wr.heap.size 3 i0 (.int .i64 0) 1 8 Try.underlying26 hi hz0 hz1 hz2 rfl (by decide) (.slice p2 A.length c2) A.length (A.map (Value.int .i64)) rfl (HOW2.out.alloc _) ⟨w2.heap.size, 0, none⟩ 1 1 [.int .i64 (-(k : Int))] rfl rfl one_newsC one_cellI (by unfold maxLen; omega) (by omega) (by have := alloc_size w2 (.cells #[.int .i64 (-(k : Int))] 3); omega) ?_; intro v5 w5 h1 h2 _ h4; have P5 := hid (ints_push K2.out.size HOW2.out h1 h2); obtain ⟨g5, cap5, rfl⟩ := owns_shape h1 (Nat.succ_pos _); clear h1 h2 h4)
      have K5 := hid (Below.trans K2.out P5.out.2)
      have HL5 := hid (show LitsC n (A ++ [-(k : Int)]) from fun x hx => by
        rcases List.mem_append.1 hx with hx | hx
        · exact HLA.out x hx
        · rw [List.mem_singleton.1 hx]; exact HLIT.out.neg)
      have HN5 := hid (show NumsIs (fun b => (Value.slice (some ⟨g5, 0, none⟩) (A.length + 1) cap5).ownBlock = some b) w5 (A ++ [-(k : Int)]) (.slice (some ⟨g5, 0, none⟩) (A.length + 1) cap5) from P5.out.1.numsO)
      have HST5 := hid (HST.out d1 B N K (fun b => (Value.slice (some ⟨g5, 0, none⟩) (A.length + 1) cap5).ownBlock = some b) (A ++ [-(k : Int)]) (.slice (some ⟨g5, 0, none⟩) (A.length + 1) cap5) w5 (X1.out.keep K5.out) (ID1.out.2.1.trans HXN.out) (by simp; omega) HN5.out (fun b hb => by
        have h1 := owns_in P5.out.1 hb
        exact ⟨h1.2, fun e => by have := X1.out.lt e; omega⟩) HL5.out (by rw [HD1.out]; exact HPS.out))
      rw [HSB.out] at HST5
      go_wp2_with fail
      with_reducible refine HST5.out.mono ?_
      rintro e w6 ⟨d6, h61, h62, h63, ht6, hr6⟩
      have ID6 := hid (show d6.sb = d.sb ∧ d6.x.n = d.x.n ∧ d6.x.bx = d.x.bx from ⟨h61.trans HSB.out, h62.trans ID1.out.2.1, h63.trans ID1.out.2.2⟩)
      have T6 := hid (T1.out.trans ((Turn.keep K5.out).trans ht6))
      clear h61 h62 h63 ht6 HST5
      rcases hr6 with ⟨h1, rfl⟩ | ⟨m, h1, rfl, h2, h3⟩ | ⟨h1, rfl, h2, h3, h4⟩
      · have HB := hid (both_first (n := n) (F := F) (g := g) (A := A) (k := k) (s := d.s) (P := d.P) (by rw [← HD1.out, h1]; simp))
        have H1 := hid h1
        clear h1
        go_wp2_with fail
        refine bodyPost_ret (v := .tuple #[.bool false, .int .i64 8]) ?_ rfl ?_
        · simp [results, Try.results68, go_sem]
        · exact ⟨d6, ID6.out.1, ID6.out.2.1, ID6.out.2.2, T6.out, .inl ⟨by rw [HB.out, ← HD1.out]; exact H1.out, rfl⟩⟩
      · have HB := hid (both_first (n := n) (F := F) (g := g) (A := A) (k := k) (s := d.s) (P := d.P) (by rw [← HD1.out, h1]; simp))
        have H1 := hid (And.intro h1 (And.intro h2 h3))
        clear h1 h2 h3
        go_wp2_with fail
        refine bodyPost_ret (v := .tuple #[.bool false, .int .i64 0]) ?_ rfl ?_
        · simp [results, Try.results68, go_sem]
        · exact ⟨d6, ID6.out.1, ID6.out.2.1, ID6.out.2.2, T6.out, .inr (.inl ⟨m, by rw [HB.out, ← HD1.out]; exact H1.out.1, rfl, H1.out.2.1, H1.out.2.2⟩)⟩
      · have HCLO := hid (show srch n F g (A ++ [-(k : Int)]) d.s d.P = ⟨.closed, d6.s, d6.P⟩ by rw [h3, h4, ← h1, HD1.out])
        have X6 := hid h2
        clear h1 h2 h3 h4
        go_wp2_with fail
        go_roundg 1
        case rel => exact ⟨1, d6, by omega, by go_num, X6.out, T6.out, ID6.out, .inr (.inl ⟨rfl, HCLO.out⟩)⟩
        case measure => omega
    · have HS1E := hid hs1
      have HP1 := hid (show d1.P.length + d1.s ≤ 40000 from by
        have h1 := (srch_closed (n := n) (F := F) g _ _ _ _ _ (by simp; omega) (fun x hx => by
          rcases List.mem_append.1 hx with hx | hx
          · exact HLA.out x hx
          · rw [List.mem_singleton.1 hx]; exact HLIT.out.neg) hs1).few
        have := HPS.out
        omega)
      clear hs1
      have hgk : gk = 1 := by omega
      clear hi'
      go_wp2_with fail
      refine HCL.out.mono ?_
      rintro e w2 ⟨v2, rfl, how2, k2⟩
      obtain ⟨p2, c2, hv2⟩ := how2.ints.len
      subst hv2
      have HOW2 := hid how2
      have K2 := hid k2
      clear how2 k2 HCL
      have hsz := K2.out.size
      go_wp2_with (at_builtin; refine wpList_append_own_at _ rfl _ _ 26 rfl wr.heap.size 3 i0 (.int .i64 0) 1 8 Try.underlying26 hi hz0 hz1 hz2 rfl (by decide) (.slice p2 A.length c2) A.length (A.map (Value.int .i64)) rfl (HOW2.out.alloc _) ⟨w2.heap.size, 0, none⟩ 1 1 [.int .i64 ((k : Int))] rfl rfl one_newsC one_cellI (by unfold maxLen; omega) (by omega) (by have := alloc_size w2 (.cells #[.int .i64 ((k : Int))] 3); omega) ?_; intro v5 w5 h1 h2 _ h4; have P5 := hid (ints_push K2.out.size HOW2.out h1 h2); obtain ⟨g5, cap5, rfl⟩ := owns_shape h1 (Nat.succ_pos _); clear h1 h2 h4)
      have K5 := hid (Below.trans K2.out P5.out.2)
      have HL5 := hid (show LitsC n (A ++ [(k : Int)]) from fun x hx => by
        rcases List.mem_append.1 hx with hx | hx
        · exact HLA.out x hx
        · rw [List.mem_singleton.1 hx]; exact HLIT.out)
      have HN5 := hid (show NumsIs (fun b => (Value.slice (some ⟨g5, 0, none⟩) (A.length + 1) cap5).ownBlock = some b) w5 (A ++ [(k : Int)]) (.slice (some ⟨g5, 0, none⟩) (A.length + 1) cap5) from P5.out.1.numsO)
      have HST5 := hid (HST.out d1 B N K (fun b => (Value.slice (some ⟨g5, 0, none⟩) (A.length + 1) cap5).ownBlock = some b) (A ++ [(k : Int)]) (.slice (some ⟨g5, 0, none⟩) (A.length + 1) cap5) w5 (X1.out.keep K5.out) (ID1.out.2.1.trans HXN.out) (by simp; omega) HN5.out (fun b hb => by
        have h1 := owns_in P5.out.1 hb
        exact ⟨h1.2, fun e => by have := X1.out.lt e; omega⟩) HL5.out HP1.out)
      rw [HSB.out] at HST5
      go_wp2_with fail
      with_reducible refine HST5.out.mono ?_
      rintro e w6 ⟨d6, h61, h62, h63, ht6, hr6⟩
      have ID6 := hid (show d6.sb = d.sb ∧ d6.x.n = d.x.n ∧ d6.x.bx = d.x.bx from ⟨h61.trans HSB.out, h62.trans ID1.out.2.1, h63.trans ID1.out.2.2⟩)
      have T6 := hid (T1.out.trans ((Turn.keep K5.out).trans ht6))
      clear h61 h62 h63 ht6 HST5
      rcases hr6 with ⟨h1, rfl⟩ | ⟨m, h1, rfl, h2, h3⟩ | ⟨h1, rfl, h2, h3, h4⟩
      · have HB := hid (both_second HS1E.out)
        have H1 := hid h1
        clear h1
        go_wp2_with fail
        refine bodyPost_ret (v := .tuple #[.bool false, .int .i64 8]) ?_ rfl ?_
        · simp [results, Try.results68, go_sem]
        · exact ⟨d6, ID6.out.1, ID6.out.2.1, ID6.out.2.2, T6.out, .inl ⟨by rw [HB.out]; exact H1.out, rfl⟩⟩
      · have HB := hid (both_second HS1E.out)
        have H1 := hid (And.intro h1 (And.intro h2 h3))
        clear h1 h2 h3
        go_wp2_with fail
        refine bodyPost_ret (v := .tuple #[.bool false, .int .i64 0]) ?_ rfl ?_
        · simp [results, Try.results68, go_sem]
        · exact ⟨d6, ID6.out.1, ID6.out.2.1, ID6.out.2.2, T6.out, .inr (.inl ⟨m, by rw [HB.out]; exact H1.out.1, rfl, H1.out.2.1, H1.out.2.2⟩)⟩
      · have HCLO := hid (show srch n F g (A ++ [(k : Int)]) d1.s d1.P = ⟨.closed, d6.s, d6.P⟩ by rw [h3, h4, ← h1])
        have X6 := hid h2
        clear h1 h2 h3 h4
        go_wp2_with fail
        go_roundg 0
        case rel => exact ⟨2, d6, by omega, by go_num, X6.out, T6.out, ID6.out, .inr (.inr ⟨rfl, (both_second HS1E.out).trans HCLO.out⟩)⟩
        case measure => omega
    · have HB := hid hb
      have hgk : gk = 0 := by omega
      clear hb hi' HCL
      go_wp2_with fail
      refine bodyPost_ret (v := .tuple #[.bool true, .int .i64 0]) ?_ rfl ?_
      · simp [results, Try.results68, go_sem]
      · exact ⟨d1, ID1.out.1, ID1.out.2.1, ID1.out.2.2, T1.out, .inr (.inr ⟨by rw [HB.out], rfl, X1.out, by rw [HB.out], by rw [HB.out]⟩)⟩
end Go.Proofs.Ytbblgmkjgcjcaab
