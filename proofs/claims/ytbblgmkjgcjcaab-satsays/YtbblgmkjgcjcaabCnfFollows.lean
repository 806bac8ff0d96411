/- cnf.Follows: an error, or all that follows, by variable, just where nothing fails. -/
import Derived.Test.YtbblgmkjgcjcaabCnfHolds
import Derived.Test.YtbblgmkjgcjcaabFolFrom
namespace Go.Proofs.Ytbblgmkjgcjcaab
open Go.RowKit Go.Lib

def folE (vars : Int) (F : List (List Int)) (A : List Int) : Int := if formE vars F ≠ 0 then formE vars F else if 400 < A.length then 2 else litsE A vars
theorem folE_zero {vars : Int} {F : List (List Int)} {A : List Int} (h : folE vars F A = 0) : ∃ n : Nat, vars = n ∧ n ≤ 400 ∧ F.length ≤ 4000 ∧ (∀ c ∈ F, c.length ≤ 60 ∧ LitsC n c) ∧ A.length ≤ 400 ∧ LitsC n A := by
  unfold folE at h
  split at h
  · rename_i h1; exact absurd h h1
  · rename_i h1
    split at h
    · cases h
    · obtain ⟨n, rfl, h2, h3, h4⟩ := formE_zero (Decidable.byContradiction h1)
      exact ⟨n, rfl, h2, h3, h4, by omega, litsE_zero.1 h⟩
/-- What Follows leaves. -/
def FolDone (vars : Int) (F : List (List Int)) (A : List Int) (w : World) (e : Ending) (w' : World) : Prop :=
  Keep w w' ∧ ((folE vars F A ≠ 0 ∧ e = .returned (.tuple #[.slice none 0 0, .bool false, .int .i64 (folE vars F A)])) ∨
    (folE vars F A = 0 ∧ ∃ n : Nat, vars = n ∧ ((∃ v K L, e = .returned (.tuple #[v, .bool true, .int .i64 0]) ∧ Good n F A K L ∧ (∀ x, x ∈ L ↔ Der F A x) ∧ ¬ FailsF F A ∧ NumsIs (fun b => w.heap.size ≤ b ∧ b < w'.heap.size) w' (known K) v) ∨ (e = .returned (.tuple #[.slice none 0 0, .bool false, .int .i64 0]) ∧ FailsF F A))))
/-- What stands below the table is left alone. -/
theorem Turn.under {x x' : XD} {w w' : World} {N : Nat} (t : Turn x.all x'.all w w') (hN : N ≤ w.heap.size) (h : ∀ b, x.all b → N ≤ b) : Below N w w' ∧ ∀ b, x'.all b → N ≤ b :=
  ⟨t.below hN fun b hb e => by have := h b e; omega, fun b hb => (t.new b hb).elim (h b) fun e => Nat.le_trans hN e⟩
set_option maxHeartbeats 4000000 in
set_option maxRecDepth 100000 in
theorem follows_any (S : Nat → Prop) (vars : Int) (F : List (List Int)) (A : List Int) (p : Option Addr) (cap : Nat) (av : Value) (w : World) (hS : ∀ b, S b → b < w.heap.size) (hf : FormIs S w vars F p cap) (ha : NumsIs S w A av) (hr : ∀ x ∈ A, InR x) :
    Calls Try.prog 12 #[.agg #[.int .i64 vars, .slice p F.length cap], av] w fun e w' => FolDone vars F A w e w' := by
  have HF := hid hf
  have HA := hid ha
  have HR := hid hr
  obtain ⟨ap, ac, rfl, halen⟩ := ha.shape
  have HE := hid (show folE vars F A = if formE vars F ≠ 0 then formE vars F else if 400 < A.length then 2 else litsE A vars from rfl)
  clear hf ha hr
  go_enter Try.func12, Try.ntmps12
  go_wp2_with fail
  refine at_calls (fun W' => Keep w W' ∧ BoxAt w.heap.size 24 #[.int .i64 vars, .slice p F.length cap] W') ⟨Keep.alloc _ _, BoxAt.new _ _ _⟩ ?_
  rintro W0 ⟨k0, b0⟩
  refine (formCheck_any S vars F p cap W0 (fun b hb => Nat.lt_of_lt_of_le (hS b hb) k0.size) (HF.out.keep hS k0)).mono ?_
  rintro e w1 ⟨rfl, hw1⟩
  have k1 : Keep W0 w1 := by rw [hw1]; exact Keep.alloc _ _
  clear hw1
  have K1 := hid (k0.trans k1)
  have B1 := hid (b0.keep k1 b0.facts.2.2)
  clear k0 b0 k1
  obtain ⟨hcb, -, hlb⟩ := B1.out.facts
  have hc0 : w1.cell? ⟨w.heap.size, 0, none⟩ = some (.int .i64 vars) := hcb 0
  have hc1 : w1.cell? ⟨w.heap.size, 1, none⟩ = some (.slice p F.length cap) := hcb 1
  have HZ := hid (fun h : formE vars F = 0 => formE_zero h)
  generalize formE vars F = r at HE HZ ⊢
  clear hcb
  by_cases hr : r = 0
  · subst hr
    have HE2 := hid (HE.out.trans (if_neg (by simp)))
    by_cases hl : 400 < A.length
    · have hl' : (400 : Int) < A.length := by omega
      have HE3 := hid (HE2.out.trans (if_pos hl))
      go_wp2_with fail
      refine bodyPost_ret (v := .tuple #[.slice none 0 0, .bool false, .int .i64 2]) ?_ rfl ?_
      · simp [results, Try.results12, go_sem]
      · exact ⟨K1.out, .inl ⟨by rw [HE3.out]; decide, by rw [HE3.out]⟩⟩
    · have hl' : ¬ (400 : Int) < A.length := by omega
      have HE3 := hid (HE2.out.trans (if_neg hl))
      go_wp2_with fail
      refine (checkLiterals_any S A _ vars w1 (fun b hb => Nat.lt_of_lt_of_le (hS b hb) K1.out.size) (HA.out.keep hS K1.out) HR.out).mono ?_
      rintro e w2 ⟨rfl, hw2⟩
      rw [hw2]
      clear hw2
      have HLZ := hid (fun (n : Nat) (hv : vars = n) (h : litsE A vars = 0) => litsE_zero.1 (hv ▸ h : litsE A n = 0))
      generalize litsE A vars = r2 at HE3 HLZ ⊢
      by_cases hr2 : r2 = 0
      · subst hr2
        obtain ⟨n, hvn, hn4, hFl, hcl⟩ := HZ.out (by trivial)
        have hal := HLZ.out n hvn (by trivial)
        subst hvn
        have HAL := hid hal
        have HCL := hid hcl
        have HSW1 := hid (fun b (hb : S b) => Nat.lt_of_lt_of_le (hS b hb) K1.out.size)
        clear hal hcl
        go_wp2_with fail
        refine (new_any n w1 (by omega)).mono ?_
        rintro e w2 ⟨x, B, rfl, hxn, hxf, k2, hlow⟩
        subst hxn
        have XF2 := hid hxf
        have K2 := hid (K1.out.trans k2)
        have B2 := hid (B1.out.keep k2 B1.out.facts.2.2)
        have HLOW := hid hlow
        have HSZ2 := hid k2.size
        obtain ⟨hcb, -, hlb2⟩ := B2.out.facts
        have hd1 : w2.cell? ⟨w.heap.size, 1, none⟩ = some (.slice p F.length cap) := hcb 1
        clear hxf k2 hc0 hc1 hcb hlow
        have HADD := hid (add_any x B S _ [] F (.slice p F.length cap) w2 XF2.out (by omega) (HF.out.keep hS K2.out).row (fun b hb => ⟨Nat.lt_of_lt_of_le (HSW1.out b hb) HSZ2.out, fun e => by have := HLOW.out b e; have := HSW1.out b hb; omega⟩) (by simp) HCL.out (by simp; omega))
        go_wp2_with fail
        refine HADD.out.mono ?_
        rintro e w3 ⟨rfl, fl, av, rv, cv, C, W, K', hx3, ht3⟩
        have XF3 := hid hx3
        obtain ⟨hb3, hl3⟩ := ht3.under HSZ2.out HLOW.out
        have B3 := hid hb3
        have HL3 := hid hl3
        have K3 := hid (show Keep w w3 from Below.trans K2.out (Below.mono B3.out K1.out.size))
        clear hx3 ht3 hb3 hl3 hd1 HADD
        have HFR := hid (show Calls Try.prog 45 #[.pointer (some ⟨x.bx, 0, none⟩), .slice ap A.length ac] w3 _ from from_any (x.next fl av rv cv C W) B S K' ([] ++ F) A (.slice ap A.length ac) w3 XF3.out (by show x.n ≤ 1000; omega) (HA.out.keep hS K3.out) (fun b hb => ⟨Nat.lt_of_lt_of_le (HSW1.out b hb) (Nat.le_trans HSZ2.out B3.out.size), fun e => by have := HL3.out b e; have := HSW1.out b hb; omega⟩) (fun c hc => (HCL.out c (by simpa using hc)).2) (by simp; omega) HAL.out)
        go_wp2_with fail
        refine HFR.out.mono ?_
        rintro e w4 ⟨C4, rv4, W4, hx4, ht4, hd⟩
        obtain ⟨hb4, -⟩ := ht4.under (Nat.le_trans HSZ2.out B3.out.size) HL3.out
        have K4 := hid (show Keep w w4 from Below.trans K3.out (Below.mono hb4 K1.out.size))
        have HSZ := hid K3.out.size
        have HD := hid (show (∃ v K L, e = .returned (.tuple #[v, .bool true]) ∧ Good x.n F A K L ∧ (∀ y, y ∈ L ↔ Der F A y) ∧ ¬ FailsF F A ∧ NumsIs (fun b => w3.heap.size ≤ b ∧ b < w4.heap.size) w4 (known K) v) ∨ (e = .returned (.tuple #[.slice none 0 0, .bool false]) ∧ FailsF F A) from by
          rcases hd with ⟨v, K2, L, h1, h2, h3, h4, h5⟩ | h
          · exact .inl ⟨v, K2, L, h1, h2, h3, h4, h5.mono (fun _ _ => rfl) fun b hb => ⟨hb.1, hb.2.1⟩⟩
          · exact .inr h)
        clear hd hx4 ht4 hb4 HFR
        rcases HD.out with ⟨v, K, L, rfl, h1, h2, h3, h4⟩ | ⟨rfl, h1⟩
        · have H := hid (And.intro h1 (And.intro h2 (And.intro h3 h4)))
          clear h1 h2 h3 h4
          go_wp2_with fail
          refine bodyPost_ret (v := .tuple #[v, .bool true, .int .i64 0]) ?_ rfl ?_
          · simp [results, Try.results12, go_sem]
          · exact ⟨K4.out, .inr ⟨HE3.out, x.n, rfl, .inl ⟨v, K, L, rfl, H.out.1, H.out.2.1, H.out.2.2.1, H.out.2.2.2.mono (fun _ _ => rfl) fun b hb => ⟨Nat.le_trans HSZ.out hb.1, hb.2⟩⟩⟩⟩
        · have H := hid h1
          clear h1
          go_wp2_with fail
          refine bodyPost_ret (v := .tuple #[.slice none 0 0, .bool false, .int .i64 0]) ?_ rfl ?_
          · simp [results, Try.results12, go_sem]
          · exact ⟨K4.out, .inr ⟨HE3.out, x.n, rfl, .inr ⟨rfl, H.out⟩⟩⟩
      · have hr' : (r2 != 0) = true := by simp [hr2]
        have hr2' := hid hr2
        clear hr2
        go_wp2_with fail
        refine bodyPost_ret (v := .tuple #[.slice none 0 0, .bool false, .int .i64 r2]) ?_ rfl ?_
        · simp [results, Try.results12, go_sem]
        · exact ⟨K1.out, .inl ⟨by rw [HE3.out]; exact hr2'.out, by rw [HE3.out]⟩⟩
  · have hr' : (r != 0) = true := by simp [hr]
    have HE2 := hid (HE.out.trans (if_pos hr))
    have hrr := hid hr
    clear hr
    go_wp2_with fail
    refine bodyPost_ret (v := .tuple #[.slice none 0 0, .bool false, .int .i64 r]) ?_ rfl ?_
    · simp [results, Try.results12, go_sem]
    · exact ⟨K1.out, .inl ⟨by rw [HE2.out]; exact hrr.out, by rw [HE2.out]⟩⟩
end Go.Proofs.Ytbblgmkjgcjcaab
