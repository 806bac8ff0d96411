/- cnf.Follows: an error, or all that follows, by variable, just where nothing fails. -/
import Derived.Test.YtkckkjpkidcbnabCnfFrom
namespace Go.Proofs.Ytkckkjpkidcbnab
open Go.RowKit Go.Lib

def folE (vars : Int) (F : List (List Int)) (A : List Int) : Int := if formE vars F ≠ 0 then formE vars F else if 400 < A.length then 2 else litsE A vars
theorem folE_zero {vars : Int} {F : List (List Int)} {A : List Int} (h : folE vars F A = 0) : ∃ n : Nat, vars = n ∧ n ≤ 400 ∧ F.length ≤ 4000 ∧ (∀ c ∈ F, c.length ≤ 60 ∧ LitsC n c) ∧ A.length ≤ 400 ∧ LitsC n A := by
  unfold folE at h
  split at h
  · rename_i h1; exact absurd h h1
  · rename_i h1
    split at h
    · cases h
    · obtain ⟨n, rfl, h2, h3, h4⟩ := formE_zero (Decidable.byContradiction h1)
      exact ⟨n, rfl, h2, h3, h4, by omega, litsE_zero.1 h⟩
/-- What Follows leaves. -/
def FolDone (vars : Int) (F : List (List Int)) (A : List Int) (w : World) (e : Ending) (w' : World) : Prop :=
  Keep w w' ∧ ((folE vars F A ≠ 0 ∧ e = .returned (.tuple #[.slice none 0 0, .bool false, .int .i64 (folE vars F A)])) ∨
    (folE vars F A = 0 ∧ ∃ n : Nat, vars = n ∧ ((∃ v K L, e = .returned (.tuple #[v, .bool true, .int .i64 0]) ∧ Good n F A K L ∧ (∀ x, x ∈ L ↔ Der F A x) ∧ ¬ FailsF F A ∧ NumsIs (fun b => w.heap.size ≤ b ∧ b < w'.heap.size) w' (known K) v) ∨ (e = .returned (.tuple #[.slice none 0 0, .bool false, .int .i64 0]) ∧ FailsF F A))))
theorem rep_get (m i : Nat) : (List.replicate m ([] : List (List Int))).getD i [] = [] := by
  simp [List.getD_eq_getElem?_getD, List.getElem?_replicate]; split <;> simp

set_option maxHeartbeats 4000000 in
set_option maxRecDepth 100000 in
theorem follows_any (S : Nat → Prop) (vars : Int) (F : List (List Int)) (A : List Int) (p : Option Addr) (cap : Nat) (av : Value) (w : World) (hS : ∀ b, S b → b < w.heap.size) (hf : FormIs S w vars F p cap) (ha : NumsIs S w A av) (hr : ∀ x ∈ A, InR x) :
    Calls Try.prog 6 #[.agg #[.int .i64 vars, .slice p F.length cap], av] w fun e w' => FolDone vars F A w e w' := by
  have HF := hid hf
  have HA := hid ha
  have HR := hid hr
  obtain ⟨ap, ac, rfl, halen⟩ := ha.shape
  have HE := hid (show folE vars F A = if formE vars F ≠ 0 then formE vars F else if 400 < A.length then 2 else litsE A vars from rfl)
  clear hf ha hr
  go_enter Try.func6, Try.ntmps6
  go_wp2_with fail
  refine at_calls (fun W' => Keep w W' ∧ BoxAt w.heap.size 24 #[.int .i64 vars, .slice p F.length cap] W') ⟨Keep.alloc _ _, BoxAt.new _ _ _⟩ ?_
  rintro W0 ⟨k0, b0⟩
  refine (formCheck_any S vars F p cap W0 (fun b hb => Nat.lt_of_lt_of_le (hS b hb) k0.size) (HF.out.keep hS k0)).mono ?_
  rintro e w1 ⟨rfl, hw1⟩
  have k1 : Keep W0 w1 := by rw [hw1]; exact Keep.alloc _ _
  clear hw1
  have K1 := hid (k0.trans k1)
  have B1 := hid (b0.keep k1 b0.facts.2.2)
  clear k0 b0 k1
  obtain ⟨hcb, -, hlb⟩ := B1.out.facts
  have hc0 : w1.cell? ⟨w.heap.size, 0, none⟩ = some (.int .i64 vars) := hcb 0
  have hc1 : w1.cell? ⟨w.heap.size, 1, none⟩ = some (.slice p F.length cap) := hcb 1
  have HZ := hid (fun h : formE vars F = 0 => formE_zero h)
  generalize formE vars F = r at HE HZ ⊢
  clear hcb
  by_cases hr : r = 0
  · subst hr
    have HE2 := hid (HE.out.trans (if_neg (by simp)))
    by_cases hl : 400 < A.length
    · have hl' : (400 : Int) < A.length := by omega
      have HE3 := hid (HE2.out.trans (if_pos hl))
      go_wp2_with fail
      refine bodyPost_ret (v := .tuple #[.slice none 0 0, .bool false, .int .i64 2]) ?_ rfl ?_
      · simp [results, Try.results6, go_sem]
      · exact ⟨K1.out, .inl ⟨by rw [HE3.out]; decide, by rw [HE3.out]⟩⟩
    · have hl' : ¬ (400 : Int) < A.length := by omega
      have HE3 := hid (HE2.out.trans (if_neg hl))
      go_wp2_with fail
      refine (checkLiterals_any S A _ vars w1 (fun b hb => Nat.lt_of_lt_of_le (hS b hb) K1.out.size) (HA.out.keep hS K1.out) HR.out).mono ?_
      rintro e w2 ⟨rfl, hw2⟩
      rw [hw2]
      clear hw2
      have HLZ := hid (fun (n : Nat) (hv : vars = n) (h : litsE A vars = 0) => litsE_zero.1 (hv ▸ h : litsE A n = 0))
      generalize litsE A vars = r2 at HE3 HLZ ⊢
      by_cases hr2 : r2 = 0
      · subst hr2
        obtain ⟨n, hvn, hn4, hFl, hcl⟩ := HZ.out (by trivial)
        have hal := HLZ.out n hvn (by trivial)
        subst hvn
        have HAL := hid hal
        have HCL := hid hcl
        have HSW1 := hid (fun b (hb : S b) => Nat.lt_of_lt_of_le (hS b hb) K1.out.size)
        clear hal hcl
        go_wp2_with fail
        refine (new_any S n w1 HSW1.out (by omega)).mono ?_
        rintro e w2 ⟨bx, bw, rfl, hbx, hbw, k2, hc2⟩
        have C2 := hid hc2
        have K2 := hid (K1.out.trans k2)
        have B2 := hid (B1.out.keep k2 B1.out.facts.2.2)
        have HSW2 := hid (fun b (hb : S b) => Nat.lt_of_lt_of_le (HSW1.out b hb) k2.size)
        obtain ⟨hcb, -, hlb2⟩ := B2.out.facts
        have hd1 : w2.cell? ⟨w.heap.size, 1, none⟩ = some (.slice p F.length cap) := hcb 1
        clear hc2 k2 hc0 hc1 hcb
        go_wp2_with fail
        refine (add_any _ S bx bw n 0 _ _ _ _ F _ w2 C2.out (by omega) (HF.out.keep hS K2.out).row HCL.out ⟨by simp, fun r hr => by rw [List.eq_of_mem_replicate hr]; simp⟩ (by omega)).mono ?_
        rintro e w3 ⟨rfl, ap3, sv3, rv3, c3⟩
        have C3 := hid c3
        have hno : ∀ b, b < w1.heap.size → ¬ TabOwn bx bw w2 b := fun b hb => C2.out.no ⟨by have := C2.out.low; omega, by omega, by omega⟩
        have B3 := hid (ap3.below (B := w1.heap.size) (by have := C2.out.low; omega) hno)
        have K3 := hid (show Keep w w3 from Below.trans K2.out (Below.mono B3.out K1.out.size))
        clear c3 ap3 hno hd1
        go_wp2_with fail
        refine (from_any _ S bx bw n sv3 rv3 _ _ F A _ w3 C3.out (by omega) (fun b hb => Nat.lt_of_lt_of_le (HSW2.out b hb) (by have := B3.out.size; omega)) (HA.out.keep hS K3.out) HAL.out (fun c hc => (HCL.out c hc).2) (fun d hd => by simpa using (List.mem_filter.1 (by simpa using hd)).1) (fun d hd hs => by simpa using List.mem_filter.2 ⟨hd, hs⟩)
          (fun i d hd => by
            rcases (mem_addL (by simp) (fun c hc => (HCL.out c hc).2) i d).1 hd with h | h
            · rw [rep_get] at h; exact absurd h (by simp)
            · exact h.1)
          (fun d hd x hx => (mem_addL (by simp) (fun c hc => (HCL.out c hc).2) _ d).2 (.inr ⟨hd, by
            have := (HCL.out d hd).2 x hx
            have h2 := this.2
            rw [show ((((n : Int) + x).toNat : Nat) : Int) - n = x by omega]
            exact hx⟩))).mono ?_
        rintro e w4 ⟨k4, hd⟩
        have K4 := hid (K3.out.trans k4)
        have HSZ := hid K3.out.size
        have HD := hid hd
        clear hd k4
        rcases HD.out with ⟨v, K, L, rfl, h1, h2, h3, h4⟩ | ⟨rfl, h1⟩
        · have H := hid (And.intro h1 (And.intro h2 (And.intro h3 h4)))
          clear h1 h2 h3 h4
          go_wp2_with fail
          refine bodyPost_ret (v := .tuple #[v, .bool true, .int .i64 0]) ?_ rfl ?_
          · simp [results, Try.results6, go_sem]
          · exact ⟨K4.out, .inr ⟨HE3.out, n, rfl, .inl ⟨v, K, L, rfl, H.out.1, H.out.2.1, H.out.2.2.1, H.out.2.2.2.mono (fun _ _ => rfl) fun b hb => ⟨Nat.le_trans HSZ.out hb.1, hb.2⟩⟩⟩⟩
        · have H := hid h1
          clear h1
          go_wp2_with fail
          refine bodyPost_ret (v := .tuple #[.slice none 0 0, .bool false, .int .i64 0]) ?_ rfl ?_
          · simp [results, Try.results6, go_sem]
          · exact ⟨K4.out, .inr ⟨HE3.out, n, rfl, .inr ⟨rfl, H.out⟩⟩⟩
      · have hr' : (r2 != 0) = true := by simp [hr2]
        have hr2' := hid hr2
        clear hr2
        go_wp2_with fail
        refine bodyPost_ret (v := .tuple #[.slice none 0 0, .bool false, .int .i64 r2]) ?_ rfl ?_
        · simp [results, Try.results6, go_sem]
        · exact ⟨K1.out, .inl ⟨by rw [HE3.out]; exact hr2'.out, by rw [HE3.out]⟩⟩
  · have hr' : (r != 0) = true := by simp [hr]
    have HE2 := hid (HE.out.trans (if_pos hr))
    have hrr := hid hr
    clear hr
    go_wp2_with fail
    refine bodyPost_ret (v := .tuple #[.slice none 0 0, .bool false, .int .i64 r]) ?_ rfl ?_
    · simp [results, Try.results6, go_sem]
    · exact ⟨K1.out, .inl ⟨by rw [HE2.out]; exact hrr.out, by rw [HE2.out]⟩⟩
end Go.Proofs.Ytkckkjpkidcbnab
