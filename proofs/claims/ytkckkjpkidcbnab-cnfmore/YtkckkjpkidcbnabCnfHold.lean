/- follow.variable, follow.canHold, follow.isShort: as the plain functions say. -/
import Derived.Test.YtkckkjpkidcbnabCnfMem
namespace Go.Proofs.Ytkckkjpkidcbnab
open Go.RowKit Go.Lib

set_option maxHeartbeats 1000000 in
theorem variable_any (x : Int) (w : World) (h : x.natAbs ≤ 1000) : Calls Try.prog 36 #[.int .i64 x] w fun e w' => e = .returned (.int .i64 (x.natAbs : Nat)) ∧ w' = w := by
  have h1 : x ≤ 1000 := by omega
  have h2 : -1000 ≤ x := by omega
  go_enter Try.func36, Try.ntmps36
  go_wp2_with fail
  all_goals
    go_ret
    exact ⟨ret_int (by omega), rfl⟩

theorem NumsIs.nth {S : Nat → Prop} {w : World} {zs : List Int} {p : Option Addr} {n cap : Nat} (h : NumsIs S w zs (.slice p n cap)) {k : Nat} (hk : k < zs.length) : ∃ b off, p = some ⟨b, off, none⟩ ∧ S b ∧ ∀ (j : Nat) (x : Int), zs[j]? = some x → w.cell? ⟨b, off + j, none⟩ = some (.int .i64 x) := by
  obtain ⟨p', cap', h1, h2, h3⟩ := h
  cases h1
  exact h3 (by omega)

set_option maxHeartbeats 2000000 in
theorem canHold_any (S : Nat → Prop) (n : Nat) (c K : List Int) (cv kv : Value) (w : World) (hS : ∀ b, S b → b < w.heap.size) (hc : NumsIs S w c cv) (hk : NumsIs S w K kv) (hl : LitsC n c) (hn : n ≤ 1000) (hK : K.length = n + 1) :
    Calls Try.prog 35 #[cv, kv] w fun e w' => e = .returned (.tuple #[.int .i64 (canH K 0 c).1, .bool (canH K 0 c).2]) ∧ w' = w := by
  have HC := hid hc
  have HK := hid hk
  have HL := hid hl
  obtain ⟨cp, cc, rfl, hcl⟩ := hc.shape
  obtain ⟨kp, kc, rfl, hkl⟩ := hk.shape
  have HKL := hid hK
  clear hc hk hl hK
  go_enter Try.func35, Try.ntmps35
  go_wp2_with fail
  go_loopg [4, 10] c.length (fun gk fv iv wr => ∃ (j : Nat) (f : Int), j + gk = c.length ∧ fv = .int .i64 f ∧ iv = .int .i64 j ∧ wr = w ∧ (f = 0 ∨ Lit n f) ∧ canH K f (c.drop j) = canH K 0 c)
  case atStart => exact ⟨0, 0, by simp, rfl, rfl, rfl, .inl rfl, by simp⟩
  case round =>
    obtain ⟨j, f, hj, rfl, rfl, hw, hf, he⟩ := hrel
    subst hw
    have HE := hid he
    have HF := hid hf
    clear he hf
    by_cases hlt : j < c.length
    · obtain ⟨cb, co, rfl, hcb, hcc⟩ := HC.out.nth hlt
      have hc1 := hcc j _ (List.getElem?_eq_getElem hlt)
      have hx := HL.out c[j] (List.getElem_mem hlt)
      have HD := hid (List.drop_eq_getElem_cons hlt)
      have hbl := hS cb hcb
      generalize c[j] = x at hc1 hx HD
      have hxK : x.natAbs < K.length := by have := hx.2; have := HKL.out; omega
      obtain ⟨kb, ko, rfl, hkb, hkk⟩ := HK.out.nth hxK
      have hk1 := hkk _ _ (List.getElem?_eq_getElem hxK)
      have hkb1 := hS kb hkb
      have HX := hid (show kn K x = K[x.natAbs] by simp [kn, List.getD_eq_getElem?_getD, hxK])
      generalize K[x.natAbs] = y at hk1 HX
      have hv := hid (variable_any x wr (by have := hx.2; omega))
      have hx0 := hx.1
      have hx1 : -1000 ≤ x := by have := hx.2; omega
      have hx2 : x ≤ 1000 := by have := hx.2; omega
      have HXN := hid hx.2
      clear hcc hkk hx
      go_wp2_with fail
      refine hv.out.mono ?_
      rintro e w1 ⟨rfl, hw1⟩
      rw [hw1]
      clear hw1
      by_cases h1 : y = -x
      · have h1' : (y == -x) = true := by simp [h1]
        have HN := hid (show canH K f (c.drop (j + 1)) = canH K 0 c by rw [← HE.out, HD.out, canH, if_pos (Or.inl (HX.out.trans h1))])
        clear h1
        go_wp2_with fail
        go_roundg (c.length - (j + 1))
        case rel => exact ⟨j + 1, f, by omega, rfl, by go_num, rfl, HF.out, HN.out⟩
        case measure => omega
      · have h1' : (y == -x) = false := by simp [h1]
        by_cases h2 : x = f
        · have h2' : (x == f) = true := by simp [h2]
          have HN := hid (show canH K f (c.drop (j + 1)) = canH K 0 c by rw [← HE.out, HD.out, canH, if_pos (Or.inr h2)])
          clear h1 h2
          go_wp2_with fail
          go_roundg (c.length - (j + 1))
          case rel => exact ⟨j + 1, f, by omega, rfl, by go_num, rfl, HF.out, HN.out⟩
          case measure => omega
        · have h2' : (x == f) = false := by simp [h2]
          have h12 : ¬ (kn K x = -x ∨ x = f) := by rw [HX.out]; rintro (h | h) <;> contradiction
          by_cases h3 : f = 0
          · have h3' : (f != 0) = false := by simp [h3]
            have HN := hid (show canH K x (c.drop (j + 1)) = canH K 0 c by rw [← HE.out, HD.out, canH, if_neg h12, if_neg (by simpa using h3)])
            clear h1 h2 h3 h12
            go_wp2_with fail
            go_roundg (c.length - (j + 1))
            case rel => exact ⟨j + 1, x, by omega, rfl, by go_num, rfl, Or.inr ⟨hx0, HXN.out⟩, HN.out⟩
            case measure => omega
          · have h3' : (f != 0) = true := by simp [h3]
            have HN := hid (show (f, true) = canH K 0 c by rw [← HE.out, HD.out, canH, if_neg h12, if_pos h3])
            clear h1 h2 h3 h12
            go_wp2_with fail
            go_ret2
            exact ⟨by rw [← HN.out]; rfl, rfl⟩
    · have HN := hid (show (f, false) = canH K 0 c by rw [← HE.out, List.drop_eq_nil_of_le (by omega), canH])
      go_wp2_with fail
      go_ret2
      exact ⟨by rw [← HN.out]; rfl, rfl⟩

/-- Are no two of them different? -/
def shortB (c : List Int) : Bool := !c.any fun x => !(x == c.headD 0)
set_option maxHeartbeats 1000000 in
theorem short1_any (S : Nat → Prop) (c : List Int) (cv : Value) (b : Nat) (x : Int) (w : World) (hS : ∀ b, S b → b < w.heap.size) (hc : NumsIs S w c cv) (hb : VarAt b 38 cv w) (hp : 0 < c.length) :
    Calls Try.prog 39 #[.int .i64 x, .pointer (some ⟨b, 0, none⟩)] w fun e w' => e = .returned (.bool (!(x == c.headD 0))) ∧ w' = w := by
  obtain ⟨cp, cc, rfl, hcl⟩ := hc.shape
  obtain ⟨cb, co, rfl, hcb, hcc⟩ := hc.nth hp
  have h0 := hcc 0 (c.headD 0) (by cases c with
    | nil => simp at hp
    | cons a l => rfl)
  rw [Nat.add_zero] at h0
  obtain ⟨hv, -, hl⟩ := hb.facts
  have hbl := hS cb hcb
  generalize c.headD 0 = y at h0
  clear hcc
  go_enter Try.func39, Try.ntmps39
  go_wp2_with fail
  go_ret
  exact ⟨ret_bool rfl, rfl⟩
end Go.Proofs.Ytkckkjpkidcbnab
