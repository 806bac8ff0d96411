/- slices.Equal of bools and of clauses; the reference's SameClauses. -/
import Derived.Test.YtbblgmkjgcjcaabSatAns
namespace Go.Proofs.Ytbblgmkjgcjcaab
open Go.RowKit Go.Lib

set_option maxHeartbeats 2000000 in
set_option maxRecDepth 100000 in
theorem equalB_any (S : Nat → Prop) (xs ys : List Bool) (xv yv : Value) (w : World) (hS : ∀ b, S b → b < w.heap.size) (hx : BoolsIs S w xs xv) (hy : BoolsIs S w ys yv) :
    Calls Try.prog 35 #[xv, yv] w fun e w' => e = .returned (.bool (xs == ys)) ∧ Keep w w' := by
  have HX := hid hx
  have HY := hid hy
  obtain ⟨xp, xc, rfl, hxl⟩ := hx.shape
  obtain ⟨yp, yc, rfl, hyl⟩ := hy.shape
  clear hx hy
  by_cases hlen : xs.length = ys.length
  rotate_left
  · have hne : ((xs.length : Int) != (ys.length : Int)) = true := by simp; omega
    have HR := hid (show (xs == ys) = false from beq_eq_false_iff_ne.2 fun e => hlen (by rw [e]))
    clear hlen
    go_enter Try.func35, Try.ntmps35
    go_wp2_with fail
    go_ret
    exact ⟨ret_bool HR.out.symm, Keep.refl _⟩
  have HLEN := hid hlen
  have hne : ((xs.length : Int) != (ys.length : Int)) = false := by simp [hlen]
  clear hlen
  go_enter Try.func35, Try.ntmps35
  go_wp2_with fail
  go_loopg [4, 13] xs.length (fun gk rv iv wr => ∃ j : Nat, j + gk = xs.length ∧ rv = .bool false ∧ iv = .int .i64 j ∧ xs.take j = ys.take j ∧ Keep w wr)
  case atStart => exact ⟨0, by omega, rfl, rfl, rfl, Keep.refl _⟩
  case round =>
    obtain ⟨j, hj, rfl, rfl, ht, hk⟩ := hrel
    have HT := hid ht
    have HK := hid hk
    clear ht hk
    by_cases hlt : j < xs.length
    · have hlt2 : j < ys.length := by have := HLEN.out; omega
      obtain ⟨xb, xo, hxp, hxb, hxc⟩ := (HX.out.keep hS HK.out).cellD hlt
      obtain ⟨yb, yo, hyp, hyb, hyc⟩ := (HY.out.keep hS HK.out).cellD hlt2
      subst hxp hyp
      have hxbl := Nat.lt_of_lt_of_le (hS xb hxb) HK.out.size
      have hybl := Nat.lt_of_lt_of_le (hS yb hyb) HK.out.size
      have hjI : (j : Int) < (xs.length : Int) := by omega
      have hjI2 : (j : Int) < (ys.length : Int) := by omega
      have HTK := hid (show xs[j] = ys[j] → xs.take (j + 1) = ys.take (j + 1) from fun e => by rw [List.take_succ_eq_append_getElem hlt, List.take_succ_eq_append_getElem hlt2, HT.out, e])
      have HNE := hid (show xs[j] ≠ ys[j] → (xs == ys) = false from fun hn => beq_eq_false_iff_ne.2 fun e => hn (by simp [e]))
      generalize xs[j] = a at hxc HTK HNE
      generalize ys[j] = b at hyc HTK HNE
      by_cases hab : a = b
      · have hab' : (a == b) = true := by simp [hab]
        have HN := hid (HTK.out hab)
        clear hab
        go_upto_region 6 with fail
        go_quiet (fail)
        have k0 := hid (show Keep w (wr.drewN nq) from HK.out.trans (Keep.drewN (Keep.refl _) _))
        generalize wr.drewN nq = W0 at k0 ⊢
        clear hxc hyc hxbl hybl
        go_wp2_with fail
        go_roundg (xs.length - (j + 1))
        case rel => exact ⟨j + 1, by omega, rfl, by go_num, HN.out, k0.out⟩
        case measure => omega
      · have hab' : (a == b) = false := by simp [hab]
        have HN := hid (HNE.out hab)
        clear hab
        go_upto_region 6 with fail
        go_quiet (fail)
        have k0 := hid (show Keep w (wr.drewN nq) from HK.out.trans (Keep.drewN (Keep.refl _) _))
        generalize wr.drewN nq = W0 at k0 ⊢
        clear hxc hyc hxbl hybl
        go_wp2_with fail
        go_ret
        exact ⟨ret_bool HN.out.symm, k0.out⟩
    · obtain rfl : j = xs.length := by omega
      have HN := hid (show (xs == ys) = true from by
        have h1 := HT.out
        rw [List.take_length, HLEN.out, List.take_length] at h1
        rw [h1]; simp)
      go_wp2_with fail
      go_ret
      exact ⟨ret_bool HN.out.symm, HK.out⟩
set_option maxHeartbeats 2000000 in
set_option maxRecDepth 100000 in
theorem equalCl_any (S : Nat → Prop) (xs ys : List Int) (xv yv : Value) (w : World) (hS : ∀ b, S b → b < w.heap.size) (hx : NumsIs S w xs xv) (hy : NumsIs S w ys yv) :
    Calls Try.prog 58 #[xv, yv] w fun e w' => e = .returned (.bool (xs == ys)) ∧ Keep w w' := by
  have HX := hid hx
  have HY := hid hy
  obtain ⟨xp, xc, rfl, hxl⟩ := hx.shape
  obtain ⟨yp, yc, rfl, hyl⟩ := hy.shape
  clear hx hy
  by_cases hlen : xs.length = ys.length
  rotate_left
  · have hne : ((xs.length : Int) != (ys.length : Int)) = true := by simp; omega
    have HR := hid (show (xs == ys) = false from beq_eq_false_iff_ne.2 fun e => hlen (by rw [e]))
    clear hlen
    go_enter Try.func58, Try.ntmps58
    go_wp2_with fail
    go_ret
    exact ⟨ret_bool HR.out.symm, Keep.refl _⟩
  have HLEN := hid hlen
  have hne : ((xs.length : Int) != (ys.length : Int)) = false := by simp [hlen]
  clear hlen
  go_enter Try.func58, Try.ntmps58
  go_wp2_with fail
  go_loopg [4, 13] xs.length (fun gk rv iv wr => ∃ j : Nat, j + gk = xs.length ∧ rv = .bool false ∧ iv = .int .i64 j ∧ xs.take j = ys.take j ∧ Keep w wr)
  case atStart => exact ⟨0, by omega, rfl, rfl, rfl, Keep.refl _⟩
  case round =>
    obtain ⟨j, hj, rfl, rfl, ht, hk⟩ := hrel
    have HT := hid ht
    have HK := hid hk
    clear ht hk
    by_cases hlt : j < xs.length
    · have hlt2 : j < ys.length := by have := HLEN.out; omega
      obtain ⟨xb, xo, hxp, hxb, hxc⟩ := (HX.out.keep hS HK.out).cellD hlt
      obtain ⟨yb, yo, hyp, hyb, hyc⟩ := (HY.out.keep hS HK.out).cellD hlt2
      subst hxp hyp
      have hxbl := Nat.lt_of_lt_of_le (hS xb hxb) HK.out.size
      have hybl := Nat.lt_of_lt_of_le (hS yb hyb) HK.out.size
      have hjI : (j : Int) < (xs.length : Int) := by omega
      have hjI2 : (j : Int) < (ys.length : Int) := by omega
      have HTK := hid (show xs[j] = ys[j] → xs.take (j + 1) = ys.take (j + 1) from fun e => by rw [List.take_succ_eq_append_getElem hlt, List.take_succ_eq_append_getElem hlt2, HT.out, e])
      have HNE := hid (show xs[j] ≠ ys[j] → (xs == ys) = false from fun hn => beq_eq_false_iff_ne.2 fun e => hn (by simp [e]))
      generalize xs[j] = a at hxc HTK HNE
      generalize ys[j] = b at hyc HTK HNE
      by_cases hab : a = b
      · have hab' : (a != b) = false := by simp [hab]
        have HN := hid (HTK.out hab)
        clear hab
        go_upto_region 6 with fail
        go_quiet (fail)
        have k0 := hid (show Keep w (wr.drewN nq) from HK.out.trans (Keep.drewN (Keep.refl _) _))
        generalize wr.drewN nq = W0 at k0 ⊢
        clear hxc hyc hxbl hybl
        go_wp2_with fail
        go_roundg (xs.length - (j + 1))
        case rel => exact ⟨j + 1, by omega, rfl, by go_num, HN.out, k0.out⟩
        case measure => omega
      · have hab' : (a != b) = true := by simp [hab]
        have HN := hid (HNE.out hab)
        clear hab
        go_upto_region 6 with fail
        go_quiet (fail)
        have k0 := hid (show Keep w (wr.drewN nq) from HK.out.trans (Keep.drewN (Keep.refl _) _))
        generalize wr.drewN nq = W0 at k0 ⊢
        clear hxc hyc hxbl hybl
        go_wp2_with fail
        go_ret
        exact ⟨ret_bool HN.out.symm, k0.out⟩
    · obtain rfl : j = xs.length := by omega
      have HN := hid (show (xs == ys) = true from by
        have h1 := HT.out
        rw [List.take_length, HLEN.out, List.take_length] at h1
        rw [h1]; simp)
      go_wp2_with fail
      go_ret
      exact ⟨ret_bool HN.out.symm, HK.out⟩
set_option maxRecDepth 100000 in
theorem same1_any (S : Nat → Prop) (xs ys : List Int) (xv yv : Value) (w : World) (hS : ∀ b, S b → b < w.heap.size) (hx : NumsIs S w xs xv) (hy : NumsIs S w ys yv) :
    Calls Try.prog 57 #[xv, yv] w fun e w' => e = .returned (.bool (xs == ys)) ∧ Keep w w' := by
  have HC := hid (equalCl_any S xs ys xv yv w hS hx hy)
  obtain ⟨xp, xc, rfl, hxl⟩ := hx.shape
  obtain ⟨yp, yc, rfl, hyl⟩ := hy.shape
  clear hx hy
  go_enter Try.func57, Try.ntmps57
  go_wp2_with fail
  refine HC.out.mono ?_
  rintro e w1 ⟨rfl, k1⟩
  have K1 := hid k1
  clear k1 HC
  go_wp2_with fail
  go_ret
  exact ⟨rfl, K1.out⟩
theorem enter_same1 (args : Array Value) (w : World) : (callFunc 57 args).run Try.prog w = .ok (.enter 57 args) w := enters_of Try.func57 (by kernel_rfl) rfl args w
set_option maxHeartbeats 2000000 in
set_option maxRecDepth 100000 in
theorem equalF_any (S : Nat → Prop) (xs ys : List (List Int)) (xv yv : Value) (w : World) (hS : ∀ b, S b → b < w.heap.size) (hx : ClsIs S w xs xv) (hy : ClsIs S w ys yv) :
    Calls Try.prog 56 #[xv, yv, .func (.func 57) #[] #[]] w fun e w' => e = .returned (.bool (xs == ys)) ∧ Keep w w' := by
  have HX := hid hx
  have HY := hid hy
  have hent := enter_same1
  obtain ⟨xp, xc, rfl, hxl⟩ := hx.len
  obtain ⟨yp, yc, rfl, hyl⟩ := hy.len
  clear hx hy
  by_cases hlen : xs.length = ys.length
  rotate_left
  · have hne : ((xs.length : Int) != (ys.length : Int)) = true := by simp; omega
    have HR := hid (show (xs == ys) = false from beq_eq_false_iff_ne.2 fun e => hlen (by rw [e]))
    clear hlen
    go_enter Try.func56, Try.ntmps56
    go_wp2_with fail
    go_ret
    exact ⟨ret_bool HR.out.symm, Keep.refl _⟩
  have HLEN := hid hlen
  have hne : ((xs.length : Int) != (ys.length : Int)) = false := by simp [hlen]
  clear hlen
  go_enter Try.func56, Try.ntmps56
  go_wp2_with fail
  go_loopg [6, 17] xs.length (fun gk rv iv wr => ∃ j : Nat, j + gk = xs.length ∧ rv = .bool false ∧ iv = .int .i64 j ∧ xs.take j = ys.take j ∧ Keep w wr)
  case atStart => exact ⟨0, by omega, rfl, rfl, rfl, Keep.refl _⟩
  case round =>
    obtain ⟨j, hj, rfl, rfl, ht, hk⟩ := hrel
    have HT := hid ht
    have HK := hid hk
    clear ht hk
    by_cases hlt : j < xs.length
    · have hlt2 : j < ys.length := by have := HLEN.out; omega
      obtain ⟨xb, xo, xcap, xcp, xcc, hxv, hxb, -, hxc, hxn, hxl2⟩ := (HX.out.keep hS HK.out).get hlt
      obtain ⟨yb, yo, ycap, ycp, ycc, hyv, hyb, -, hyc, hyn, hyl2⟩ := (HY.out.keep hS HK.out).get hlt2
      cases hxv
      cases hyv
      have hxbl := Nat.lt_of_lt_of_le (hS xb hxb) HK.out.size
      have hybl := Nat.lt_of_lt_of_le (hS yb hyb) HK.out.size
      have hjI : (j : Int) < (xs.length : Int) := by omega
      have hjI2 : (j : Int) < (ys.length : Int) := by omega
      have HTK := hid (show xs[j] = ys[j] → xs.take (j + 1) = ys.take (j + 1) from fun e => by rw [List.take_succ_eq_append_getElem hlt, List.take_succ_eq_append_getElem hlt2, HT.out, e])
      have HNE := hid (show xs[j] ≠ ys[j] → (xs == ys) = false from fun hn => beq_eq_false_iff_ne.2 fun e => hn (by simp [e]))
      have HC := hid (same1_any S xs[j] ys[j] _ _ wr (fun b hb => Nat.lt_of_lt_of_le (hS b hb) HK.out.size) hxn hyn)
      clear hxn hyn hxl2 hyl2
      generalize xs[j] = a at hxc HTK HNE HC
      generalize ys[j] = b at hyc HTK HNE HC
      go_wp2_with fail
      refine HC.out.mono ?_
      rintro e w1 ⟨rfl, k1⟩
      have K1 := hid (HK.out.trans k1)
      clear k1 HC hxc hyc hxbl hybl
      by_cases hab : a = b
      · have HN := hid (HTK.out hab)
        have hab' : (a == b) = true := by simp [hab]
        clear hab
        rw [hab']
        go_wp2_with fail
        go_roundg (xs.length - (j + 1))
        case rel => exact ⟨j + 1, by omega, rfl, by go_num, HN.out, K1.out⟩
        case measure => omega
      · have HN := hid (HNE.out hab)
        have hab' : (a == b) = false := by simp [hab]
        clear hab
        rw [hab']
        go_wp2_with fail
        go_ret
        exact ⟨ret_bool HN.out.symm, K1.out⟩
    · obtain rfl : j = xs.length := by omega
      have HN := hid (show (xs == ys) = true from by
        have h1 := HT.out
        rw [List.take_length, HLEN.out, List.take_length] at h1
        rw [h1]; simp)
      go_wp2_with fail
      go_ret
      exact ⟨ret_bool HN.out.symm, HK.out⟩
set_option maxRecDepth 100000 in
theorem sameClauses_any (S : Nat → Prop) (xs ys : List (List Int)) (xv yv : Value) (w : World) (hS : ∀ b, S b → b < w.heap.size) (hx : ClsIs S w xs xv) (hy : ClsIs S w ys yv) :
    Calls Try.prog 36 #[xv, yv] w fun e w' => e = .returned (.bool (xs == ys)) ∧ Keep w w' := by
  have HC := hid (equalF_any S xs ys xv yv w hS hx hy)
  obtain ⟨xp, xc, rfl, hxl⟩ := hx.len
  obtain ⟨yp, yc, rfl, hyl⟩ := hy.len
  clear hx hy
  go_enter Try.func36, Try.ntmps36
  go_wp2_with fail
  refine HC.out.mono ?_
  rintro e w1 ⟨rfl, k1⟩
  have K1 := hid k1
  clear k1 HC
  go_wp2_with fail
  go_ret
  exact ⟨rfl, K1.out⟩
end Go.Proofs.Ytbblgmkjgcjcaab
