/- tree.SameSet and R.SameSet answer whether two rows of members are alike. -/
import Derived.Test.YtkckkjpkidcbnaaGreatDoorValidSet
import Derived.Test.YtkckkjpkidcbnaaGreatDoorTreeSame
namespace Go.Proofs.YtkckkjpkidcbnaaGreatDoor
open Go.RowKit

theorem eq_of_rows {α : Type} {xs ys : List α} (hl : xs.length = ys.length) (h : ∀ i, i < xs.length → xs[i]? = ys[i]?) : xs = ys := by
  refine List.ext_getElem? fun i => ?_
  by_cases hi : i < xs.length
  · exact h i hi
  · rw [List.getElem?_eq_none (by omega), List.getElem?_eq_none (by omega)]

set_option maxHeartbeats 2000000 in
set_option maxRecDepth 100000 in
theorem eqB_any (S : Nat → Prop) (xs ys : List Bool) (v1 v2 : Value) (w : World) (hS : ∀ b, S b → b < w.heap.size) (h1 : BoolsIs S w xs v1) (h2 : BoolsIs S w ys v2) :
    Calls Tryz.prog 147 #[v1, v2] w fun e w' => ∃ β : Bool, e = .returned (.bool β) ∧ (β = true ↔ xs = ys) ∧ Keep w w' := by
  have H1 := hid h1
  have H2 := hid h2
  obtain ⟨p1, c1, rfl, hl1, -⟩ := h1
  obtain ⟨p2, c2, rfl, hl2, -⟩ := h2
  by_cases hl : xs.length = ys.length
  · have HL := hid hl
    have HW : Hid (Keep w w) := Keep.refl _
    rw [← hl]
    clear hl
    go_enter Tryz.func147, Tryz.ntmps147
    go_wp2_with fail
    go_loopg [13] xs.length (fun gk i wr => ∃ j : Nat, j + gk = xs.length ∧ i = .int .i64 j ∧ (∀ i, i < j → xs[i]? = ys[i]?) ∧ Keep w wr)
    case atStart => exact ⟨0, by simp, rfl, fun i hi => absurd hi (Nat.not_lt_zero _), HW.out⟩
    case round =>
      obtain ⟨j, hj, rfl, hal, hkp⟩ := hrel
      have HKP := hid hkp
      have HAL := hid hal
      clear hkp hal
      by_cases hlt : j < xs.length
      · obtain ⟨q1, d1, hv1, -, hr1⟩ := H1.out.keep hS HKP.out
        obtain ⟨q2, d2, hv2, -, hr2⟩ := H2.out.keep hS HKP.out
        rw [← HL.out] at hv2 hr2
        cases hv1
        cases hv2
        obtain ⟨b1, o1, rfl, hb1, hc1⟩ := hr1 (by omega)
        obtain ⟨b2, o2, rfl, hb2, hc2⟩ := hr2 (by omega)
        have hlt2 : j < ys.length := by rw [← HL.out]; exact hlt
        have e1 : xs[j]? = some xs[j] := List.getElem?_eq_getElem hlt
        have e2 : ys[j]? = some ys[j] := List.getElem?_eq_getElem hlt2
        have g1 := hc1 j _ e1
        have g2 := hc2 j _ e2
        have E1 := hid e1
        have E2 := hid e2
        clear hc1 hc2 hr1 hr2 e1 e2
        generalize xs[j] = x at g1 E1
        generalize ys[j] = y at g2 E2
        by_cases hxy : x = y
        · subst hxy
          have HN : Hid (∀ i, i < j + 1 → xs[i]? = ys[i]?) := fun i hi => by
            by_cases e : i = j
            · subst e; rw [E1.out, E2.out]
            · exact HAL.out i (by omega)
          go_wp2_with fail
          go_quiet (fail)
          go_wp2_with fail
          go_roundg (xs.length - (j + 1))
          case rel => exact ⟨j + 1, by omega, by go_num, HN.out, Keep.drewN HKP.out _⟩
          case measure => omega
        · have hxy1 : (x == y) = false := by simp [hxy]
          have hxy2 : (x != y) = true := by simp [hxy]
          have HF : Hid (¬ xs = ys) := fun e => hxy (by have h1 := E1.out; rw [e, E2.out] at h1; exact (Option.some.inj h1).symm)
          clear hxy
          go_wp2_with fail
          go_quiet (fail)
          go_wp2_with fail
          go_ret
          exact ⟨false, rfl, ⟨fun h => Bool.noConfusion h, fun h => absurd h HF.out⟩, Keep.drewN HKP.out _⟩
      · have HF : Hid (xs = ys) := eq_of_rows HL.out fun i hi => HAL.out i (by omega)
        go_wp2_with fail
        go_ret
        exact ⟨true, rfl, ⟨fun _ => HF.out, fun _ => rfl⟩, HKP.out⟩
  · have hz1 : ((xs.length : Int) == (ys.length : Int)) = false := beq_eq_false_iff_ne.2 fun e => hl (by omega)
    have hz2 : ((xs.length : Int) != (ys.length : Int)) = true := bne_iff_ne.2 fun e => hl (by omega)
    have HF : Hid (¬ xs = ys) := fun e => hl (by rw [e])
    clear hl
    go_enter Tryz.func147, Tryz.ntmps147
    go_wp2_with fail
    go_ret
    exact ⟨false, rfl, ⟨fun h => Bool.noConfusion h, fun h => absurd h HF.out⟩, Keep.refl _⟩

theorem enter_memT (args : Array Value) (w : World) : (callFunc 92 args).run Tryz.prog w = .ok (.enter 92 args) w := enters_of Tryz.func92 (by kernel_rfl) rfl args w
set_option maxHeartbeats 2000000 in
set_option maxRecDepth 100000 in
theorem sameMT_any (S : Nat → Prop) (x y : MB) (v1 v2 : Value) (w : World) (hS : ∀ b, S b → b < w.heap.size) (h1 : BoolsIs S w x.on v1) (h2 : BoolsIs S w y.on v2) :
    Calls Tryz.prog 92 #[.agg #[.int .i64 x.pl, v1], .agg #[.int .i64 y.pl, v2]] w fun e w' => ∃ β : Bool, e = .returned (.bool β) ∧ (β = true ↔ x = y) ∧ Keep w w' := by
  have H1 := hid h1
  have H2 := hid h2
  obtain ⟨p1, c1, rfl, -, -⟩ := h1
  obtain ⟨p2, c2, rfl, -, -⟩ := h2
  rcases x with ⟨xp, xs⟩
  rcases y with ⟨yp, ys⟩
  simp only at H1 H2 ⊢
  by_cases hp : xp = yp
  · subst hp
    go_enter Tryz.func92, Tryz.ntmps92
    go_wp2_with fail
    refine at_calls (fun W' => Keep w W') ((Keep.alloc _ _).alloc' _) ?_
    intro W2 k2
    refine (eqB_any S xs ys _ _ W2 (fun b hb => Nat.lt_of_lt_of_le (hS b hb) k2.size) (H1.out.keep hS k2) (H2.out.keep hS k2)).mono ?_
    rintro e w3 ⟨β, rfl, hβ, k3⟩
    have K3 := hid (k2.trans k3)
    have HB := hid hβ
    clear k2 k3 hβ
    go_wp2_with fail
    go_ret
    exact ⟨β, rfl, ⟨fun h => by rw [HB.out.1 h], fun h => HB.out.2 (by cases h; rfl)⟩, K3.out⟩
  · have hz1 : (xp == yp) = false := by simp [hp]
    have HF : Hid (¬ (⟨xp, xs⟩ : MB) = ⟨yp, ys⟩) := fun e => hp (by cases e; rfl)
    have HW : Hid (Keep w ((w.alloc (.cells #[.int .i64 xp, .slice p1 xs.length c1] 86)).alloc (.cells #[.int .i64 yp, .slice p2 ys.length c2] 86))) := (Keep.alloc _ _).alloc' _
    clear hp
    go_enter Tryz.func92, Tryz.ntmps92
    go_wp2_with fail
    go_ret
    exact ⟨false, rfl, ⟨fun h => Bool.noConfusion h, fun h => absurd h HF.out⟩, HW.out⟩

set_option maxHeartbeats 2000000 in
set_option maxRecDepth 100000 in
theorem equalMT_any (S : Nat → Prop) (xs ys : List MB) (v1 v2 : Value) (w : World) (hS : ∀ b, S b → b < w.heap.size) (h1 : MbsIs S w xs v1) (h2 : MbsIs S w ys v2) :
    Calls Tryz.prog 91 #[v1, v2, .func (.func 92) #[] #[]] w fun e w' => ∃ β : Bool, e = .returned (.bool β) ∧ (β = true ↔ xs = ys) ∧ Keep w w' := by
  have H1 := hid h1
  have H2 := hid h2
  obtain ⟨p1, c1, rfl, ⟨-, hl1⟩, -⟩ := h1
  obtain ⟨p2, c2, rfl, ⟨-, hl2⟩, -⟩ := h2
  have hent := enter_memT
  by_cases hl : xs.length = ys.length
  · have HL := hid hl
    have HW : Hid (Keep w w) := Keep.refl _
    rw [← hl]
    clear hl
    go_enter Tryz.func91, Tryz.ntmps91
    go_wp2_with fail
    go_loopg [17] xs.length (fun gk i wr => ∃ j : Nat, j + gk = xs.length ∧ i = .int .i64 j ∧ (∀ i, i < j → xs[i]? = ys[i]?) ∧ Keep w wr)
    case atStart => exact ⟨0, by simp, rfl, fun i hi => absurd hi (Nat.not_lt_zero _), HW.out⟩
    case round =>
      obtain ⟨j, hj, rfl, hal, hkp⟩ := hrel
      have HKP := hid hkp
      have HAL := hid hal
      clear hkp hal
      by_cases hlt : j < xs.length
      · obtain ⟨q1, d1, hv1, -, hr1⟩ := H1.out.keep hS HKP.out
        obtain ⟨q2, d2, hv2, -, hr2⟩ := H2.out.keep hS HKP.out
        rw [← HL.out] at hv2 hr2
        cases hv1
        cases hv2
        obtain ⟨b1, o1, rfl, hb1, hc1⟩ := hr1 (by omega)
        obtain ⟨b2, o2, rfl, hb2, hc2⟩ := hr2 (by omega)
        have hlt2 : j < ys.length := by rw [← HL.out]; exact hlt
        have e1 : xs[j]? = some xs[j] := List.getElem?_eq_getElem hlt
        have e2 : ys[j]? = some ys[j] := List.getElem?_eq_getElem hlt2
        obtain ⟨ov1, g1, g1', hbo1⟩ := hc1 j _ e1
        obtain ⟨ov2, g2, g2', hbo2⟩ := hc2 j _ e2
        have E1 := hid e1
        have E2 := hid e2
        have hb1' : b1 < wr.heap.size := Nat.lt_of_lt_of_le (hS _ hb1) HKP.out.size
        have hb2' : b2 < wr.heap.size := Nat.lt_of_lt_of_le (hS _ hb2) HKP.out.size
        generalize xs[j] = x at g1 E1 hbo1
        generalize ys[j] = y at g2 E2 hbo2
        have HO1 := hid hbo1
        have HO2 := hid hbo2
        obtain ⟨r1, s1, rfl, -, -⟩ := hbo1
        obtain ⟨r2, s2, rfl, -, -⟩ := hbo2
        clear hc1 hc2 hr1 hr2 e1 e2
        go_wp2_with fail
        refine at_calls (fun W' => Keep wr W') ((Keep.alloc _ _).alloc' _) ?_
        intro W2 k2
        have hS2 : ∀ b, S b → b < wr.heap.size := fun b hb => Nat.lt_of_lt_of_le (hS b hb) HKP.out.size
        refine (sameMT_any S x y _ _ W2 (fun b hb => Nat.lt_of_lt_of_le (hS2 b hb) k2.size) (HO1.out.keep hS2 k2) (HO2.out.keep hS2 k2)).mono ?_
        rintro e w3 ⟨β, rfl, hβ, k3⟩
        have K3 := hid (HKP.out.trans (k2.trans k3))
        clear k2 k3 hS2 g1 g1' g2 g2'
        cases β
        · have HF : Hid (¬ xs = ys) := fun e => Bool.noConfusion (hβ.2 (by have h1 := E1.out; rw [e, E2.out] at h1; exact (Option.some.inj h1).symm))
          clear hβ
          go_wp2_with fail
          go_ret
          exact ⟨false, rfl, ⟨fun h => Bool.noConfusion h, fun h => absurd h HF.out⟩, K3.out⟩
        · have HN : Hid (∀ i, i < j + 1 → xs[i]? = ys[i]?) := fun i hi => by
            by_cases e : i = j
            · subst e; rw [E1.out, E2.out, hβ.1 rfl]
            · exact HAL.out i (by omega)
          clear hβ
          go_wp2_with fail
          go_roundg (xs.length - (j + 1))
          case rel => exact ⟨j + 1, by omega, by go_num, HN.out, K3.out⟩
          case measure => omega
      · have HF : Hid (xs = ys) := eq_of_rows HL.out fun i hi => HAL.out i (by omega)
        go_wp2_with fail
        go_ret
        exact ⟨true, rfl, ⟨fun _ => HF.out, fun _ => rfl⟩, HKP.out⟩
  · have hz1 : ((xs.length : Int) == (ys.length : Int)) = false := beq_eq_false_iff_ne.2 fun e => hl (by omega)
    have hz2 : ((xs.length : Int) != (ys.length : Int)) = true := bne_iff_ne.2 fun e => hl (by omega)
    have HF : Hid (¬ xs = ys) := fun e => hl (by rw [e])
    clear hl
    go_enter Tryz.func91, Tryz.ntmps91
    go_wp2_with fail
    go_ret
    exact ⟨false, rfl, ⟨fun h => Bool.noConfusion h, fun h => absurd h HF.out⟩, Keep.refl _⟩
set_option maxRecDepth 100000 in
theorem sameSetT_any (S : Nat → Prop) (xs ys : List MB) (v1 v2 : Value) (w : World) (hS : ∀ b, S b → b < w.heap.size) (h1 : MbsIs S w xs v1) (h2 : MbsIs S w ys v2) :
    Calls Tryz.prog 29 #[v1, v2] w fun e w' => ∃ β : Bool, e = .returned (.bool β) ∧ (β = true ↔ xs = ys) ∧ Keep w w' := by
  have H1 := hid h1
  have H2 := hid h2
  clear h1 h2
  go_enter Tryz.func29, Tryz.ntmps29
  go_wp2_with fail
  refine (equalMT_any S xs ys _ _ w hS H1.out H2.out).mono ?_
  rintro e w3 ⟨β, rfl, hβ, k3⟩
  have K3 := hid k3
  have HB := hid hβ
  clear k3 hβ
  go_wp2_with fail
  go_ret
  exact ⟨β, rfl, HB.out, K3.out⟩

theorem enter_memR (args : Array Value) (w : World) : (callFunc 93 args).run Tryz.prog w = .ok (.enter 93 args) w := enters_of Tryz.func93 (by kernel_rfl) rfl args w
set_option maxHeartbeats 2000000 in
set_option maxRecDepth 100000 in
theorem sameMR_any (S : Nat → Prop) (x y : MB) (v1 v2 : Value) (w : World) (hS : ∀ b, S b → b < w.heap.size) (h1 : BoolsIs S w x.on v1) (h2 : BoolsIs S w y.on v2) :
    Calls Tryz.prog 93 #[.agg #[.int .i64 x.pl, v1], .agg #[.int .i64 y.pl, v2]] w fun e w' => ∃ β : Bool, e = .returned (.bool β) ∧ (β = true ↔ x = y) ∧ Keep w w' := by
  have H1 := hid h1
  have H2 := hid h2
  obtain ⟨p1, c1, rfl, -, -⟩ := h1
  obtain ⟨p2, c2, rfl, -, -⟩ := h2
  rcases x with ⟨xp, xs⟩
  rcases y with ⟨yp, ys⟩
  simp only at H1 H2 ⊢
  by_cases hp : xp = yp
  · subst hp
    go_enter Tryz.func93, Tryz.ntmps93
    go_wp2_with fail
    refine at_calls (fun W' => Keep w W') ((Keep.alloc _ _).alloc' _) ?_
    intro W2 k2
    refine (eqB_any S xs ys _ _ W2 (fun b hb => Nat.lt_of_lt_of_le (hS b hb) k2.size) (H1.out.keep hS k2) (H2.out.keep hS k2)).mono ?_
    rintro e w3 ⟨β, rfl, hβ, k3⟩
    have K3 := hid (k2.trans k3)
    have HB := hid hβ
    clear k2 k3 hβ
    go_wp2_with fail
    go_ret
    exact ⟨β, rfl, ⟨fun h => by rw [HB.out.1 h], fun h => HB.out.2 (by cases h; rfl)⟩, K3.out⟩
  · have hz1 : (xp == yp) = false := by simp [hp]
    have HF : Hid (¬ (⟨xp, xs⟩ : MB) = ⟨yp, ys⟩) := fun e => hp (by cases e; rfl)
    have HW : Hid (Keep w ((w.alloc (.cells #[.int .i64 xp, .slice p1 xs.length c1] 86)).alloc (.cells #[.int .i64 yp, .slice p2 ys.length c2] 86))) := (Keep.alloc _ _).alloc' _
    clear hp
    go_enter Tryz.func93, Tryz.ntmps93
    go_wp2_with fail
    go_ret
    exact ⟨false, rfl, ⟨fun h => Bool.noConfusion h, fun h => absurd h HF.out⟩, HW.out⟩

set_option maxHeartbeats 2000000 in
set_option maxRecDepth 100000 in
theorem equalMR_any (S : Nat → Prop) (xs ys : List MB) (v1 v2 : Value) (w : World) (hS : ∀ b, S b → b < w.heap.size) (h1 : MbsIs S w xs v1) (h2 : MbsIs S w ys v2) :
    Calls Tryz.prog 91 #[v1, v2, .func (.func 93) #[] #[]] w fun e w' => ∃ β : Bool, e = .returned (.bool β) ∧ (β = true ↔ xs = ys) ∧ Keep w w' := by
  have H1 := hid h1
  have H2 := hid h2
  obtain ⟨p1, c1, rfl, ⟨-, hl1⟩, -⟩ := h1
  obtain ⟨p2, c2, rfl, ⟨-, hl2⟩, -⟩ := h2
  have hent := enter_memR
  by_cases hl : xs.length = ys.length
  · have HL := hid hl
    have HW : Hid (Keep w w) := Keep.refl _
    rw [← hl]
    clear hl
    go_enter Tryz.func91, Tryz.ntmps91
    go_wp2_with fail
    go_loopg [17] xs.length (fun gk i wr => ∃ j : Nat, j + gk = xs.length ∧ i = .int .i64 j ∧ (∀ i, i < j → xs[i]? = ys[i]?) ∧ Keep w wr)
    case atStart => exact ⟨0, by simp, rfl, fun i hi => absurd hi (Nat.not_lt_zero _), HW.out⟩
    case round =>
      obtain ⟨j, hj, rfl, hal, hkp⟩ := hrel
      have HKP := hid hkp
      have HAL := hid hal
      clear hkp hal
      by_cases hlt : j < xs.length
      · obtain ⟨q1, d1, hv1, -, hr1⟩ := H1.out.keep hS HKP.out
        obtain ⟨q2, d2, hv2, -, hr2⟩ := H2.out.keep hS HKP.out
        rw [← HL.out] at hv2 hr2
        cases hv1
        cases hv2
        obtain ⟨b1, o1, rfl, hb1, hc1⟩ := hr1 (by omega)
        obtain ⟨b2, o2, rfl, hb2, hc2⟩ := hr2 (by omega)
        have hlt2 : j < ys.length := by rw [← HL.out]; exact hlt
        have e1 : xs[j]? = some xs[j] := List.getElem?_eq_getElem hlt
        have e2 : ys[j]? = some ys[j] := List.getElem?_eq_getElem hlt2
        obtain ⟨ov1, g1, g1', hbo1⟩ := hc1 j _ e1
        obtain ⟨ov2, g2, g2', hbo2⟩ := hc2 j _ e2
        have E1 := hid e1
        have E2 := hid e2
        have hb1' : b1 < wr.heap.size := Nat.lt_of_lt_of_le (hS _ hb1) HKP.out.size
        have hb2' : b2 < wr.heap.size := Nat.lt_of_lt_of_le (hS _ hb2) HKP.out.size
        generalize xs[j] = x at g1 E1 hbo1
        generalize ys[j] = y at g2 E2 hbo2
        have HO1 := hid hbo1
        have HO2 := hid hbo2
        obtain ⟨r1, s1, rfl, -, -⟩ := hbo1
        obtain ⟨r2, s2, rfl, -, -⟩ := hbo2
        clear hc1 hc2 hr1 hr2 e1 e2
        go_wp2_with fail
        refine at_calls (fun W' => Keep wr W') ((Keep.alloc _ _).alloc' _) ?_
        intro W2 k2
        have hS2 : ∀ b, S b → b < wr.heap.size := fun b hb => Nat.lt_of_lt_of_le (hS b hb) HKP.out.size
        refine (sameMR_any S x y _ _ W2 (fun b hb => Nat.lt_of_lt_of_le (hS2 b hb) k2.size) (HO1.out.keep hS2 k2) (HO2.out.keep hS2 k2)).mono ?_
        rintro e w3 ⟨β, rfl, hβ, k3⟩
        have K3 := hid (HKP.out.trans (k2.trans k3))
        clear k2 k3 hS2 g1 g1' g2 g2'
        cases β
        · have HF : Hid (¬ xs = ys) := fun e => Bool.noConfusion (hβ.2 (by have h1 := E1.out; rw [e, E2.out] at h1; exact (Option.some.inj h1).symm))
          clear hβ
          go_wp2_with fail
          go_ret
          exact ⟨false, rfl, ⟨fun h => Bool.noConfusion h, fun h => absurd h HF.out⟩, K3.out⟩
        · have HN : Hid (∀ i, i < j + 1 → xs[i]? = ys[i]?) := fun i hi => by
            by_cases e : i = j
            · subst e; rw [E1.out, E2.out, hβ.1 rfl]
            · exact HAL.out i (by omega)
          clear hβ
          go_wp2_with fail
          go_roundg (xs.length - (j + 1))
          case rel => exact ⟨j + 1, by omega, by go_num, HN.out, K3.out⟩
          case measure => omega
      · have HF : Hid (xs = ys) := eq_of_rows HL.out fun i hi => HAL.out i (by omega)
        go_wp2_with fail
        go_ret
        exact ⟨true, rfl, ⟨fun _ => HF.out, fun _ => rfl⟩, HKP.out⟩
  · have hz1 : ((xs.length : Int) == (ys.length : Int)) = false := beq_eq_false_iff_ne.2 fun e => hl (by omega)
    have hz2 : ((xs.length : Int) != (ys.length : Int)) = true := bne_iff_ne.2 fun e => hl (by omega)
    have HF : Hid (¬ xs = ys) := fun e => hl (by rw [e])
    clear hl
    go_enter Tryz.func91, Tryz.ntmps91
    go_wp2_with fail
    go_ret
    exact ⟨false, rfl, ⟨fun h => Bool.noConfusion h, fun h => absurd h HF.out⟩, Keep.refl _⟩
set_option maxRecDepth 100000 in
theorem sameSetR_any (S : Nat → Prop) (xs ys : List MB) (v1 v2 : Value) (w : World) (hS : ∀ b, S b → b < w.heap.size) (h1 : MbsIs S w xs v1) (h2 : MbsIs S w ys v2) :
    Calls Tryz.prog 30 #[v1, v2] w fun e w' => ∃ β : Bool, e = .returned (.bool β) ∧ (β = true ↔ xs = ys) ∧ Keep w w' := by
  have H1 := hid h1
  have H2 := hid h2
  clear h1 h2
  go_enter Tryz.func30, Tryz.ntmps30
  go_wp2_with fail
  refine (equalMR_any S xs ys _ _ w hS H1.out H2.out).mono ?_
  rintro e w3 ⟨β, rfl, hβ, k3⟩
  have K3 := hid k3
  have HB := hid hβ
  clear k3 hβ
  go_wp2_with fail
  go_ret
  exact ⟨β, rfl, HB.out, K3.out⟩
end Go.Proofs.YtkckkjpkidcbnaaGreatDoor
