/- sat's otherSigns, model and lowestUnknown. -/
import Derived.Test.YtbblgmkjgcjcaabSatKnown
import Derived.OwnWalk
namespace Go.Proofs.Ytbblgmkjgcjcaab
open Go.RowKit Go.Lib

theorem infoBool : (Try.prog.info? 4).map (fun i => (i.zero, i.size, i.bytes)) = some (some (.bool false), 1, 1) := by kernel_rfl
theorem keep_none {w w' : World} (h : w.grownBy w' none) : Keep w w' := ⟨h.os, h.tape, h.output, h.size, fun b hb => h.block b hb (by simp)⟩
/-- A row that is filled place by place. -/
def Filled (f : Int → Value) (A : List Int) (j : Nat) (b : Nat) (T : TypeId) (w : World) : Prop := ∃ cs : List Value, cs.length = A.length ∧ (∀ (i : Nat) x, i < j → A[i]? = some x → cs[i]? = some (f x)) ∧ BoxAt b T cs.toArray w
theorem Filled.start {f : Int → Value} {A : List Int} {b : Nat} {T : TypeId} {w : World} {z : Value} (h : BoxAt b T (List.replicate A.length z).toArray w) : Filled f A 0 b T w := ⟨_, by simp, fun i x hi => by omega, h⟩
theorem Filled.cell {f : Int → Value} {A : List Int} {j b : Nat} {T : TypeId} {w : World} (h : Filled f A j b T w) {i : Nat} (hi : i < A.length) : (∃ v, w.cell? ⟨b, i, none⟩ = some v) ∧ w.frozen? ⟨b, i, none⟩ = false ∧ b < w.heap.size := by
  obtain ⟨cs, h1, -, h3⟩ := h
  obtain ⟨a, c, d⟩ := h3.facts
  refine ⟨⟨cs[i]'(by omega), ?_⟩, c i, d⟩
  rw [a]; simp [h1, hi]
theorem Filled.next {f : Int → Value} {A : List Int} {j b : Nat} {T : TypeId} {w : World} {x : Int} (h : Filled f A j b T w) (hx : A[j]? = some x) : Filled f A (j + 1) b T (w.setCell ⟨b, j, none⟩ (f x)) := by
  obtain ⟨cs, h1, h2, h3⟩ := h
  have hj := (List.getElem?_eq_some_iff.1 hx).1
  refine ⟨cs.set j (f x), by simp [h1], fun i y hi hy => ?_, ?_⟩
  · by_cases e : j = i
    · subst e
      rw [hx] at hy; cases hy
      rw [List.getElem?_set_self (by omega)]
    · rw [List.getElem?_set_ne e]
      exact h2 i y (by omega) hy
  · have := h3.set j (f x)
    rwa [List.setIfInBounds_toArray] at this
theorem Filled.all {f : Int → Value} {A : List Int} {b : Nat} {T : TypeId} {w : World} (h : Filled f A A.length b T w) : ∀ (i : Nat) x, A[i]? = some x → w.cell? ⟨b, i, none⟩ = some (f x) := fun i x hx => by
  obtain ⟨cs, h1, h2, h3⟩ := h
  rw [h3.facts.1]
  have := h2 i x (List.getElem?_eq_some_iff.1 hx).1 hx
  simpa using this
theorem Filled.lt {f : Int → Value} {A : List Int} {j b : Nat} {T : TypeId} {w : World} (h : Filled f A j b T w) : b < w.heap.size := by
  obtain ⟨cs, -, -, h3⟩ := h; exact h3.facts.2.2

set_option maxHeartbeats 2000000 in
set_option maxRecDepth 100000 in
theorem otherSigns_any (S : Nat → Prop) (A : List Int) (av : Value) (w : World) (hS : ∀ b, S b → b < w.heap.size) (ha : NumsIs S w A av) (hA : LitsC 1000 A) (hl : A.length ≤ 60) :
    Calls Try.prog 70 #[av] w fun e w' => ∃ v, e = .returned v ∧ NumsIs (fun b => w.heap.size ≤ b ∧ b < w'.heap.size) w' (negs A) v ∧ Keep w w' := by
  obtain ⟨i0, hi, hz0, hz1, hz2⟩ := info_parts infoInt
  have HA := hid ha
  have HL := hid hA
  obtain ⟨ap, ac, rfl, hlen⟩ := ha.shape
  clear ha hA
  go_enter Try.func70, Try.ntmps70
  go_wp2_with (at_make; refine wpList_make_full _ rfl _ _ 38 rfl w.heap.size 3 i0 (.int .i64 0) 1 Try.underlying38 hi hz0 hz1 .i64 .i64 (A.length : Int) (A.length : Int) A.length rfl rfl rfl rfl (by rw [hz2]; omega) (by unfold maxLen; omega) (Nat.le_refl _) ?_; intro w1 h1 h2; have K1 := hid (keep_none h2); have F1 := hid (Filled.start (f := fun x => .int .i64 (-x)) (A := A) (made_box (v := .int .i64 0) rfl h1)); clear h1 h2)
  go_loopg [11] A.length (fun gk iv wr => ∃ j : Nat, j + gk = A.length ∧ iv = .int .i64 j ∧ Keep w wr ∧ Filled (fun x => .int .i64 (-x)) A j w.heap.size 3 wr)
  case atStart => exact ⟨0, by omega, rfl, K1.out, F1.out⟩
  case round =>
    obtain ⟨j, hj, rfl, hk, hf⟩ := hrel
    have K2 := hid hk
    have F2 := hid hf
    clear hk hf
    by_cases hlt : j < A.length
    · obtain ⟨cb, co, rfl, hcb, hcc⟩ := (HA.out.keep hS K2.out).nth hlt
      have hc1 := hcc j _ (List.getElem?_eq_getElem hlt)
      have hx := HL.out A[j] (List.getElem_mem hlt)
      have HX := hid (List.getElem?_eq_getElem hlt)
      have hbl := Nat.lt_of_lt_of_le (hS cb hcb) K2.out.size
      obtain ⟨⟨v0, hv0⟩, hfr, hbl2⟩ := F2.out.cell hlt
      generalize A[j] = z at hc1 hx HX
      have hz1' : -1000 ≤ z := by have := hx.2; omega
      have hz2' : z ≤ 1000 := by have := hx.2; omega
      have hjI : (j : Int) < (A.length : Int) := by omega
      clear hcc hx
      have F3 := hid (F2.out.next HX.out)
      have K3 := hid (show Keep w (wr.setCell ⟨w.heap.size, j, none⟩ (.int .i64 (-z))) from Below.trans K2.out (below_set wr w.heap.size j _))
      go_wp2_with fail
      go_roundg (A.length - (j + 1))
      case rel => exact ⟨j + 1, by omega, by go_num, K3.out, F3.out⟩
      case measure => omega
    · obtain rfl : j = A.length := by omega
      go_wp2_with fail
      go_ret
      refine ⟨.slice (some ⟨w.heap.size, 0, none⟩) A.length A.length, rfl, ⟨_, A.length, by unfold negs; rw [List.length_map], by simp [negs]; omega, fun _ => ⟨w.heap.size, 0, rfl, ⟨Nat.le_refl _, F2.out.lt⟩, fun i x hx => ?_⟩⟩, K2.out⟩
      rw [Nat.zero_add]
      unfold negs at hx
      rw [List.getElem?_map] at hx
      cases e : A[i]? with
      | none => rw [e] at hx; cases hx
      | some y =>
        rw [e] at hx
        cases hx
        exact F2.out.all i y e
set_option maxHeartbeats 2000000 in
set_option maxRecDepth 100000 in
theorem model_any (S : Nat → Prop) (A : List Int) (av : Value) (w : World) (hS : ∀ b, S b → b < w.heap.size) (ha : NumsIs S w A av) (hA : LitsC 1000 A) (hl : A.length ≤ 1000) :
    Calls Try.prog 67 #[av] w fun e w' => ∃ v, e = .returned v ∧ BoolsIs (fun b => w.heap.size ≤ b ∧ b < w'.heap.size) w' (A.map fun x => decide (0 < x)) v ∧ Keep w w' := by
  obtain ⟨i0, hi, hz0, hz1, hz2⟩ := info_parts infoBool
  have HA := hid ha
  have HL := hid hA
  obtain ⟨ap, ac, rfl, hlen⟩ := ha.shape
  clear ha hA
  go_enter Try.func67, Try.ntmps67
  go_wp2_with (at_make; refine wpList_make_full _ rfl _ _ 25 rfl w.heap.size 4 i0 (.bool false) 1 Try.underlying25 hi hz0 hz1 .i64 .i64 (A.length : Int) (A.length : Int) A.length rfl rfl rfl rfl (by rw [hz2]; omega) (by unfold maxLen; omega) (Nat.le_refl _) ?_; intro w1 h1 h2; have K1 := hid (keep_none h2); have F1 := hid (Filled.start (f := fun x => .bool (decide (0 < x))) (A := A) (made_box (v := .bool false) rfl h1)); clear h1 h2)
  go_loopg [11] A.length (fun gk iv wr => ∃ j : Nat, j + gk = A.length ∧ iv = .int .i64 j ∧ Keep w wr ∧ Filled (fun x => .bool (decide (0 < x))) A j w.heap.size 4 wr)
  case atStart => exact ⟨0, by omega, rfl, K1.out, F1.out⟩
  case round =>
    obtain ⟨j, hj, rfl, hk, hf⟩ := hrel
    have K2 := hid hk
    have F2 := hid hf
    clear hk hf
    by_cases hlt : j < A.length
    · obtain ⟨cb, co, rfl, hcb, hcc⟩ := (HA.out.keep hS K2.out).nth hlt
      have hc1 := hcc j _ (List.getElem?_eq_getElem hlt)
      have hx := HL.out A[j] (List.getElem_mem hlt)
      have HX := hid (List.getElem?_eq_getElem hlt)
      have hbl := Nat.lt_of_lt_of_le (hS cb hcb) K2.out.size
      obtain ⟨⟨v0, hv0⟩, hfr, hbl2⟩ := F2.out.cell hlt
      generalize A[j] = z at hc1 hx HX
      have hjI : (j : Int) < (A.length : Int) := by omega
      clear hcc hx
      have F3 := hid (F2.out.next HX.out)
      have K3 := hid (show Keep w (wr.setCell ⟨w.heap.size, j, none⟩ (.bool (decide (0 < z)))) from Below.trans K2.out (below_set wr w.heap.size j _))
      generalize hbz : decide (0 < z) = bz at F3 K3
      have hbz' : decide (z > 0) = bz := hbz
      go_wp2_with fail
      go_roundg (A.length - (j + 1))
      case rel => exact ⟨j + 1, by omega, by go_num, K3.out, F3.out⟩
      case measure => omega
    · obtain rfl : j = A.length := by omega
      go_wp2_with fail
      go_ret
      refine ⟨.slice (some ⟨w.heap.size, 0, none⟩) A.length A.length, rfl, ⟨_, A.length, by rw [List.length_map], by simp; omega, fun _ => ⟨w.heap.size, 0, rfl, ⟨Nat.le_refl _, F2.out.lt⟩, fun i x hx => ?_⟩⟩, K2.out⟩
      rw [Nat.zero_add]
      rw [List.getElem?_map] at hx
      cases e : A[i]? with
      | none => rw [e] at hx; cases hx
      | some y =>
        rw [e] at hx
        cases hx
        exact F2.out.all i y e
set_option maxHeartbeats 2000000 in
set_option maxRecDepth 100000 in
theorem lowestUnknown_any (S : Nat → Prop) (l : List Int) (lv : Value) (k : Nat) (w : World) (hS : ∀ b, S b → b < w.heap.size) (hv : NumsIs S w l lv) (hL : LitsC 1000 l) (hl : l.length ≤ 1000) (hk : 1 ≤ k ∧ k ≤ 1000) (h1 : ∀ (i : Nat) x, i < k - 1 → l[i]? = some x → x.natAbs = i + 1) (h2 : k - 1 ≤ l.length) (h3 : ∀ x, l[k - 1]? = some x → x.natAbs ≠ k) :
    Calls Try.prog 69 #[lv] w fun e w' => e = .returned (.int .i64 k) ∧ w' = w := by
  have HA := hid hv
  have HL := hid hL
  have H1 := hid h1
  have H3 := hid h3
  obtain ⟨ap, ac, rfl, hlen⟩ := hv.shape
  clear hv hL h1 h3
  go_enter Try.func69, Try.ntmps69
  go_wp2_with fail
  go_loopg [2, 7] l.length (fun gk rv iv wr => ∃ j : Nat, j + gk = l.length ∧ j ≤ k - 1 ∧ rv = .int .i64 0 ∧ iv = .int .i64 j ∧ wr = w)
  case atStart => exact ⟨0, by omega, by omega, rfl, rfl, rfl⟩
  case round =>
    obtain ⟨j, hj, hjk, rfl, rfl, hw⟩ := hrel
    subst hw
    by_cases hlt : j < l.length
    · obtain ⟨cb, co, rfl, hcb, hcc⟩ := HA.out.nth hlt
      have hc1 := hcc j _ (List.getElem?_eq_getElem hlt)
      have hx := HL.out l[j] (List.getElem_mem hlt)
      have HX := hid (List.getElem?_eq_getElem hlt)
      have hbl := hS cb hcb
      generalize l[j] = z at hc1 hx HX
      have hz0 := hx.1
      have hz2 := hx.2
      have hjI : (j : Int) < (l.length : Int) := by omega
      have HG := hid (show (j < k - 1 → z.natAbs = j + 1) ∧ (j = k - 1 → z.natAbs ≠ k) from ⟨fun h => H1.out j z h HX.out, fun h => H3.out z (h ▸ HX.out)⟩)
      clear hcc hx
      by_cases hlk : j < k - 1
      · have hab := HG.out.1 hlk
        have hm : max z (-z) = (j : Int) + 1 := by omega
        go_wp2_with fail
        go_roundg (l.length - (j + 1))
        case rel => exact ⟨j + 1, by omega, by omega, rfl, by go_num, rfl⟩
        case measure => omega
      · obtain rfl : j = k - 1 := by omega
        have hab := HG.out.2 rfl
        have hm : max z (-z) ≠ ((k - 1 : Nat) : Int) + 1 := by omega
        go_wp2_with fail
        go_ret
        exact ⟨ret_int (by omega), rfl⟩
    · obtain rfl : j = l.length := by omega
      have hk' : (l.length : Int) + 1 = k := by omega
      go_wp2_with fail
      go_ret
      exact ⟨ret_int (by omega), rfl⟩
end Go.Proofs.Ytbblgmkjgcjcaab
