/- AtomParts returns true, of any atom, version and slot, wherever what the program lays is laid; nothing that was there is changed. -/
import Derived.Test.YtkckkjpkidcbnaaDoorAtomAsked
namespace Go.Proofs.YtkckkjpkidcbnaaDoor
open Go.RowKit

/-- The three boxes of AtomParts. -/
def Boxes (w : World) (n f : ByteArray) (op v sl : Int) (on : Bool) (ver slot : Int) (W : World) : Prop :=
  AtomAt w.heap.size n op v sl f on W ∧ W.cell? ⟨w.heap.size + 1, 0, none⟩ = some (.int .i64 ver) ∧ W.cell? ⟨w.heap.size + 2, 0, none⟩ = some (.int .i64 slot) ∧ w.heap.size + 2 < W.heap.size ∧ Keep w W
theorem Boxes.keep {w : World} {n f : ByteArray} {op v sl : Int} {on : Bool} {ver slot : Int} {W W' : World} (h : Boxes w n f op v sl on ver slot W) (k : Keep W W') : Boxes w n f op v sl on ver slot W' := by
  obtain ⟨h1, h2, h3, h4, h5⟩ := h
  exact ⟨h1.below k (by omega), (k.cells.1 _ _ (by omega)).trans h2, (k.cells.1 _ _ h4).trans h3, Nat.lt_of_lt_of_le h4 k.size, h5.trans k⟩
theorem set_other (W : World) (b i : Nat) (x : Value) (q o : Nat) (h : q ≠ b) : (W.setCell ⟨b, i, none⟩ x).cell? ⟨q, o, none⟩ = W.cell? ⟨q, o, none⟩ :=
  World.cell?_of_block (w := W) (Below.heap_setCell W ⟨b, i, none⟩ x q h)
theorem Boxes.op {w : World} {n f : ByteArray} {op v sl : Int} {on : Bool} {ver slot : Int} {W : World} (h : Boxes w n f op v sl on ver slot W) (k : Int) : Boxes w n f k v sl on ver slot (W.setCell ⟨w.heap.size, 1, none⟩ (.int .i64 k)) := by
  obtain ⟨h1, h2, h3, h4, h5⟩ := h
  exact ⟨heap_set h1 1 _, by rw [set_other _ _ _ _ _ _ (by omega)]; exact h2, by rw [set_other _ _ _ _ _ _ (by omega)]; exact h3, by simpa [World.setCell] using h4, h5.set (p := ⟨w.heap.size, 1, none⟩) (Nat.le_refl _) _⟩
theorem Boxes.slot {w : World} {n f : ByteArray} {op v sl : Int} {on : Bool} {ver slot : Int} {W : World} (h : Boxes w n f op v sl on ver slot W) (k : Int) : Boxes w n f op v k on ver slot (W.setCell ⟨w.heap.size, 3, none⟩ (.int .i64 k)) := by
  obtain ⟨h1, h2, h3, h4, h5⟩ := h
  exact ⟨heap_set h1 3 _, by rw [set_other _ _ _ _ _ _ (by omega)]; exact h2, by rw [set_other _ _ _ _ _ _ (by omega)]; exact h3, by simpa [World.setCell] using h4, h5.set (p := ⟨w.heap.size, 3, none⟩) (Nat.le_refl _) _⟩

theorem boxes_new (n f : ByteArray) (op v sl : Int) (on : Bool) (ver slot : Int) (w : World) : Boxes w n f op v sl on ver slot (((w.alloc (.cells #[.string n, .int .i64 op, .int .i64 v, .int .i64 sl, .string f, .bool on] 23)).alloc (.cells #[.int .i64 ver] 3)).alloc (.cells #[.int .i64 slot] 3)) := by
  refine ⟨?_, ?_, ?_, ?_, ((Keep.alloc _ _).alloc' _).alloc' _⟩
  · show (((w.heap.push _).push _).push _)[w.heap.size]? = _
    simp [Array.getElem?_push]
    omega
  · simp [go_sem]
  · simp [go_sem]
  · simp
set_option maxHeartbeats 1000000 in
theorem of_any (k : Int) (w : World) (n f : ByteArray) (op v sl : Int) (on : Bool) (ver slot : Int) (W : World) (h : Boxes w n f op v sl on ver slot W) :
    Calls Tryd.prog 17 #[.int .i64 k, .pointer (some ⟨w.heap.size, 0, none⟩), .pointer (some ⟨w.heap.size + 1, 0, none⟩), .pointer (some ⟨w.heap.size + 1 + 1, 0, none⟩)] W fun e w' => e = .returned (.bool (fitB k v sl ver slot)) ∧ Boxes w n f k v sl on ver slot w' := by
  have b1 : Hid (Boxes w n f k v sl on ver slot (W.setCell ⟨w.heap.size, 1, none⟩ (.int .i64 k))) := h.op k
  obtain ⟨hc, hz, _⟩ := h.1.facts
  have H : Hid (Boxes w n f op v sl on ver slot W) := h
  have c1 : W.cell? ⟨w.heap.size + 1, 0, none⟩ = some (.int .i64 ver) := h.2.1
  have c2 : W.cell? ⟨w.heap.size + 1 + 1, 0, none⟩ = some (.int .i64 slot) := h.2.2.1
  clear h
  go_enter Tryd.func17, Tryd.ntmps17
  go_wp2_with fail
  refine (fits_any _ _ _ _ _ _ _ _ _).mono ?_
  rintro e w1 ⟨rfl, k1⟩
  have b2 : Hid (Boxes w n f k v sl on ver slot w1) := b1.out.keep k1
  go_wp2_with fail
  go_ret
  exact ⟨rfl, b2.out⟩

/-- The four ways that a version can stand to an atom's. -/
theorem fit_ways (v sl ver slot : Int) : (fitB 0 v sl ver slot = false ∧ fitB 1 v sl ver slot = false ∧ fitB 2 v sl ver slot = false ∧ fitB 3 v sl ver slot = false)
    ∨ (fitB 0 v sl ver slot = true ∧ fitB 1 v sl ver slot = true ∧ fitB 2 v sl ver slot = true ∧ fitB 3 v sl ver slot = false ∧ fitB 1 v 0 ver slot = true)
    ∨ (fitB 0 v sl ver slot = true ∧ fitB 1 v sl ver slot = false ∧ fitB 2 v sl ver slot = true ∧ fitB 3 v sl ver slot = false)
    ∨ (fitB 0 v sl ver slot = true ∧ fitB 1 v sl ver slot = false ∧ fitB 2 v sl ver slot = false ∧ fitB 3 v sl ver slot = true) := by
  by_cases h : sl ≠ 0 ∧ sl ≠ slot
  · left
    have z : ∀ k, fitB k v sl ver slot = false := fun k => by unfold fitB; rw [if_pos h]
    exact ⟨z _, z _, z _, z _⟩
  · right
    have z : ∀ k, fitB k v sl ver slot = if k = 1 then decide (ver = v) else if k = 2 then decide (v ≤ ver) else if k = 3 then decide (ver < v) else true := fun k => by unfold fitB; rw [if_neg h]
    have z1 : fitB 1 v 0 ver slot = decide (ver = v) := by unfold fitB; rw [if_neg (by simp)]; rfl
    rw [z, z, z, z, z1]
    simp
    omega
theorem fit_any0 (v ver slot : Int) : fitB 0 v 0 ver slot = true := by unfold fitB; rw [if_neg (by simp)]; rfl

set_option maxHeartbeats 4000000 in
theorem parts_walk (n f : ByteArray) (op v sl : Int) (on : Bool) (ver slot : Int) (w : World) (hE : Env w) :
    Calls Tryd.prog 5 #[.agg #[.string n, .int .i64 op, .int .i64 v, .int .i64 sl, .string f, .bool on], .int .i64 ver, .int .i64 slot] w fun e w' => e = .returned (.bool true) ∧ Keep w w' := by
  have HE : Hid (Env w) := hE
  clear hE
  go_enter Tryd.func5, Tryd.ntmps5
  go_wp2_with fail
  have b0 : Hid (Boxes w n f op v sl on ver slot (((w.alloc (.cells #[.string n, .int .i64 op, .int .i64 v, .int .i64 sl, .string f, .bool on] 23)).alloc (.cells #[.int .i64 ver] 3)).alloc (.cells #[.int .i64 slot] 3))) := boxes_new n f op v sl on ver slot w
  generalize (((w.alloc (.cells #[.string n, .int .i64 op, .int .i64 v, .int .i64 sl, .string f, .bool on] 23)).alloc (.cells #[.int .i64 ver] 3)).alloc (.cells #[.int .i64 slot] 3)) = W0 at b0 ⊢
  refine (asked_any _ (HE.out.keep b0.out.2.2.2.2)).mono ?_
  rintro e w1 ⟨rfl, k1⟩
  have b1 : Hid (Boxes w n f op v sl on ver slot w1) := b0.out.keep k1
  clear k1 b0
  obtain ⟨hc1, hz1, _⟩ := b1.out.1.facts
  go_wp2_with fail
  refine (check_any _ _ _ _ _ _ _).mono ?_
  rintro e w2 ⟨rfl, k2⟩
  have b2 : Hid (Boxes w n f op v sl on ver slot w2) := b1.out.keep k2
  clear k2 b1 hc1 hz1
  generalize chk n.data.toList op v sl f.data.toList on = c
  by_cases hc0 : c = 0
  · subst hc0
    have F := fit_ways v sl ver slot
    have F0 : Hid (fitB 0 v 0 ver slot = true) := fit_any0 v ver slot
    go_wp2_with fail
    refine (of_any 0 w n f op v sl on ver slot _ b2.out).mono ?_
    rintro e w3 ⟨rfl, b3⟩
    go_wp2_with fail
    refine (of_any 1 w n f _ v sl on ver slot _ b3).mono ?_
    rintro e w4 ⟨rfl, b4⟩
    go_wp2_with fail
    refine (of_any 2 w n f _ v sl on ver slot _ b4).mono ?_
    rintro e w5 ⟨rfl, b5⟩
    go_wp2_with fail
    refine (of_any 3 w n f _ v sl on ver slot _ b5).mono ?_
    rintro e w6 ⟨rfl, b6⟩
    have B6 : Hid (Boxes w n f 3 v sl on ver slot w6) := b6
    have B7 : Hid (Boxes w n f 3 v 0 on ver slot (w6.setCell ⟨w.heap.size, 3, none⟩ (.int .i64 0))) := b6.slot 0
    obtain ⟨hc6, hz6, _⟩ := b6.1.facts
    clear b3 b4 b5 b6 b2
    rcases F with ⟨f0, f1, f2, f3⟩ | ⟨f0, f1, f2, f3, g1⟩ | ⟨f0, f1, f2, f3⟩ | ⟨f0, f1, f2, f3⟩
    · rw [f0, f1, f2, f3]
      clear f0 f1 f2 f3
      go_wp2_with fail
      go_ret
      exact ⟨rfl, B7.out.2.2.2.2⟩
    · have G1 : Hid (fitB 1 v 0 ver slot = true) := g1
      rw [f0, f1, f2, f3]
      clear f0 f1 f2 f3 g1
      go_wp2_with fail
      refine (of_any 0 w n f _ v 0 on ver slot _ B7.out).mono ?_
      rintro e w8 ⟨rfl, b8⟩
      rw [F0.out]
      go_wp2_with fail
      refine (of_any 1 w n f _ v 0 on ver slot _ b8).mono ?_
      rintro e w9 ⟨rfl, b9⟩
      rw [G1.out]
      have B9 : Hid (Boxes w n f 1 v 0 on ver slot w9) := b9
      clear b8 b9
      go_wp2_with fail
      go_ret
      exact ⟨rfl, B9.out.2.2.2.2⟩
    · rw [f0, f1, f2, f3]
      clear f0 f1 f2 f3
      go_wp2_with fail
      refine (of_any 0 w n f _ v 0 on ver slot _ B7.out).mono ?_
      rintro e w8 ⟨rfl, b8⟩
      rw [F0.out]
      have B8 : Hid (Boxes w n f 0 v 0 on ver slot w8) := b8
      clear b8
      go_wp2_with fail
      go_ret
      exact ⟨rfl, B8.out.2.2.2.2⟩
    · rw [f0, f1, f2, f3]
      clear f0 f1 f2 f3
      go_wp2_with fail
      refine (of_any 0 w n f _ v 0 on ver slot _ B7.out).mono ?_
      rintro e w8 ⟨rfl, b8⟩
      rw [F0.out]
      have B8 : Hid (Boxes w n f 0 v 0 on ver slot w8) := b8
      clear b8
      go_wp2_with fail
      go_ret
      exact ⟨rfl, B8.out.2.2.2.2⟩
  · have hc' : (c != 0) = true := by simp [hc0]
    clear hc0
    go_wp2_with fail
    refine (asked_any _ (HE.out.keep b2.out.2.2.2.2)).mono ?_
    rintro e w3 ⟨rfl, k3⟩
    have K3 : Keep w w3 := b2.out.2.2.2.2.trans k3
    go_wp2_with fail
    go_ret
    exact ⟨rfl, K3⟩
end Go.Proofs.YtkckkjpkidcbnaaDoor
