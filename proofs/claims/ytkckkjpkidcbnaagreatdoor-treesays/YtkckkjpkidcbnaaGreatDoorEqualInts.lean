/- slices.Equal of two rows of ints. -/
import Derived.Test.YtkckkjpkidcbnaaGreatDoorTreeMeant
import Derived.Shelf.Spec.SlicesGrow
import Derived.Laws.AppendOwnNone
import Derived.Sort.OwnSortedInts
namespace Go.Proofs.YtkckkjpkidcbnaaGreatDoor
open Go.RowKit Go.Lib

theorem IntsAt.get0 {v : Value} {zs : List Int} {w : World} (h : IntsAt v zs w) (hn : 0 < zs.length) : ∃ g cap, v = .slice (some ⟨g, 0, none⟩) zs.length cap ∧ g < w.heap.size ∧ (∀ j, j < zs.length → w.cell? ⟨g, 0 + j, none⟩ = some (.int .i64 (zs.getD j 0))) := by
  rcases h with ⟨rfl, -⟩ | ⟨g, cap, h1, h2, h3⟩
  · exact absurd hn (Nat.not_lt_zero _)
  · refine ⟨g, cap, h1, h2, fun j hj => ?_⟩
    rw [Nat.zero_add, List.getD_eq_getElem?_getD, List.getElem?_eq_getElem hj, Option.getD_some]
    exact h3 j _ (List.getElem?_eq_getElem hj)
theorem equalInts_any (v u : Value) (xs ys : List Int) (w : World) (h : IntsAt v xs w) (h' : IntsAt u ys w) (hl : xs.length ≤ 2000) (hl' : ys.length ≤ 2000) :
    Calls Tryz.prog 36 #[v, u] w fun e w' => e = .returned (.bool (xs == ys)) ∧ ∃ q, w' = w.drewN q := by
  obtain ⟨q, d, rfl⟩ := h'.len
  obtain ⟨p, c, rfl⟩ := h.len
  by_cases hne : xs.length = ys.length
  · by_cases h0 : xs = []
    · subst h0
      have hy : ys = [] := List.length_eq_zero_iff.1 hne.symm
      subst hy
      refine (Tryz.slices_Equal_int_empty p q c 0 d w (by omega)).mono ?_
      rintro e w' ⟨rfl, rfl⟩
      exact ⟨rfl, 0, rfl⟩
    · have hp := List.length_pos_iff.2 h0
      obtain ⟨g, cap, e1, -, hc⟩ := h.get0 hp
      obtain ⟨g', cap', e2, -, hc'⟩ := h'.get0 (by omega)
      cases e1
      cases e2
      refine (Tryz.slices_Equal_int g 0 xs.length c g' 0 ys.length d xs ys w (Nat.le_refl _) (Nat.le_refl _) (by omega) (by omega) hc hc').mono ?_
      rintro e w' ⟨rfl, q, rfl⟩
      exact ⟨ret_bool (by rw [List.take_length, List.take_length]), q, rfl⟩
  · refine (Tryz.slices_Equal_int_lens p q xs.length c ys.length d w hne).mono ?_
    rintro e w' ⟨rfl, rfl⟩
    refine ⟨ret_bool ?_, 0, rfl⟩
    symm
    exact beq_eq_false_iff_ne.2 fun e => hne (by rw [e])

end Go.Proofs.YtkckkjpkidcbnaaGreatDoor
