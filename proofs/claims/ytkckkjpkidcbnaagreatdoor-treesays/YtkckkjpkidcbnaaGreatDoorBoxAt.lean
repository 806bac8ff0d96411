/- A block of cells of any type. -/
import Derived.Test.YtkckkjpkidcbnaaGreatDoorTreeChk
namespace Go.Proofs.YtkckkjpkidcbnaaGreatDoor
open Go.RowKit

/-- The block b holds these cells. -/
def BoxAt (b : Nat) (T : TypeId) (cs : Array Value) (w : World) : Prop := w.heap[b]? = some (.cells cs T (0, 0))
theorem BoxAt.facts {b : Nat} {T : TypeId} {cs : Array Value} {w : World} (h : BoxAt b T cs w) : (∀ o, w.cell? ⟨b, o, none⟩ = cs[o]?) ∧ (∀ o, w.frozen? ⟨b, o, none⟩ = false) ∧ b < w.heap.size := by
  unfold BoxAt at h
  refine ⟨fun o => by simp [World.cell?, h], fun o => by simp [World.frozen?, h], (Array.getElem?_eq_some_iff.1 h).1⟩
theorem BoxAt.new (w : World) (T : TypeId) (cs : Array Value) : BoxAt w.heap.size T cs (w.alloc (.cells cs T)) := by
  show (w.heap.push _)[w.heap.size]? = _
  rw [Array.getElem?_push, if_pos rfl]
theorem BoxAt.keep {b B : Nat} {T : TypeId} {cs : Array Value} {w w' : World} (h : BoxAt b T cs w) (k : Below B w w') (hB : b < B) : BoxAt b T cs w' := by
  unfold BoxAt at *; rw [k.block b hB]; exact h
theorem BoxAt.set {b : Nat} {T : TypeId} {cs : Array Value} {w : World} (h : BoxAt b T cs w) (o : Nat) (x : Value) : BoxAt b T (cs.setIfInBounds o x) (w.setCell ⟨b, o, none⟩ x) := by
  have := heap_set h o x
  unfold BoxAt
  rw [this]
theorem BoxAt.boxed {b : Nat} {T : TypeId} {cs : Array Value} {w : World} (h : BoxAt b T cs w) : Boxed b cs w := ⟨h.facts.2.2, h.facts.1⟩
theorem BoxAt.apart {b c : Nat} {T : TypeId} {cs : Array Value} {w w' : World} (h : BoxAt b T cs w) (ha : Apart (One c) w w') (hb : b ≠ c) : BoxAt b T cs w' := by
  have hl := h.facts.2.2
  unfold BoxAt at *; rw [ha.block b hl (fun e => hb e)]; exact h
theorem VarAt.apart {b c : Nat} {T : TypeId} {v : Value} {w w' : World} (h : VarAt b T v w) (ha : Apart (One c) w w') (hb : b ≠ c) : VarAt b T v w' := by
  have hl := h.facts.2.2
  unfold VarAt at *; rw [ha.block b hl (fun e => hb e)]; exact h
theorem one_setO (c o : Nat) (w : World) (x : Value) : Apart (One c) w (w.setCell ⟨c, o, none⟩ x) := by
  have k : Below c w (w.setCell ⟨c, o, none⟩ x) := below_set w c o x
  refine ⟨k.os, k.tape, k.output, k.size, fun b _ ho => ?_, fun _ _ h => h⟩
  exact Below.heap_setCell _ _ _ _ (fun e => ho e)
end Go.Proofs.YtkckkjpkidcbnaaGreatDoor
