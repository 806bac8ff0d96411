/- A map of two texts by bool that a call makes: what the inserts leave and the look-up answers. -/
import Derived.Test.YtbidagegabganaaDoorRefCheck
import Derived.MapKept
namespace Go.Proofs.YtbidagegabganaaDoor
open Go.RowKit

theorem map_set (W : World) (o o' : Obj) : ({ (W.alloc o) with heap := (W.alloc o).heap.setIfInBounds W.heap.size o' } : World) = W.alloc o' := by
  show ({ W with heap := (W.heap.push o).setIfInBounds W.heap.size o' } : World) = { W with heap := W.heap.push o' }
  congr 1
  apply Array.ext_getElem?
  intro i
  rw [Array.getElem?_setIfInBounds, Array.getElem?_push, Array.getElem?_push]
  by_cases h : W.heap.size = i
  · subst h; simp
  · rw [if_neg h, if_neg (Ne.symm h), if_neg (Ne.symm h)]
/-- The two entries. -/
def ent (k : Bool) (x : ByteArray) (c : Nat) : MapEntry := { key := .bool k, val := .string x, born := c }
theorem chkKey (k : Bool) (e : Bool) (W : World) : (Instr.checkKey e 10000 4 (.bool k)).run Tryd.prog W = .ok () W :=
  MapKept.run_checkKey (k := .bool k) Tryd.underlying4 (by simp [MapKept.IsKey]) e 9999
theorem ins_one (W : World) (x : ByteArray) : (Instr.mapUpdate 58 (.map (some W.heap.size)) (.bool true) (.string x)).run Tryd.prog (W.alloc (.map #[] 0)) = .ok () (W.alloc (.map #[ent true x 0] 1)) := by
  have hb : (W.alloc (.map #[] 0)).heap[W.heap.size]? = some (.map #[] 0) := (MapKept.heap_alloc W _).1
  have hf : Instr.findNow .bool (.bool true) ([] : List MapEntry) 0 = some none := rfl
  simp [Instr.mapUpdate, run_underlying Tryd.underlying58, MapKept.run_getObj_map hb, chkKey, MapKept.run_findKey Tryd.underlying4 hf, MapKept.run_setObj_map _ hb, Result.andThen, ent]
  exact map_set W _ _
theorem ins_two (W : World) (x y : ByteArray) : (Instr.mapUpdate 58 (.map (some W.heap.size)) (.bool false) (.string y)).run Tryd.prog (W.alloc (.map #[ent true x 0] 1)) = .ok () (W.alloc (.map #[ent true x 0, ent false y 1] 2)) := by
  have hb : (W.alloc (.map #[ent true x 0] 1)).heap[W.heap.size]? = some (.map #[ent true x 0] 1) := (MapKept.heap_alloc W _).1
  have hf : Instr.findNow .bool (.bool false) ([ent true x 0] : List MapEntry) 0 = some none := rfl
  simp [Instr.mapUpdate, run_underlying Tryd.underlying58, MapKept.run_getObj_map hb, chkKey, MapKept.run_findKey Tryd.underlying4 hf, MapKept.run_setObj_map _ hb, Result.andThen]
  exact map_set W _ _
theorem look_two (W : World) (x y : ByteArray) (k : Bool) : (Instr.lookup 58 (.map (some W.heap.size)) (.bool k) false).run Tryd.prog (W.alloc (.map #[ent true x 0, ent false y 1] 2)) = .ok (.string (if k then x else y)) (W.alloc (.map #[ent true x 0, ent false y 1] 2)) := by
  have hb : (W.alloc (.map #[ent true x 0, ent false y 1] 2)).heap[W.heap.size]? = some (.map #[ent true x 0, ent false y 1] 2) := (MapKept.heap_alloc W _).1
  cases k
  · have hf : Instr.findNow .bool (.bool false) ([ent true x 0, ent false y 1] : List MapEntry) 0 = some (some (1, .string y)) := rfl
    simp [Instr.lookup, run_underlying Tryd.underlying58, MapKept.run_getObj_map hb, chkKey, MapKept.run_findKey Tryd.underlying4 hf, Result.andThen]
  · have hf : Instr.findNow .bool (.bool true) ([ent true x 0, ent false y 1] : List MapEntry) 0 = some (some (0, .string x)) := rfl
    simp [Instr.lookup, run_underlying Tryd.underlying58, MapKept.run_getObj_map hb, chkKey, MapKept.run_findKey Tryd.underlying4 hf, Result.andThen]
end Go.Proofs.YtbidagegabganaaDoor
