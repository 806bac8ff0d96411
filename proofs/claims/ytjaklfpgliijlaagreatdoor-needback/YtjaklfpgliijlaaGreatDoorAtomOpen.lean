/- An atom that comes in is a struct of six cells, which lead nowhere. -/
import Derived.Test.YtjaklfpgliijlaaGreatDoorAtomLaid
import Derived.Test.YtjaklfpgliijlaaGreatDoorAtomAsked
import Derived.Lib.SmallJoins
import Derived.Deep.DeepWitnessRowRef
import Derived.LaidMore
import Derived.Stop.Joined
import Derived.ChangeOld
namespace Go.Proofs.YtjaklfpgliijlaaGreatDoor
open Go.ChangeShapes Go.WideShapes Go.ChangeAt Go.RowKit Go.Joins

theorem cells_atom : Tryz.prog.cellsOf 23 = 6 := by kernel_rfl
theorem cells_int : Tryz.prog.cellsOf 3 = 1 := by kernel_rfl
theorem cells_bool : Tryz.prog.cellsOf 4 = 1 := by kernel_rfl
theorem array6 {α : Type} {cs : Array α} (h : cs.size = 6) : ∃ c0 c1 c2 c3 c4 c5, cs = #[c0, c1, c2, c3, c4, c5] := by
  obtain ⟨l⟩ := cs
  match l, h with
  | [c0, c1, c2, c3, c4, c5], _ => exact ⟨c0, c1, c2, c3, c4, c5, rfl⟩

set_option maxRecDepth 100000 in
theorem open_atom {H : Type} {enc : TypeId × Value → H} {w : World} {base b0 : Nat} {sp : Nat → Bool} {held : Bool} {x : Value} {d : DataW H} {p : List MemPlace} (hv : Value.okWide Tryz.prog w .any b0 23 x) (h : DataW.Trod enc Tryz.prog w base sp held 23 x d p) :
    ∃ (n f : ByteArray) (op v sl : Int) (on : Bool), x = .agg #[.string n, .int .i64 op, .int .i64 v, .int .i64 sl, .string f, .bool on] ∧ p = [] := by
  obtain ⟨cs, rfl, hsz⟩ := okWide_struct Tryz.underlying23 hv
  obtain ⟨c0, c1, c2, c3, c4, c5, rfl⟩ := array6 (hsz.trans cells_atom)
  obtain ⟨fuel, hf⟩ := h
  obtain ⟨xs, m, _, hx, hl, hlen, hel⟩ := DataW.trod_struct Tryz.underlying23 hf
  match xs, hlen with
  | [y0, y1, y2, y3, y4, y5], _ =>
    obtain ⟨n, e0, g0, _⟩ := DataW.trod_string Tryz.underlying9 (by simpa using hel 0 _ rfl)
    obtain ⟨op, e1, g1, _⟩ := DataW.trod_int Tryz.underlying3 (by simpa using hel 1 _ rfl)
    obtain ⟨v, e2, g2, _⟩ := DataW.trod_int Tryz.underlying3 (by simpa using hel 2 _ rfl)
    obtain ⟨sl, e3, g3, _⟩ := DataW.trod_int Tryz.underlying3 (by simpa using hel 3 _ rfl)
    obtain ⟨f, e4, g4, _⟩ := DataW.trod_string Tryz.underlying9 (by simpa using hel 4 _ rfl)
    obtain ⟨on, e5, g5⟩ := DataW.trod_bool Tryz.underlying4 (by simpa using hel 5 _ rfl)
    refine ⟨n, f, op, v, sl, on, ?_, ?_⟩
    · simp [Value.cells, cells_int, cells_bool, cStr] at e0 e1 e2 e3 e4 e5
      rw [e0, e1, e2, e3, e4, e5]
    · have := congrArg Prod.snd hx
      rw [g0, g1, g2, g3, g4, g5] at this
      simpa using this
end Go.Proofs.YtjaklfpgliijlaaGreatDoor
