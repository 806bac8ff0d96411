/- From the row to the data: a proof. -/
import Derived.Test.YtbblgmkjgcjcaabCnfOpen
import Derived.SizedLaws
namespace Go.Proofs.Ytbblgmkjgcjcaab
open Go.ChangeShapes Go.WideShapes Go.ChangeAt Go.RowKit

set_option maxRecDepth 100000 in
theorem open_clauses {H : Type} {enc : TypeId × Value → H} {w : World} {base b0 : Nat} {sp : Nat → Bool} {held : Bool} {x : Value} {d : DataW H} {p : List MemPlace} (hv : Value.okWide Try.prog w .any b0 22 x) (h : DataW.Trod enc Try.prog w base sp held 22 x d p) :
    ∃ (F : List (List Int)) (q : Option Addr) (cap : Nat), x = .slice q F.length cap ∧ FormIs (fun b => b < w.heap.size) w 0 F q cap := by
  obtain ⟨a, len, cap, rfl⟩ := okWide_slice Try.underlying22 hv
  obtain ⟨fuel, hf⟩ := h
  obtain ⟨F, q, c, e, h1, h2⟩ := trod_clauses hf
  have hx : Value.slice a len cap = .slice q F.length c := by simpa [Value.cells] using e
  exact ⟨F, q, c, hx, ⟨h1, h2⟩⟩
end Go.Proofs.Ytbblgmkjgcjcaab
