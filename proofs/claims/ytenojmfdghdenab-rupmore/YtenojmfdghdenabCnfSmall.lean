/- How long what comes in can be: each slice takes at most reachBytes. -/
import Derived.Test.YtenojmfdghdenabCnfOpen
import Derived.SizedLaws
namespace Go.Proofs.Ytenojmfdghdenab
open Go.ChangeShapes Go.WideShapes Go.ChangeAt Go.RowKit Go.Joins

theorem bytes_int : Try.prog.bytesOf 3 = 8 := by kernel_rfl
theorem bytes_clause : Try.prog.bytesOf 38 = 24 := by kernel_rfl
section
variable {H : Type} {enc : TypeId × Value → H} {w : World} {base : Nat} {sp : Nat → Bool} {held : Bool}
/-- A slice's own weight. -/
theorem trod_weight {T e : TypeId} (hT : Try.prog.underlying T = some (.slice e)) {fuel : Nat} {q : Option Addr} {n cap : Nat} {x : DataW H × List MemPlace} (h : DataW.trod enc Try.prog w base sp held fuel T [.slice q n cap] = some x) (hw : ∀ k ∈ x.1.weights Try.prog T, k ≤ reachBytes) : n * Try.prog.bytesOf e ≤ reachBytes := by
  rcases DataW.trod_slice hT h with ⟨h1, -⟩ | ⟨ad, len, cap', elems, rest, mm, -, h1, hx, -, -, -, hle, -, -, -⟩
  · cases h1; simp
  · cases h1
    rw [hx] at hw
    have := hw ((n + rest.length) * Try.prog.bytesOf e) (by simp [DataW.weights, hT, hle])
    exact Nat.le_trans (Nat.mul_le_mul_right _ (Nat.le_add_right _ _)) this
theorem ints_small {q : Option Addr} {n cap : Nat} {d : DataW H} {p : List MemPlace} (h : DataW.Trod enc Try.prog w base sp held 26 (.slice q n cap) d p) (hw : ∀ k ∈ d.weights Try.prog 26, k ≤ reachBytes) : n * 8 ≤ reachBytes := by
  obtain ⟨fuel, hf⟩ := h
  have := trod_weight (x := (d, p)) Try.underlying26 hf hw
  rwa [bytes_int] at this
set_option maxRecDepth 100000 in
theorem form_small {vars : Int} {q : Option Addr} {n cap : Nat} {d : DataW H} {p : List MemPlace} (h : DataW.Trod enc Try.prog w base sp held 24 (.agg #[.int .i64 vars, .slice q n cap]) d p) (hw : ∀ k ∈ d.weights Try.prog 24, k ≤ reachBytes) : n * 24 ≤ reachBytes := by
  obtain ⟨fuel, hf⟩ := h
  obtain ⟨xs, m, hm, hx, hl, hlen, hel⟩ := DataW.trod_struct Try.underlying24 (show DataW.trod enc Try.prog w base sp held fuel 24 [.int .i64 vars, .slice q n cap] = some (d, p) from hf)
  match xs, hlen with
  | [y0, y1], _ =>
    have h1 := (show DataW.trod enc Try.prog w base sp held m 22 [.slice q n cap] = some y1 by simpa [cells_int, cells_rowC] using hel 1 _ rfl)
    have hd : d = .agg [y0.1, y1.1] := by simpa using congrArg Prod.fst hx
    rw [hd] at hw
    have := trod_weight Try.underlying22 h1 (fun k hk => hw k (by
      simp only [DataW.weights, Try.underlying24]
      simp only [List.map_cons, List.map_nil, DataW.weightsEach, List.mem_append]
      exact Or.inr (Or.inl hk)))
    rwa [bytes_clause] at this
end
end Go.Proofs.Ytenojmfdghdenab
