/- A need that comes in lies in memory as a tree of no more nodes than it has bulk. -/
import Derived.Test.YtkckkjpkidcbnaaGreatDoorNeedOpen
namespace Go.Proofs.YtkckkjpkidcbnaaGreatDoor
open Go.ChangeShapes Go.WideShapes Go.ChangeAt Go.RowKit Go.Joins

section
variable {H : Type} {enc : TypeId × Value → H} {w : World} {base : Nat} {sp : Nat → Bool} {held : Bool}
set_option maxRecDepth 100000 in
theorem trod_needB : ∀ (fuel : Nat) (cs : List Value) (x : DataW H × List MemPlace), DataW.trod enc Tryz.prog w base sp held fuel 26 cs = some x → ∃ t : NT, NeedIs (fun b => b < w.heap.size) w t cs ∧ t.size ≤ Rows.uptoBulk x.1 := by
  intro fuel
  induction fuel using Nat.strongRecOn with
  | ind fuel ih =>
  intro cs x h
  obtain ⟨xs, m, hm, hx, hl, hlen, hel⟩ := DataW.trod_struct Tryz.underlying26 h
  obtain ⟨c0, c1, c2, c3, c4, c5, c6, c7, c8, c9, rfl⟩ := list10 (hl.trans cells_need)
  match xs, hlen with
  | [y0, y1, y2, y3, y4], _ =>
    obtain ⟨k, e0, -, -⟩ := DataW.trod_int Tryz.underlying3 (by simpa using hel 0 _ rfl)
    obtain ⟨a, e1⟩ := trod_atom (by simpa using hel 1 _ rfl)
    obtain ⟨fl, e2, -, -⟩ := DataW.trod_string Tryz.underlying9 (by simpa using hel 2 _ rfl)
    obtain ⟨nt, e3, -⟩ := DataW.trod_bool Tryz.underlying4 (by simpa using hel 3 _ rfl)
    have hs := DataW.trod_slice Tryz.underlying24 (show DataW.trod enc Tryz.prog w base sp held m 24 _ = some y4 by simpa using hel 4 _ rfl)
    simp [cells_int, cells_bool, cStr, cells_atom] at e0 e1 e2 e3
    obtain ⟨e10, e11, e12, e13, e14, e15⟩ := e1
    have hbx : 1 + Rows.uptoBulk y4.1 ≤ Rows.uptoBulk x.1 := by
      rw [hx]
      simp only [Rows.uptoBulk, List.map_cons, List.map_nil, Rows.uptoBulkAll]
      omega
    rcases hs with ⟨e4, -⟩ | ⟨ad, len, cap, elems, rest, mm, hmm, e4, hy4, -, hlc, hcm, hle, hcell, -, -⟩
    · simp [cells_kids] at e4
      refine ⟨.node k a fl nt [], ?_, by simp only [NT.size, sizeL]; omega⟩
      rw [NeedIs]
      exact ⟨none, 0, by rw [e0, e10, e11, e12, e13, e14, e15, e2, e3, e4]; rfl, Nat.le_refl _, by simp, by rw [KidsIs]; trivial⟩
    · simp [cells_kids] at e4
      have key : ∀ (q i : Nat), i + q = len → ∃ ts : List NT, ts.length = q ∧ KidsIs (fun b => b < w.heap.size) w ts (some ad) i ∧ sizeL ts ≤ Rows.uptoBulkAll ((elems.drop i).map (·.1)) := by
        intro q
        induction q with
        | zero => intro i _; exact ⟨[], rfl, by rw [KidsIs]; trivial, by simp [sizeL]⟩
        | succ q ihq =>
          intro i hi
          obtain ⟨ts, hts, hk, hbk⟩ := ihq (i + 1) (by omega)
          have hci := hcell i (by omega)
          rw [cells_need, List.getElem?_eq_getElem (by omega)] at hci
          obtain ⟨csi, hc1, hc2⟩ := Option.bind_eq_some_iff.1 hci
          obtain ⟨t, ht, hbt⟩ := ih mm (by omega) csi _ hc2
          obtain ⟨hb1, hb2, hb3⟩ := World.cells?_some hc1
          have hblk := World.cells?_block hc1 (by decide)
          refine ⟨t :: ts, by simp [hts], ?_, by
            rw [List.drop_eq_getElem_cons (show i < elems.length by omega), List.map_cons, Rows.uptoBulkAll, sizeL]
            omega⟩
          rw [KidsIs]
          refine ⟨⟨ad, csi, rfl, by rw [add_block] at hblk; exact hblk, fun j v hv => ?_, ht⟩, hk⟩
          have hj : j < 10 := by rw [← hb2]; exact (List.getElem?_eq_some_iff.1 hv).1
          rw [hb3 j hj]; exact hv
      obtain ⟨ts, hts, hk, hbk⟩ := key len 0 (by omega)
      refine ⟨.node k a fl nt ts, ?_, by
        rw [hy4] at hbx
        simp only [Rows.uptoBulk] at hbx
        rw [List.drop_zero] at hbk
        simp only [NT.size]
        omega⟩
      rw [NeedIs]
      exact ⟨some ad, cap, by rw [e0, e10, e11, e12, e13, e14, e15, e2, e3, e4, hts], by omega, by unfold maxLen at hcm; omega, hk⟩
end
set_option maxRecDepth 100000 in
theorem open_needB {H : Type} {enc : TypeId × Value → H} {w : World} {base b0 : Nat} {sp : Nat → Bool} {held : Bool} {x : Value} {d : DataW H} {p : List MemPlace} (hv : Value.okWide Tryz.prog w .any b0 26 x) (h : DataW.Trod enc Tryz.prog w base sp held 26 x d p) :
    ∃ (t : NT) (cs : List Value), x = .agg cs.toArray ∧ NeedIs (fun b => b < w.heap.size) w t cs ∧ t.size ≤ Rows.uptoBulk d := by
  obtain ⟨cs, rfl, hsz⟩ := okWide_struct Tryz.underlying26 hv
  obtain ⟨fuel, hf⟩ := h
  obtain ⟨t, ht, hb⟩ := trod_needB fuel cs.toList (d, p) hf
  exact ⟨t, cs.toList, by simp, ht, hb⟩
/-- There is an input that fits, at a world that is written out; its shape is known. -/
theorem witness_row_sh {H : Type} {enc : TypeId × Value → H} {C : Checked} {os : Os} {f : FuncId} {fn : Func} {s : OpenSpec} {conds : List PathCond} {apart : Bool} {laid : List (String × DataW Unit)} (w0 : World) (args : Array Value) (hos : w0.os = os)
    (hsh : (w0.forCall (fun _ _ => 0) ⟨#[], args, []⟩).Shaped C.prog)
    (hok : Input.okWideB C.prog (w0.forCall (fun _ _ => 0) ⟨#[], args, []⟩) f ⟨#[], args, []⟩ = true)
    (hrow : s.preRow enc C.prog fn conds apart laid (w0.forCall (fun _ _ => 0) ⟨#[], args, []⟩).memory args) :
    ∃ (w : World) (tape : Tape) (i : Input), w.os = os ∧ (w.forCall tape i).Shaped C.prog ∧ i.vars = [] ∧ Input.okWide C.prog (w.forCall tape i) .any w.heap.size f i ∧
      s.preRow enc C.prog fn conds apart laid (w.forCall tape i).memory i.args ∧ ({ } : Assume).holds C.prog (lone (Frame.enter C.prog f i.args .normal) [] (w.forCall tape i)) :=
  ⟨w0, fun _ _ => 0, ⟨#[], args, []⟩, hos, hsh, (Input.okWide_of_okWideB (base := 0) hok).1, (Input.okWide_of_okWideB hok).2, hrow, by
    simp only [Assume.holds]
    exact ⟨by simp, by simp, fun _ => Modest.zero, by simp, by simp⟩⟩
end Go.Proofs.YtkckkjpkidcbnaaGreatDoor
