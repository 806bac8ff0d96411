/- A need that comes in lies in memory as a tree; the library's own variable holds some number. -/
import Derived.Test.YtkckkjpkidcbnaaGreatDoorAtomOpen
import Derived.Test.YtkckkjpkidcbnaaGreatDoorNeedNeeded
import Derived.Shelf.Vars
import Derived.HandedShaped
namespace Go.Proofs.YtkckkjpkidcbnaaGreatDoor
open Go.ChangeShapes Go.WideShapes Go.ChangeAt Go.RowKit Go.Joins

theorem cells_need : Tryz.prog.cellsOf 26 = 10 := by kernel_rfl
theorem cells_kids : Tryz.prog.cellsOf 24 = 1 := by kernel_rfl
theorem list6 {α : Type} {cs : List α} (h : cs.length = 6) : ∃ c0 c1 c2 c3 c4 c5, cs = [c0, c1, c2, c3, c4, c5] := by
  match cs, h with
  | [c0, c1, c2, c3, c4, c5], _ => exact ⟨c0, c1, c2, c3, c4, c5, rfl⟩
theorem list10 {α : Type} {cs : List α} (h : cs.length = 10) : ∃ c0 c1 c2 c3 c4 c5 c6 c7 c8 c9, cs = [c0, c1, c2, c3, c4, c5, c6, c7, c8, c9] := by
  match cs, h with
  | [c0, c1, c2, c3, c4, c5, c6, c7, c8, c9], _ => exact ⟨c0, c1, c2, c3, c4, c5, c6, c7, c8, c9, rfl⟩

section
variable {H : Type} {enc : TypeId × Value → H} {w : World} {base : Nat} {sp : Nat → Bool} {held : Bool}
set_option maxRecDepth 100000 in
theorem trod_atom {fuel : Nat} {cs : List Value} {x : DataW H × List MemPlace} (h : DataW.trod enc Tryz.prog w base sp held fuel 23 cs = some x) : ∃ a : At, cs = [.string a.n, .int .i64 a.op, .int .i64 a.v, .int .i64 a.sl, .string a.f, .bool a.on] := by
  obtain ⟨xs, m, _, hx, hl, hlen, hel⟩ := DataW.trod_struct Tryz.underlying23 h
  obtain ⟨c0, c1, c2, c3, c4, c5, rfl⟩ := list6 (hl.trans cells_atom)
  match xs, hlen with
  | [y0, y1, y2, y3, y4, y5], _ =>
    obtain ⟨n, e0, g0, _⟩ := DataW.trod_string Tryz.underlying9 (by simpa using hel 0 _ rfl)
    obtain ⟨op, e1, g1, _⟩ := DataW.trod_int Tryz.underlying3 (by simpa using hel 1 _ rfl)
    obtain ⟨v, e2, g2, _⟩ := DataW.trod_int Tryz.underlying3 (by simpa using hel 2 _ rfl)
    obtain ⟨sl, e3, g3, _⟩ := DataW.trod_int Tryz.underlying3 (by simpa using hel 3 _ rfl)
    obtain ⟨f, e4, g4, _⟩ := DataW.trod_string Tryz.underlying9 (by simpa using hel 4 _ rfl)
    obtain ⟨on, e5, g5⟩ := DataW.trod_bool Tryz.underlying4 (by simpa using hel 5 _ rfl)
    refine ⟨⟨n, op, v, sl, f, on⟩, ?_⟩
    simp [cells_int, cells_bool, cStr] at e0 e1 e2 e3 e4 e5
    rw [e0, e1, e2, e3, e4, e5]

set_option maxRecDepth 100000 in
theorem trod_need : ∀ (fuel : Nat) (cs : List Value) (x : DataW H × List MemPlace), DataW.trod enc Tryz.prog w base sp held fuel 26 cs = some x → ∃ t : NT, NeedIs (fun b => b < w.heap.size) w t cs := by
  intro fuel
  induction fuel using Nat.strongRecOn with
  | ind fuel ih =>
  intro cs x h
  obtain ⟨xs, m, hm, hx, hl, hlen, hel⟩ := DataW.trod_struct Tryz.underlying26 h
  obtain ⟨c0, c1, c2, c3, c4, c5, c6, c7, c8, c9, rfl⟩ := list10 (hl.trans cells_need)
  match xs, hlen with
  | [y0, y1, y2, y3, y4], _ =>
    obtain ⟨k, e0, -, -⟩ := DataW.trod_int Tryz.underlying3 (by simpa using hel 0 _ rfl)
    obtain ⟨a, e1⟩ := trod_atom (by simpa using hel 1 _ rfl)
    obtain ⟨fl, e2, -, -⟩ := DataW.trod_string Tryz.underlying9 (by simpa using hel 2 _ rfl)
    obtain ⟨nt, e3, -⟩ := DataW.trod_bool Tryz.underlying4 (by simpa using hel 3 _ rfl)
    have hs := DataW.trod_slice Tryz.underlying24 (show DataW.trod enc Tryz.prog w base sp held m 24 _ = some y4 by simpa using hel 4 _ rfl)
    simp [cells_int, cells_bool, cStr, cells_atom] at e0 e1 e2 e3
    obtain ⟨e10, e11, e12, e13, e14, e15⟩ := e1
    rcases hs with ⟨e4, -⟩ | ⟨ad, len, cap, elems, rest, mm, hmm, e4, -, -, hlc, hcm, hle, hcell, -, -⟩
    · simp [cells_kids] at e4
      refine ⟨.node k a fl nt [], ?_⟩
      rw [NeedIs]
      exact ⟨none, 0, by rw [e0, e10, e11, e12, e13, e14, e15, e2, e3, e4]; rfl, Nat.le_refl _, by simp, by rw [KidsIs]; trivial⟩
    · simp [cells_kids] at e4
      have key : ∀ (q i : Nat), i + q = len → ∃ ts : List NT, ts.length = q ∧ KidsIs (fun b => b < w.heap.size) w ts (some ad) i := by
        intro q
        induction q with
        | zero => intro i _; exact ⟨[], rfl, by rw [KidsIs]; trivial⟩
        | succ q ihq =>
          intro i hi
          obtain ⟨ts, hts, hk⟩ := ihq (i + 1) (by omega)
          have hci := hcell i (by omega)
          rw [cells_need, List.getElem?_eq_getElem (by omega)] at hci
          obtain ⟨csi, hc1, hc2⟩ := Option.bind_eq_some_iff.1 hci
          obtain ⟨t, ht⟩ := ih mm (by omega) csi _ hc2
          obtain ⟨hb1, hb2, hb3⟩ := World.cells?_some hc1
          have hblk := World.cells?_block hc1 (by decide)
          refine ⟨t :: ts, by simp [hts], ?_⟩
          rw [KidsIs]
          refine ⟨⟨ad, csi, rfl, by rw [add_block] at hblk; exact hblk, fun j v hv => ?_, ht⟩, hk⟩
          have hj : j < 10 := by rw [← hb2]; exact (List.getElem?_eq_some_iff.1 hv).1
          rw [hb3 j hj]; exact hv
      obtain ⟨ts, hts, hk⟩ := key len 0 (by omega)
      refine ⟨.node k a fl nt ts, ?_⟩
      rw [NeedIs]
      exact ⟨some ad, cap, by rw [e0, e10, e11, e12, e13, e14, e15, e2, e3, e4, hts], by omega, by unfold maxLen at hcm; omega, hk⟩
end
set_option maxRecDepth 100000 in
theorem open_need {H : Type} {enc : TypeId × Value → H} {w : World} {base b0 : Nat} {sp : Nat → Bool} {held : Bool} {x : Value} {d : DataW H} {p : List MemPlace} (hv : Value.okWide Tryz.prog w .any b0 26 x) (h : DataW.Trod enc Tryz.prog w base sp held 26 x d p) :
    ∃ (t : NT) (cs : List Value), x = .agg cs.toArray ∧ NeedIs (fun b => b < w.heap.size) w t cs := by
  obtain ⟨cs, rfl, hsz⟩ := okWide_struct Tryz.underlying26 hv
  obtain ⟨fuel, hf⟩ := h
  obtain ⟨t, ht⟩ := trod_need fuel cs.toList (d, p) hf
  exact ⟨t, cs.toList, by simp, ht⟩
theorem maxAt_of {w : World} (h : w.ShapedOpen Tryz.prog) : MaxAt w := by
  obtain ⟨m, hm⟩ := cell_of_shapedOpen_int (g := 1) (t := 3) (zero := #[.int .i64 0]) (k := .i64) h (of_decide_eq_true (by kernel_rfl)) (by kernel_rfl) rfl (by kernel_rfl) (by kernel_rfl) Tryz.underlying3
  exact ⟨cell_lt hm, m, hm⟩

/-- The wrap that hands on both what is laid and the world's shape. -/
theorem handed_shaped {H : Type} {enc : TypeId × Value → H} {a : Assume} {C : Checked} {os : Os} {f : FuncId} {fn : Func} {s : ChangeSpec} {conds : List PathCond} {apart fresh handsOn again : Bool} {X : World → Array Value → Prop}
    (hX : ∀ (w w' : World) (args : Array Value), w.heap = w'.heap → X w args → X w' args)
    (own : ownKnob C.prog.godebug = none) (started : os.Started) (noInit : C.prog.inits.idxOf? f = none) (hfn : C.prog.funcs[f]? = some fn)
    (witness : ∃ (w : World) (tape : Tape) (i : Input), w.os = os ∧ (w.forCall tape i).Shaped C.prog ∧ i.vars = [] ∧ Input.okWide C.prog (w.forCall tape i) .any w.heap.size f i ∧
      ((s.pre enc C.prog fn conds apart (w.forCall tape i).memory i.args ∧ X (w.forCall tape i).memory i.args) ∧ sizedMet enc C.prog fn (OpenSpec.ofChange s) apart (w.forCall tape i).memory i.args) ∧ a.holds C.prog (lone (Frame.enter C.prog f i.args .normal) [] (w.forCall tape i)))
    (contract : ∀ (W : World) (base : Nat) (args : Array Value) (ds gs : List (DataW H)) (before : List MemPlace),
      (∀ (j : Nat) t v, fn.params[j]? = some t → args[j]? = some v → Value.okWide C.prog W .any base t v) →
      DataW.Whole enc C.prog fn.params.toList s.vars apart W args.toList ds gs before →
      X W args → W.ShapedOpen C.prog →
      Calls C.prog f args W fun e W' => ∃ v, e = .returned v ∧ s.post enc C.prog fn apart fresh handsOn again W args v W') :
    ReturnsInHanded a C os f .any (fun w args => (s.pre enc C.prog fn conds apart w args ∧ X w args) ∧ sizedMet enc C.prog fn (OpenSpec.ofChange s) apart w args) (s.post enc C.prog fn apart fresh handsOn again) := by
  refine returnsInHanded_of_calls own started noInit witness ?_
  intro w tape i _ hsh _ hok hpre _
  obtain ⟨_, _, _, fn', hfn', _, _, _, _, hval⟩ := hok
  obtain rfl : fn' = fn := Option.some.inj (hfn'.symm.trans hfn)
  obtain ⟨⟨⟨ds, gs, before, hw, _⟩, hx⟩, _⟩ := hpre
  have hw' := DataW.Whole.of_heap (w' := w.forCall tape i) (by rfl) hw
  refine (contract (w.forCall tape i) w.heap.size i.args ds gs before hval hw' (hX _ _ _ (by rfl) hx) hsh).mono fun e W' ⟨v, he, hp⟩ => ?_
  subst he
  exact ChangeSpec.post_blind hp
end Go.Proofs.YtkckkjpkidcbnaaGreatDoor
