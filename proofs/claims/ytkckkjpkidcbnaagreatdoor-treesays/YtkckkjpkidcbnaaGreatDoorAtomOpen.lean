/- What a row's list of package-level variables gives: the signs, the table of powers of ten, the two errors of strconv. -/
import Derived.Test.YtkckkjpkidcbnaaGreatDoorAtomParsed
import Derived.Lib.LaidTab
import Derived.Stop.LaidErr
import Derived.OpenShut
import Derived.Test.YtkckkjpkidcbnaaGreatDoorAtomAsked
import Derived.Lib.SmallJoins
import Derived.Deep.DeepWitnessRowRef
import Derived.LaidMore
import Derived.Stop.Joined
import Derived.ChangeOld
namespace Go.Proofs.YtkckkjpkidcbnaaGreatDoor
open Go.RowKit

theorem LaidVars_mem {P : Program} {w : World} : ∀ {l : List (String × DataW Unit)} {ps : List MemPlace} {x : String × DataW Unit}, DataW.LaidVars P w l ps → x ∈ l → ∃ qs, DataW.LaidVars P w [x] qs ∧ qs.Sublist ps
  | [], _, _, _, hx => by cases hx
  | (n, d) :: r, ps, x, h, hx => by
    obtain ⟨g, t, cs, fuel, p, q, h1, h2, h3, h4, h5, rfl⟩ := h
    rcases List.mem_cons.1 hx with rfl | hx
    · exact ⟨MemPlace.row ⟨g, 0, none⟩ cs.size ++ p ++ [], ⟨g, t, cs, fuel, p, [], h1, h2, h3, h4, rfl, rfl⟩, by rw [List.append_nil]; exact List.sublist_append_left _ _⟩
    · obtain ⟨qs, h6, h7⟩ := LaidVars_mem h5 hx
      exact ⟨qs, h6, h7.trans (List.sublist_append_right _ _)⟩
theorem laidMet_mem {P : Program} {w : World} {l : List (String × DataW Unit)} {x : String × DataW Unit} (h : laidMet P l w) (hx : x ∈ l) : laidMet P [x] w := by
  obtain ⟨ps, h1, h2, h3⟩ := h
  obtain ⟨qs, h4, h5⟩ := LaidVars_mem h1 hx
  exact ⟨qs, h4, h5.nodup h2, fun b off hb => h3 b off (h5.subset hb)⟩
theorem cell_lt {w : World} {b o : Nat} {v : Value} (h : w.cell? ⟨b, o, none⟩ = some v) : b < w.heap.size := by
  rcases Nat.lt_or_ge b w.heap.size with h' | h'
  · exact h'
  · simp [World.cell?, Array.getElem?_eq_none h'] at h

theorem gSigns : Tryz.prog.globalNamed "quartermaster/atom.signs" = some 0 := by kernel_rfl
theorem tSigns : (Tryz.prog.globals[0]?).map (·.type) = some 139 := by kernel_rfl
theorem tPow : (Tryz.prog.globals[2]?).map (·.type) = some 259 := by kernel_rfl
theorem cPow : Tryz.prog.cellsOf 259 = 20 := by kernel_rfl
theorem cU64 : Tryz.prog.cellsOf 195 = 1 := by kernel_rfl
theorem cStr : Tryz.prog.cellsOf 9 = 1 := by kernel_rfl
theorem cErr : Tryz.prog.cellsOf 272 = 1 := by kernel_rfl
theorem gSyn : Tryz.prog.globalNamed "strconv.ErrSyntax" = some 3 := by kernel_rfl
theorem tSyn : (Tryz.prog.globals[3]?).map (·.type) = some 121 := by kernel_rfl
theorem gRng : Tryz.prog.globalNamed "strconv.ErrRange" = some 4 := by kernel_rfl
theorem tRng : (Tryz.prog.globals[4]?).map (·.type) = some 121 := by kernel_rfl
theorem star : "*" ++ "errors.errorString" = "*errors.errorString" := by decide
theorem rowErr (u : TypeId) (h : Tryz.prog.typeName? 3 u = some "*errors.errorString") : u = 270 :=
  typeName_ptr_named (nm := "errors.errorString") (by rw [star]; kernel_rfl) (by kernel_rfl) (by decide) u (by rw [star]; exact h)

theorem signs_of {W : World} (h : laidMet Tryz.prog [("quartermaster/atom.signs", Rows.laid_quartermaster_atom_signs)] W) : Signs W := by
  obtain ⟨ps, ⟨g, t, cs, fuel, p, q, hg, ht, hv, hd, _, _⟩, _⟩ := h
  obtain rfl := Option.some.inj (gSigns.symm.trans hg)
  obtain rfl := Option.some.inj (tSigns.symm.trans ht)
  obtain ⟨xs, m, rfl, hx, hlen, hn, hel⟩ := DataW.trod_array Tryz.underlying139 hd
  simp only [Rows.laid_quartermaster_atom_signs, Prod.mk.injEq, DataW.agg.injEq] at hx
  match xs, hn, hx, hel with
  | [x0, x1, x2, x3], _, hx, hel =>
    have cell : ∀ (k : Nat) (x : DataW Unit × List MemPlace) (l : List UInt8), k < 4 → [x0, x1, x2, x3][k]? = some x → x.1 = .lit (.string l) → W.cell? ⟨0, k, none⟩ = some (.string ⟨l.toArray⟩) := by
      intro k x l hk hxk hl
      have h1 := hel k hk
      rw [hxk] at h1
      obtain ⟨s, e1, e2, _⟩ := DataW.trod_string Tryz.underlying9 h1
      rw [e2] at hl
      have hs : s.data.toList = l := by simpa using hl
      have hs' : s = ⟨l.toArray⟩ := by cases s; simp at hs; rw [← hs]
      have h2 := World.var?_cell gSigns hv k
      rw [cStr, Nat.mul_one] at e1
      have h3 : cs[k]? = some (.string s) := by
        have := congrArg (·[0]?) e1
        simpa [List.getElem?_take, List.getElem?_drop] using this
      rw [h2, h3, hs']
    simp only [List.map_cons, List.map_nil, List.cons.injEq, and_true] at hx
    have c1 := cell 1 x1 [61] (by decide) rfl hx.1.2.1.symm
    refine ⟨cell_lt c1, c1, cell 2 x2 [62, 61] (by decide) rfl hx.1.2.2.1.symm, cell 3 x3 [60] (by decide) rfl hx.1.2.2.2.symm⟩

theorem env_of {W : World} {l : List (String × DataW Unit)} (h : laidMet Tryz.prog l W) (h1 : ("quartermaster/atom.signs", Rows.laid_quartermaster_atom_signs) ∈ l) (h2 : ("internal/strconv.uint64pow10", Rows.laid_internal_strconv_uint64pow10) ∈ l)
    (h3 : ("strconv.ErrSyntax", Rows.laid_strconv_ErrSyntax) ∈ l) (h4 : ("strconv.ErrRange", Rows.laid_strconv_ErrRange) ∈ l) : Env W := by
  have tab : Lib.TabIs Tryz.prog W "internal/strconv.uint64pow10" .u64 Lib.pow10Tab := Lib.tabIs_of_head (rest := []) named_pow10 tPow Tryz.underlying259 Tryz.underlying195 cU64 cPow (laidMet_mem h h2)
  obtain ⟨a0, s0, hv0, -, -, -⟩ := laid_sentinel (laidMet_mem h h3) gSyn tSyn Tryz.underlying121 rowErr Tryz.underlying270 Tryz.underlying272 rfl rfl Tryz.underlying9 cErr cStr
  obtain ⟨a1, s1, hv1, -, -, -⟩ := laid_sentinel (laidMet_mem h h4) gRng tRng Tryz.underlying121 rowErr Tryz.underlying270 Tryz.underlying272 rfl rfl Tryz.underlying9 cErr cStr
  have c0 : W.cell? ⟨3, 0, none⟩ = some (.iface 270 (.pointer (some a0))) := by simpa using World.var?_cell gSyn hv0 0
  have c1 : W.cell? ⟨4, 0, none⟩ = some (.iface 270 (.pointer (some a1))) := by simpa using World.var?_cell gRng hv1 0
  exact ⟨signs_of (laidMet_mem h h1), ⟨cell_lt (tab.cell named_pow10 0 (by decide)), tab⟩, ⟨cell_lt c0, _, _, c0⟩, ⟨cell_lt c1, _, _, c1⟩⟩
end Go.Proofs.YtkckkjpkidcbnaaGreatDoor
/- An atom that comes in is a struct of six cells, which lead nowhere. -/
namespace Go.Proofs.YtkckkjpkidcbnaaGreatDoor
open Go.ChangeShapes Go.WideShapes Go.ChangeAt Go.RowKit Go.Joins

theorem cells_atom : Tryz.prog.cellsOf 23 = 6 := by kernel_rfl
theorem cells_int : Tryz.prog.cellsOf 3 = 1 := by kernel_rfl
theorem cells_bool : Tryz.prog.cellsOf 4 = 1 := by kernel_rfl
theorem array6 {α : Type} {cs : Array α} (h : cs.size = 6) : ∃ c0 c1 c2 c3 c4 c5, cs = #[c0, c1, c2, c3, c4, c5] := by
  obtain ⟨l⟩ := cs
  match l, h with
  | [c0, c1, c2, c3, c4, c5], _ => exact ⟨c0, c1, c2, c3, c4, c5, rfl⟩

set_option maxRecDepth 100000 in
theorem open_atom {H : Type} {enc : TypeId × Value → H} {w : World} {base b0 : Nat} {sp : Nat → Bool} {held : Bool} {x : Value} {d : DataW H} {p : List MemPlace} (hv : Value.okWide Tryz.prog w .any b0 23 x) (h : DataW.Trod enc Tryz.prog w base sp held 23 x d p) :
    ∃ (n f : ByteArray) (op v sl : Int) (on : Bool), x = .agg #[.string n, .int .i64 op, .int .i64 v, .int .i64 sl, .string f, .bool on] ∧ p = [] := by
  obtain ⟨cs, rfl, hsz⟩ := okWide_struct Tryz.underlying23 hv
  obtain ⟨c0, c1, c2, c3, c4, c5, rfl⟩ := array6 (hsz.trans cells_atom)
  obtain ⟨fuel, hf⟩ := h
  obtain ⟨xs, m, _, hx, hl, hlen, hel⟩ := DataW.trod_struct Tryz.underlying23 hf
  match xs, hlen with
  | [y0, y1, y2, y3, y4, y5], _ =>
    obtain ⟨n, e0, g0, _⟩ := DataW.trod_string Tryz.underlying9 (by simpa using hel 0 _ rfl)
    obtain ⟨op, e1, g1, _⟩ := DataW.trod_int Tryz.underlying3 (by simpa using hel 1 _ rfl)
    obtain ⟨v, e2, g2, _⟩ := DataW.trod_int Tryz.underlying3 (by simpa using hel 2 _ rfl)
    obtain ⟨sl, e3, g3, _⟩ := DataW.trod_int Tryz.underlying3 (by simpa using hel 3 _ rfl)
    obtain ⟨f, e4, g4, _⟩ := DataW.trod_string Tryz.underlying9 (by simpa using hel 4 _ rfl)
    obtain ⟨on, e5, g5⟩ := DataW.trod_bool Tryz.underlying4 (by simpa using hel 5 _ rfl)
    refine ⟨n, f, op, v, sl, on, ?_, ?_⟩
    · simp [Value.cells, cells_int, cells_bool, cStr] at e0 e1 e2 e3 e4 e5
      rw [e0, e1, e2, e3, e4, e5]
    · have := congrArg Prod.snd hx
      rw [g0, g1, g2, g3, g4, g5] at this
      simpa using this
end Go.Proofs.YtkckkjpkidcbnaaGreatDoor
