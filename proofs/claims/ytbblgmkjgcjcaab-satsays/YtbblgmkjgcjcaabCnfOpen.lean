/- A formula, a model and literals that come in lie in memory as lists. -/
import Derived.Test.YtbblgmkjgcjcaabCnfLaw
import Derived.OpenShut
import Derived.ChangeOld
import Derived.Lib.SmallJoins
namespace Go.Proofs.Ytbblgmkjgcjcaab
open Go.ChangeShapes Go.WideShapes Go.ChangeAt Go.RowKit Go.Joins

theorem add_block (p : Addr) (n : Nat) : (p.add n).block = p.block := by unfold Addr.add; split <;> rfl
theorem addr_none {a : Addr} (h : a.spot = none) : a = ⟨a.block, a.off, none⟩ := by cases a; simp at h; subst h; rfl
/-- Many things one by one. -/
theorem each_of {α : Type} {P : Nat → α → Prop} : ∀ (n : Nat), (∀ i, i < n → ∃ x, P i x) → ∃ l : List α, l.length = n ∧ ∀ (i : Nat) (h : i < l.length), P i l[i]
  | 0, _ => ⟨[], rfl, fun i h => absurd h (Nat.not_lt_zero _)⟩
  | n + 1, h => by
    obtain ⟨l, hl, hp⟩ := each_of n (fun i hi => h i (by omega))
    obtain ⟨x, hx⟩ := h n (by omega)
    refine ⟨l ++ [x], by simp [hl], fun i hi => ?_⟩
    by_cases hlt : i < l.length
    · rw [List.getElem_append_left hlt]; exact hp i hlt
    · have : i = l.length := by simp at hi; omega
      subst this
      rw [List.getElem_append_right (Nat.le_refl _)]
      simp only [Nat.sub_self, List.getElem_cons_zero]
      rw [hl]; exact hx
theorem cells_int : Try.prog.cellsOf 3 = 1 := by kernel_rfl
theorem cells_bool : Try.prog.cellsOf 4 = 1 := by kernel_rfl
theorem cells_nums : Try.prog.cellsOf 26 = 1 := by kernel_rfl
theorem cells_clause : Try.prog.cellsOf 38 = 1 := by kernel_rfl
theorem cells_rowC : Try.prog.cellsOf 22 = 1 := by kernel_rfl
theorem cells_form : Try.prog.cellsOf 24 = 2 := by kernel_rfl
theorem inR_of {n : Int} (h : (Lit.int .i64 n).wf = true) : InR n := by
  have := h
  simp [Lit.wf] at this
  have e1 : IntKind.i64.min = -9223372036854775808 := by decide
  have e2 : IntKind.i64.max = 9223372036854775807 := by decide
  unfold InR
  omega

section
variable {H : Type} {enc : TypeId × Value → H} {w : World} {base : Nat} {sp : Nat → Bool} {held : Bool}
/-- A slice of anything. -/
theorem trod_row {T e : TypeId} {k : Nat} (hT : Try.prog.underlying T = some (.slice e)) (hk : Try.prog.cellsOf e = k) (hk0 : 0 < k) {α : Type} (R : α → List Value → Prop)
    (hel : ∀ (m : Nat) (cs : List Value) (y : DataW H × List MemPlace), DataW.trod enc Try.prog w base sp held m e cs = some y → ∃ a, R a cs ∧ cs.length = k)
    {fuel : Nat} {cs : List Value} {x : DataW H × List MemPlace} (h : DataW.trod enc Try.prog w base sp held fuel T cs = some x) :
    ∃ (xs : List α) (p : Option Addr) (cap : Nat), cs = [.slice p xs.length cap] ∧ (xs.length ≤ cap ∧ xs.length ≤ 9223372036854775807) ∧ (0 < xs.length → ∃ b off, p = some ⟨b, off, none⟩ ∧ b < w.heap.size ∧ ∀ (j : Nat) (a : α), xs[j]? = some a → ∃ cs : List Value, cs.length = k ∧ R a cs ∧ ∀ (m : Nat) (v : Value), cs[m]? = some v → w.cell? ⟨b, off + j * k + m, none⟩ = some v) := by
  rcases DataW.trod_slice hT h with ⟨rfl, -⟩ | ⟨ad, len, cap, elems, rest, mm, hmm, rfl, -, -, hlc, hcm, hle, hcell, -, -⟩
  · exact ⟨[], none, 0, rfl, ⟨Nat.le_refl _, Nat.zero_le _⟩, fun h => absurd h (Nat.lt_irrefl 0)⟩
  · have one : ∀ i, i < len → ∃ y : α, ad.block < w.heap.size ∧ ∃ cs : List Value, cs.length = k ∧ (∀ m, m < k → w.cell? ((ad.add (i * k)).add m) = cs[m]?) ∧ R y cs := by
      intro i hi
      have hci := hcell i hi
      rw [hk, List.getElem?_eq_getElem (by omega)] at hci
      obtain ⟨csi, hc1, hc2⟩ := Option.bind_eq_some_iff.1 hci
      obtain ⟨p, hp, hl⟩ := hel _ _ _ hc2
      obtain ⟨hb1, hb2, hb3⟩ := World.cells?_some hc1
      have hblk := World.cells?_block hc1 hk0
      rw [add_block] at hblk
      exact ⟨p, hblk, csi, hl, hb3, hp⟩
    obtain ⟨ps, hfl, hfs⟩ := each_of len one
    refine ⟨ps, some ad, cap, by rw [hfl], ⟨by omega, by unfold maxLen at hcm; omega⟩, fun hpos => ?_⟩
    obtain ⟨hz, cs0, hl0, hc0, -⟩ := hfs 0 hpos
    have hsp : ad.spot = none := by
      have h1 := hc0 0 hk0
      rw [List.getElem?_eq_getElem (by omega)] at h1
      have := World.cell?_spot h1
      simpa [Addr.add] using this
    have had := addr_none hsp
    refine ⟨ad.block, ad.off, by rw [← had], hz, fun j a ha => ?_⟩
    obtain ⟨hj, rfl⟩ := List.getElem?_eq_some_iff.1 ha
    obtain ⟨-, csj, hlj, hcj, hpj⟩ := hfs j hj
    refine ⟨csj, hlj, hpj, fun m y hy => ?_⟩
    have hm : m < k := by rw [← hlj]; exact (List.getElem?_eq_some_iff.1 hy).1
    have := hcj m hm
    rw [had, Addr.add_mid, Addr.add_mid, hy] at this
    exact this
set_option maxRecDepth 100000 in
theorem trod_bools {fuel : Nat} {cs : List Value} {x : DataW H × List MemPlace} (h : DataW.trod enc Try.prog w base sp held fuel 25 cs = some x) : ∃ (bs : List Bool) (v : Value), cs = [v] ∧ BoolsIs (fun b => b < w.heap.size) w bs v := by
  obtain ⟨bs, p, cap, rfl, hl, hr⟩ := trod_row Try.underlying25 cells_bool (by decide) (fun (b : Bool) cs => cs = [.bool b]) (fun m cs y hy => by obtain ⟨b, rfl, -⟩ := DataW.trod_bool Try.underlying4 hy; exact ⟨b, rfl, rfl⟩) h
  refine ⟨bs, _, rfl, p, cap, rfl, hl.2, fun h0 => ?_⟩
  obtain ⟨b, off, h1, h2, h3⟩ := hr h0
  refine ⟨b, off, h1, h2, fun j y hy => ?_⟩
  obtain ⟨cs, -, rfl, h4⟩ := h3 j y hy
  have := h4 0 _ rfl
  rwa [Nat.mul_one, Nat.add_zero] at this
set_option maxRecDepth 100000 in
theorem trod_ints {fuel : Nat} {cs : List Value} {x : DataW H × List MemPlace} (h : DataW.trod enc Try.prog w base sp held fuel 26 cs = some x) : ∃ (zs : List Int) (v : Value), cs = [v] ∧ NumsIs (fun b => b < w.heap.size) w zs v ∧ ∀ x ∈ zs, InR x := by
  obtain ⟨bs, p, cap, rfl, hl, hr⟩ := trod_row Try.underlying26 cells_int (by decide) (fun (z : Int) cs => cs = [.int .i64 z] ∧ InR z) (fun m cs y hy => by obtain ⟨z, rfl, -, hz⟩ := DataW.trod_int Try.underlying3 hy; exact ⟨z, ⟨rfl, inR_of hz⟩, rfl⟩) h
  refine ⟨bs, _, rfl, ⟨p, cap, rfl, hl.2, fun h0 => ?_⟩, fun x hx => ?_⟩
  · obtain ⟨b, off, h1, h2, h3⟩ := hr h0
    refine ⟨b, off, h1, h2, fun j y hy => ?_⟩
    obtain ⟨cs, -, ⟨rfl, -⟩, h4⟩ := h3 j y hy
    have := h4 0 _ rfl
    rwa [Nat.mul_one, Nat.add_zero] at this
  · obtain ⟨b, off, h1, h2, h3⟩ := hr (List.length_pos_of_mem hx)
    obtain ⟨j, hj, rfl⟩ := List.getElem_of_mem hx
    obtain ⟨cs, -, ⟨-, h4⟩, -⟩ := h3 j _ (List.getElem?_eq_getElem hj)
    exact h4
set_option maxRecDepth 100000 in
theorem trod_clause {fuel : Nat} {cs : List Value} {x : DataW H × List MemPlace} (h : DataW.trod enc Try.prog w base sp held fuel 38 cs = some x) : ∃ (zs : List Int) (v : Value), cs = [v] ∧ NumsIs (fun b => b < w.heap.size) w zs v ∧ ∀ x ∈ zs, InR x := by
  obtain ⟨bs, p, cap, rfl, hl, hr⟩ := trod_row Try.underlying38 cells_int (by decide) (fun (z : Int) cs => cs = [.int .i64 z] ∧ InR z) (fun m cs y hy => by obtain ⟨z, rfl, -, hz⟩ := DataW.trod_int Try.underlying3 hy; exact ⟨z, ⟨rfl, inR_of hz⟩, rfl⟩) h
  refine ⟨bs, _, rfl, ⟨p, cap, rfl, hl.2, fun h0 => ?_⟩, fun x hx => ?_⟩
  · obtain ⟨b, off, h1, h2, h3⟩ := hr h0
    refine ⟨b, off, h1, h2, fun j y hy => ?_⟩
    obtain ⟨cs, -, ⟨rfl, -⟩, h4⟩ := h3 j y hy
    have := h4 0 _ rfl
    rwa [Nat.mul_one, Nat.add_zero] at this
  · obtain ⟨b, off, h1, h2, h3⟩ := hr (List.length_pos_of_mem hx)
    obtain ⟨j, hj, rfl⟩ := List.getElem_of_mem hx
    obtain ⟨cs, -, ⟨-, h4⟩, -⟩ := h3 j _ (List.getElem?_eq_getElem hj)
    exact h4
set_option maxRecDepth 100000 in
theorem trod_clauses {fuel : Nat} {cs : List Value} {x : DataW H × List MemPlace} (h : DataW.trod enc Try.prog w base sp held fuel 22 cs = some x) : ∃ (F : List (List Int)) (p : Option Addr) (cap : Nat), cs = [.slice p F.length cap] ∧ ClsIs (fun b => b < w.heap.size) w F (.slice p F.length cap) ∧ ∀ c ∈ F, ∀ x ∈ c, InR x := by
  obtain ⟨F, p, cap, rfl, hl, hr⟩ := trod_row Try.underlying22 cells_clause (by decide) (fun (c : List Int) cs => ∃ v, cs = [v] ∧ NumsIs (fun b => b < w.heap.size) w c v ∧ ∀ x ∈ c, InR x) (fun m cs y hy => by
    obtain ⟨zs, v, rfl, h1, h2⟩ := trod_clause hy
    exact ⟨zs, ⟨v, rfl, h1, h2⟩, rfl⟩) h
  refine ⟨F, p, cap, rfl, ?_, fun c hc => ?_⟩
  · by_cases h0 : 0 < F.length
    · obtain ⟨b, off, rfl, h2, h3⟩ := hr h0
      refine Or.inr ⟨b, off, cap, rfl, ⟨h2, hl.1⟩, hl.2, fun j c hc => ?_⟩
      obtain ⟨cs, -, ⟨v, rfl, h4, -⟩, h5⟩ := h3 j c hc
      have := h5 0 _ rfl
      rw [Nat.mul_one, Nat.add_zero] at this
      exact ⟨v, this, h4⟩
    · have : F = [] := List.length_eq_zero_iff.1 (by omega)
      subst this
      exact Or.inl ⟨rfl, p, cap, rfl⟩
  · obtain ⟨b, off, h1, h2, h3⟩ := hr (List.length_pos_of_mem hc)
    obtain ⟨j, hj, rfl⟩ := List.getElem_of_mem hc
    obtain ⟨cs, -, ⟨v, -, -, h4⟩, -⟩ := h3 j _ (List.getElem?_eq_getElem hj)
    exact h4
end
set_option maxRecDepth 100000 in
theorem open_formula {H : Type} {enc : TypeId × Value → H} {w : World} {base b0 : Nat} {sp : Nat → Bool} {held : Bool} {x : Value} {d : DataW H} {p : List MemPlace} (hv : Value.okWide Try.prog w .any b0 24 x) (h : DataW.Trod enc Try.prog w base sp held 24 x d p) :
    ∃ (vars : Int) (F : List (List Int)) (q : Option Addr) (cap : Nat), x = .agg #[.int .i64 vars, .slice q F.length cap] ∧ FormIs (fun b => b < w.heap.size) w vars F q cap := by
  obtain ⟨cs, rfl, hsz⟩ := okWide_struct Try.underlying24 hv
  obtain ⟨fuel, hf⟩ := h
  obtain ⟨xs, m, hm, hx, hl, hlen, hel⟩ := DataW.trod_struct Try.underlying24 (show DataW.trod enc Try.prog w base sp held fuel 24 cs.toList = some (d, p) from hf)
  have hl2 := hl.trans cells_form
  obtain ⟨l⟩ := cs
  simp only at hl2 hel
  match xs, hlen, l, hl2 with
  | [y0, y1], _, [c0, c1], _ =>
    obtain ⟨a, e0, -, -⟩ := DataW.trod_int Try.underlying3 (show DataW.trod enc Try.prog w base sp held m 3 _ = some y0 by simpa using hel 0 _ rfl)
    obtain ⟨F, q, cap, e1, h1, h2⟩ := trod_clauses (show DataW.trod enc Try.prog w base sp held m 22 _ = some y1 by simpa using hel 1 _ rfl)
    simp [cells_int, cells_rowC] at e0 e1
    exact ⟨a, F, q, cap, by rw [e0, e1], ⟨h1, h2⟩⟩
set_option maxRecDepth 100000 in
theorem open_bools {H : Type} {enc : TypeId × Value → H} {w : World} {base b0 : Nat} {sp : Nat → Bool} {held : Bool} {x : Value} {d : DataW H} {p : List MemPlace} (hv : Value.okWide Try.prog w .any b0 25 x) (h : DataW.Trod enc Try.prog w base sp held 25 x d p) :
    ∃ ms, BoolsIs (fun b => b < w.heap.size) w ms x := by
  obtain ⟨a, len, cap, rfl⟩ := okWide_slice Try.underlying25 hv
  obtain ⟨fuel, hf⟩ := h
  obtain ⟨ms, v, e, hm⟩ := trod_bools hf
  refine ⟨ms, ?_⟩
  have hx : Value.slice a len cap = v := by simpa [Value.cells] using e
  rw [hx]; exact hm
set_option maxRecDepth 100000 in
theorem open_ints {H : Type} {enc : TypeId × Value → H} {w : World} {base b0 : Nat} {sp : Nat → Bool} {held : Bool} {x : Value} {d : DataW H} {p : List MemPlace} (hv : Value.okWide Try.prog w .any b0 26 x) (h : DataW.Trod enc Try.prog w base sp held 26 x d p) :
    ∃ ms, NumsIs (fun b => b < w.heap.size) w ms x ∧ ∀ y ∈ ms, InR y := by
  obtain ⟨a, len, cap, rfl⟩ := okWide_slice Try.underlying26 hv
  obtain ⟨fuel, hf⟩ := h
  obtain ⟨ms, v, e, hm⟩ := trod_ints hf
  refine ⟨ms, ?_⟩
  have hx : Value.slice a len cap = v := by simpa [Value.cells] using e
  rw [hx]; exact hm
set_option maxRecDepth 100000 in
theorem open_clause {H : Type} {enc : TypeId × Value → H} {w : World} {base b0 : Nat} {sp : Nat → Bool} {held : Bool} {x : Value} {d : DataW H} {p : List MemPlace} (hv : Value.okWide Try.prog w .any b0 38 x) (h : DataW.Trod enc Try.prog w base sp held 38 x d p) :
    ∃ ms, NumsIs (fun b => b < w.heap.size) w ms x ∧ ∀ y ∈ ms, InR y := by
  obtain ⟨a, len, cap, rfl⟩ := okWide_slice Try.underlying38 hv
  obtain ⟨fuel, hf⟩ := h
  obtain ⟨ms, v, e, hm⟩ := trod_clause hf
  refine ⟨ms, ?_⟩
  have hx : Value.slice a len cap = v := by simpa [Value.cells] using e
  rw [hx]; exact hm
end Go.Proofs.Ytbblgmkjgcjcaab
