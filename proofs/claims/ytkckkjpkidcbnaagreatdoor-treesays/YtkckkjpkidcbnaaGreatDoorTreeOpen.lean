/- A tree that comes in lies in memory as a list of packages. -/
import Derived.Test.YtkckkjpkidcbnaaGreatDoorTreeOne
import Derived.Test.YtkckkjpkidcbnaaGreatDoorNeedOpen
namespace Go.Proofs.YtkckkjpkidcbnaaGreatDoor
open Go.ChangeShapes Go.WideShapes Go.ChangeAt Go.RowKit Go.Joins

theorem cells_pkg : Tryz.prog.cellsOf 58 = 14 := by kernel_rfl
theorem cells_strs : Tryz.prog.cellsOf 32 = 1 := by kernel_rfl
theorem cells_pkgs : Tryz.prog.cellsOf 42 = 1 := by kernel_rfl
theorem cells_tree : Tryz.prog.cellsOf 44 = 1 := by kernel_rfl
theorem addr_none {a : Addr} (h : a.spot = none) : a = ⟨a.block, a.off, none⟩ := by cases a; simp at h; subst h; rfl
theorem list14 {α : Type} {cs : List α} (h : cs.length = 14) : ∃ c0 c1 c2 c3 c4 c5 c6 c7 c8 c9 c10 c11 c12 c13, cs = [c0, c1, c2, c3, c4, c5, c6, c7, c8, c9, c10, c11, c12, c13] := by
  match cs, h with
  | [c0, c1, c2, c3, c4, c5, c6, c7, c8, c9, c10, c11, c12, c13], _ => exact ⟨c0, c1, c2, c3, c4, c5, c6, c7, c8, c9, c10, c11, c12, c13, rfl⟩

section
variable {H : Type} {enc : TypeId × Value → H} {w : World} {base : Nat} {sp : Nat → Bool} {held : Bool}
/-- Many things one by one. -/
theorem each_of {α : Type} {P : Nat → α → Prop} : ∀ (n : Nat), (∀ i, i < n → ∃ x, P i x) → ∃ l : List α, l.length = n ∧ ∀ (i : Nat) (h : i < l.length), P i l[i]
  | 0, _ => ⟨[], rfl, fun i h => absurd h (Nat.not_lt_zero _)⟩
  | n + 1, h => by
    obtain ⟨l, hl, hp⟩ := each_of n (fun i hi => h i (by omega))
    obtain ⟨x, hx⟩ := h n (by omega)
    refine ⟨l ++ [x], by simp [hl], fun i hi => ?_⟩
    by_cases hlt : i < l.length
    · rw [List.getElem_append_left hlt]; exact hp i hlt
    · have : i = l.length := by simp at hi; omega
      subst this
      rw [List.getElem_append_right (Nat.le_refl _)]
      simp only [Nat.sub_self, List.getElem_cons_zero]
      rw [hl]; exact hx
set_option maxRecDepth 100000 in
theorem trod_strs {fuel : Nat} {cs : List Value} {x : DataW H × List MemPlace} (h : DataW.trod enc Tryz.prog w base sp held fuel 32 cs = some x) : ∃ (fs : List ByteArray) (v : Value), cs = [v] ∧ StrsIs (fun b => b < w.heap.size) w fs v := by
  rcases DataW.trod_slice Tryz.underlying32 h with ⟨rfl, -⟩ | ⟨ad, len, cap, elems, rest, mm, hmm, rfl, -, -, hlc, hcm, hle, hcell, -, -⟩
  · exact ⟨[], _, rfl, Or.inl ⟨rfl, none, 0, rfl⟩⟩
  · have one : ∀ i, i < len → ∃ y : ByteArray, ad.block < w.heap.size ∧ w.cell? (ad.add i) = some (.string y) := by
      intro i hi
      have hci := hcell i hi
      rw [cStr, Nat.mul_one, List.getElem?_eq_getElem (by omega)] at hci
      obtain ⟨csi, hc1, hc2⟩ := Option.bind_eq_some_iff.1 hci
      obtain ⟨y, e0, -, -⟩ := DataW.trod_string Tryz.underlying9 hc2
      obtain ⟨hb1, hb2, hb3⟩ := World.cells?_some hc1
      have hblk := World.cells?_block hc1 (by decide)
      rw [add_block] at hblk
      refine ⟨y, hblk, ?_⟩
      have := hb3 0 (by decide)
      rw [e0] at this
      simpa [Addr.add] using this
    by_cases h0 : len = 0
    · subst h0
      exact ⟨[], _, rfl, Or.inl ⟨rfl, _, _, rfl⟩⟩
    · obtain ⟨fs, hfl, hfs⟩ := each_of len one
      have hz := hfs 0 (by omega)
      have hsp : ad.spot = none := by
        have := World.cell?_spot hz.2
        simpa [Addr.add] using this
      have had := addr_none hsp
      refine ⟨fs, _, rfl, Or.inr ⟨ad.block, ad.off, cap, by rw [hfl, ← had], ⟨hz.1, by omega⟩, by unfold maxLen at hcm; omega, fun j y hy => ?_⟩⟩
      obtain ⟨hj, rfl⟩ := List.getElem?_eq_some_iff.1 hy
      have := (hfs j hj).2
      rw [had] at this
      rwa [Addr.add_mid] at this

set_option maxRecDepth 100000 in
theorem trod_pkg {fuel : Nat} {cs : List Value} {x : DataW H × List MemPlace} (h : DataW.trod enc Tryz.prog w base sp held fuel 58 cs = some x) : ∃ p : PK, PkgIs (fun b => b < w.heap.size) w p cs ∧ cs.length = 14 := by
  obtain ⟨xs, m, hm, hx, hl, hlen, hel⟩ := DataW.trod_struct Tryz.underlying58 h
  have hl14 := hl.trans cells_pkg
  obtain ⟨c0, c1, c2, c3, c4, c5, c6, c7, c8, c9, c10, c11, c12, c13, rfl⟩ := list14 hl14
  match xs, hlen with
  | [y0, y1, y2, y3, y4], _ =>
    obtain ⟨n, e0, -, -⟩ := DataW.trod_string Tryz.underlying9 (by simpa using hel 0 _ rfl)
    obtain ⟨v, e1, -, -⟩ := DataW.trod_int Tryz.underlying3 (by simpa using hel 1 _ rfl)
    obtain ⟨sl, e2, -, -⟩ := DataW.trod_int Tryz.underlying3 (by simpa using hel 2 _ rfl)
    obtain ⟨fs, fv, e3, hf⟩ := trod_strs (show DataW.trod enc Tryz.prog w base sp held m 32 _ = some y3 by simpa using hel 3 _ rfl)
    obtain ⟨t, ht⟩ := trod_need m _ _ (show DataW.trod enc Tryz.prog w base sp held m 26 _ = some y4 by simpa using hel 4 _ rfl)
    simp [cells_int, cStr, cells_strs, cells_need] at e0 e1 e2 e3 ht
    refine ⟨⟨n, v, sl, fs, t⟩, ⟨fv, [c4, c5, c6, c7, c8, c9, c10, c11, c12, c13], by rw [e0, e1, e2, e3], hf, ht⟩, rfl⟩

set_option maxRecDepth 100000 in
theorem trod_pkgs {fuel : Nat} {cs : List Value} {x : DataW H × List MemPlace} (h : DataW.trod enc Tryz.prog w base sp held fuel 42 cs = some x) : ∃ (ps : List PK) (v : Value), cs = [v] ∧ PkgsIs (fun b => b < w.heap.size) w ps v := by
  rcases DataW.trod_slice Tryz.underlying42 h with ⟨rfl, -⟩ | ⟨ad, len, cap, elems, rest, mm, hmm, rfl, -, -, hlc, hcm, hle, hcell, -, -⟩
  · exact ⟨[], _, rfl, Or.inl ⟨rfl, none, 0, rfl⟩⟩
  · have one : ∀ i, i < len → ∃ y : PK, ad.block < w.heap.size ∧ ∃ cs : List Value, cs.length = 14 ∧ (∀ m, m < 14 → w.cell? ((ad.add (i * 14)).add m) = cs[m]?) ∧ PkgIs (fun b => b < w.heap.size) w y cs := by
      intro i hi
      have hci := hcell i hi
      rw [cells_pkg, List.getElem?_eq_getElem (by omega)] at hci
      obtain ⟨csi, hc1, hc2⟩ := Option.bind_eq_some_iff.1 hci
      obtain ⟨p, hp, hl⟩ := trod_pkg hc2
      obtain ⟨hb1, hb2, hb3⟩ := World.cells?_some hc1
      have hblk := World.cells?_block hc1 (by decide)
      rw [add_block] at hblk
      exact ⟨p, hblk, csi, hl, hb3, hp⟩
    by_cases h0 : len = 0
    · subst h0
      exact ⟨[], _, rfl, Or.inl ⟨rfl, _, _, rfl⟩⟩
    · obtain ⟨ps, hfl, hfs⟩ := each_of len one
      obtain ⟨hz, cs0, hl0, hc0, -⟩ := hfs 0 (by omega)
      have hsp : ad.spot = none := by
        have h1 := hc0 0 (by decide)
        rw [List.getElem?_eq_getElem (by omega)] at h1
        have := World.cell?_spot h1
        simpa [Addr.add] using this
      have had := addr_none hsp
      refine ⟨ps, _, rfl, Or.inr ⟨ad.block, ad.off, cap, by rw [hfl, ← had], hz, by unfold maxLen at hcm; omega, fun j hj => ?_⟩⟩
      obtain ⟨-, csj, hlj, hcj, hpj⟩ := hfs j hj
      refine ⟨csj, fun m y hy => ?_, hpj⟩
      have hm : m < 14 := by rw [← hlj]; exact (List.getElem?_eq_some_iff.1 hy).1
      have := hcj m hm
      rw [had, Addr.add_mid, Addr.add_mid, hy] at this
      exact this
end
set_option maxRecDepth 100000 in
theorem open_tree {H : Type} {enc : TypeId × Value → H} {w : World} {base b0 : Nat} {sp : Nat → Bool} {held : Bool} {x : Value} {d : DataW H} {p : List MemPlace} (hv : Value.okWide Tryz.prog w .any b0 44 x) (h : DataW.Trod enc Tryz.prog w base sp held 44 x d p) :
    ∃ (ps : List PK) (v : Value), x = .agg #[v] ∧ PkgsIs (fun b => b < w.heap.size) w ps v := by
  obtain ⟨cs, rfl, hsz⟩ := okWide_struct Tryz.underlying44 hv
  obtain ⟨fuel, hf⟩ := h
  obtain ⟨xs, m, hm, hx, hl, hlen, hel⟩ := DataW.trod_struct Tryz.underlying44 (show DataW.trod enc Tryz.prog w base sp held fuel 44 cs.toList = some (d, p) from hf)
  match xs, hlen with
  | [y0], _ =>
    obtain ⟨ps, v, e, hp⟩ := trod_pkgs (show DataW.trod enc Tryz.prog w base sp held m 42 _ = some y0 by simpa using hel 0 _ rfl)
    refine ⟨ps, v, ?_, hp⟩
    have hl1 := hl.trans cells_tree
    simp [cells_pkgs] at e
    obtain ⟨l⟩ := cs
    simp at hl1 e
    match l, hl1 with
    | [c], _ => simp at e; subst e; rfl
end Go.Proofs.YtkckkjpkidcbnaaGreatDoor
