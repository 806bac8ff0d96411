/- follow's lay: one more clause, of which the first two literals are watched. -/
import Derived.Test.YtbblgmkjgcjcaabFolHold
namespace Go.Proofs.Ytbblgmkjgcjcaab
open Go.RowKit Go.Lib

/-- The table with one more clause. -/
def XD.laid (x : XD) (av : Value) (rv : List Value) (u : Value) (l : List Int) (W : List (List Nat)) : XD := { x with av := av, rv := rv, cv := x.cv ++ [u], C := x.C ++ [l], W := W }
set_option maxHeartbeats 8000000 in
set_option maxRecDepth 100000 in
theorem lay_any (x : XD) (B : Nat) (l : List Int) (u : Value) (w : World) (h : XM x B w) (hu : w.ownsRow B 3 1 u l.length (ivI l)) (hsep : ∀ b, x.own b → u.ownBlock ≠ some b) (hn : x.n ≤ 1000) (h2 : Two x.n l) (hC : x.C.length ≤ 500000) (hr : ∀ z, Lit x.n z → (x.W.getD ((x.n : Int) + z).toNat []).length ≤ 500000) :
    Calls Try.prog 64 #[.pointer (some ⟨x.bx, 0, none⟩), u] w fun e w' => e = .returned (.tuple #[]) ∧ ∃ av rv, XM (x.laid av rv u l (pushW x.n (pushW x.n x.W (w0 l) x.C.length) (w1 l) x.C.length)) B w' ∧ Turn (fun b => x.own b ∨ u.ownBlock = some b) (x.laid av rv u l (pushW x.n (pushW x.n x.W (w0 l) x.C.length) (w1 l) x.C.length)).own w w' := by
  obtain ⟨i0, hi, hz0, hz1, hz2⟩ := info_parts infoCl
  have HX := hid h
  have HU := hid hu
  have HSEP := hid hsep
  have h2l := h2.len
  obtain ⟨gu, capu, hve, hguB, hgul, -, -, -, -, -⟩ := own_cells hu (by omega)
  subst hve
  have hzL0 : Lit x.n (w0 l) := h2.lits _ h2.mem0
  have hzL1 : Lit x.n (w1 l) := h2.lits _ h2.mem1
  have HNE := hid h2.ne
  have HROW := hid hr
  have HL0 := hid (show (ivI l)[0]? = some (.int .i64 (w0 l)) by unfold w0; rw [List.getD_eq_getElem?_getD, List.getElem?_eq_getElem (show 0 < l.length by omega)]; simp [ivI, List.getElem?_eq_getElem (show 0 < l.length by omega)])
  have HL1 := hid (show (ivI l)[1]? = some (.int .i64 (w1 l)) by unfold w1; rw [List.getD_eq_getElem?_getD, List.getElem?_eq_getElem (show 1 < l.length by omega)]; simp [ivI, List.getElem?_eq_getElem (show 1 < l.length by omega)])
  generalize w0 l = z0 at hzL0 HL0 HNE ⊢
  generalize w1 l = z1 at hzL1 HL1 HNE ⊢
  have hlow := h.low
  obtain ⟨hbc, hbf, hbl⟩ := h.box.facts
  have HAR := hid h.arr
  obtain ⟨ap, ac, hav⟩ : ∃ ap ac, x.av = .slice ap x.C.length ac := by
    obtain ⟨-, ⟨e, e0⟩ | ⟨g, cap, cur, e, -⟩⟩ := h.arr
    · exact ⟨none, 0, by rw [e, e0]⟩
    · exact ⟨_, cap, e⟩
  have hb3 : w.cell? ⟨x.bx, 3, none⟩ = some (.slice ap x.C.length ac) := (hbc 3).trans (congrArg some hav)
  have hbf3 := hbf 3
  have HAV := hid hav
  have hln0 : 0 < l.length := by omega
  have hln1 : 1 < l.length := by omega
  have hln2 : (1 : Int) < (l.length : Int) := by omega
  have hclw : IntKind.i64.wrap ((x.C.length : Nat) : Int) = ((x.C.length : Nat) : Int) := by rw [IntKind.wrap_i64]; omega
  clear h hu hr hbc hbf hsep h2 hav
  go_enter Try.func64, Try.ntmps64
  go_upto_region 1 with (at_builtin; refine wpList_append_own_at _ rfl _ _ 22 rfl B 38 i0 (.slice none 0 0) 1 24 Try.underlying22 hi hz0 hz1 hz2 rfl (by decide) (.slice ap x.C.length ac) x.C.length x.cv rfl ((HAV.out ▸ HAR.out).alloc _) ⟨w.heap.size, 0, none⟩ 1 1 [.slice (some ⟨gu, 0, none⟩) l.length capu] rfl rfl one_newsC one_cellC (by unfold maxLen; omega) (by omega) (by have := alloc_size w (.cells #[.slice (some ⟨gu, 0, none⟩) l.length capu] 38); omega) ?_; intro v5 w5 h1 h2 _ h4; obtain ⟨g5, cap5, rfl⟩ := owns_shape h1 (Nat.succ_pos _); have P5 := hid (HX.out.addC HU.out HSEP.out (HAV.out ▸ grown_alloc h2) (HAV.out ▸ own_far h4) h1); have hb53 : (w5.cell? ⟨x.bx, 3, none⟩).isSome = true ∧ w5.frozen? ⟨x.bx, 3, none⟩ = false := (by
      have hk : w5.heap[x.bx]? = w.heap[x.bx]? := (grown_alloc h2).block x.bx hbl (fun e => by have := (owns_in (HAV.out ▸ HAR.out) e.symm).1; omega)
      have hB5 : BoxAt x.bx 91 x.box w5 := (by have := HX.out.box; unfold BoxAt at *; rw [hk]; exact this)
      exact ⟨by rw [hB5.facts.1]; rfl, hB5.facts.2.1 3⟩); obtain ⟨hb53a, hb53b⟩ := hb53; obtain ⟨c53, hc53⟩ := Option.isSome_iff_exists.1 hb53a; have hbl5 : x.bx < w5.heap.size := (Nat.lt_of_lt_of_le hbl (grown_alloc h2).size); clear h1 h2 h4 hb53a)
  have HQ := hid P5.out
  refine at_wp (fun W' => XM { x with av := .slice (some ⟨g5, 0, none⟩) (x.C.length + 1) cap5, cv := x.cv ++ [.slice (some ⟨gu, 0, none⟩) l.length capu], C := x.C ++ [l] } B W' ∧ Turn (fun b => x.own b ∨ (Value.slice (some ⟨gu, 0, none⟩) l.length capu).ownBlock = some b) ({ x with av := .slice (some ⟨g5, 0, none⟩) (x.C.length + 1) cap5, cv := x.cv ++ [.slice (some ⟨gu, 0, none⟩) l.length capu], C := x.C ++ [l] } : XD).own w W') ?_ ?_
  · exact HQ.out
  rintro W6 ⟨hX6, hT6⟩
  have X6 := hid hX6
  have T6 := hid hT6
  clear hX6 hT6 HQ P5 hc53 hb53b hbl5 hb3 hbf3 hbl hgul
  have HCP := hid (show ∀ C : List (List Int), C = x.C ++ [l] → C[x.C.length]? = some l from fun C e => by rw [e]; simp)
  have HCVP := hid (show (x.cv ++ [.slice (some ⟨gu, 0, none⟩) l.length capu])[x.C.length]? = some (.slice (some ⟨gu, 0, none⟩) l.length capu) by rw [← HX.out.cl]; simp)
  obtain ⟨hcl0, hgul6⟩ : W6.cell? ⟨gu, 0, none⟩ = some (.int .i64 z0) ∧ gu < W6.heap.size := by
    obtain ⟨v6, hv6, -, -, ho6⟩ := X6.out.cls (p := x.C.length) (c := l) (HCP.out _ rfl)
    have e6 : (x.cv ++ [Value.slice (some ⟨gu, 0, none⟩) l.length capu])[x.C.length]? = some v6 := hv6
    rw [HCVP.out] at e6
    have e7 := Option.some.inj e6
    subst e7
    obtain ⟨g', cap', e8, -, hl8, -, -, hcell, -, -⟩ := own_cells ho6 (by omega)
    cases e8
    exact ⟨hcell 0 _ HL0.out, hl8⟩
  have hrow0 : (x.W.getD ((x.n : Int) + z0).toNat []).length ≤ 1000000 := Nat.le_trans (HROW.out z0 hzL0) (by omega)
  have hs0 : W6.cell? ⟨x.bx, 3, none⟩ = some (.slice (some ⟨g5, 0, none⟩) (x.C.length + 1) cap5) ∧ W6.cell? ⟨gu, 0, none⟩ = some (.int .i64 z0) := ⟨(X6.out.box.facts.1 3).trans rfl, hcl0⟩
  have hblW : x.bx < W6.heap.size := X6.out.box.facts.2.2
  have HW0 := hid (show Calls Try.prog 75 #[.pointer (some ⟨x.bx, 0, none⟩), .int .i64 z0, .int .i64 ((x.C.length : Nat) : Int)] W6.drew _ from watch_any { x with av := .slice (some ⟨g5, 0, none⟩) (x.C.length + 1) cap5, cv := x.cv ++ [.slice (some ⟨gu, 0, none⟩) l.length capu], C := x.C ++ [l] } B z0 x.C.length W6.drew (X6.out.keep (Keep.drew (Keep.refl _))) hn hzL0 hrow0)
  go_upto_region 1 with fail
  refine wp_region_held_drew (S := fun W' => W'.cell? ⟨x.bx, 3, none⟩ = some (.slice (some ⟨g5, 0, none⟩) (x.C.length + 1) cap5) ∧ W'.cell? ⟨gu, 0, none⟩ = some (.int .i64 z0)) (by kernel_rfl) hs0 (fun hHeld => ?_)
  refine wpAnyH_take (i := 0) (v := ?_) rfl (by kernel_rfl) (by kernel_rfl) (by kernel_rfl) (fun _ _ _ h => h) (Or.inl ⟨by rfl, ?_⟩) (by assumption) ?_
  rotate_left
  · intro w hSw
    (try dsimp only at hSw)
    go_simp
    try with_reducible rfl
  simp only [Act.put, List.setIfInBounds_toArray, List.set_cons_zero, List.set_cons_succ, List.getElem_toArray, List.getElem_cons_zero]
  refine wpAnyH_take (i := 1) (v := ?_) rfl (by kernel_rfl) (by kernel_rfl) (by kernel_rfl) (fun _ _ _ h => h) (Or.inl ⟨by rfl, ?_⟩) (by assumption) ?_
  rotate_left
  · intro w hSw
    (try dsimp only at hSw)
    go_simp
    try with_reducible rfl
  simp only [Act.put, List.setIfInBounds_toArray, List.set_cons_zero, List.set_cons_succ, List.getElem_toArray, List.getElem_cons_zero, List.getElem_cons_succ]
  refine wpAnyH_take (i := 2) (v := ?_) rfl (by kernel_rfl) (by kernel_rfl) (by kernel_rfl) (fun _ _ _ h => h) (Or.inl ⟨by rfl, ?_⟩) (by assumption) ?_
  rotate_left
  · intro w hSw
    (try dsimp only at hSw)
    go_simp
    try with_reducible rfl
  simp only [Act.put, List.setIfInBounds_toArray, List.set_cons_zero, List.set_cons_succ, List.getElem_toArray, List.getElem_cons_zero, List.getElem_cons_succ]
  refine wpAnyH_take (i := 3) (v := ?_) rfl (by kernel_rfl) (by kernel_rfl) (by kernel_rfl) (fun _ _ _ h => h) (Or.inl ⟨by rfl, ?_⟩) (by assumption) ?_
  rotate_left
  · intro w hSw
    (try dsimp only at hSw)
    go_simp
    try with_reducible rfl
  simp only [Act.put, List.setIfInBounds_toArray, List.set_cons_zero, List.set_cons_succ, List.getElem_toArray, List.getElem_cons_zero, List.getElem_cons_succ]
  refine wpAnyH_take (i := 4) (v := ?_) rfl (by kernel_rfl) (by kernel_rfl) (by kernel_rfl) (fun _ _ _ h => h) (Or.inl ⟨by rfl, ?_⟩) (by assumption) ?_
  rotate_left
  · intro w hSw
    (try dsimp only at hSw)
    go_simp
    try with_reducible rfl
  simp only [Act.put, List.setIfInBounds_toArray, List.set_cons_zero, List.set_cons_succ, List.getElem_toArray, List.getElem_cons_zero, List.getElem_cons_succ]
  refine wpAnyH_take (i := 5) (v := ?_) rfl (by kernel_rfl) (by kernel_rfl) (by kernel_rfl) (fun _ _ _ h => h) (Or.inl ⟨by rfl, ?_⟩) (by assumption) ?_
  rotate_left
  · intro w hSw
    (try dsimp only at hSw)
    go_simp
    try with_reducible rfl
  simp only [Act.put, List.setIfInBounds_toArray, List.set_cons_zero, List.set_cons_succ, List.getElem_toArray, List.getElem_cons_zero, List.getElem_cons_succ]
  refine wpAnyH_take (i := 6) (v := ?_) rfl (by kernel_rfl) (by kernel_rfl) (by kernel_rfl) (fun _ _ _ h => h) (Or.inl ⟨by rfl, ?_⟩) (by assumption) ?_
  rotate_left
  · intro w hSw
    (try dsimp only at hSw)
    go_simp
    try with_reducible rfl
  simp only [Act.put, List.setIfInBounds_toArray, List.set_cons_zero, List.set_cons_succ, List.getElem_toArray, List.getElem_cons_zero, List.getElem_cons_succ]
  refine wpAnyH_take (i := 7) (v := ?_) rfl (by kernel_rfl) (by kernel_rfl) (by kernel_rfl) (fun _ _ _ h => h) (Or.inl ⟨by rfl, ?_⟩) (by assumption) ?_
  rotate_left
  · intro w hSw
    (try dsimp only at hSw)
    go_simp
    try with_reducible rfl
  simp only [Act.put, List.setIfInBounds_toArray, List.set_cons_zero, List.set_cons_succ, List.getElem_toArray, List.getElem_cons_zero, List.getElem_cons_succ]
  refine wpAnyH_take (i := 8) (v := ?_) rfl (by kernel_rfl) (by kernel_rfl) (by kernel_rfl) (fun _ _ _ h => h) (Or.inl ⟨by rfl, ?_⟩) (by assumption) ?_
  rotate_left
  · intro w hSw
    (try dsimp only at hSw)
    go_simp
    try with_reducible rfl
  simp only [Act.put, List.setIfInBounds_toArray, List.set_cons_zero, List.set_cons_succ, List.getElem_toArray, List.getElem_cons_zero, List.getElem_cons_succ]
  refine wpAnyH_take (i := 9) (v := ?_) rfl (by kernel_rfl) (by kernel_rfl) (by kernel_rfl) (fun _ _ _ h => h) (Or.inl ⟨by rfl, ?_⟩) (by assumption) ?_
  rotate_left
  · intro w hSw
    (try dsimp only at hSw)
    go_simp
    try with_reducible rfl
  simp only [Act.put, List.setIfInBounds_toArray, List.set_cons_zero, List.set_cons_succ, List.getElem_toArray, List.getElem_cons_zero, List.getElem_cons_succ]
  refine wpAnyH_ready (rs := [10]) (by kernel_rfl) (by simp) ?_
  refine AllReadyH.cons rfl (fun KK hK => ?_) AllReadyH.nil
  go_simp
  with_reducible refine HW0.out.mono ?_
  rintro e w7 ⟨rfl, v7, hx7, ht7⟩
  have X7 := hid hx7
  have T7 := hid ht7
  clear hx7 ht7
  obtain ⟨hcl70, hcl1, hgul7⟩ : w7.cell? ⟨gu, 0, none⟩ = some (.int .i64 z0) ∧ w7.cell? ⟨gu, 1, none⟩ = some (.int .i64 z1) ∧ gu < w7.heap.size := by
    obtain ⟨v6, hv6, -, -, ho6⟩ := X7.out.cls (p := x.C.length) (c := l) (HCP.out _ rfl)
    have e6 : (x.cv ++ [Value.slice (some ⟨gu, 0, none⟩) l.length capu])[x.C.length]? = some v6 := hv6
    rw [HCVP.out] at e6
    have e7 := Option.some.inj e6
    subst e7
    obtain ⟨g', cap', e8, -, hl8, -, -, hcell, -, -⟩ := own_cells ho6 (by omega)
    cases e8
    exact ⟨hcell 0 _ HL0.out, hcell 1 _ HL1.out, hl8⟩
  have hb73 : w7.cell? ⟨x.bx, 3, none⟩ = some (.slice (some ⟨g5, 0, none⟩) (x.C.length + 1) cap5) := (X7.out.box.facts.1 3).trans rfl
  refine hK.out _ _ ⟨hb73, hcl70⟩ (fun hH3 => ?_)
  clear hK KK
  refine wpAnyH_done (by kernel_rfl) ?_ _
  clear hHeld hH3 hs0 hblW HW0 hb73 hcl70 hcl0 hgul6
  have hrow1 : ((pushW x.n x.W z0 x.C.length).getD ((x.n : Int) + z1).toNat []).length ≤ 1000000 := by
    have h3 := pushW_other (p := x.C.length) HX.out.wl hzL0 hzL1 HNE.out
    rw [h3]
    exact Nat.le_trans (HROW.out z1 hzL1) (by omega)
  have hs1 : w7.cell? ⟨x.bx, 3, none⟩ = some (.slice (some ⟨g5, 0, none⟩) (x.C.length + 1) cap5) ∧ w7.cell? ⟨gu, 1, none⟩ = some (.int .i64 z1) := ⟨(X7.out.box.facts.1 3).trans rfl, hcl1⟩
  have hs1 : w7.cell? ⟨x.bx, 3, none⟩ = some (.slice (some ⟨g5, 0, none⟩) (x.C.length + 1) cap5) ∧ w7.cell? ⟨gu, 1, none⟩ = some (.int .i64 z1) := ⟨(X7.out.box.facts.1 3).trans rfl, hcl1⟩
  have hblW : x.bx < w7.heap.size := X7.out.box.facts.2.2
  have HW1 := hid (show Calls Try.prog 75 #[.pointer (some ⟨x.bx, 0, none⟩), .int .i64 z1, .int .i64 ((x.C.length : Nat) : Int)] w7.drew _ from watch_any { x with av := .slice (some ⟨g5, 0, none⟩) (x.C.length + 1) cap5, rv := x.rv.set ((x.n : Int) + z0).toNat v7, cv := x.cv ++ [.slice (some ⟨gu, 0, none⟩) l.length capu], C := x.C ++ [l], W := pushW x.n x.W z0 x.C.length } B z1 x.C.length w7.drew (X7.out.keep (Keep.drew (Keep.refl _))) hn hzL1 hrow1)
  go_upto_region 2 with fail
  refine wp_region_held_drew (S := fun W' => W'.cell? ⟨x.bx, 3, none⟩ = some (.slice (some ⟨g5, 0, none⟩) (x.C.length + 1) cap5) ∧ W'.cell? ⟨gu, 1, none⟩ = some (.int .i64 z1)) (by kernel_rfl) hs1 (fun hHeld => ?_)
  refine wpAnyH_take (i := 0) (v := ?_) rfl (by kernel_rfl) (by kernel_rfl) (by kernel_rfl) (fun _ _ _ h => h) (Or.inl ⟨by rfl, ?_⟩) (by assumption) ?_
  rotate_left
  · intro w hSw
    (try dsimp only at hSw)
    go_simp
    try with_reducible rfl
  simp only [Act.put, List.setIfInBounds_toArray, List.set_cons_zero, List.set_cons_succ, List.getElem_toArray, List.getElem_cons_zero]
  refine wpAnyH_take (i := 1) (v := ?_) rfl (by kernel_rfl) (by kernel_rfl) (by kernel_rfl) (fun _ _ _ h => h) (Or.inl ⟨by rfl, ?_⟩) (by assumption) ?_
  rotate_left
  · intro w hSw
    (try dsimp only at hSw)
    go_simp
    try with_reducible rfl
  simp only [Act.put, List.setIfInBounds_toArray, List.set_cons_zero, List.set_cons_succ, List.getElem_toArray, List.getElem_cons_zero, List.getElem_cons_succ]
  refine wpAnyH_take (i := 2) (v := ?_) rfl (by kernel_rfl) (by kernel_rfl) (by kernel_rfl) (fun _ _ _ h => h) (Or.inl ⟨by rfl, ?_⟩) (by assumption) ?_
  rotate_left
  · intro w hSw
    (try dsimp only at hSw)
    go_simp
    try with_reducible rfl
  simp only [Act.put, List.setIfInBounds_toArray, List.set_cons_zero, List.set_cons_succ, List.getElem_toArray, List.getElem_cons_zero, List.getElem_cons_succ]
  refine wpAnyH_take (i := 3) (v := ?_) rfl (by kernel_rfl) (by kernel_rfl) (by kernel_rfl) (fun _ _ _ h => h) (Or.inl ⟨by rfl, ?_⟩) (by assumption) ?_
  rotate_left
  · intro w hSw
    (try dsimp only at hSw)
    go_simp
    try with_reducible rfl
  simp only [Act.put, List.setIfInBounds_toArray, List.set_cons_zero, List.set_cons_succ, List.getElem_toArray, List.getElem_cons_zero, List.getElem_cons_succ]
  refine wpAnyH_take (i := 4) (v := ?_) rfl (by kernel_rfl) (by kernel_rfl) (by kernel_rfl) (fun _ _ _ h => h) (Or.inl ⟨by rfl, ?_⟩) (by assumption) ?_
  rotate_left
  · intro w hSw
    (try dsimp only at hSw)
    go_simp
    try with_reducible rfl
  simp only [Act.put, List.setIfInBounds_toArray, List.set_cons_zero, List.set_cons_succ, List.getElem_toArray, List.getElem_cons_zero, List.getElem_cons_succ]
  refine wpAnyH_take (i := 5) (v := ?_) rfl (by kernel_rfl) (by kernel_rfl) (by kernel_rfl) (fun _ _ _ h => h) (Or.inl ⟨by rfl, ?_⟩) (by assumption) ?_
  rotate_left
  · intro w hSw
    (try dsimp only at hSw)
    go_simp
    try with_reducible rfl
  simp only [Act.put, List.setIfInBounds_toArray, List.set_cons_zero, List.set_cons_succ, List.getElem_toArray, List.getElem_cons_zero, List.getElem_cons_succ]
  refine wpAnyH_take (i := 6) (v := ?_) rfl (by kernel_rfl) (by kernel_rfl) (by kernel_rfl) (fun _ _ _ h => h) (Or.inl ⟨by rfl, ?_⟩) (by assumption) ?_
  rotate_left
  · intro w hSw
    (try dsimp only at hSw)
    go_simp
    try with_reducible rfl
  simp only [Act.put, List.setIfInBounds_toArray, List.set_cons_zero, List.set_cons_succ, List.getElem_toArray, List.getElem_cons_zero, List.getElem_cons_succ]
  refine wpAnyH_take (i := 7) (v := ?_) rfl (by kernel_rfl) (by kernel_rfl) (by kernel_rfl) (fun _ _ _ h => h) (Or.inl ⟨by rfl, ?_⟩) (by assumption) ?_
  rotate_left
  · intro w hSw
    (try dsimp only at hSw)
    go_simp
    try with_reducible rfl
  simp only [Act.put, List.setIfInBounds_toArray, List.set_cons_zero, List.set_cons_succ, List.getElem_toArray, List.getElem_cons_zero, List.getElem_cons_succ]
  refine wpAnyH_take (i := 8) (v := ?_) rfl (by kernel_rfl) (by kernel_rfl) (by kernel_rfl) (fun _ _ _ h => h) (Or.inl ⟨by rfl, ?_⟩) (by assumption) ?_
  rotate_left
  · intro w hSw
    (try dsimp only at hSw)
    go_simp
    try with_reducible rfl
  simp only [Act.put, List.setIfInBounds_toArray, List.set_cons_zero, List.set_cons_succ, List.getElem_toArray, List.getElem_cons_zero, List.getElem_cons_succ]
  refine wpAnyH_take (i := 9) (v := ?_) rfl (by kernel_rfl) (by kernel_rfl) (by kernel_rfl) (fun _ _ _ h => h) (Or.inl ⟨by rfl, ?_⟩) (by assumption) ?_
  rotate_left
  · intro w hSw
    (try dsimp only at hSw)
    go_simp
    try with_reducible rfl
  simp only [Act.put, List.setIfInBounds_toArray, List.set_cons_zero, List.set_cons_succ, List.getElem_toArray, List.getElem_cons_zero, List.getElem_cons_succ]
  refine wpAnyH_ready (rs := [10]) (by kernel_rfl) (by simp) ?_
  refine AllReadyH.cons rfl (fun KK hK => ?_) AllReadyH.nil
  go_simp
  with_reducible refine HW1.out.mono ?_
  rintro e w8 ⟨rfl, v8, hx8, ht8⟩
  have X8 := hid hx8
  have T8 := hid ht8
  clear hx8 ht8
  obtain ⟨hcl81, hgul8⟩ : w8.cell? ⟨gu, 1, none⟩ = some (.int .i64 z1) ∧ gu < w8.heap.size := by
    obtain ⟨v6, hv6, -, -, ho6⟩ := X8.out.cls (p := x.C.length) (c := l) (HCP.out _ rfl)
    have e6 : (x.cv ++ [Value.slice (some ⟨gu, 0, none⟩) l.length capu])[x.C.length]? = some v6 := hv6
    rw [HCVP.out] at e6
    have e7 := Option.some.inj e6
    subst e7
    obtain ⟨g', cap', e8, -, hl8, -, -, hcell, -, -⟩ := own_cells ho6 (by omega)
    cases e8
    exact ⟨hcell 1 _ HL1.out, hl8⟩
  have hb83 : w8.cell? ⟨x.bx, 3, none⟩ = some (.slice (some ⟨g5, 0, none⟩) (x.C.length + 1) cap5) := (X8.out.box.facts.1 3).trans rfl
  refine hK.out _ _ ⟨hb83, hcl81⟩ (fun hH3 => ?_)
  clear hK KK
  refine wpAnyH_done (by kernel_rfl) ?_ _
  clear hHeld hH3 hs1 hblW HW1 hb83 hcl81 hcl1 hgul7
  go_wp2_with fail
  refine bodyPost_end (results_none rfl _ _ _) rfl ?_
  exact ⟨rfl, _, _, X8.out, (T6.out.trans ((Turn.keep (Keep.drew (Keep.refl _))).trans T7.out)).trans ((Turn.keep (Keep.drew (Keep.refl _))).trans T8.out)⟩
end Go.Proofs.Ytbblgmkjgcjcaab
