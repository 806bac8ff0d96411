/- follow's watch: a place is put behind the row of a literal. -/
import Derived.Test.YtbblgmkjgcjcaabFolTake
namespace Go.Proofs.Ytbblgmkjgcjcaab
open Go.RowKit Go.Lib

set_option maxHeartbeats 8000000 in
set_option maxRecDepth 100000 in
theorem watch_any (x : XD) (B : Nat) (z : Int) (p : Nat) (w : World) (h : XM x B w) (hn : x.n ≤ 1000) (hz : Lit x.n z) (hr : (x.W.getD ((x.n : Int) + z).toNat []).length ≤ 1000000) :
    Calls Try.prog 75 #[.pointer (some ⟨x.bx, 0, none⟩), .int .i64 z, .int .i64 (p : Int)] w fun e w' => e = .returned (.tuple #[]) ∧ ∃ v', XM { x with rv := x.rv.set ((x.n : Int) + z).toNat v', W := pushW x.n x.W z p } B w' ∧ Turn x.own ({ x with rv := x.rv.set ((x.n : Int) + z).toNat v', W := pushW x.n x.W z p } : XD).own w w' := by
  obtain ⟨i0, hi, hz0, hz1, hz2⟩ := info_parts infoInt
  have HC := hid h
  obtain ⟨q, hq⟩ : ∃ q : Nat, (x.n : Int) + z = q := ⟨((x.n : Int) + z).toNat, by have := hz.2; omega⟩
  have hq2 : q < 2 * x.n + 1 := by have := hz.2; omega
  have HPU := hid (show pushW x.n x.W z p = x.W.set q (x.W.getD q [] ++ [p]) by unfold pushW; rw [hq, Int.toNat_natCast])
  have HQN := hid (show ((x.n : Int) + z).toNat = q by rw [hq, Int.toNat_natCast])
  rw [hq, Int.toNat_natCast] at hr
  obtain ⟨v, hrv, hac, -, -, hx2⟩ := h.row hq2
  have HRV := hid hrv
  generalize x.W.getD q [] = r at hr hx2 HPU
  have HX2 := hid hx2
  have hl := h.low
  obtain ⟨vp, vc, hvs⟩ : ∃ vp vc, v = .slice vp r.length vc := by
    obtain ⟨-, ⟨e, e0⟩ | ⟨g, cap, cur, e, -⟩⟩ := hx2
    · exact ⟨none, 0, by rw [e, e0]⟩
    · exact ⟨_, cap, e⟩
  subst hvs
  obtain ⟨hbc, hbf, hbl⟩ := h.box.facts
  obtain ⟨-, hwf, hwl⟩ := h.wb.facts
  have hb0 : w.cell? ⟨x.bx, 0, none⟩ = some (.int .i64 x.n) := hbc 0
  have hb2 : w.cell? ⟨x.bx, 4, none⟩ = some (.slice (some ⟨x.bw, 0, none⟩) (2 * x.n + 1) (2 * x.n + 1)) := hbc 4
  have hxw : x.bx ≠ x.bw := hl.2.2.2.2.1
  have hq0 : (0 : Int) ≤ q := by omega
  have hq3 : (q : Int) < 2 * x.n + 1 := by omega
  have hqw : IntKind.i64.wrap (q : Int) = q := by rw [IntKind.wrap_i64]; omega
  have hz1' : -1000 ≤ z := by have := hz.2; omega
  have hz2' : z ≤ 1000 := by have := hz.2; omega
  clear h hrv hx2 hbc
  go_enter Try.func75, Try.ntmps75
  have hSA : ∀ o : Obj, (w.drew.alloc o).cell? ⟨x.bx, 0, none⟩ = some (.int .i64 x.n) ∧ (w.drew.alloc o).cell? ⟨x.bx, 4, none⟩ = some (.slice (some ⟨x.bw, 0, none⟩) (2 * x.n + 1) (2 * x.n + 1)) := fun o => ⟨(((Keep.drew (Keep.refl w)).alloc' o).cell (p := ⟨x.bx, 0, none⟩) hbl).trans hb0, (((Keep.drew (Keep.refl w)).alloc' o).cell (p := ⟨x.bx, 4, none⟩) hbl).trans hb2⟩
  have hac2 : w.drew.cell? ⟨x.bw, q, none⟩ = some (.slice vp r.length vc) := hac
  have hac3 : ∀ o : Obj, (w.drew.alloc o).cell? ⟨x.bw, q, none⟩ = some (.slice vp r.length vc) := fun o => (((Keep.drew (Keep.refl w)).alloc' o).cell (p := ⟨x.bw, q, none⟩) hwl).trans hac
  go_upto_region 0 with fail
  refine wp_region_held_drew (S := fun W' => W'.cell? ⟨x.bx, 0, none⟩ = some (.int .i64 x.n) ∧ W'.cell? ⟨x.bx, 4, none⟩ = some (.slice (some ⟨x.bw, 0, none⟩) (2 * x.n + 1) (2 * x.n + 1))) (by kernel_rfl) ⟨hb0, hb2⟩ (fun hHeld => ?_)
  refine wpAnyH_take (i := 0) (v := ?_) rfl (by kernel_rfl) (by kernel_rfl) (by kernel_rfl) (fun _ _ _ h => h) (Or.inl ⟨by rfl, ?_⟩) (by assumption) ?_
  rotate_left
  · intro w hSw
    (try dsimp only at hSw)
    go_simp
    try with_reducible rfl
  simp only [Act.put, List.setIfInBounds_toArray, List.set_cons_zero, List.set_cons_succ, List.getElem_toArray, List.getElem_cons_zero]
  refine wpAnyH_take (i := 1) (v := ?_) rfl (by kernel_rfl) (by kernel_rfl) (by kernel_rfl) (fun _ _ _ h => h) (Or.inl ⟨by rfl, ?_⟩) (by assumption) ?_
  rotate_left
  · intro w hSw
    (try dsimp only at hSw)
    go_simp
    try with_reducible rfl
  simp only [Act.put, List.setIfInBounds_toArray, List.set_cons_zero, List.set_cons_succ, List.getElem_toArray, List.getElem_cons_zero, List.getElem_cons_succ]
  refine wpAnyH_take (i := 2) (v := ?_) rfl (by kernel_rfl) (by kernel_rfl) (by kernel_rfl) (fun _ _ _ h => h) (Or.inl ⟨by rfl, ?_⟩) (by assumption) ?_
  rotate_left
  · intro w hSw
    (try dsimp only at hSw)
    go_simp
    try with_reducible rfl
  simp only [Act.put, List.setIfInBounds_toArray, List.set_cons_zero, List.set_cons_succ, List.getElem_toArray, List.getElem_cons_zero, List.getElem_cons_succ]
  refine wpAnyH_take (i := 3) (v := ?_) rfl (by kernel_rfl) (by kernel_rfl) (by kernel_rfl) (fun _ _ _ h => h) (Or.inl ⟨by rfl, ?_⟩) (by assumption) ?_
  rotate_left
  · intro w hSw
    (try dsimp only at hSw)
    go_simp
    try with_reducible rfl
  simp only [Act.put, List.setIfInBounds_toArray, List.set_cons_zero, List.set_cons_succ, List.getElem_toArray, List.getElem_cons_zero, List.getElem_cons_succ]
  refine wpAnyH_take (i := 4) (v := ?_) rfl (by kernel_rfl) (by kernel_rfl) (by kernel_rfl) (fun _ _ _ h => h) (Or.inl ⟨by rfl, ?_⟩) (by assumption) ?_
  rotate_left
  · intro w hSw
    (try dsimp only at hSw)
    go_simp
    try with_reducible rfl
  simp only [Act.put, List.setIfInBounds_toArray, List.set_cons_zero, List.set_cons_succ, List.getElem_toArray, List.getElem_cons_zero, List.getElem_cons_succ]
  refine wpAnyH_take (i := 5) (v := ?_) rfl (by kernel_rfl) (by kernel_rfl) (by kernel_rfl) (fun _ _ _ h => h) (Or.inl ⟨by rfl, ?_⟩) (by assumption) ?_
  rotate_left
  · intro w hSw
    (try dsimp only at hSw)
    go_simp
    try with_reducible rfl
  simp only [Act.put, List.setIfInBounds_toArray, List.set_cons_zero, List.set_cons_succ, List.getElem_toArray, List.getElem_cons_zero, List.getElem_cons_succ]
  refine wpAnyH_take (i := 6) (v := ?_) rfl (by kernel_rfl) (by kernel_rfl) (by kernel_rfl) (fun _ _ _ h => h) (Or.inl ⟨by rfl, ?_⟩) (by assumption) ?_
  rotate_left
  · intro w hSw
    (try dsimp only at hSw)
    go_simp
    try with_reducible rfl
  simp only [Act.put, List.setIfInBounds_toArray, List.set_cons_zero, List.set_cons_succ, List.getElem_toArray, List.getElem_cons_zero, List.getElem_cons_succ]
  refine wpAnyH_take (i := 7) (v := ?_) rfl (by kernel_rfl) (by kernel_rfl) (by kernel_rfl) (fun _ _ _ h => h) (Or.inl ⟨by rfl, ?_⟩) (by assumption) ?_
  rotate_left
  · intro w hSw
    (try dsimp only at hSw)
    go_simp
    try with_reducible rfl
  simp only [Act.put, List.setIfInBounds_toArray, List.set_cons_zero, List.set_cons_succ, List.getElem_toArray, List.getElem_cons_zero, List.getElem_cons_succ]
  refine wpAnyH_take (i := 8) (v := ?_) rfl (by kernel_rfl) (by kernel_rfl) (by kernel_rfl) (fun _ _ _ h => h) (Or.inl ⟨by rfl, ?_⟩) (by assumption) ?_
  rotate_left
  · intro w hSw
    (try dsimp only at hSw)
    go_simp
    try with_reducible rfl
  simp only [Act.put, List.setIfInBounds_toArray, List.set_cons_zero, List.set_cons_succ, List.getElem_toArray, List.getElem_cons_zero, List.getElem_cons_succ]
  refine wpAnyH_take (i := 9) (v := ?_) rfl (by kernel_rfl) (by kernel_rfl) (by kernel_rfl) (fun _ _ _ h => h) (Or.inl ⟨by rfl, ?_⟩) (by assumption) ?_
  rotate_left
  · intro w hSw
    (try dsimp only at hSw)
    go_simp
    try with_reducible rfl
  simp only [Act.put, List.setIfInBounds_toArray, List.set_cons_zero, List.set_cons_succ, List.getElem_toArray, List.getElem_cons_zero, List.getElem_cons_succ]
  refine wpAnyH_take (i := 10) (v := ?_) rfl (by kernel_rfl) (by kernel_rfl) (by kernel_rfl) (fun _ _ _ h => h) (Or.inl ⟨by rfl, ?_⟩) (by assumption) ?_
  rotate_left
  · intro w hSw
    (try dsimp only at hSw)
    go_simp
    try with_reducible rfl
  simp only [Act.put, List.setIfInBounds_toArray, List.set_cons_zero, List.set_cons_succ, List.getElem_toArray, List.getElem_cons_zero, List.getElem_cons_succ]
  refine wpAnyH_take (i := 11) (v := ?_) rfl (by kernel_rfl) (by kernel_rfl) (by kernel_rfl) (fun _ _ _ h => h) (Or.inl ⟨by rfl, ?_⟩) (by assumption) ?_
  rotate_left
  · intro w hSw
    (try dsimp only at hSw)
    go_simp
    try with_reducible rfl
  simp only [Act.put, List.setIfInBounds_toArray, List.set_cons_zero, List.set_cons_succ, List.getElem_toArray, List.getElem_cons_zero, List.getElem_cons_succ]
  refine wpAnyH_take (i := 12) (v := ?_) rfl (by kernel_rfl) (by kernel_rfl) (by kernel_rfl) (fun _ _ _ h => h) (Or.inl ⟨by rfl, ?_⟩) (by assumption) ?_
  rotate_left
  · intro w hSw
    (try dsimp only at hSw)
    go_simp
    try with_reducible rfl
  simp only [Act.put, List.setIfInBounds_toArray, List.set_cons_zero, List.set_cons_succ, List.getElem_toArray, List.getElem_cons_zero, List.getElem_cons_succ]
  refine wpAnyH_take (i := 13) (v := ?_) rfl (by kernel_rfl) (by kernel_rfl) (by kernel_rfl) (fun _ _ _ h => h) (Or.inl ⟨by rfl, ?_⟩) (by assumption) ?_
  rotate_left
  · intro w hSw
    (try dsimp only at hSw)
    go_simp
    try with_reducible rfl
  simp only [Act.put, List.setIfInBounds_toArray, List.set_cons_zero, List.set_cons_succ, List.getElem_toArray, List.getElem_cons_zero, List.getElem_cons_succ]
  refine wpAnyH_take (i := 14) (v := ?_) rfl (by kernel_rfl) (by kernel_rfl) (by kernel_rfl) (fun _ _ _ h => h) (Or.inl ⟨by rfl, ?_⟩) (by assumption) ?_
  rotate_left
  · intro w hSw
    (try dsimp only at hSw)
    go_simp
    try with_reducible rfl
  simp only [Act.put, List.setIfInBounds_toArray, List.set_cons_zero, List.set_cons_succ, List.getElem_toArray, List.getElem_cons_zero, List.getElem_cons_succ]
  refine wpAnyH_take (i := 15) (v := ?_) rfl (by kernel_rfl) (by kernel_rfl) (by kernel_rfl) (fun _ _ _ h => h) (Or.inl ⟨by rfl, ?_⟩) (by assumption) ?_
  rotate_left
  · intro w hSw
    (try dsimp only at hSw)
    go_simp
    try with_reducible rfl
  simp only [Act.put, List.setIfInBounds_toArray, List.set_cons_zero, List.set_cons_succ, List.getElem_toArray, List.getElem_cons_zero, List.getElem_cons_succ]
  refine wpAnyH_take (i := 16) (v := ?_) rfl (by kernel_rfl) (by kernel_rfl) (by kernel_rfl) (fun _ _ _ h => h) (Or.inl ⟨by rfl, ?_⟩) (by assumption) ?_
  rotate_left
  · intro w hSw
    (try dsimp only at hSw)
    go_simp
    try with_reducible rfl
  simp only [Act.put, List.setIfInBounds_toArray, List.set_cons_zero, List.set_cons_succ, List.getElem_toArray, List.getElem_cons_zero, List.getElem_cons_succ]
  refine wpAnyH_take (i := 17) (v := ?_) rfl (by kernel_rfl) (by kernel_rfl) (by kernel_rfl) (fun _ _ _ h => h) (Or.inl ⟨by rfl, ?_⟩) (by assumption) ?_
  rotate_left
  · intro w hSw
    (try dsimp only at hSw)
    go_simp
    try with_reducible rfl
  simp only [Act.put, List.setIfInBounds_toArray, List.set_cons_zero, List.set_cons_succ, List.getElem_toArray, List.getElem_cons_zero, List.getElem_cons_succ]
  refine wpAnyH_take (i := 18) (v := ?_) rfl (by kernel_rfl) (by kernel_rfl) (by kernel_rfl) (fun _ _ _ h => h) (Or.inl ⟨by rfl, ?_⟩) (by assumption) ?_
  rotate_left
  · intro w hSw
    (try dsimp only at hSw)
    go_simp
    try with_reducible rfl
  simp only [Act.put, List.setIfInBounds_toArray, List.set_cons_zero, List.set_cons_succ, List.getElem_toArray, List.getElem_cons_zero, List.getElem_cons_succ]
  refine wpAnyH_take (i := 19) (v := ?_) rfl (by kernel_rfl) (by kernel_rfl) (by kernel_rfl) (fun _ _ _ h => h) (Or.inl ⟨by rfl, ?_⟩) (by assumption) ?_
  rotate_left
  · intro w hSw
    (try dsimp only at hSw)
    go_simp
    try with_reducible rfl
  simp only [Act.put, List.setIfInBounds_toArray, List.set_cons_zero, List.set_cons_succ, List.getElem_toArray, List.getElem_cons_zero, List.getElem_cons_succ]
  refine wpAnyH_take (i := 20) (v := ?_) rfl (by kernel_rfl) (by kernel_rfl) (by kernel_rfl) (fun _ _ _ h => h) (Or.inl ⟨by rfl, ?_⟩) (by assumption) ?_
  rotate_left
  · intro w hSw
    (try dsimp only at hSw)
    go_simp
    try with_reducible rfl
  simp only [Act.put, List.setIfInBounds_toArray, List.set_cons_zero, List.set_cons_succ, List.getElem_toArray, List.getElem_cons_zero, List.getElem_cons_succ]
  refine wpAnyH_take (i := 22) (v := ?_) rfl (by kernel_rfl) (by kernel_rfl) (by kernel_rfl) (fun _ _ _ h => h) (Or.inl ⟨by rfl, ?_⟩) (by assumption) ?_
  rotate_left
  · intro w hSw
    (try dsimp only at hSw)
    go_simp
    try with_reducible rfl
  simp only [Act.put, List.setIfInBounds_toArray, List.set_cons_zero, List.set_cons_succ, List.getElem_toArray, List.getElem_cons_zero, List.getElem_cons_succ]
  refine wpAnyH_ready (rs := [21, 23]) (by kernel_rfl) (by simp) ?_
  refine AllReadyH.cons rfl (fun K hK => ?_) ?_
  · go_simp
    refine hK.out _ _ ⟨hb0, hb2⟩ (fun hH1 => ?_)
    clear hK K
    refine wpAnyH_ready (rs := [23]) (by kernel_rfl) (by simp) ?_
    refine AllReadyH.cons rfl (fun K hK => ?_) AllReadyH.nil
    go_simp
    refine hK.out _ _ (hSA _) (fun hH2 => ?_)
    clear hK K
    refine wpAnyH_ready (rs := [24]) (by kernel_rfl) (by simp) ?_
    refine AllReadyH.cons rfl (fun K hK => ?_) AllReadyH.nil
    refine step_append_own rfl _ _ 26 rfl B 3 i0 (.int .i64 0) 1 8 Try.underlying26 hi hz0 hz1 hz2 rfl (by decide) (.slice vp r.length vc) r.length (ivN r) rfl (HX2.out.alloc _) ⟨w.heap.size, 0, none⟩ 1 1 [.int .i64 (p : Int)] rfl rfl one_newsC one_cellI (by unfold maxLen; omega) (by omega) (by simp; omega) ?_
    intro v5 w5 h1 h2 h4
    obtain ⟨g5, cap5, rfl⟩ := owns_shape h1 (Nat.succ_pos _)
    have G5 := hid (grown_undrew (grown_alloc h2))
    have P5 := hid (HC.out.setW (w5 := w5) (v' := .slice (some ⟨g5, 0, none⟩) (r.length + 1) cap5) (r := r ++ [p]) hq2 HRV.out (fun b hb hn => G5.out.block b hb fun e => hn e.symm) G5.out (own_far h4) (by rw [List.length_append, ivN, List.map_append]; exact h1))
    have hlow5 : ∀ b, b < B → w5.heap[b]? = w.heap[b]? := fun b hb => G5.out.block b (by omega) fun e => by have := (owns_in HX2.out e.symm).1; omega
    have B5 : BoxAt x.bx 91 x.box w5 := by have := HC.out.box; unfold BoxAt at *; rw [hlow5 _ hl.1]; exact this
    have W5 : BoxAt x.bw 26 x.rv.toArray w5 := by have := HC.out.wb; unfold BoxAt at *; rw [hlow5 _ hl.2.2.1]; exact this
    obtain ⟨hcb5, hfb5, hlb5⟩ := B5.facts
    obtain ⟨hcw5, hfw5, hlw5⟩ := W5.facts
    have hb50 : w5.cell? ⟨x.bx, 0, none⟩ = some (.int .i64 x.n) := hcb5 0
    have hb52 : w5.cell? ⟨x.bx, 4, none⟩ = some (.slice (some ⟨x.bw, 0, none⟩) (2 * x.n + 1) (2 * x.n + 1)) := hcb5 4
    have hw5q : w5.cell? ⟨x.bw, q, none⟩ = some (.slice vp r.length vc) := by rw [hcw5]; simpa using HRV.out
    clear h1 h2 h4 hcb5 hcw5 B5 W5 hlow5
    refine hK.out _ _ ⟨hb50, hb52⟩ (fun hH3 => ?_)
    clear hK K
    simp only [Act.put, List.setIfInBounds_toArray, List.set_cons_zero, List.set_cons_succ, List.getElem_toArray, List.getElem_cons_zero, List.getElem_cons_succ]
    refine wpAnyH_take (i := 25) (v := ?_) rfl (by kernel_rfl) (by kernel_rfl) (by kernel_rfl) (fun _ _ _ h => h) (Or.inl ⟨by rfl, ?_⟩) (by assumption) ?_
    rotate_left
    · intro w hSw
      (try dsimp only at hSw)
      go_simp
      try with_reducible rfl
    simp only [Act.put, List.setIfInBounds_toArray, List.set_cons_zero, List.set_cons_succ, List.getElem_toArray, List.getElem_cons_zero, List.getElem_cons_succ]
    refine wpAnyH_ready (rs := [26]) (by kernel_rfl) (by simp) ?_
    refine AllReadyH.cons rfl (fun K hK => ?_) AllReadyH.nil
    go_simp
    refine hK.out _ _ ⟨(cell_setO _ _ _ _ hxw).trans hb50, (cell_setO _ _ _ _ hxw).trans hb52⟩ (fun hH4 => ?_)
    clear hK K
    refine wpAnyH_done (by kernel_rfl) ?_ _
    go_wp2_with fail
    refine bodyPost_end (results_none rfl _ _ _) rfl ?_
    exact ⟨rfl, _, by rw [HPU.out, HQN.out]; exact P5.out.1, by rw [HPU.out, HQN.out]; exact P5.out.2⟩
  · refine AllReadyH.cons rfl (fun K hK => ?_) AllReadyH.nil
    go_simp
    refine hK.out _ _ (hSA _) (fun hH1 => ?_)
    clear hK K
    refine wpAnyH_ready (rs := [21]) (by kernel_rfl) (by simp) ?_
    refine AllReadyH.cons rfl (fun K hK => ?_) AllReadyH.nil
    have hac4 := hac3 (.cells #[.int .i64 (p : Int)] 3)
    go_simp
    refine hK.out _ _ (hSA _) (fun hH2 => ?_)
    clear hK K
    refine wpAnyH_ready (rs := [24]) (by kernel_rfl) (by simp) ?_
    refine AllReadyH.cons rfl (fun K hK => ?_) AllReadyH.nil
    refine step_append_own rfl _ _ 26 rfl B 3 i0 (.int .i64 0) 1 8 Try.underlying26 hi hz0 hz1 hz2 rfl (by decide) (.slice vp r.length vc) r.length (ivN r) rfl (HX2.out.alloc _) ⟨w.heap.size, 0, none⟩ 1 1 [.int .i64 (p : Int)] rfl rfl one_newsC one_cellI (by unfold maxLen; omega) (by omega) (by simp; omega) ?_
    intro v5 w5 h1 h2 h4
    obtain ⟨g5, cap5, rfl⟩ := owns_shape h1 (Nat.succ_pos _)
    have G5 := hid (grown_undrew (grown_alloc h2))
    have P5 := hid (HC.out.setW (w5 := w5) (v' := .slice (some ⟨g5, 0, none⟩) (r.length + 1) cap5) (r := r ++ [p]) hq2 HRV.out (fun b hb hn => G5.out.block b hb fun e => hn e.symm) G5.out (own_far h4) (by rw [List.length_append, ivN, List.map_append]; exact h1))
    have hlow5 : ∀ b, b < B → w5.heap[b]? = w.heap[b]? := fun b hb => G5.out.block b (by omega) fun e => by have := (owns_in HX2.out e.symm).1; omega
    have B5 : BoxAt x.bx 91 x.box w5 := by have := HC.out.box; unfold BoxAt at *; rw [hlow5 _ hl.1]; exact this
    have W5 : BoxAt x.bw 26 x.rv.toArray w5 := by have := HC.out.wb; unfold BoxAt at *; rw [hlow5 _ hl.2.2.1]; exact this
    obtain ⟨hcb5, hfb5, hlb5⟩ := B5.facts
    obtain ⟨hcw5, hfw5, hlw5⟩ := W5.facts
    have hb50 : w5.cell? ⟨x.bx, 0, none⟩ = some (.int .i64 x.n) := hcb5 0
    have hb52 : w5.cell? ⟨x.bx, 4, none⟩ = some (.slice (some ⟨x.bw, 0, none⟩) (2 * x.n + 1) (2 * x.n + 1)) := hcb5 4
    have hw5q : w5.cell? ⟨x.bw, q, none⟩ = some (.slice vp r.length vc) := by rw [hcw5]; simpa using HRV.out
    clear h1 h2 h4 hcb5 hcw5 B5 W5 hlow5
    refine hK.out _ _ ⟨hb50, hb52⟩ (fun hH3 => ?_)
    clear hK K
    simp only [Act.put, List.setIfInBounds_toArray, List.set_cons_zero, List.set_cons_succ, List.getElem_toArray, List.getElem_cons_zero, List.getElem_cons_succ]
    refine wpAnyH_take (i := 25) (v := ?_) rfl (by kernel_rfl) (by kernel_rfl) (by kernel_rfl) (fun _ _ _ h => h) (Or.inl ⟨by rfl, ?_⟩) (by assumption) ?_
    rotate_left
    · intro w hSw
      (try dsimp only at hSw)
      go_simp
      try with_reducible rfl
    simp only [Act.put, List.setIfInBounds_toArray, List.set_cons_zero, List.set_cons_succ, List.getElem_toArray, List.getElem_cons_zero, List.getElem_cons_succ]
    refine wpAnyH_ready (rs := [26]) (by kernel_rfl) (by simp) ?_
    refine AllReadyH.cons rfl (fun K hK => ?_) AllReadyH.nil
    go_simp
    refine hK.out _ _ ⟨(cell_setO _ _ _ _ hxw).trans hb50, (cell_setO _ _ _ _ hxw).trans hb52⟩ (fun hH4 => ?_)
    clear hK K
    refine wpAnyH_done (by kernel_rfl) ?_ _
    go_wp2_with fail
    refine bodyPost_end (results_none rfl _ _ _) rfl ?_
    exact ⟨rfl, _, by rw [HPU.out, HQN.out]; exact P5.out.1, by rw [HPU.out, HQN.out]; exact P5.out.2⟩
end Go.Proofs.Ytbblgmkjgcjcaab
