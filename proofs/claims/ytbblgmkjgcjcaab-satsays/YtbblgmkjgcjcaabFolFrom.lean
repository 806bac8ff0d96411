/- follow's New and From, walked. -/
import Derived.Test.YtbblgmkjgcjcaabFolFromBase
namespace Go.Proofs.Ytbblgmkjgcjcaab
open Go.RowKit Go.Lib Go.Sort

set_option maxHeartbeats 4000000 in
set_option maxRecDepth 100000 in
theorem new_any (n : Nat) (w : World) (hn : n ≤ 1000) :
    Calls Try.prog 43 #[.int .i64 n] w fun e w' => ∃ x B, e = .returned (.pointer (some ⟨x.bx, 0, none⟩)) ∧ x.n = n ∧ XF x B (List.replicate (n + 1) 0) [] w' ∧ Keep w w' ∧ ∀ b, x.all b → w.heap.size ≤ b := by
  have h1000 : (n : Int) ≤ 1000 := by omega
  have hw1 : IntKind.i64.wrap ((n : Int) + 1) = (n : Int) + 1 := by rw [IntKind.wrap_i64]; omega
  have hw2 : IntKind.i64.wrap (2 * (n : Int)) = 2 * (n : Int) := by rw [IntKind.wrap_i64]; omega
  have hw3 : IntKind.i64.wrap (2 * (n : Int) + 1) = 2 * (n : Int) + 1 := by rw [IntKind.wrap_i64]; omega
  have HE1 := hid (show (n : Int) + 1 = ((n + 1 : Nat) : Int) by omega)
  have HE2 := hid (show 2 * (n : Int) + 1 = ((2 * n + 1 : Nat) : Int) by omega)
  go_enter Try.func43, Try.ntmps43
  go_upto_region 1 with fail
  refine wp_region_held_drew (S := fun _ => True) (by kernel_rfl) trivial (fun hHeld => ?_)
  refine wpAnyH_take (i := 0) (v := ?_) rfl (by kernel_rfl) (by kernel_rfl) (by kernel_rfl) (fun _ _ _ h => h) (Or.inl ⟨by rfl, ?_⟩) (by assumption) ?_
  rotate_left
  · intro w hSw
    (try dsimp only at hSw)
    go_simp
    try with_reducible rfl
  simp only [Act.put, List.setIfInBounds_toArray, List.set_cons_zero, List.set_cons_succ, List.getElem_toArray, List.getElem_cons_zero]
  refine wpAnyH_take (i := 1) (v := ?_) rfl (by kernel_rfl) (by kernel_rfl) (by kernel_rfl) (fun _ _ _ h => h) (Or.inl ⟨by rfl, ?_⟩) (by assumption) ?_
  rotate_left
  · intro w hSw
    (try dsimp only at hSw)
    go_simp
    try with_reducible rfl
  simp only [Act.put, List.setIfInBounds_toArray, List.set_cons_zero, List.set_cons_succ, List.getElem_toArray, List.getElem_cons_zero, List.getElem_cons_succ]
  refine wpAnyH_take (i := 2) (v := ?_) rfl (by kernel_rfl) (by kernel_rfl) (by kernel_rfl) (fun _ _ _ h => h) (Or.inl ⟨by rfl, ?_⟩) (by assumption) ?_
  rotate_left
  · intro w hSw
    (try dsimp only at hSw)
    go_simp
    try with_reducible rfl
  simp only [Act.put, List.setIfInBounds_toArray, List.set_cons_zero, List.set_cons_succ, List.getElem_toArray, List.getElem_cons_zero, List.getElem_cons_succ]
  refine wpAnyH_take (i := 4) (v := ?_) rfl (by kernel_rfl) (by kernel_rfl) (by kernel_rfl) (fun _ _ _ h => h) (Or.inl ⟨by rfl, ?_⟩) (by assumption) ?_
  rotate_left
  · intro w hSw
    (try dsimp only at hSw)
    go_simp
    try with_reducible rfl
  simp only [Act.put, List.setIfInBounds_toArray, List.set_cons_zero, List.set_cons_succ, List.getElem_toArray, List.getElem_cons_zero, List.getElem_cons_succ]
  refine wpAnyH_take (i := 5) (v := ?_) rfl (by kernel_rfl) (by kernel_rfl) (by kernel_rfl) (fun _ _ _ h => h) (Or.inl ⟨by rfl, ?_⟩) (by assumption) ?_
  rotate_left
  · intro w hSw
    (try dsimp only at hSw)
    go_simp
    try with_reducible rfl
  simp only [Act.put, List.setIfInBounds_toArray, List.set_cons_zero, List.set_cons_succ, List.getElem_toArray, List.getElem_cons_zero, List.getElem_cons_succ]
  refine wpAnyH_take (i := 6) (v := ?_) rfl (by kernel_rfl) (by kernel_rfl) (by kernel_rfl) (fun _ _ _ h => h) (Or.inl ⟨by rfl, ?_⟩) (by assumption) ?_
  rotate_left
  · intro w hSw
    (try dsimp only at hSw)
    go_simp
    try with_reducible rfl
  simp only [Act.put, List.setIfInBounds_toArray, List.set_cons_zero, List.set_cons_succ, List.getElem_toArray, List.getElem_cons_zero, List.getElem_cons_succ]
  refine wpAnyH_ready (rs := [3, 7]) (by kernel_rfl) (by simp) ?_
  refine AllReadyH.cons rfl (fun KK hK => ?_) ?_
  · skip
    obtain ⟨iA, hiA, hz0A, hz1A, hz2A⟩ := info_parts infoInt
    refine step_make rfl _ _ 26 rfl w.drew.heap.size 3 iA (.int .i64 0) 1 Try.underlying26 hiA hz0A hz1A .i64 .i64 ((n : Int) + 1) ((n : Int) + 1) (n + 1) rfl rfl HE1.out HE1.out (by rw [hz2A]; omega) (by unfold maxLen; omega) (Nat.le_refl _) ?_
    intro w1 g1A g2A
    have BA := hid (made_box (v := (.int .i64 0)) rfl g1A)
    have kA : Keep w.drew w1 := ⟨g2A.os, g2A.tape, g2A.output, g2A.size, fun b hb => g2A.block b hb (by simp)⟩
    have sA : w.drew.heap.size < w1.heap.size := BA.out.facts.2.2
    clear g1A g2A
    refine hK.out _ _ trivial (fun hHA => ?_)
    clear hK KK
    simp only [Act.put, List.setIfInBounds_toArray, List.set_cons_zero, List.set_cons_succ, List.getElem_toArray, List.getElem_cons_zero, List.getElem_cons_succ]
    refine wpAnyH_ready (rs := [7]) (by kernel_rfl) (by simp) ?_
    refine AllReadyH.cons rfl (fun KK hK => ?_) AllReadyH.nil
    obtain ⟨iB, hiB, hz0B, hz1B, hz2B⟩ := info_parts infoRow
    refine step_make rfl _ _ 89 rfl w1.heap.size 26 iB (.slice none 0 0) 1 Try.underlying89 hiB hz0B hz1B .i64 .i64 (2 * (n : Int) + 1) (2 * (n : Int) + 1) (2 * n + 1) rfl rfl HE2.out HE2.out (by rw [hz2B]; omega) (by unfold maxLen; omega) (Nat.le_refl _) ?_
    intro w2 g1B g2B
    have BB := hid (made_box (v := (.slice none 0 0)) rfl g1B)
    have kB : Keep w1 w2 := ⟨g2B.os, g2B.tape, g2B.output, g2B.size, fun b hb => g2B.block b hb (by simp)⟩
    have sB : w1.heap.size < w2.heap.size := BB.out.facts.2.2
    clear g1B g2B
    refine hK.out _ _ trivial (fun hHB => ?_)
    clear hK KK
    simp only [Act.put, List.setIfInBounds_toArray, List.set_cons_zero, List.set_cons_succ, List.getElem_toArray, List.getElem_cons_zero, List.getElem_cons_succ]
    refine wpAnyH_take (i := 8) (v := ?_) rfl (by kernel_rfl) (by kernel_rfl) (by kernel_rfl) (fun _ _ _ h => h) (Or.inl ⟨by rfl, ?_⟩) (by assumption) ?_
    rotate_left
    · intro w hSw
      (try dsimp only at hSw)
      go_simp
      try with_reducible rfl
    simp only [Act.put, List.setIfInBounds_toArray, List.set_cons_zero, List.set_cons_succ, List.getElem_toArray, List.getElem_cons_zero, List.getElem_cons_succ]
    refine wpAnyH_ready (rs := [9]) (by kernel_rfl) (by simp) ?_
    refine AllReadyH.cons rfl (fun KK hK => ?_) AllReadyH.nil
    go_simp
    refine hK.out _ _ trivial (fun hH9 => ?_)
    clear hK KK
    try simp only [Act.put, List.setIfInBounds_toArray, List.set_cons_zero, List.set_cons_succ, List.getElem_toArray, List.getElem_cons_zero, List.getElem_cons_succ]
    refine wpAnyH_take (i := 10) (v := ?_) rfl (by kernel_rfl) (by kernel_rfl) (by kernel_rfl) (fun _ _ _ h => h) (Or.inl ⟨by rfl, ?_⟩) (by assumption) ?_
    rotate_left
    · intro w hSw
      (try dsimp only at hSw)
      go_simp
      try with_reducible rfl
    simp only [Act.put, List.setIfInBounds_toArray, List.set_cons_zero, List.set_cons_succ, List.getElem_toArray, List.getElem_cons_zero, List.getElem_cons_succ]
    refine wpAnyH_done (by kernel_rfl) ?_ _
    have hd : w.drew.heap.size = w.heap.size := rfl
    have HD := hid (new_done (n := n) (w3 := w2) ((Keep.drew (Keep.refl w)).trans (kA.trans kB)) (bk := w.drew.heap.size) (bw := w1.heap.size) (BA.out.keep kB sA) (BB.out) (by omega) ⟨by omega, by omega⟩ (Keep.alloc w2 (.cells #[.int .i64 n, .bool false, .slice (some ⟨w.drew.heap.size, 0, none⟩) (n + 1) (n + 1), .slice none 0 0, .slice (some ⟨w1.heap.size, 0, none⟩) (2 * n + 1) (2 * n + 1)] 91)) (alloc_size _ _) (BoxAt.new _ _ _))
    clear BA BB kA kB
    go_wp2_with fail
    go_ret
    obtain ⟨x, B, h1, h2, h3, h4, h5⟩ := HD.out
    exact ⟨x, B, by rw [h1]; rfl, h2, h3, h4, h5⟩
  · refine AllReadyH.cons rfl (fun KK hK => ?_) AllReadyH.nil
    obtain ⟨iB, hiB, hz0B, hz1B, hz2B⟩ := info_parts infoRow
    refine step_make rfl _ _ 89 rfl w.drew.heap.size 26 iB (.slice none 0 0) 1 Try.underlying89 hiB hz0B hz1B .i64 .i64 (2 * (n : Int) + 1) (2 * (n : Int) + 1) (2 * n + 1) rfl rfl HE2.out HE2.out (by rw [hz2B]; omega) (by unfold maxLen; omega) (Nat.le_refl _) ?_
    intro w1 g1B g2B
    have BB := hid (made_box (v := (.slice none 0 0)) rfl g1B)
    have kB : Keep w.drew w1 := ⟨g2B.os, g2B.tape, g2B.output, g2B.size, fun b hb => g2B.block b hb (by simp)⟩
    have sB : w.drew.heap.size < w1.heap.size := BB.out.facts.2.2
    clear g1B g2B
    refine hK.out _ _ trivial (fun hHB => ?_)
    clear hK KK
    simp only [Act.put, List.setIfInBounds_toArray, List.set_cons_zero, List.set_cons_succ, List.getElem_toArray, List.getElem_cons_zero, List.getElem_cons_succ]
    refine wpAnyH_ready (rs := [3]) (by kernel_rfl) (by simp) ?_
    refine AllReadyH.cons rfl (fun KK hK => ?_) AllReadyH.nil
    obtain ⟨iA, hiA, hz0A, hz1A, hz2A⟩ := info_parts infoInt
    refine step_make rfl _ _ 26 rfl w1.heap.size 3 iA (.int .i64 0) 1 Try.underlying26 hiA hz0A hz1A .i64 .i64 ((n : Int) + 1) ((n : Int) + 1) (n + 1) rfl rfl HE1.out HE1.out (by rw [hz2A]; omega) (by unfold maxLen; omega) (Nat.le_refl _) ?_
    intro w2 g1A g2A
    have BA := hid (made_box (v := (.int .i64 0)) rfl g1A)
    have kA : Keep w1 w2 := ⟨g2A.os, g2A.tape, g2A.output, g2A.size, fun b hb => g2A.block b hb (by simp)⟩
    have sA : w1.heap.size < w2.heap.size := BA.out.facts.2.2
    clear g1A g2A
    refine hK.out _ _ trivial (fun hHA => ?_)
    clear hK KK
    simp only [Act.put, List.setIfInBounds_toArray, List.set_cons_zero, List.set_cons_succ, List.getElem_toArray, List.getElem_cons_zero, List.getElem_cons_succ]
    refine wpAnyH_take (i := 8) (v := ?_) rfl (by kernel_rfl) (by kernel_rfl) (by kernel_rfl) (fun _ _ _ h => h) (Or.inl ⟨by rfl, ?_⟩) (by assumption) ?_
    rotate_left
    · intro w hSw
      (try dsimp only at hSw)
      go_simp
      try with_reducible rfl
    simp only [Act.put, List.setIfInBounds_toArray, List.set_cons_zero, List.set_cons_succ, List.getElem_toArray, List.getElem_cons_zero, List.getElem_cons_succ]
    refine wpAnyH_ready (rs := [9]) (by kernel_rfl) (by simp) ?_
    refine AllReadyH.cons rfl (fun KK hK => ?_) AllReadyH.nil
    go_simp
    refine hK.out _ _ trivial (fun hH9 => ?_)
    clear hK KK
    try simp only [Act.put, List.setIfInBounds_toArray, List.set_cons_zero, List.set_cons_succ, List.getElem_toArray, List.getElem_cons_zero, List.getElem_cons_succ]
    refine wpAnyH_take (i := 10) (v := ?_) rfl (by kernel_rfl) (by kernel_rfl) (by kernel_rfl) (fun _ _ _ h => h) (Or.inl ⟨by rfl, ?_⟩) (by assumption) ?_
    rotate_left
    · intro w hSw
      (try dsimp only at hSw)
      go_simp
      try with_reducible rfl
    simp only [Act.put, List.setIfInBounds_toArray, List.set_cons_zero, List.set_cons_succ, List.getElem_toArray, List.getElem_cons_zero, List.getElem_cons_succ]
    refine wpAnyH_done (by kernel_rfl) ?_ _
    have hd : w.drew.heap.size = w.heap.size := rfl
    have HD := hid (new_done (n := n) (w3 := w2) ((Keep.drew (Keep.refl w)).trans (kB.trans kA)) (bk := w1.heap.size) (bw := w.drew.heap.size) (BA.out) (BB.out.keep kA sB) (by omega) ⟨by omega, by omega⟩ (Keep.alloc w2 (.cells #[.int .i64 n, .bool false, .slice (some ⟨w1.heap.size, 0, none⟩) (n + 1) (n + 1), .slice none 0 0, .slice (some ⟨w.drew.heap.size, 0, none⟩) (2 * n + 1) (2 * n + 1)] 91)) (alloc_size _ _) (BoxAt.new _ _ _))
    clear BA BB kA kB
    go_wp2_with fail
    go_ret
    obtain ⟨x, B, h1, h2, h3, h4, h5⟩ := HD.out
    exact ⟨x, B, by rw [h1]; rfl, h2, h3, h4, h5⟩

/-- What From leaves. -/
def FromDone (x : XD) (B : Nat) (K : List Int) (F : List (List Int)) (A : List Int) (w : World) (e : Ending) (w' : World) : Prop :=
  ∃ C rv W, XF (x.turned C rv W) B K F w' ∧ Turn x.all (x.turned C rv W).all w w' ∧
    ((∃ v K' L, e = .returned (.tuple #[v, .bool true]) ∧ Good x.n F A K' L ∧ (∀ y, y ∈ L ↔ Der F A y) ∧ ¬ FailsF F A ∧ NumsIs (fun b => w.heap.size ≤ b ∧ b < w'.heap.size ∧ ¬ (x.turned C rv W).all b) w' (known K') v) ∨ (e = .returned (.tuple #[.slice none 0 0, .bool false]) ∧ FailsF F A))
set_option maxHeartbeats 8000000 in
set_option maxRecDepth 100000 in
theorem from_any (x : XD) (B : Nat) (S : Nat → Prop) (K : List Int) (F : List (List Int)) (A : List Int) (av : Value) (w : World) (h : XF x B K F w) (hn : x.n ≤ 1000) (ha : NumsIs S w A av) (hS : ∀ b, S b → b < w.heap.size ∧ ¬ x.all b) (hF : ∀ c ∈ F, LitsC x.n c) (hFl : F.length ≤ 100000) (hA : LitsC x.n A) :
    Calls Try.prog 45 #[.pointer (some ⟨x.bx, 0, none⟩), av] w fun e w' => FromDone x B K F A w e w' := by
  have HX := hid h
  have HF := hid hF
  have HAL := hid hA
  have HAV := hid ha
  obtain ⟨ap, ac, rfl, halen⟩ := ha.shape
  obtain ⟨hbc, -, hbl⟩ := h.xm.box.facts
  have hb2 : w.cell? ⟨x.bx, 2, none⟩ = some (.slice (some ⟨x.bk, 0, none⟩) (x.n + 1) (x.n + 1)) := hbc 2
  have hKl := h.xi.tb.len
  have HCL := hid (show Calls Try.prog 22 #[.slice (some ⟨x.bk, 0, none⟩) (x.n + 1) (x.n + 1)] w _ from by
    have := cloneI_any (fun b => b = x.bk) K (some ⟨x.bk, 0, none⟩) (x.n + 1) w (fun b hb => by rw [hb]; exact h.kb.facts.2.2) ⟨_, x.n + 1, rfl, by omega, fun _ => ⟨x.bk, 0, rfl, rfl, fun j y hy => by
      rw [h.kb.facts.1]; simp [hy]⟩⟩ (by rw [hKl]; omega)
    rw [hKl] at this
    exact this)
  have HKL := hid hKl
  clear h hF hA ha hbc hKl
  go_enter Try.func45, Try.ntmps45
  go_wp2_with fail
  with_reducible refine HCL.out.mono ?_
  rintro e w1 ⟨v, rfl, how, hk1⟩
  have X1 := hid (HX.out.keep hk1)
  have T1 := hid (show Turn x.all x.all w w1 from Turn.keep hk1)
  obtain ⟨g, kc, rfl⟩ : ∃ g kc, v = .slice (some ⟨g, 0, none⟩) (x.n + 1) kc := by
    rw [← HKL.out]; exact owns_shape how (by rw [HKL.out]; omega)
  have hgin := owns_in how (g := g) rfl
  obtain ⟨JJ, hJJ, hkc⟩ : ∃ JJ, BoxAt g 3 (K.map (Value.int .i64) ++ JJ).toArray w1 ∧ x.n + 1 ≤ kc := by
    obtain ⟨-, ⟨e, -⟩ | ⟨g', cap, cur, e, -, hh, h1, -, -, h4⟩⟩ := id how
    · cases e
    · injection e with e1 e2 e3
      cases e1
      subst e3
      refine ⟨cur.toList.drop (K.length * 1), ?_, by rw [← HKL.out]; exact h1⟩
      unfold BoxAt
      rw [hh, ← h4, List.take_append_drop]
  have HJ := hid hJJ
  have HK1 := hid hk1
  have hgw : w.heap.size ≤ g := hgin.1
  have hgl : g < w1.heap.size := hgin.2
  have HNO := hid (show ∀ b, x.own b → b < w.heap.size from fun b hb => HX.out.xm.lt hb)
  clear how hk1 hJJ HCL hb2 hgin
  obtain ⟨hbc, -, hbl1⟩ := X1.out.xm.box.facts
  have hb1 : w1.cell? ⟨x.bx, 1, none⟩ = some (.bool x.fl) := hbc 1
  clear hbc
  cases hfl : x.fl with
  | true =>
    rw [hfl] at hb1
    have HFA := hid (show FailsF F A from (X1.out.xi.no hfl).more (fun _ h => h) (by simp))
    clear hfl
    go_wp2_with fail
    go_ret2
    exact ⟨x.C, x.rv, x.W, X1.out, T1.out, .inr ⟨rfl, HFA.out⟩⟩
  | false =>
    rw [hfl] at hb1
    have HXI := hid (show XI x.n F false K x.C x.W by have := X1.out.xi; rwa [hfl] at this)
    have HFLX := hid hfl
    have HSET := hid (settle_any kc JJ x B g S F F A K A (.slice ap A.length ac) w1 X1.out.xm HJ.out (fun e => by have := HNO.out g e; omega) (HAV.out.keep (fun b hb => (hS b hb).1) HK1.out) (fun b hb => ⟨Nat.lt_of_lt_of_le (hS b hb).1 HK1.out.size, fun e => (hS b hb).2 (.inl e), fun e => by have := (hS b hb).1; omega⟩) hn (by have := HX.out.cl; omega) HF.out (HXI.out.start A) (fun a ha => ⟨HAL.out a ha, .told ha⟩))
    clear hfl
    go_wp2_with fail
    with_reducible refine HSET.out.mono ?_
    rintro e w2 ⟨ok, C2, rv2, W2, K2, L2, rfl, hx2, hkb2, ht2, hnew2, hcl2, hd2⟩
    have X2 := hid hx2
    have KB2 := hid hkb2
    have HD2 := hid hd2
    have TU2 := hid (show Turn x.all (x.turned C2 rv2 W2).all w w2 from
      ⟨ht2.os.trans HK1.out.os, ht2.tape.trans HK1.out.tape, ht2.output.trans HK1.out.output, Nat.le_trans HK1.out.size ht2.size, fun b hb hno => by
        rw [ht2.block b (Nat.lt_of_lt_of_le hb HK1.out.size) (by
          rintro (e | e)
          · exact hno (.inl e)
          · omega), HK1.out.block b hb], fun b hb => by
        rcases hb with hb | hb
        · rcases hnew2 b hb with e | e
          · exact .inl (.inl e)
          · exact .inr (Nat.le_trans HK1.out.size e)
        · exact .inl (.inr hb)⟩)
    have HBK := hid (show BoxAt x.bk 3 (K.map (Value.int .i64)).toArray w2 from X1.out.kb.turn ht2 (by
      rintro (e | e)
      · exact X1.out.xm.bk e
      · have : x.bk < w.heap.size := HX.out.kb.facts.2.2
        omega))
    have HNW := hid (show ¬ (x.turned C2 rv2 W2).all g from by
      rintro (e | e)
      · rcases hnew2 g e with e | e
        · have := HNO.out g e; omega
        · omega
      · have e2 : g = x.bk := e
        have : x.bk < w.heap.size := HX.out.kb.facts.2.2
        omega)
    have HCL2 := hid hcl2
    have hgl2 : g < w2.heap.size := Nat.lt_of_lt_of_le hgl ht2.size
    clear hx2 hkb2 ht2 hnew2 hcl2 hd2 HSET
    rcases HD2.out with ⟨rfl, hsi, hin⟩ | ⟨rfl, hsn⟩
    · have SI := hid hsi
      have HEND := hid (hsi.end HF.out fun a ha => ⟨(HAL.out a ha).1, hin a ha⟩)
      have HXI2 := hid (HXI.out.again hsi.ws hsi.base hsi.rep)
      clear hsi hin HD2 hb1
      have HDEL := hid (deleted_any g x.n kc JJ K2 w2 SI.out.sk.tb.len hn hkc KB2.out)
      go_wp2_with fail
      with_reducible refine HDEL.out.mono ?_
      rintro e w3 ⟨v3, rfl, hnu, hb3⟩
      have HNU := hid hnu
      have T3 := hid hb3
      have X3 := hid (X2.out.turn hb3 (fun b hb e => HNW.out (.inl (e ▸ hb))))
      have BK3 := hid (HBK.out.turn hb3 (fun e => by have : x.bk < w.heap.size := HX.out.kb.facts.2.2; omega))
      have TT3 := hid (show Turn x.all (x.turned C2 rv2 W2).all w w3 from
        ⟨hb3.os.trans TU2.out.os, hb3.tape.trans TU2.out.tape, hb3.output.trans TU2.out.output, Nat.le_trans TU2.out.size hb3.size, fun b hb hno => by
          rw [hb3.block b (Nat.lt_of_lt_of_le hb TU2.out.size) (by omega), TU2.out.block b hb hno], TU2.out.new⟩)
      have hgl3 : g < w3.heap.size := Nat.lt_of_lt_of_le hgl2 hb3.size
      clear hnu hb3 HDEL
      go_wp2_with fail
      go_ret2
      exact ⟨C2, rv2, W2, ⟨X3.out, BK3.out, by show XI x.n F x.fl K C2 W2; rw [HFLX.out]; exact HXI2.out, by show C2.length ≤ _; rw [HCL2.out]; exact HX.out.cl⟩, TT3.out, .inl ⟨v3, K2, known K2, rfl, HEND.out.1, HEND.out.2.1, HEND.out.2.2, HNU.out.mono (fun _ _ => rfl) fun b hb => by rw [hb]; exact ⟨hgw, hgl3, HNW.out⟩⟩⟩
    · have HFA := hid hsn.fails
      have HXI2 := hid (HXI.out.again hsn.ws hsn.base hsn.rep)
      clear hsn HD2 hb1
      go_wp2_with fail
      go_ret2
      exact ⟨C2, rv2, W2, ⟨X2.out, HBK.out, by show XI x.n F x.fl K C2 W2; rw [HFLX.out]; exact HXI2.out, by show C2.length ≤ _; rw [HCL2.out]; exact HX.out.cl⟩, TU2.out, .inr ⟨rfl, HFA.out⟩⟩
end Go.Proofs.Ytbblgmkjgcjcaab
