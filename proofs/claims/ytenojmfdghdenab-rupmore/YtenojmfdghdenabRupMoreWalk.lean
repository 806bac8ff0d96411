/- RupMore returns true, of any formula, proof and clause that lie in memory; nothing that was there is changed. -/
import Derived.Test.YtenojmfdghdenabRupLaw
import Derived.Test.YtenojmfdghdenabRupConcat
namespace Go.Proofs.Ytenojmfdghdenab
open Go.RowKit Go.Lib

theorem crow_push {B : Nat} {S : Nat → Prop} {v v' u : Value} {xs : List (List Int)} {us : List Value} {c : List Int} {w w' : World} {o : Obj} (hB : B ≤ w.heap.size) (hS : ∀ b, S b → b < B) (h0 : us.length = xs.length) (hw : w.ownsRow B 38 1 v xs.length us) (hn : ∀ (i : Nat) c x, xs[i]? = some c → us[i]? = some x → NumsIs S w c x)
    (h1 : w'.ownsRow B 38 1 v' (xs.length + 1) (us ++ [u])) (h2 : (w.alloc o).grownBy w' v.ownBlock) (hu : NumsIs S w c u) : CRow B S v' (xs ++ [c]) w' ∧ Below B w w' := by
  have hb : Below B w w' := Below.grown ((Below.refl B w).alloc hB o) h2 (by have := alloc_size w o; omega) (fun g hg => (owns_lt hw hg).1)
  refine ⟨⟨us ++ [u], by simp [h0], by rw [List.length_append]; exact h1, fun i d y hd hy => ?_⟩, hb⟩
  by_cases hi : i < xs.length
  · rw [List.getElem?_append_left hi] at hd
    rw [List.getElem?_append_left (by omega)] at hy
    exact (hn i d y hd hy).keep hS hb
  · have hi2 : i = xs.length := by have := (List.getElem?_eq_some_iff.1 hd).1; simp at this; omega
    rw [hi2, List.getElem?_append_right (Nat.le_refl _), Nat.sub_self] at hd
    rw [hi2, ← h0, List.getElem?_append_right (Nat.le_refl _), Nat.sub_self] at hy
    cases hd; cases hy
    exact hu.keep hS hb
/-- What Refutes leaves, with the answer written out. -/
theorem RefDone.parts {vars : Int} {F P : List (List Int)} {w w' : World} {e : Ending} (h : RefDone vars F P w e w') : ∃ r : Bool, e = .returned (.tuple #[.bool r, .int .i64 (badE vars F P)]) ∧ Keep w w' ∧ (badE vars F P = 0 → (r = true ↔ Refut F P)) := by
  obtain ⟨k, ⟨h1, rfl⟩ | ⟨h1, r, rfl, h2⟩⟩ := h
  · exact ⟨false, rfl, k, fun e => absurd e h1⟩
  · exact ⟨r, by rw [h1], k, fun _ => h2⟩
theorem badE_self {vars : Int} {F P : List (List Int)} (h : badE vars F P = 0) : badE vars F F = 0 := by
  obtain ⟨n, rfl, h2, h3, h4, -, -⟩ := badE_zero h
  unfold badE
  rw [if_neg (by rw [formE_back h2 h3 h4]; simp)]
  unfold proofE
  rw [if_neg (by omega), if_neg (by omega), if_neg (by omega)]
  exact clausesE_zero.2 h4
theorem badE_both {vars : Int} {F P : List (List Int)} (h : badE vars F P = 0) : badE vars F (F ++ P) = 0 ∨ badE vars F (F ++ P) = 2 := by
  obtain ⟨n, rfl, h2, h3, h4, h5, h6⟩ := badE_zero h
  unfold badE
  rw [if_neg (by rw [formE_back h2 h3 h4]; simp)]
  unfold proofE
  rw [if_neg (by omega), if_neg (by omega)]
  by_cases hl : 40000 < (F ++ P).length
  · rw [if_pos hl]; exact .inr rfl
  · rw [if_neg hl]
    refine .inl (clausesE_zero.2 fun c hc => ?_)
    rcases List.mem_append.1 hc with hc | hc
    · exact h4 c hc
    · exact h6 c hc
theorem refut_more {F P : List (List Int)} {c : List Int} (h : Refut F P) : Refut (F ++ [c]) P := ⟨h.1.more fun _ hd => List.mem_append_left _ hd, h.2⟩
theorem refut_both {F P : List (List Int)} (h : Refut F P) : Refut F (F ++ P) := by
  refine ⟨allcome_append (fun _ h => h) h.1, ?_⟩
  rw [List.getLast?_append, h.2]; rfl
set_option maxHeartbeats 16000000 in
set_option maxRecDepth 100000 in
theorem rupMore_walk (S : Nat → Prop) (vars : Int) (F P : List (List Int)) (c : List Int) (p : Option Addr) (cap : Nat) (pp : Option Addr) (pc : Nat) (cv : Value) (w : World) (hS : ∀ b, S b → b < w.heap.size) (hf : FormIs S w vars F p cap) (hp : FormIs S w 0 P pp pc) (hc : NumsIs S w c cv) (hrc : ∀ x ∈ c, InR x) (hbF : F.length * 24 ≤ 140737488351232) :
    Calls Try.prog 7 #[.agg #[.int .i64 vars, .slice p F.length cap], .slice pp P.length pc, cv] w fun e w' => e = .returned (.bool true) ∧ Keep w w' := by
  obtain ⟨j0, hj, hy0, hy1, hy2⟩ := info_parts infoCl
  have HF := hid hf
  have HP := hid hp
  have HC := hid hc
  have HRC := hid hrc
  obtain ⟨cp, cc, rfl, hcl⟩ := hc.shape
  obtain ⟨_, _, hpp, hmax⟩ := hp.row.len
  clear hpp hf hp hc hrc
  go_enter Try.func7, Try.ntmps7
  go_wp2_with fail
  refine at_calls (fun W' => Keep w W' ∧ BoxAt w.heap.size 24 #[.int .i64 vars, .slice p F.length cap] W') ⟨Keep.alloc _ _, BoxAt.new _ _ _⟩ ?_
  rintro W0 ⟨k0, b0⟩
  refine (refutes_any S vars F P p cap pp pc W0 (fun b hb => Nat.lt_of_lt_of_le (hS b hb) k0.size) (HF.out.keep hS k0) (HP.out.keep hS k0)).mono ?_
  rintro e w1 hd
  obtain ⟨r1, rfl, k1, hr1⟩ := hd.parts
  have K1 := hid (k0.trans k1)
  have B1 := hid (b0.keep k1 b0.facts.2.2)
  have HR1 := hid hr1
  clear k0 b0 k1 hd hr1
  obtain ⟨hcb, -, hlb⟩ := B1.out.facts
  have hc0 : w1.cell? ⟨w.heap.size, 0, none⟩ = some (.int .i64 vars) := hcb 0
  have hc1 : w1.cell? ⟨w.heap.size, 1, none⟩ = some (.slice p F.length cap) := hcb 1
  clear hcb
  have HZ1 := hid (fun h : badE vars F P = 0 => And.intro (badE_self h) (badE_both h))
  generalize he1 : badE vars F P = e1 at HR1 HZ1 ⊢
  have HE1 := hid he1
  clear he1
  go_upto_region 3 with fail
  refine at_wp (fun W' => Keep w1 W' ∧ BoxAt w1.heap.size 24 #[.int .i64 vars, .slice p F.length cap] W' ∧ W'.heap.size = w1.heap.size + 1) ⟨Keep.alloc _ _, BoxAt.new _ _ _, alloc_size _ _⟩ ?_
  rintro W2 ⟨k2, g2, s2⟩
  have K2 := hid (K1.out.trans k2)
  have B2 := hid (B1.out.keep k2 B1.out.facts.2.2)
  have G2 := hid g2
  have HS2 := hid (fun b (hb : S b) => Nat.lt_of_lt_of_le (hS b hb) K2.out.size)
  clear hc0 hc1
  obtain ⟨hcb, -, hlb2⟩ := B2.out.facts
  have hc1 : W2.cell? ⟨w.heap.size, 1, none⟩ = some (.slice p F.length cap) := hcb 1
  have hgl2 := G2.out.facts.2.2
  have hww : w.heap.size < w1.heap.size := hlb
  generalize hbg : w1.heap.size = bg at G2 s2 hgl2 hww ⊢
  clear hcb g2 k2 hbg
  go_wp2_with fail
  refine (cloneC_any S F p cap W2 HS2.out (HF.out.keep hS K2.out).row (by omega)).mono ?_
  rintro e w3 ⟨v3, rfl, own3, k3⟩
  obtain ⟨us3, hul3, huo3, hun3⟩ := own3
  have HV3 := hid (And.intro hul3 (And.intro huo3 hun3))
  have K3 := hid (K2.out.trans k3)
  have G3 := hid (G2.out.keep k3 hgl2)
  have B3 := hid (B2.out.keep k3 hlb2)
  have HK23 := hid k3
  have HCW3 := hid (HC.out.keep hS K3.out)
  clear hul3 huo3 hun3 k3 hc1
  have hsz3 := HK23.out.size
  go_upto_region 4 with (at_builtin; refine wpList_append_own_at _ rfl _ _ 22 rfl W2.heap.size 38 j0 (.slice none 0 0) 1 24 Try.underlying22 hj hy0 hy1 hy2 rfl (by decide) v3 F.length us3 rfl (HV3.out.2.1.alloc _) ⟨w3.heap.size, 0, none⟩ 1 1 [.slice cp c.length cc] rfl rfl one_newsC one_cellC (by unfold maxLen; omega) (by omega) (by rw [alloc_size]; omega) ?_; intro v5 w5 h1 h2 _ h4; obtain ⟨g5, cap5, rfl⟩ := owns_shape h1 (Nat.succ_pos _); have H5 := hid (crow_push hsz3 HS2.out HV3.out.1 HV3.out.2.1 HV3.out.2.2 h1 h2 HCW3.out); have GB5 := hid (show BoxAt bg 24 #[.int .i64 vars, .slice p F.length cap] w5 from G3.out.keep H5.out.2 hgl2); obtain ⟨hgc5, hgf5, hgl5⟩ := GB5.out.facts; have hgc51 := hgc5 1; have hgf51 := hgf5 1; clear h1 h2 h4 hgc5 hgf5)
  have HQ := hid (show Keep w (w5.setCell ⟨bg, 1, none⟩ (.slice (some ⟨g5, 0, none⟩) (F.length + 1) cap5)) ∧ BoxAt w.heap.size 24 #[.int .i64 vars, .slice p F.length cap] (w5.setCell ⟨bg, 1, none⟩ (.slice (some ⟨g5, 0, none⟩) (F.length + 1) cap5)) ∧ BoxAt bg 24 #[.int .i64 vars, .slice (some ⟨g5, 0, none⟩) (F.length + 1) cap5] (w5.setCell ⟨bg, 1, none⟩ (.slice (some ⟨g5, 0, none⟩) (F.length + 1) cap5)) ∧ ClsIs (fun b => b < (w5.setCell ⟨bg, 1, none⟩ (.slice (some ⟨g5, 0, none⟩) (F.length + 1) cap5)).heap.size) (w5.setCell ⟨bg, 1, none⟩ (.slice (some ⟨g5, 0, none⟩) (F.length + 1) cap5)) (F ++ [c]) (.slice (some ⟨g5, 0, none⟩) (F.length + 1) cap5) from by
    obtain ⟨hrow, hbel⟩ := H5.out
    have hW25 : Below W2.heap.size W2 w5 := Below.trans HK23.out hbel
    have hK5 : Keep w w5 := Below.trans K2.out (Below.mono hW25 K2.out.size)
    have hso : ∀ b, b ≠ bg → (w5.setCell ⟨bg, 1, none⟩ (.slice (some ⟨g5, 0, none⟩) (F.length + 1) cap5)).heap[b]? = w5.heap[b]? := fun b hb => heap_setO _ _ _ _ hb
    have hg5 := hrow.in (g := g5) rfl
    refine ⟨Below.setCell hK5 (p := ⟨bg, 1, none⟩) (Nat.le_of_lt hww) _, ?_, GB5.out.set 1 _, ?_⟩
    · have h6 := B3.out.keep hbel hlb2
      unfold BoxAt at *
      rw [hso _ (by omega)]; exact h6
    · have h7 := hrow.cls
      have hl : (F ++ [c]).length = F.length + 1 := by simp
      refine h7.mono (fun q hq => World.cell?_of_block (w := w5) (hso _ ?_)) fun b hb => ?_
      · rcases hq with hq | hq
        · intro e
          have := hS _ hq
          omega
        · intro e
          have e2 := Option.some.inj hq
          have e3 : q.block = g5 := e2.symm
          omega
      · rw [size_setO]
        rcases hb with hb | hb
        · exact Nat.lt_of_lt_of_le (hS _ hb) hK5.size
        · have e2 := Option.some.inj hb
          have e3 : b = g5 := e2.symm
          omega)
  refine at_wp (fun W' => Keep w W' ∧ BoxAt w.heap.size 24 #[.int .i64 vars, .slice p F.length cap] W' ∧ BoxAt bg 24 #[.int .i64 vars, .slice (some ⟨g5, 0, none⟩) (F.length + 1) cap5] W' ∧ ClsIs (fun b => b < W'.heap.size) W' (F ++ [c]) (.slice (some ⟨g5, 0, none⟩) (F.length + 1) cap5)) ?_ ?_
  · exact HQ.out
  rintro W6 ⟨k6, b6, g6, c6⟩
  have K6 := hid k6
  have B6 := hid b6
  have G6 := hid g6
  have C6 := hid c6
  clear k6 b6 g6 c6 HQ H5 GB5 hgc51 hgf51 hgl5 hsz3 hlb2 hgl2 hlb s2
  obtain ⟨hgc, -, hgl6⟩ := G6.out.facts
  have hg0 : W6.cell? ⟨bg, 0, none⟩ = some (.int .i64 vars) := hgc 0
  have hg1 : W6.cell? ⟨bg, 1, none⟩ = some (.slice (some ⟨g5, 0, none⟩) (F.length + 1) cap5) := hgc 1
  clear hgc
  have HCALL := hid (show Calls Try.prog 22 #[.agg #[.int .i64 vars, .slice (some ⟨g5, 0, none⟩) (F.length + 1) cap5], .slice pp P.length pc] W6 _ from by
    have hl : (F ++ [c]).length = F.length + 1 := by simp
    have h := refutes_any (fun b => b < W6.heap.size) vars (F ++ [c]) P (some ⟨g5, 0, none⟩) cap5 pp pc W6 (fun _ h => h) ⟨by rw [hl]; exact C6.out, fun d hd => by
      rcases List.mem_append.1 hd with hd | hd
      · exact HF.out.num d hd
      · rw [List.mem_singleton.1 hd]; exact HRC.out⟩ ⟨(HP.out.row.keep hS K6.out).mono (fun _ _ => rfl) (fun b hb => Nat.lt_of_lt_of_le (hS b hb) K6.out.size), HP.out.num⟩
    rw [hl] at h
    exact h)
  go_wp2_with fail
  with_reducible refine HCALL.out.mono ?_
  rintro e w7 hd
  obtain ⟨r2, rfl, k7, hr2⟩ := hd.parts
  have K7 := hid (K6.out.trans k7)
  have B7 := hid (B6.out.keep k7 B6.out.facts.2.2)
  have HR2 := hid hr2
  clear k7 hd hr2 HCALL hg0 hg1
  generalize he2 : badE vars (F ++ [c]) P = e2 at HR2 ⊢
  have HE2 := hid he2
  clear he2
  go_wp2_with fail
  refine (refuted_any w7).mono ?_
  rintro e w8 ⟨rfl, k8⟩
  have K8 := hid (K7.out.trans k8)
  have B8 := hid (B7.out.keep k8 B7.out.facts.2.2)
  clear k8
  by_cases hz1 : e1 = 0
  rotate_left
  · have hz1' : (e1 != 0) = true := by simp [hz1]
    go_wp2_with fail
    refine (refuted_any w8).mono ?_
    rintro e w5 ⟨rfl, k5⟩
    have K5 := hid (K8.out.trans k5)
    clear k5
    go_wp2_with fail
    go_ret
    exact ⟨rfl, K5.out⟩
  have hz1' : (e1 != 0) = false := by simp [hz1]
  by_cases hz2 : e2 = 0
  rotate_left
  · have hz2' : (e2 != 0) = true := by simp [hz2]
    clear hz1
    go_wp2_with fail
    refine (refuted_any w8).mono ?_
    rintro e w5 ⟨rfl, k5⟩
    have K5 := hid (K8.out.trans k5)
    clear k5
    go_wp2_with fail
    go_ret
    exact ⟨rfl, K5.out⟩
  have hz2' : (e2 != 0) = false := by simp [hz2]
  have HB0 := hid (show badE vars F P = 0 from HE1.out.trans hz1)
  have hBF := HZ1.out hz1
  have HBF := hid hBF.1
  have HBB := hid hBF.2
  have HRR1 := hid (HR1.out hz1)
  have hno : r1 = true → r2 = true := fun h => (HR2.out hz2).2 (refut_more (HRR1.out.1 h))
  have HNO := hid hno
  clear hz1 hz2 hBF hno HZ1 HR1 HR2
  obtain ⟨hcb, -, hlb8⟩ := B8.out.facts
  have hc0 : w8.cell? ⟨w.heap.size, 0, none⟩ = some (.int .i64 vars) := hcb 0
  have hc1 : w8.cell? ⟨w.heap.size, 1, none⟩ = some (.slice p F.length cap) := hcb 1
  clear hcb
  cases r1 with
  | false =>
    have HBAD := hid (bad_any S vars F F p cap p cap w8 (fun b hb => Nat.lt_of_lt_of_le (hS b hb) K8.out.size) (HF.out.keep hS K8.out) ⟨(HF.out.keep hS K8.out).row, HF.out.num⟩)
    go_wp2_with fail
    with_reducible refine HBAD.out.mono ?_
    rintro e w9 ⟨k9, hd9⟩
    have K9 := hid (K8.out.trans k9)
    have B9 := hid (B8.out.keep k9 B8.out.facts.2.2)
    rcases hd9 with ⟨h, -⟩ | ⟨-, k, rfl, hk⟩
    · exact absurd HBF.out h
    obtain rfl : k = -1 := hk.one (.inl ⟨rfl, allcome_self F⟩)
    clear k9 hk HBAD hc0 hc1
    obtain ⟨hcb, -, hlb9⟩ := B9.out.facts
    have hc0 : w9.cell? ⟨w.heap.size, 0, none⟩ = some (.int .i64 vars) := hcb 0
    have hc1 : w9.cell? ⟨w.heap.size, 1, none⟩ = some (.slice p F.length cap) := hcb 1
    clear hcb
    have hkA : ∀ o : Obj, Keep w9 (w9.drew.alloc o) := fun o => (Keep.drew (Keep.refl w9)).alloc' o
    have hSA : ∀ o : Obj, (w9.drew.alloc o).cell? ⟨w.heap.size, 0, none⟩ = some (.int .i64 vars) ∧ (w9.drew.alloc o).cell? ⟨w.heap.size, 1, none⟩ = some (.slice p F.length cap) := fun o => ⟨((hkA o).cell (p := ⟨w.heap.size, 0, none⟩) hlb9).trans hc0, ((hkA o).cell (p := ⟨w.heap.size, 1, none⟩) hlb9).trans hc1⟩
    obtain ⟨n0, -, -, hFl, -, hPl, -⟩ := badE_zero HB0.out
    have HCAT := hid (show Calls Try.prog 28 #[.slice (some ⟨w9.heap.size, 0, none⟩) 2 2] (w9.alloc (.cells #[.slice p F.length cap, .slice pp P.length pc] 22)).drew _ from concat_any S w9.heap.size F P p cap pp pc (w9.drew.alloc (.cells #[.slice p F.length cap, .slice pp P.length pc] 22)) (fun b hb => Nat.lt_of_lt_of_le (hS b hb) (K9.out.trans (hkA _)).size) (BoxAt.new w9.drew _ _) (HF.out.keep hS (K9.out.trans (hkA _))).row (HP.out.keep hS (K9.out.trans (hkA _))).row (by omega))
    go_upto_region 12 with fail
    refine wp_region_held_drew (S := fun W' => W'.cell? ⟨w.heap.size, 0, none⟩ = some (.int .i64 vars) ∧ W'.cell? ⟨w.heap.size, 1, none⟩ = some (.slice p F.length cap)) (by kernel_rfl) ⟨hc0, hc1⟩ (fun hHeld => ?_)
    refine wpAnyH_take (i := 0) (v := ?_) rfl (by kernel_rfl) (by kernel_rfl) (by kernel_rfl) (fun _ _ _ h => h) (Or.inl ⟨by rfl, ?_⟩) (by assumption) ?_
    rotate_left
    · intro w hSw
      (try dsimp only at hSw)
      go_simp
      try with_reducible rfl
    simp only [Act.put, List.setIfInBounds_toArray, List.set_cons_zero, List.set_cons_succ, List.getElem_toArray, List.getElem_cons_zero]
    refine wpAnyH_take (i := 1) (v := ?_) rfl (by kernel_rfl) (by kernel_rfl) (by kernel_rfl) (fun _ _ _ h => h) (Or.inl ⟨by rfl, ?_⟩) (by assumption) ?_
    rotate_left
    · intro w hSw
      (try dsimp only at hSw)
      go_simp
      try with_reducible rfl
    simp only [Act.put, List.setIfInBounds_toArray, List.set_cons_zero, List.set_cons_succ, List.getElem_toArray, List.getElem_cons_zero, List.getElem_cons_succ]
    refine wpAnyH_take (i := 2) (v := ?_) rfl (by kernel_rfl) (by kernel_rfl) (by kernel_rfl) (fun _ _ _ h => h) (Or.inl ⟨by rfl, ?_⟩) (by assumption) ?_
    rotate_left
    · intro w hSw
      (try dsimp only at hSw)
      go_simp
      try with_reducible rfl
    simp only [Act.put, List.setIfInBounds_toArray, List.set_cons_zero, List.set_cons_succ, List.getElem_toArray, List.getElem_cons_zero, List.getElem_cons_succ]
    refine wpAnyH_take (i := 3) (v := ?_) rfl (by kernel_rfl) (by kernel_rfl) (by kernel_rfl) (fun _ _ _ h => h) (Or.inl ⟨by rfl, ?_⟩) (by assumption) ?_
    rotate_left
    · intro w hSw
      (try dsimp only at hSw)
      go_simp
      try with_reducible rfl
    simp only [Act.put, List.setIfInBounds_toArray, List.set_cons_zero, List.set_cons_succ, List.getElem_toArray, List.getElem_cons_zero, List.getElem_cons_succ]
    refine wpAnyH_ready (rs := [4]) (by kernel_rfl) (by simp) ?_
    refine AllReadyH.cons rfl (fun KK hK => ?_) AllReadyH.nil
    go_simp
    refine hK.out _ _ (hSA _) (fun hH4 => ?_)
    clear hK KK
    refine wpAnyH_ready (rs := [5]) (by kernel_rfl) (by simp) ?_
    refine AllReadyH.cons rfl (fun KK hK => ?_) AllReadyH.nil
    go_simp
    with_reducible refine HCAT.out.mono ?_
    rintro e wA ⟨vA, rfl, hrow, kA⟩
    have KA := hid (show Keep w9 wA from (hkA _).trans kA)
    have hsA : wA.cell? ⟨w.heap.size, 0, none⟩ = some (.int .i64 vars) ∧ wA.cell? ⟨w.heap.size, 1, none⟩ = some (.slice p F.length cap) := ⟨(KA.out.cell (p := ⟨w.heap.size, 0, none⟩) hlb9).trans hc0, (KA.out.cell (p := ⟨w.heap.size, 1, none⟩) hlb9).trans hc1⟩
    obtain ⟨aq, acap, hva⟩ := hrow.shape
    subst hva
    have HREF := hid (refutes_any (fun b => b < wA.heap.size) vars F (F ++ P) p cap aq acap wA (fun _ h => h) ⟨(HF.out.row.keep hS (K9.out.trans KA.out)).mono (fun _ _ => rfl) (fun b hb => Nat.lt_of_lt_of_le (hS b hb) (K9.out.trans KA.out).size), HF.out.num⟩ ⟨hrow.cls.mono (fun _ _ => rfl) (fun b hb => hb.elim (fun hb => Nat.lt_of_lt_of_le (hS b hb) (K9.out.trans KA.out).size) fun hb => (hrow.in hb).2), fun d hd => (List.mem_append.1 hd).elim (HF.out.num d) (HP.out.num d)⟩)
    rw [List.length_append] at HREF
    clear hrow kA
    refine hK.out _ _ hsA (fun hH5 => ?_)
    clear hK KK
    refine wpAnyH_ready (rs := [6]) (by kernel_rfl) (by simp) ?_
    refine AllReadyH.cons rfl (fun KK hK => ?_) AllReadyH.nil
    go_simp
    with_reducible refine HREF.out.mono ?_
    rintro e wB hd
    obtain ⟨r3, rfl, kB, hr3⟩ := hd.parts
    have KB := hid (K9.out.trans (KA.out.trans kB))
    have hsB : wB.cell? ⟨w.heap.size, 0, none⟩ = some (.int .i64 vars) ∧ wB.cell? ⟨w.heap.size, 1, none⟩ = some (.slice p F.length cap) := ⟨((KA.out.trans kB).cell (p := ⟨w.heap.size, 0, none⟩) hlb9).trans hc0, ((KA.out.trans kB).cell (p := ⟨w.heap.size, 1, none⟩) hlb9).trans hc1⟩
    have HR3 := hid hr3
    clear hd kB hr3
    have hb3 := HBB.out
    generalize badE vars F (F ++ P) = e3 at HR3 hb3 ⊢
    refine hK.out _ _ hsB (fun hH6 => ?_)
    clear hK KK
    refine wpAnyH_take (i := 7) (v := ?_) rfl (by kernel_rfl) (by kernel_rfl) (by kernel_rfl) (fun _ _ _ h => h) (Or.inl ⟨by rfl, ?_⟩) (by assumption) ?_
    rotate_left
    · intro w hSw
      (try dsimp only at hSw)
      go_simp
      try with_reducible rfl
    simp only [Act.put, List.setIfInBounds_toArray, List.set_cons_zero, List.set_cons_succ, List.getElem_toArray, List.getElem_cons_zero, List.getElem_cons_succ]
    refine wpAnyH_take (i := 8) (v := ?_) rfl (by kernel_rfl) (by kernel_rfl) (by kernel_rfl) (fun _ _ _ h => h) (Or.inl ⟨by rfl, ?_⟩) (by assumption) ?_
    rotate_left
    · intro w hSw
      (try dsimp only at hSw)
      go_simp
      try with_reducible rfl
    simp only [Act.put, List.setIfInBounds_toArray, List.set_cons_zero, List.set_cons_succ, List.getElem_toArray, List.getElem_cons_zero, List.getElem_cons_succ]
    refine wpAnyH_take (i := 9) (v := ?_) rfl (by kernel_rfl) (by kernel_rfl) (by kernel_rfl) (fun _ _ _ h => h) (Or.inl ⟨by rfl, ?_⟩) (by assumption) ?_
    rotate_left
    · intro w hSw
      (try dsimp only at hSw)
      go_simp
      try with_reducible rfl
    simp only [Act.put, List.setIfInBounds_toArray, List.set_cons_zero, List.set_cons_succ, List.getElem_toArray, List.getElem_cons_zero, List.getElem_cons_succ]
    refine wpAnyH_take (i := 10) (v := ?_) rfl (by kernel_rfl) (by kernel_rfl) (by kernel_rfl) (fun _ _ _ h => h) (Or.inl ⟨by rfl, ?_⟩) (by assumption) ?_
    rotate_left
    · intro w hSw
      (try dsimp only at hSw)
      go_simp
      try with_reducible rfl
    simp only [Act.put, List.setIfInBounds_toArray, List.set_cons_zero, List.set_cons_succ, List.getElem_toArray, List.getElem_cons_zero, List.getElem_cons_succ]
    refine wpAnyH_take (i := 11) (v := ?_) rfl (by kernel_rfl) (by kernel_rfl) (by kernel_rfl) (fun _ _ _ h => h) (Or.inl ⟨by rfl, ?_⟩) (by assumption) ?_
    rotate_left
    · intro w hSw
      (try dsimp only at hSw)
      go_simp
      try with_reducible rfl
    simp only [Act.put, List.setIfInBounds_toArray, List.set_cons_zero, List.set_cons_succ, List.getElem_toArray, List.getElem_cons_zero, List.getElem_cons_succ]
    refine wpAnyH_done (by kernel_rfl) ?_ _
    clear hHeld hH4 hH5 hH6 hsA hsB hSA hc0 hc1 HREF HCAT
    rcases hb3 with h3 | h3
    · subst h3
      go_wp2_with fail
      go_ret
      exact ⟨rfl, KB.out⟩
    · subst h3
      go_wp2_with fail
      go_ret
      exact ⟨rfl, KB.out⟩
  | true =>
    obtain rfl : r2 = true := HNO.out rfl
    have HBAD := hid (bad_any S vars F F p cap p cap w8 (fun b hb => Nat.lt_of_lt_of_le (hS b hb) K8.out.size) (HF.out.keep hS K8.out) ⟨(HF.out.keep hS K8.out).row, HF.out.num⟩)
    go_wp2_with fail
    with_reducible refine HBAD.out.mono ?_
    rintro e w9 ⟨k9, hd9⟩
    have K9 := hid (K8.out.trans k9)
    have B9 := hid (B8.out.keep k9 B8.out.facts.2.2)
    rcases hd9 with ⟨h, -⟩ | ⟨-, k, rfl, hk⟩
    · exact absurd HBF.out h
    obtain rfl : k = -1 := hk.one (.inl ⟨rfl, allcome_self F⟩)
    clear k9 hk HBAD hc0 hc1
    obtain ⟨hcb, -, hlb9⟩ := B9.out.facts
    have hc0 : w9.cell? ⟨w.heap.size, 0, none⟩ = some (.int .i64 vars) := hcb 0
    have hc1 : w9.cell? ⟨w.heap.size, 1, none⟩ = some (.slice p F.length cap) := hcb 1
    clear hcb
    have hkA : ∀ o : Obj, Keep w9 (w9.drew.alloc o) := fun o => (Keep.drew (Keep.refl w9)).alloc' o
    have hSA : ∀ o : Obj, (w9.drew.alloc o).cell? ⟨w.heap.size, 0, none⟩ = some (.int .i64 vars) ∧ (w9.drew.alloc o).cell? ⟨w.heap.size, 1, none⟩ = some (.slice p F.length cap) := fun o => ⟨((hkA o).cell (p := ⟨w.heap.size, 0, none⟩) hlb9).trans hc0, ((hkA o).cell (p := ⟨w.heap.size, 1, none⟩) hlb9).trans hc1⟩
    obtain ⟨n0, -, -, hFl, -, hPl, -⟩ := badE_zero HB0.out
    have HCAT := hid (show Calls Try.prog 28 #[.slice (some ⟨w9.heap.size, 0, none⟩) 2 2] (w9.alloc (.cells #[.slice p F.length cap, .slice pp P.length pc] 22)).drew _ from concat_any S w9.heap.size F P p cap pp pc (w9.drew.alloc (.cells #[.slice p F.length cap, .slice pp P.length pc] 22)) (fun b hb => Nat.lt_of_lt_of_le (hS b hb) (K9.out.trans (hkA _)).size) (BoxAt.new w9.drew _ _) (HF.out.keep hS (K9.out.trans (hkA _))).row (HP.out.keep hS (K9.out.trans (hkA _))).row (by omega))
    go_upto_region 12 with fail
    refine wp_region_held_drew (S := fun W' => W'.cell? ⟨w.heap.size, 0, none⟩ = some (.int .i64 vars) ∧ W'.cell? ⟨w.heap.size, 1, none⟩ = some (.slice p F.length cap)) (by kernel_rfl) ⟨hc0, hc1⟩ (fun hHeld => ?_)
    refine wpAnyH_take (i := 0) (v := ?_) rfl (by kernel_rfl) (by kernel_rfl) (by kernel_rfl) (fun _ _ _ h => h) (Or.inl ⟨by rfl, ?_⟩) (by assumption) ?_
    rotate_left
    · intro w hSw
      (try dsimp only at hSw)
      go_simp
      try with_reducible rfl
    simp only [Act.put, List.setIfInBounds_toArray, List.set_cons_zero, List.set_cons_succ, List.getElem_toArray, List.getElem_cons_zero]
    refine wpAnyH_take (i := 1) (v := ?_) rfl (by kernel_rfl) (by kernel_rfl) (by kernel_rfl) (fun _ _ _ h => h) (Or.inl ⟨by rfl, ?_⟩) (by assumption) ?_
    rotate_left
    · intro w hSw
      (try dsimp only at hSw)
      go_simp
      try with_reducible rfl
    simp only [Act.put, List.setIfInBounds_toArray, List.set_cons_zero, List.set_cons_succ, List.getElem_toArray, List.getElem_cons_zero, List.getElem_cons_succ]
    refine wpAnyH_take (i := 2) (v := ?_) rfl (by kernel_rfl) (by kernel_rfl) (by kernel_rfl) (fun _ _ _ h => h) (Or.inl ⟨by rfl, ?_⟩) (by assumption) ?_
    rotate_left
    · intro w hSw
      (try dsimp only at hSw)
      go_simp
      try with_reducible rfl
    simp only [Act.put, List.setIfInBounds_toArray, List.set_cons_zero, List.set_cons_succ, List.getElem_toArray, List.getElem_cons_zero, List.getElem_cons_succ]
    refine wpAnyH_take (i := 3) (v := ?_) rfl (by kernel_rfl) (by kernel_rfl) (by kernel_rfl) (fun _ _ _ h => h) (Or.inl ⟨by rfl, ?_⟩) (by assumption) ?_
    rotate_left
    · intro w hSw
      (try dsimp only at hSw)
      go_simp
      try with_reducible rfl
    simp only [Act.put, List.setIfInBounds_toArray, List.set_cons_zero, List.set_cons_succ, List.getElem_toArray, List.getElem_cons_zero, List.getElem_cons_succ]
    refine wpAnyH_ready (rs := [4]) (by kernel_rfl) (by simp) ?_
    refine AllReadyH.cons rfl (fun KK hK => ?_) AllReadyH.nil
    go_simp
    refine hK.out _ _ (hSA _) (fun hH4 => ?_)
    clear hK KK
    refine wpAnyH_ready (rs := [5]) (by kernel_rfl) (by simp) ?_
    refine AllReadyH.cons rfl (fun KK hK => ?_) AllReadyH.nil
    go_simp
    with_reducible refine HCAT.out.mono ?_
    rintro e wA ⟨vA, rfl, hrow, kA⟩
    have KA := hid (show Keep w9 wA from (hkA _).trans kA)
    have hsA : wA.cell? ⟨w.heap.size, 0, none⟩ = some (.int .i64 vars) ∧ wA.cell? ⟨w.heap.size, 1, none⟩ = some (.slice p F.length cap) := ⟨(KA.out.cell (p := ⟨w.heap.size, 0, none⟩) hlb9).trans hc0, (KA.out.cell (p := ⟨w.heap.size, 1, none⟩) hlb9).trans hc1⟩
    obtain ⟨aq, acap, hva⟩ := hrow.shape
    subst hva
    have HREF := hid (refutes_any (fun b => b < wA.heap.size) vars F (F ++ P) p cap aq acap wA (fun _ h => h) ⟨(HF.out.row.keep hS (K9.out.trans KA.out)).mono (fun _ _ => rfl) (fun b hb => Nat.lt_of_lt_of_le (hS b hb) (K9.out.trans KA.out).size), HF.out.num⟩ ⟨hrow.cls.mono (fun _ _ => rfl) (fun b hb => hb.elim (fun hb => Nat.lt_of_lt_of_le (hS b hb) (K9.out.trans KA.out).size) fun hb => (hrow.in hb).2), fun d hd => (List.mem_append.1 hd).elim (HF.out.num d) (HP.out.num d)⟩)
    rw [List.length_append] at HREF
    clear hrow kA
    refine hK.out _ _ hsA (fun hH5 => ?_)
    clear hK KK
    refine wpAnyH_ready (rs := [6]) (by kernel_rfl) (by simp) ?_
    refine AllReadyH.cons rfl (fun KK hK => ?_) AllReadyH.nil
    go_simp
    with_reducible refine HREF.out.mono ?_
    rintro e wB hd
    obtain ⟨r3, rfl, kB, hr3⟩ := hd.parts
    have KB := hid (K9.out.trans (KA.out.trans kB))
    have hsB : wB.cell? ⟨w.heap.size, 0, none⟩ = some (.int .i64 vars) ∧ wB.cell? ⟨w.heap.size, 1, none⟩ = some (.slice p F.length cap) := ⟨((KA.out.trans kB).cell (p := ⟨w.heap.size, 0, none⟩) hlb9).trans hc0, ((KA.out.trans kB).cell (p := ⟨w.heap.size, 1, none⟩) hlb9).trans hc1⟩
    have HR3 := hid hr3
    clear hd kB hr3
    have hb3 := HBB.out
    generalize badE vars F (F ++ P) = e3 at HR3 hb3 ⊢
    refine hK.out _ _ hsB (fun hH6 => ?_)
    clear hK KK
    refine wpAnyH_take (i := 7) (v := ?_) rfl (by kernel_rfl) (by kernel_rfl) (by kernel_rfl) (fun _ _ _ h => h) (Or.inl ⟨by rfl, ?_⟩) (by assumption) ?_
    rotate_left
    · intro w hSw
      (try dsimp only at hSw)
      go_simp
      try with_reducible rfl
    simp only [Act.put, List.setIfInBounds_toArray, List.set_cons_zero, List.set_cons_succ, List.getElem_toArray, List.getElem_cons_zero, List.getElem_cons_succ]
    refine wpAnyH_take (i := 8) (v := ?_) rfl (by kernel_rfl) (by kernel_rfl) (by kernel_rfl) (fun _ _ _ h => h) (Or.inl ⟨by rfl, ?_⟩) (by assumption) ?_
    rotate_left
    · intro w hSw
      (try dsimp only at hSw)
      go_simp
      try with_reducible rfl
    simp only [Act.put, List.setIfInBounds_toArray, List.set_cons_zero, List.set_cons_succ, List.getElem_toArray, List.getElem_cons_zero, List.getElem_cons_succ]
    refine wpAnyH_take (i := 9) (v := ?_) rfl (by kernel_rfl) (by kernel_rfl) (by kernel_rfl) (fun _ _ _ h => h) (Or.inl ⟨by rfl, ?_⟩) (by assumption) ?_
    rotate_left
    · intro w hSw
      (try dsimp only at hSw)
      go_simp
      try with_reducible rfl
    simp only [Act.put, List.setIfInBounds_toArray, List.set_cons_zero, List.set_cons_succ, List.getElem_toArray, List.getElem_cons_zero, List.getElem_cons_succ]
    refine wpAnyH_take (i := 10) (v := ?_) rfl (by kernel_rfl) (by kernel_rfl) (by kernel_rfl) (fun _ _ _ h => h) (Or.inl ⟨by rfl, ?_⟩) (by assumption) ?_
    rotate_left
    · intro w hSw
      (try dsimp only at hSw)
      go_simp
      try with_reducible rfl
    simp only [Act.put, List.setIfInBounds_toArray, List.set_cons_zero, List.set_cons_succ, List.getElem_toArray, List.getElem_cons_zero, List.getElem_cons_succ]
    refine wpAnyH_take (i := 11) (v := ?_) rfl (by kernel_rfl) (by kernel_rfl) (by kernel_rfl) (fun _ _ _ h => h) (Or.inl ⟨by rfl, ?_⟩) (by assumption) ?_
    rotate_left
    · intro w hSw
      (try dsimp only at hSw)
      go_simp
      try with_reducible rfl
    simp only [Act.put, List.setIfInBounds_toArray, List.set_cons_zero, List.set_cons_succ, List.getElem_toArray, List.getElem_cons_zero, List.getElem_cons_succ]
    refine wpAnyH_done (by kernel_rfl) ?_ _
    clear hHeld hH4 hH5 hH6 hsA hsB hSA hc0 hc1 HREF HCAT
    rcases hb3 with h3 | h3
    · subst h3
      obtain rfl : r3 = true := (HR3.out rfl).2 (refut_both (HRR1.out.1 (by trivial)))
      go_wp2_with fail
      go_ret
      exact ⟨rfl, KB.out⟩
    · subst h3
      go_wp2_with fail
      go_ret
      exact ⟨rfl, KB.out⟩
end Go.Proofs.Ytenojmfdghdenab
