/- RupSound returns true, of any formula, proof and model that lie in memory; nothing that was there is changed. -/
import Derived.Test.YtbblgmkjgcjcaabRupLaw
namespace Go.Proofs.Ytbblgmkjgcjcaab
open Go.RowKit Go.Lib

theorem holdsB_iff {vars : Int} {F : List (List Int)} {m : List Bool} (h : holdsE vars F m = 0) : holdsB vars F m = true ↔ ∀ c ∈ F, ∃ x ∈ c, inM m x = true := by
  unfold holdsB
  rw [h]
  simp [List.all_eq_true, List.any_eq_true]
theorem holdsE_zero {vars : Int} {F : List (List Int)} {m : List Bool} (h : holdsE vars F m = 0) : formE vars F = 0 ∧ (m.length : Int) = vars := by
  unfold holdsE at h
  split at h
  · rename_i h1; exact absurd h h1
  · rename_i h1
    split at h
    · cases h
    · rename_i h2; exact ⟨Decidable.byContradiction h1, Decidable.byContradiction h2⟩
/-- Of a proof the first clauses. -/
theorem FormIs.take {S : Nat → Prop} {w : World} {vars vars' : Int} {P : List (List Int)} {p : Option Addr} {cap : Nat} (h : FormIs S w vars P p cap) {k : Nat} (hk : k ≤ P.length) : FormIs S w vars' (P.take k) p cap := by
  have hl : (P.take k).length = k := by rw [List.length_take]; omega
  refine ⟨?_, fun c hc => h.num c (List.mem_of_mem_take hc)⟩
  rw [hl]
  rcases h.row with ⟨e, q, c, e2⟩ | ⟨b, off, c, e, h1, h2, h3⟩
  · subst e
    have : k = 0 := by simpa using hk
    subst this
    exact .inl ⟨rfl, _, _, rfl⟩
  · injection e with e1 e2 e3
    subst e1 e3
    refine .inr ⟨b, off, cap, by rw [hl], ⟨h1.1, by omega⟩, by omega, fun j d hd => h3 j d ?_⟩
    rw [List.getElem?_take] at hd
    split at hd
    · exact hd
    · cases hd

set_option maxHeartbeats 8000000 in
set_option maxRecDepth 100000 in
theorem rupSound_walk (S : Nat → Prop) (vars : Int) (F P : List (List Int)) (m : List Bool) (p : Option Addr) (cap : Nat) (pp : Option Addr) (pc : Nat) (mv : Value) (w : World) (hS : ∀ b, S b → b < w.heap.size) (hf : FormIs S w vars F p cap) (hp : FormIs S w 0 P pp pc) (hm : BoolsIs S w m mv) :
    Calls Try.prog 6 #[.agg #[.int .i64 vars, .slice p F.length cap], .slice pp P.length pc, mv] w fun e w' => e = .returned (.bool true) ∧ Keep w w' := by
  have HF := hid hf
  have HP := hid hp
  have HM := hid hm
  obtain ⟨_, _, hpp, hmax⟩ := hp.row.len
  obtain ⟨mp, mc, rfl, hml⟩ := hm.shape
  have hpc : P.length ≤ pc ∨ P.length = 0 := by
    rcases hp.row with ⟨e, -⟩ | ⟨b, off, c, e, h1, -⟩
    · right; rw [e]; rfl
    · injection e with e1 e2 e3; left; rw [e3]; exact h1.2
  clear hpp hf hp hm
  go_enter Try.func6, Try.ntmps6
  go_wp2_with fail
  refine at_calls (fun W' => Keep w W' ∧ BoxAt w.heap.size 24 #[.int .i64 vars, .slice p F.length cap] W') ⟨Keep.alloc _ _, BoxAt.new _ _ _⟩ ?_
  rintro W0 ⟨k0, b0⟩
  refine (holds_any S vars F p cap m _ W0 (fun b hb => Nat.lt_of_lt_of_le (hS b hb) k0.size) (HF.out.keep hS k0) (HM.out.keep hS k0)).mono ?_
  rintro e w1 ⟨rfl, k1⟩
  have K1 := hid (k0.trans k1)
  have B1 := hid (b0.keep k1 b0.facts.2.2)
  clear k0 b0 k1
  obtain ⟨hcb, -, hlb⟩ := B1.out.facts
  have hc0 : w1.cell? ⟨w.heap.size, 0, none⟩ = some (.int .i64 vars) := hcb 0
  have hc1 : w1.cell? ⟨w.heap.size, 1, none⟩ = some (.slice p F.length cap) := hcb 1
  clear hcb
  have HHB := hid (fun h : holdsE vars F m = 0 => And.intro (holdsE_zero h) (holdsB_iff h))
  generalize holdsE vars F m = e1 at HHB ⊢
  generalize holdsB vars F m = h1 at HHB ⊢
  go_wp2_with fail
  refine (bad_any S vars F P p cap pp pc w1 (fun b hb => Nat.lt_of_lt_of_le (hS b hb) K1.out.size) (HF.out.keep hS K1.out) (HP.out.keep hS K1.out)).mono ?_
  rintro e w2 ⟨k2, hd2⟩
  have K2 := hid (K1.out.trans k2)
  have B2 := hid (B1.out.keep k2 B1.out.facts.2.2)
  obtain ⟨e2, kk, rfl, hBAD⟩ : ∃ (e2 kk : Int), e = .returned (.tuple #[.int .i64 kk, .int .i64 e2]) ∧ (e2 = 0 → badE vars F P = 0 ∧ BadAt F P kk) := by
    rcases hd2 with ⟨h, rfl⟩ | ⟨h, k, rfl, hk⟩
    · exact ⟨_, _, rfl, fun e => absurd e h⟩
    · exact ⟨_, _, rfl, fun _ => ⟨h, hk⟩⟩
  have HBAD := hid hBAD
  clear k2 hd2 hBAD hc0 hc1
  obtain ⟨hcb, -, hlb2⟩ := B2.out.facts
  have hc0 : w2.cell? ⟨w.heap.size, 0, none⟩ = some (.int .i64 vars) := hcb 0
  have hc1 : w2.cell? ⟨w.heap.size, 1, none⟩ = some (.slice p F.length cap) := hcb 1
  clear hcb
  go_wp2_with fail
  refine (refutes_any S vars F P p cap pp pc w2 (fun b hb => Nat.lt_of_lt_of_le (hS b hb) K2.out.size) (HF.out.keep hS K2.out) (HP.out.keep hS K2.out)).mono ?_
  rintro e w3 ⟨k3, hd3⟩
  have K3 := hid (K2.out.trans k3)
  have B3 := hid (B2.out.keep k3 B2.out.facts.2.2)
  obtain ⟨e3, rr, rfl, hREF⟩ : ∃ (e3 : Int) (rr : Bool), e = .returned (.tuple #[.bool rr, .int .i64 e3]) ∧ (e3 = 0 → (rr = true → Refut F P)) := by
    rcases hd3 with ⟨h, rfl⟩ | ⟨h, r, rfl, hr⟩
    · exact ⟨_, _, rfl, fun e => absurd e h⟩
    · exact ⟨_, _, rfl, fun _ => hr.1⟩
  have HREF := hid hREF
  clear k3 hd3 hREF hc0 hc1
  obtain ⟨hcb, -, hlb3⟩ := B3.out.facts
  have hc0 : w3.cell? ⟨w.heap.size, 0, none⟩ = some (.int .i64 vars) := hcb 0
  clear hcb
  go_wp2_with fail
  refine (refuted_any w3).mono ?_
  rintro e w4 ⟨rfl, k4⟩
  have K4 := hid (K3.out.trans k4)
  have B4 := hid (B3.out.keep k4 B3.out.facts.2.2)
  clear k4 hc0
  obtain ⟨hcb, -, hlb4⟩ := B4.out.facts
  have hc0 : w4.cell? ⟨w.heap.size, 0, none⟩ = some (.int .i64 vars) := hcb 0
  clear hcb
  by_cases hz1 : e1 = 0
  rotate_left
  · have hz1' : (e1 != 0) = true := by simp [hz1]
    go_wp2_with fail
    refine (refuted_any w4).mono ?_
    rintro e w5 ⟨rfl, k5⟩
    have K5 := hid (K4.out.trans k5)
    clear k5
    go_wp2_with fail
    go_ret
    exact ⟨rfl, K5.out⟩
  have hz1' : (e1 != 0) = false := by simp [hz1]
  by_cases hz2 : e2 = 0
  rotate_left
  · have hz2' : (e2 != 0) = true := by simp [hz2]
    clear hz1
    go_wp2_with fail
    refine (refuted_any w4).mono ?_
    rintro e w5 ⟨rfl, k5⟩
    have K5 := hid (K4.out.trans k5)
    clear k5
    go_wp2_with fail
    go_ret
    exact ⟨rfl, K5.out⟩
  have hz2' : (e2 != 0) = false := by simp [hz2]
  by_cases hz3 : e3 = 0
  rotate_left
  · have hz3' : (e3 != 0) = true := by simp [hz3]
    clear hz1 hz2
    go_wp2_with fail
    refine (refuted_any w4).mono ?_
    rintro e w5 ⟨rfl, k5⟩
    have K5 := hid (K4.out.trans k5)
    clear k5
    go_wp2_with fail
    go_ret
    exact ⟨rfl, K5.out⟩
  have hz3' : (e3 != 0) = false := by simp [hz3]
  cases h1 with
  | false =>
    clear hz1 hz2 hz3
    go_wp2_with fail
    refine (refuted_any w4).mono ?_
    rintro e w5 ⟨rfl, k5⟩
    have K5 := hid (K4.out.trans k5)
    clear k5
    go_wp2_with fail
    go_ret
    exact ⟨rfl, K5.out⟩
  | true =>
    have hH := HHB.out hz1
    have hB := HBAD.out hz2
    have hR := HREF.out hz3
    obtain ⟨n, hvn, hn4, hFl, hcl, hPl, hpcl⟩ := badE_zero hB.1
    have hM := hH.2.1 rfl
    have hrr : rr = false := by
      cases rr with
      | false => rfl
      | true => exact absurd (hR rfl) (refut_none (fun c hc => (hcl c hc).2) (fun c hc => (hpcl c hc).2) hM)
    subst hrr
    -- the part of the proof that comes at once
    obtain ⟨q, hq, hqk⟩ : ∃ q : Nat, q ≤ P.length ∧ ((kk < 0 ∧ q = P.length ∧ AllCome F P q) ∨ (0 ≤ kk ∧ kk = q ∧ AllCome F P q)) := by
      rcases hB.2 with ⟨e, h⟩ | ⟨i, c, e, hc, -, h⟩
      · exact ⟨P.length, Nat.le_refl _, .inl ⟨by omega, rfl, h⟩⟩
      · have := (List.getElem?_eq_some_iff.1 hc).1
        exact ⟨i, by omega, .inr ⟨by omega, e, h⟩⟩
    have hall : AllCome F P q := hqk.elim (fun h => h.2.2) fun h => h.2.2
    have hqI : min (q : Int) 4000 = ((min q 4000 : Nat) : Int) := by omega
    have hmq : min q 4000 ≤ P.length := by omega
    have HPART := hid (show holdsE vars (P.take (min q 4000)) m = 0 ∧ holdsB vars (P.take (min q 4000)) m = true from by
      have e1 : formE vars (P.take (min q 4000)) = 0 := by
        rw [hvn]
        exact formE_back hn4 (by rw [List.length_take]; omega) fun c hc => hpcl c (List.mem_of_mem_take hc)
      have e2 : holdsE vars (P.take (min q 4000)) m = 0 := by
        unfold holdsE
        rw [if_neg (by rw [e1]; simp), if_neg (by have := hH.1.2; simp [this])]
      refine ⟨e2, (holdsB_iff e2).2 fun c hc => ?_⟩
      refine all_holds (fun c hc => (hcl c hc).2) (fun c hc => (hpcl c hc).2) hM q hq hall c ?_
      exact (List.take_subset_take_left P (by omega : min q 4000 ≤ q)) hc)
    have HTAKE := hid (show FormIs S w vars (P.take (min q 4000)) pp pc from HP.out.take hmq)
    have hlt2 : (P.take (min q 4000)).length = min q 4000 := by rw [List.length_take]; omega
    obtain ⟨mq, hmqe⟩ : ∃ mq : Nat, min q 4000 = mq := ⟨_, rfl⟩
    rw [hmqe] at HPART HTAKE hqI hmq hlt2
    have HCALL := hid (show Calls Try.prog 11 #[.agg #[.int .i64 vars, .slice pp mq pc], .slice mp m.length mc] w4.drew _ from by
      have h5 := holds_any S vars (P.take mq) pp pc m (.slice mp m.length mc) w4.drew (fun b hb => Nat.lt_of_lt_of_le (hS b hb) (K4.out.trans (Keep.drew (Keep.refl _))).size) (HTAKE.out.keep hS (K4.out.trans (Keep.drew (Keep.refl _)))) (HM.out.keep hS (K4.out.trans (Keep.drew (Keep.refl _))))
      rw [hlt2] at h5
      exact h5)
    have hmpc : mq ≤ pc := by omega
    have hmpI : (mq : Int) ≤ (pc : Int) := by omega
    have hm0 : (0 : Int) ≤ (mq : Int) := by omega
    have hq63 : (q : Int) ≤ 9223372036854775807 := by omega
    have HALL := hid hall
    clear hH hB hR hvn hn4 hFl hcl hPl hpcl hM hall hz1 hz2 hz3 hlt2
    rcases hqk with ⟨hk0, hkq, -⟩ | ⟨hk0, hkq, -⟩
    · subst hkq
      clear hq
      go_upto_region 8 with fail
      refine wp_region_held_drew (S := fun W' => W'.cell? ⟨w.heap.size, 0, none⟩ = some (.int .i64 vars)) (by kernel_rfl) hc0 (fun hHeld => ?_)
      refine wpAnyH_take (i := 0) (v := ?_) rfl (by kernel_rfl) (by kernel_rfl) (by kernel_rfl) (fun _ _ _ h => h) (Or.inl ⟨by rfl, ?_⟩) (by assumption) ?_
      rotate_left
      · intro w hSw
        (try dsimp only at hSw)
        go_simp
        try with_reducible rfl
      simp only [Act.put, List.setIfInBounds_toArray, List.set_cons_zero, List.set_cons_succ, List.getElem_toArray, List.getElem_cons_zero]
      refine wpAnyH_take (i := 1) (v := ?_) rfl (by kernel_rfl) (by kernel_rfl) (by kernel_rfl) (fun _ _ _ h => h) (Or.inl ⟨by rfl, ?_⟩) (by assumption) ?_
      rotate_left
      · intro w hSw
        (try dsimp only at hSw)
        go_simp
        try with_reducible rfl
      simp only [Act.put, List.setIfInBounds_toArray, List.set_cons_zero, List.set_cons_succ, List.getElem_toArray, List.getElem_cons_zero, List.getElem_cons_succ]
      refine wpAnyH_take (i := 2) (v := ?_) rfl (by kernel_rfl) (by kernel_rfl) (by kernel_rfl) (fun _ _ _ h => h) (Or.inl ⟨by rfl, ?_⟩) (by assumption) ?_
      rotate_left
      · intro w hSw
        (try dsimp only at hSw)
        go_simp
        try with_reducible rfl
      simp only [Act.put, List.setIfInBounds_toArray, List.set_cons_zero, List.set_cons_succ, List.getElem_toArray, List.getElem_cons_zero, List.getElem_cons_succ]
      refine wpAnyH_take (i := 3) (v := ?_) rfl (by kernel_rfl) (by kernel_rfl) (by kernel_rfl) (fun _ _ _ h => h) (Or.inl ⟨by rfl, ?_⟩) (by assumption) ?_
      rotate_left
      · intro w hSw
        (try dsimp only at hSw)
        go_simp
        try with_reducible rfl
      simp only [Act.put, List.setIfInBounds_toArray, List.set_cons_zero, List.set_cons_succ, List.getElem_toArray, List.getElem_cons_zero, List.getElem_cons_succ]
      refine wpAnyH_take (i := 4) (v := ?_) rfl (by kernel_rfl) (by kernel_rfl) (by kernel_rfl) (fun _ _ _ h => h) (Or.inl ⟨by rfl, ?_⟩) (by assumption) ?_
      rotate_left
      · intro w hSw
        (try dsimp only at hSw)
        go_simp
        try with_reducible rfl
      simp only [Act.put, List.setIfInBounds_toArray, List.set_cons_zero, List.set_cons_succ, List.getElem_toArray, List.getElem_cons_zero, List.getElem_cons_succ]
      refine wpAnyH_take (i := 5) (v := ?_) rfl (by kernel_rfl) (by kernel_rfl) (by kernel_rfl) (fun _ _ _ h => h) (Or.inl ⟨by rfl, ?_⟩) (by assumption) ?_
      rotate_left
      · intro w hSw
        (try dsimp only at hSw)
        go_simp
        try with_reducible rfl
      simp only [Act.put, List.setIfInBounds_toArray, List.set_cons_zero, List.set_cons_succ, List.getElem_toArray, List.getElem_cons_zero, List.getElem_cons_succ]
      refine wpAnyH_take (i := 6) (v := ?_) rfl (by kernel_rfl) (by kernel_rfl) (by kernel_rfl) (fun _ _ _ h => h) (Or.inl ⟨by rfl, ?_⟩) (by assumption) ?_
      rotate_left
      · intro w hSw
        (try dsimp only at hSw)
        go_simp
        try with_reducible rfl
      simp only [Act.put, List.setIfInBounds_toArray, List.set_cons_zero, List.set_cons_succ, List.getElem_toArray, List.getElem_cons_zero, List.getElem_cons_succ]
      refine wpAnyH_take (i := 7) (v := ?_) rfl (by kernel_rfl) (by kernel_rfl) (by kernel_rfl) (fun _ _ _ h => h) (Or.inl ⟨by rfl, ?_⟩) (by assumption) ?_
      rotate_left
      · intro w hSw
        (try dsimp only at hSw)
        go_simp
        try with_reducible rfl
      simp only [Act.put, List.setIfInBounds_toArray, List.set_cons_zero, List.set_cons_succ, List.getElem_toArray, List.getElem_cons_zero, List.getElem_cons_succ]
      refine wpAnyH_ready (rs := [8]) (by kernel_rfl) (by simp) ?_
      refine AllReadyH.cons rfl (fun KK hK => ?_) AllReadyH.nil
      go_simp
      with_reducible refine HCALL.out.mono ?_
      rintro e w5 ⟨rfl, k5⟩
      have K5 := hid (K4.out.trans ((Keep.drew (Keep.refl w4)).trans k5))
      have hc5 : w5.cell? ⟨w.heap.size, 0, none⟩ = some (.int .i64 vars) := (((Keep.drew (Keep.refl w4)).trans k5).cell (p := ⟨w.heap.size, 0, none⟩) hlb4).trans hc0
      rw [HPART.out.1, HPART.out.2]
      refine hK.out _ _ hc5 (fun hH8 => ?_)
      clear hK KK k5
      refine wpAnyH_take (i := 9) (v := ?_) rfl (by kernel_rfl) (by kernel_rfl) (by kernel_rfl) (fun _ _ _ h => h) (Or.inl ⟨by rfl, ?_⟩) (by assumption) ?_
      rotate_left
      · intro w hSw
        (try dsimp only at hSw)
        go_simp
        try with_reducible rfl
      simp only [Act.put, List.setIfInBounds_toArray, List.set_cons_zero, List.set_cons_succ, List.getElem_toArray, List.getElem_cons_zero, List.getElem_cons_succ]
      refine wpAnyH_take (i := 10) (v := ?_) rfl (by kernel_rfl) (by kernel_rfl) (by kernel_rfl) (fun _ _ _ h => h) (Or.inl ⟨by rfl, ?_⟩) (by assumption) ?_
      rotate_left
      · intro w hSw
        (try dsimp only at hSw)
        go_simp
        try with_reducible rfl
      simp only [Act.put, List.setIfInBounds_toArray, List.set_cons_zero, List.set_cons_succ, List.getElem_toArray, List.getElem_cons_zero, List.getElem_cons_succ]
      refine wpAnyH_take (i := 11) (v := ?_) rfl (by kernel_rfl) (by kernel_rfl) (by kernel_rfl) (fun _ _ _ h => h) (Or.inl ⟨by rfl, ?_⟩) (by assumption) ?_
      rotate_left
      · intro w hSw
        (try dsimp only at hSw)
        go_simp
        try with_reducible rfl
      simp only [Act.put, List.setIfInBounds_toArray, List.set_cons_zero, List.set_cons_succ, List.getElem_toArray, List.getElem_cons_zero, List.getElem_cons_succ]
      refine wpAnyH_take (i := 12) (v := ?_) rfl (by kernel_rfl) (by kernel_rfl) (by kernel_rfl) (fun _ _ _ h => h) (Or.inl ⟨by rfl, ?_⟩) (by assumption) ?_
      rotate_left
      · intro w hSw
        (try dsimp only at hSw)
        go_simp
        try with_reducible rfl
      simp only [Act.put, List.setIfInBounds_toArray, List.set_cons_zero, List.set_cons_succ, List.getElem_toArray, List.getElem_cons_zero, List.getElem_cons_succ]
      refine wpAnyH_take (i := 13) (v := ?_) rfl (by kernel_rfl) (by kernel_rfl) (by kernel_rfl) (fun _ _ _ h => h) (Or.inl ⟨by rfl, ?_⟩) (by assumption) ?_
      rotate_left
      · intro w hSw
        (try dsimp only at hSw)
        go_simp
        try with_reducible rfl
      simp only [Act.put, List.setIfInBounds_toArray, List.set_cons_zero, List.set_cons_succ, List.getElem_toArray, List.getElem_cons_zero, List.getElem_cons_succ]
      refine wpAnyH_done (by kernel_rfl) ?_ _
      clear hHeld hH8 hc5 hc0
      go_wp2_with fail
      go_ret
      exact ⟨rfl, K5.out⟩
    · subst hkq
      clear hq
      go_upto_region 8 with fail
      refine wp_region_held_drew (S := fun W' => W'.cell? ⟨w.heap.size, 0, none⟩ = some (.int .i64 vars)) (by kernel_rfl) hc0 (fun hHeld => ?_)
      refine wpAnyH_take (i := 0) (v := ?_) rfl (by kernel_rfl) (by kernel_rfl) (by kernel_rfl) (fun _ _ _ h => h) (Or.inl ⟨by rfl, ?_⟩) (by assumption) ?_
      rotate_left
      · intro w hSw
        (try dsimp only at hSw)
        go_simp
        try with_reducible rfl
      simp only [Act.put, List.setIfInBounds_toArray, List.set_cons_zero, List.set_cons_succ, List.getElem_toArray, List.getElem_cons_zero]
      refine wpAnyH_take (i := 1) (v := ?_) rfl (by kernel_rfl) (by kernel_rfl) (by kernel_rfl) (fun _ _ _ h => h) (Or.inl ⟨by rfl, ?_⟩) (by assumption) ?_
      rotate_left
      · intro w hSw
        (try dsimp only at hSw)
        go_simp
        try with_reducible rfl
      simp only [Act.put, List.setIfInBounds_toArray, List.set_cons_zero, List.set_cons_succ, List.getElem_toArray, List.getElem_cons_zero, List.getElem_cons_succ]
      refine wpAnyH_take (i := 2) (v := ?_) rfl (by kernel_rfl) (by kernel_rfl) (by kernel_rfl) (fun _ _ _ h => h) (Or.inl ⟨by rfl, ?_⟩) (by assumption) ?_
      rotate_left
      · intro w hSw
        (try dsimp only at hSw)
        go_simp
        try with_reducible rfl
      simp only [Act.put, List.setIfInBounds_toArray, List.set_cons_zero, List.set_cons_succ, List.getElem_toArray, List.getElem_cons_zero, List.getElem_cons_succ]
      refine wpAnyH_take (i := 3) (v := ?_) rfl (by kernel_rfl) (by kernel_rfl) (by kernel_rfl) (fun _ _ _ h => h) (Or.inl ⟨by rfl, ?_⟩) (by assumption) ?_
      rotate_left
      · intro w hSw
        (try dsimp only at hSw)
        go_simp
        try with_reducible rfl
      simp only [Act.put, List.setIfInBounds_toArray, List.set_cons_zero, List.set_cons_succ, List.getElem_toArray, List.getElem_cons_zero, List.getElem_cons_succ]
      refine wpAnyH_take (i := 4) (v := ?_) rfl (by kernel_rfl) (by kernel_rfl) (by kernel_rfl) (fun _ _ _ h => h) (Or.inl ⟨by rfl, ?_⟩) (by assumption) ?_
      rotate_left
      · intro w hSw
        (try dsimp only at hSw)
        go_simp
        try with_reducible rfl
      simp only [Act.put, List.setIfInBounds_toArray, List.set_cons_zero, List.set_cons_succ, List.getElem_toArray, List.getElem_cons_zero, List.getElem_cons_succ]
      refine wpAnyH_take (i := 5) (v := ?_) rfl (by kernel_rfl) (by kernel_rfl) (by kernel_rfl) (fun _ _ _ h => h) (Or.inl ⟨by rfl, ?_⟩) (by assumption) ?_
      rotate_left
      · intro w hSw
        (try dsimp only at hSw)
        go_simp
        try with_reducible rfl
      simp only [Act.put, List.setIfInBounds_toArray, List.set_cons_zero, List.set_cons_succ, List.getElem_toArray, List.getElem_cons_zero, List.getElem_cons_succ]
      refine wpAnyH_take (i := 6) (v := ?_) rfl (by kernel_rfl) (by kernel_rfl) (by kernel_rfl) (fun _ _ _ h => h) (Or.inl ⟨by rfl, ?_⟩) (by assumption) ?_
      rotate_left
      · intro w hSw
        (try dsimp only at hSw)
        go_simp
        try with_reducible rfl
      simp only [Act.put, List.setIfInBounds_toArray, List.set_cons_zero, List.set_cons_succ, List.getElem_toArray, List.getElem_cons_zero, List.getElem_cons_succ]
      refine wpAnyH_take (i := 7) (v := ?_) rfl (by kernel_rfl) (by kernel_rfl) (by kernel_rfl) (fun _ _ _ h => h) (Or.inl ⟨by rfl, ?_⟩) (by assumption) ?_
      rotate_left
      · intro w hSw
        (try dsimp only at hSw)
        go_simp
        try with_reducible rfl
      simp only [Act.put, List.setIfInBounds_toArray, List.set_cons_zero, List.set_cons_succ, List.getElem_toArray, List.getElem_cons_zero, List.getElem_cons_succ]
      refine wpAnyH_ready (rs := [8]) (by kernel_rfl) (by simp) ?_
      refine AllReadyH.cons rfl (fun KK hK => ?_) AllReadyH.nil
      go_simp
      with_reducible refine HCALL.out.mono ?_
      rintro e w5 ⟨rfl, k5⟩
      have K5 := hid (K4.out.trans ((Keep.drew (Keep.refl w4)).trans k5))
      have hc5 : w5.cell? ⟨w.heap.size, 0, none⟩ = some (.int .i64 vars) := (((Keep.drew (Keep.refl w4)).trans k5).cell (p := ⟨w.heap.size, 0, none⟩) hlb4).trans hc0
      rw [HPART.out.1, HPART.out.2]
      refine hK.out _ _ hc5 (fun hH8 => ?_)
      clear hK KK k5
      refine wpAnyH_take (i := 9) (v := ?_) rfl (by kernel_rfl) (by kernel_rfl) (by kernel_rfl) (fun _ _ _ h => h) (Or.inl ⟨by rfl, ?_⟩) (by assumption) ?_
      rotate_left
      · intro w hSw
        (try dsimp only at hSw)
        go_simp
        try with_reducible rfl
      simp only [Act.put, List.setIfInBounds_toArray, List.set_cons_zero, List.set_cons_succ, List.getElem_toArray, List.getElem_cons_zero, List.getElem_cons_succ]
      refine wpAnyH_take (i := 10) (v := ?_) rfl (by kernel_rfl) (by kernel_rfl) (by kernel_rfl) (fun _ _ _ h => h) (Or.inl ⟨by rfl, ?_⟩) (by assumption) ?_
      rotate_left
      · intro w hSw
        (try dsimp only at hSw)
        go_simp
        try with_reducible rfl
      simp only [Act.put, List.setIfInBounds_toArray, List.set_cons_zero, List.set_cons_succ, List.getElem_toArray, List.getElem_cons_zero, List.getElem_cons_succ]
      refine wpAnyH_take (i := 11) (v := ?_) rfl (by kernel_rfl) (by kernel_rfl) (by kernel_rfl) (fun _ _ _ h => h) (Or.inl ⟨by rfl, ?_⟩) (by assumption) ?_
      rotate_left
      · intro w hSw
        (try dsimp only at hSw)
        go_simp
        try with_reducible rfl
      simp only [Act.put, List.setIfInBounds_toArray, List.set_cons_zero, List.set_cons_succ, List.getElem_toArray, List.getElem_cons_zero, List.getElem_cons_succ]
      refine wpAnyH_take (i := 12) (v := ?_) rfl (by kernel_rfl) (by kernel_rfl) (by kernel_rfl) (fun _ _ _ h => h) (Or.inl ⟨by rfl, ?_⟩) (by assumption) ?_
      rotate_left
      · intro w hSw
        (try dsimp only at hSw)
        go_simp
        try with_reducible rfl
      simp only [Act.put, List.setIfInBounds_toArray, List.set_cons_zero, List.set_cons_succ, List.getElem_toArray, List.getElem_cons_zero, List.getElem_cons_succ]
      refine wpAnyH_take (i := 13) (v := ?_) rfl (by kernel_rfl) (by kernel_rfl) (by kernel_rfl) (fun _ _ _ h => h) (Or.inl ⟨by rfl, ?_⟩) (by assumption) ?_
      rotate_left
      · intro w hSw
        (try dsimp only at hSw)
        go_simp
        try with_reducible rfl
      simp only [Act.put, List.setIfInBounds_toArray, List.set_cons_zero, List.set_cons_succ, List.getElem_toArray, List.getElem_cons_zero, List.getElem_cons_succ]
      refine wpAnyH_done (by kernel_rfl) ?_ _
      clear hHeld hH8 hc5 hc0
      go_wp2_with fail
      go_ret
      exact ⟨rfl, K5.out⟩
end Go.Proofs.Ytbblgmkjgcjcaab
