/- SatTells returns true, of any formula and model that lie in memory; nothing that was there is changed. -/
import Derived.Test.YtbblgmkjgcjcaabSatSolved
namespace Go.Proofs.Ytbblgmkjgcjcaab
open Go.RowKit Go.Lib

theorem proofE_back {n : Nat} {P : List (List Int)} (hn : n ≤ 400) (hP : P.length ≤ 40000) (h : ∀ c ∈ P, c.length ≤ 60 ∧ LitsC n c) : proofE n P = 0 := by
  unfold proofE
  rw [if_neg (by omega), if_neg (by omega), if_neg (by omega)]
  exact clausesE_zero.2 h
theorem badE_back {n : Nat} {F P : List (List Int)} (hf : formE n F = 0) (hn : n ≤ 400) (hP : P.length ≤ 40000) (h : ∀ c ∈ P, c.length ≤ 60 ∧ LitsC n c) : badE n F P = 0 := by
  unfold badE
  rw [if_neg (by simp [hf])]
  exact proofE_back hn hP h
theorem holds_iff {n : Nat} {F : List (List Int)} {m : List Bool} (hf : formE n F = 0) : (holdsE n F m = 0 ∧ holdsB n F m = true) ↔ Mod n F m := by
  have he : holdsE n F m = if (m.length : Int) ≠ n then 4 else 0 := by unfold holdsE; rw [if_neg (by simp [hf])]
  have ha : (F.all fun c => c.any (inM m)) = true ↔ ∀ c ∈ F, ∃ x ∈ c, inM m x = true := by
    rw [List.all_eq_true]
    constructor
    · intro h c hc
      exact List.any_eq_true.1 (h c hc)
    · intro h c hc
      exact List.any_eq_true.2 (h c hc)
  unfold holdsB Mod
  rw [he]
  by_cases hl : (m.length : Int) = n
  · rw [if_neg (by simp [hl])]
    simp only [beq_self_eq_true, Bool.true_and, true_and]
    rw [ha]
    exact ⟨fun h => ⟨by omega, h⟩, fun h => h.2⟩
  · rw [if_pos hl]
    simp
    intro h; omega
/-- At the first place where they differ the least one is false. -/
theorem lex_diff {m o : List Bool} {j : Nat} (h : LexLe m o) (ht : m.take j = o.take j) (hne : m.getD j false ≠ o.getD j false) : m.getD j false = false := by
  rcases h with rfl | ⟨i, h1, h2, h3, h4⟩
  · exact absurd rfl hne
  · rcases Nat.lt_trichotomy i j with e | e | e
    · have h5 : (m.take j).getD i false = (o.take j).getD i false := by rw [ht]
      simp only [List.getD_eq_getElem?_getD, List.getElem?_take, if_pos e] at h5
      rw [List.getD_eq_getElem?_getD] at h3 h4
      rw [h3, h4] at h5
      cases h5
    · rw [← e]; exact h3
    · exact absurd (h2 j e) hne

set_option maxHeartbeats 8000000 in
set_option maxRecDepth 100000 in
theorem satTells_walk (S : Nat → Prop) (vars : Int) (F : List (List Int)) (o : List Bool) (p : Option Addr) (cap : Nat) (ov : Value) (w : World) (hS : ∀ b, S b → b < w.heap.size) (hf : FormIs S w vars F p cap) (ho : BoolsIs S w o ov) :
    Calls Try.prog 9 #[.agg #[.int .i64 vars, .slice p F.length cap], ov] w fun e w' => e = .returned (.bool true) ∧ Keep w w' := by
  have HF := hid hf
  have HO := hid ho
  obtain ⟨op, oc, rfl, hol⟩ := ho.shape
  clear hf ho
  go_enter Try.func9, Try.ntmps9
  go_wp2_with fail
  refine at_calls (fun W' => Keep w W' ∧ BoxAt w.heap.size 24 #[.int .i64 vars, .slice p F.length cap] W') ⟨Keep.alloc _ _, BoxAt.new _ _ _⟩ ?_
  rintro W0 ⟨k0, b0⟩
  refine (solve_any S vars F p cap 3000 W0 (fun b hb => Nat.lt_of_lt_of_le (hS b hb) k0.size) (HF.out.keep hS k0)).mono ?_
  rintro e w1 ⟨k1, mv, pv, rfl, hm, hp⟩
  have HOK := hid (fun h : (solA vars F 3000).er = 0 => solA_ok h)
  generalize solA vars F 3000 = a at hm hp HOK ⊢
  obtain ⟨er, m, P⟩ := a
  dsimp only at hm hp HOK ⊢
  have HM1 := hid hm
  have HP1 := hid hp
  obtain ⟨mp, mc, rfl, hml⟩ := hm.shape
  obtain ⟨pp, pc, rfl, hpl⟩ := hp.len
  have K1 := hid (k0.trans k1)
  have B1 := hid (b0.keep k1 b0.facts.2.2)
  have L0 := hid k0.size
  clear k0 b0 k1 hm hp
  go_upto_region 2 with fail
  refine at_wp (fun W' => Keep w1 W' ∧ BoxAt w1.heap.size 53 #[.slice mp m.length mc, .slice pp P.length pc] W') ⟨Keep.alloc _ _, BoxAt.new _ _ _⟩ ?_
  rintro W1 ⟨k2, b2⟩
  have KW := hid (K1.out.trans k2)
  have BF := hid (B1.out.keep k2 B1.out.facts.2.2)
  have BA := hid b2
  have MW := hid ((HM1.out.keep (B := w1.heap.size) (fun b hb => hb.2) k2).mono (S' := fun b => w.heap.size ≤ b ∧ b < W1.heap.size) (fun _ _ => rfl) fun b hb => ⟨Nat.le_trans L0.out hb.1, Nat.lt_of_lt_of_le hb.2 k2.size⟩)
  have PW := hid ((HP1.out.keep (B := w1.heap.size) (fun b hb => hb.2) k2).mono (S' := fun b => w.heap.size ≤ b ∧ b < W1.heap.size) (fun _ _ => rfl) fun b hb => ⟨Nat.le_trans L0.out hb.1, Nat.lt_of_lt_of_le hb.2 k2.size⟩)
  clear k2 b2 HM1 HP1 K1 B1 L0
  generalize w1.heap.size = ba at BA ⊢
  go_wp2_with fail
  refine (solved_any W1).mono ?_
  rintro e w2 ⟨rfl, k2⟩
  have K2 := hid k2
  clear k2
  by_cases her : er = 0
  rotate_left
  · have her' : (er != 0) = true := by simp [her]
    clear her
    go_wp2_with fail
    refine (solved_any w2).mono ?_
    rintro e w3 ⟨rfl, k3⟩
    have K3 := hid (KW.out.trans (K2.out.trans k3))
    clear k3
    go_wp2_with fail
    go_ret
    exact ⟨rfl, K3.out⟩
  subst her
  obtain ⟨n, hvn, hn4, hFl, hcl, hfe, hans⟩ := HOK.out rfl
  subst hvn
  have HANS := hid hans
  have HCL := hid hcl
  have HFE := hid hfe
  clear hans hcl hfe HOK
  have KX := hid (KW.out.trans K2.out)
  have BF2 := hid (BF.out.keep K2.out BF.out.facts.2.2)
  have BA2 := hid (BA.out.keep K2.out BA.out.facts.2.2)
  obtain ⟨hcb, -, hlb⟩ := BF2.out.facts
  have hc0 : w2.cell? ⟨w.heap.size, 0, none⟩ = some (.int .i64 (n : Int)) := hcb 0
  have hc1 : w2.cell? ⟨w.heap.size, 1, none⟩ = some (.slice p F.length cap) := hcb 1
  clear hcb
  go_wp2_with fail
  refine (holds_any S n F p cap o _ w2 (fun b hb => Nat.lt_of_lt_of_le (hS b hb) KX.out.size) (HF.out.keep hS KX.out) (HO.out.keep hS KX.out)).mono ?_
  rintro e w3 ⟨rfl, k3⟩
  have KY := hid (KX.out.trans k3)
  have BF3 := hid (BF2.out.keep k3 BF2.out.facts.2.2)
  have BA3 := hid (BA2.out.keep k3 BA2.out.facts.2.2)
  have MW3 := hid (MW.out.keep (B := W1.heap.size) (fun b hb => hb.2) (K2.out.trans k3))
  have PW3 := hid (PW.out.keep (B := W1.heap.size) (fun b hb => hb.2) (K2.out.trans k3))
  have L3 := hid (K2.out.trans k3).size
  clear k3 hc0 hc1 MW PW BF BA BF2 BA2 KX
  have HHO := hid (holds_iff (m := o) HFE.out)
  generalize holdsE n F o = he at HHO ⊢
  generalize holdsB n F o = hb at HHO ⊢
  obtain ⟨hcb, -, hlb3⟩ := BF3.out.facts
  have hc0 : w3.cell? ⟨w.heap.size, 0, none⟩ = some (.int .i64 (n : Int)) := hcb 0
  have hc1 : w3.cell? ⟨w.heap.size, 1, none⟩ = some (.slice p F.length cap) := hcb 1
  obtain ⟨hca, -, hla3⟩ := BA3.out.facts
  have ha0 : w3.cell? ⟨ba, 0, none⟩ = some (.slice mp m.length mc) := hca 0
  have ha1 : w3.cell? ⟨ba, 1, none⟩ = some (.slice pp P.length pc) := hca 1
  clear hcb hca
  have HSS := hid (show ∀ b, (S b ∨ (w.heap.size ≤ b ∧ b < W1.heap.size)) → b < w3.heap.size from fun b hb => hb.elim (fun h => Nat.lt_of_lt_of_le (hS b h) KY.out.size) fun h => Nat.lt_of_lt_of_le h.2 L3.out)
  have HFW := hid (show FormIs (fun b => S b ∨ (w.heap.size ≤ b ∧ b < W1.heap.size)) w3 n F p cap from ⟨(HF.out.keep hS KY.out).row.mono (fun _ _ => rfl) fun _ h => .inl h, HF.out.num⟩)
  rcases HANS.out with ⟨h1, h2, h3⟩ | ⟨h1, h2, h3, h4, h5, h6⟩
  rotate_left
  · have hPl : (0 : Int) < (P.length : Int) := by
      have h1 : P ≠ [] := h1
      have := List.length_pos_iff.2 h1
      omega
    have h2 : m = [] := h2
    subst h2
    have HBE := hid (show badE n F P = 0 from badE_back HFE.out hn4 h4 h5)
    have HRF := hid (show Refut F P from h3)
    have HNO := hid (show ∀ o, ¬ Mod n F o from h6)
    have HPN := hid (lits_num (n := n) (by omega) (show ∀ c ∈ P, c.length ≤ 60 ∧ LitsC n c from h5))
    clear h1 h3 h4 h5 h6 HANS
    go_wp2_with fail
    refine (refutes_any (fun b => S b ∨ (w.heap.size ≤ b ∧ b < W1.heap.size)) n F P p cap pp pc w3 HSS.out HFW.out ⟨PW3.out.mono (fun _ _ => rfl) fun _ h => .inr h, HPN.out⟩).mono ?_
    rintro e w4 ⟨k4, hd⟩
    have K4 := hid (KY.out.trans k4)
    have BA4 := hid (BA3.out.keep k4 BA3.out.facts.2.2)
    rcases hd with ⟨hbad, -⟩ | ⟨-, r, rfl, hr⟩
    · exact absurd HBE.out hbad
    obtain rfl : r = true := hr.2 HRF.out
    clear k4 hr ha0 ha1 hc0 hc1
    obtain ⟨hca, -, hla4⟩ := BA4.out.facts
    have ha0 : w4.cell? ⟨ba, 0, none⟩ = some (.slice mp 0 mc) := hca 0
    clear hca
    by_cases hhe : he = 0
    · subst hhe
      cases hb with
      | true => exact absurd (HHO.out.1 ⟨rfl, rfl⟩) (HNO.out o)
      | false =>
        go_wp2_with fail
        go_ret
        exact ⟨rfl, K4.out⟩
    · have hhe' : (he != 0) = true := by simp [hhe]
      clear hhe
      cases hb
      all_goals
        go_wp2_with fail
        go_ret
        exact ⟨rfl, K4.out⟩
  have h1 : P = [] := h1
  subst h1
  have HMO := hid (show Mod n F m from h2)
  have HLE := hid (show ∀ o, Mod n F o → LexLe m o from h3)
  clear h2 h3 HANS
  have HH2 := hid ((holds_iff HFE.out).2 HMO.out)
  go_wp2_with fail
  refine (holds_any (fun b => S b ∨ (w.heap.size ≤ b ∧ b < W1.heap.size)) n F p cap m (.slice mp m.length mc) w3 HSS.out HFW.out (MW3.out.mono (fun _ _ => rfl) fun _ h => .inr h)).mono ?_
  rintro e w4 ⟨rfl, k4⟩
  rw [HH2.out.1, HH2.out.2]
  have K4 := hid (KY.out.trans k4)
  have BA4 := hid (BA3.out.keep k4 BA3.out.facts.2.2)
  have MW4 := hid (MW3.out.keep (B := w3.heap.size) (fun b hb => Nat.lt_of_lt_of_le hb.2 L3.out) k4)
  have L4 := hid (Nat.le_trans L3.out k4.size)
  clear k4 ha0 ha1 hc0 hc1
  obtain ⟨hca, -, hla4⟩ := BA4.out.facts
  have ha0 : w4.cell? ⟨ba, 0, none⟩ = some (.slice mp m.length mc) := hca 0
  clear hca
  by_cases hhe : he = 0
  rotate_left
  · have hhe' : (he != 0) = true := by simp [hhe]
    clear hhe
    cases hb
    all_goals
      go_wp2_with fail
      go_ret
      exact ⟨rfl, K4.out⟩
  subst hhe
  cases hb with
  | false =>
    go_wp2_with fail
    go_ret
    exact ⟨rfl, K4.out⟩
  | true =>
    have HMOO := hid (HHO.out.1 ⟨rfl, rfl⟩)
    have HLX := hid (HLE.out o HMOO.out)
    have hlen : m.length = o.length := HMO.out.1.trans HMOO.out.1.symm
    have HLN := hid hlen
    clear hlen
    go_wp2_with fail
    go_loopg [4, 84] m.length (fun gk rv iv wr => ∃ j : Nat, j + gk = m.length ∧ rv = .bool false ∧ iv = .int .i64 j ∧ m.take j = o.take j ∧ wr = w4)
    case atStart => exact ⟨0, by omega, rfl, rfl, rfl, rfl⟩
    case round =>
      obtain ⟨j, hj, rfl, rfl, ht, hw⟩ := hrel
      subst hw
      have HT := hid ht
      clear ht
      by_cases hlt : j < m.length
      · have hlt2 : j < o.length := by have := HLN.out; omega
        obtain ⟨mb, mo, hmp, hmb, hmc⟩ := MW4.out.cellD hlt
        obtain ⟨ob, oo, hop, hob, hoc⟩ := (HO.out.keep hS K4.out).cellD hlt2
        subst hmp hop
        have hmbl : mb < wr.heap.size := Nat.lt_of_lt_of_le hmb.2 L4.out
        have hobl : ob < wr.heap.size := Nat.lt_of_lt_of_le (hS ob hob) K4.out.size
        have hjI : (j : Int) < (m.length : Int) := by omega
        have hjI2 : (j : Int) < (o.length : Int) := by omega
        have HTK := hid (show m[j] = o[j] → m.take (j + 1) = o.take (j + 1) from fun e => by rw [List.take_succ_eq_append_getElem hlt, List.take_succ_eq_append_getElem hlt2, HT.out, e])
        have HDF := hid (show m[j] ≠ o[j] → m[j] = false from fun hn => by
          have e1 : m.getD j false = m[j] := by simp [List.getD_eq_getElem?_getD, hlt]
          have e2 : o.getD j false = o[j] := by simp [List.getD_eq_getElem?_getD, hlt2]
          rw [← e1]
          exact lex_diff HLX.out HT.out (by rw [e1, e2]; exact hn))
        generalize m[j] = x at hmc HTK HDF
        generalize o[j] = y at hoc HTK HDF
        cases x <;> cases y
        case true.false => exact absurd (HDF.out (by decide)) (by decide)
        case false.true =>
          go_wp2_with fail
          go_ret
          exact ⟨rfl, K4.out⟩
        all_goals
          have HN := hid (HTK.out rfl)
          go_wp2_with fail
          go_roundg (m.length - (j + 1))
          case rel => exact ⟨j + 1, by omega, rfl, by go_num, HN.out, rfl⟩
          case measure => omega
      · obtain rfl : j = m.length := by omega
        go_wp2_with fail
        go_ret
        exact ⟨rfl, K4.out⟩
end Go.Proofs.Ytbblgmkjgcjcaab
