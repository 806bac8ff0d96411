/- RupSays returns true, of any formula, proof and number that lie in memory; nothing that was there is changed. -/
import Derived.Test.YtenojmfdghdenabRupRef
import Derived.Test.YtenojmfdghdenabRupBadOf
namespace Go.Proofs.Ytenojmfdghdenab
open Go.RowKit Go.Lib

/-- What Bad leaves, with the answer written out. -/
theorem BadDone.parts {vars : Int} {F P : List (List Int)} {w w' : World} {e : Ending} (h : BadDone vars F P w e w') : ∃ k : Int, e = .returned (.tuple #[.int .i64 k, .int .i64 (badE vars F P)]) ∧ Keep w w' ∧ (badE vars F P ≠ 0 → k = 0) ∧ (badE vars F P = 0 → BadAt F P k) := by
  obtain ⟨k, ⟨h1, rfl⟩ | ⟨h1, i, rfl, h2⟩⟩ := h
  · exact ⟨0, rfl, k, fun _ => rfl, fun e => absurd e h1⟩
  · exact ⟨i, by rw [h1], k, fun e => absurd h1 e, fun _ => h2⟩
theorem RefDone.whole {vars : Int} {F P : List (List Int)} {w w' : World} {e : Ending} (h : RefDone vars F P w e w') : ∃ r : Bool, e = .returned (.tuple #[.bool r, .int .i64 (badE vars F P)]) ∧ Keep w w' ∧ (badE vars F P ≠ 0 → r = false) ∧ (badE vars F P = 0 → (r = true ↔ Refut F P)) := by
  obtain ⟨k, ⟨h1, rfl⟩ | ⟨h1, r, rfl, h2⟩⟩ := h
  · exact ⟨false, rfl, k, fun _ => rfl, fun e => absurd e h1⟩
  · exact ⟨r, by rw [h1], k, fun e => absurd h1 e, fun _ => h2⟩

set_option maxHeartbeats 16000000 in
set_option maxRecDepth 100000 in
theorem rupSays_walk (S : Nat → Prop) (x0 : Int) (F P : List (List Int)) (vars : Int) (p : Option Addr) (cap : Nat) (pp : Option Addr) (pc : Nat) (w : World) (hS : ∀ b, S b → b < w.heap.size) (hf : FormIs S w x0 F p cap) (hp : FormIs S w 0 P pp pc) :
    Calls Try.prog 5 #[.agg #[.int .i64 x0, .slice p F.length cap], .slice pp P.length pc, .int .i64 vars] w fun e w' => e = .returned (.bool true) ∧ Keep w w' := by
  have HF := hid hf
  have HP := hid hp
  obtain ⟨_, _, hpp, hmax⟩ := hp.row.len
  clear hpp hf hp
  go_enter Try.func5, Try.ntmps5
  go_wp2_with fail
  refine at_calls (fun W' => Keep w W' ∧ BoxAt w.heap.size 24 #[.int .i64 x0, .slice p F.length cap] W') ⟨Keep.alloc _ _, BoxAt.new _ _ _⟩ ?_
  rintro W0 ⟨k0, b0⟩
  refine (bad_any S x0 F P p cap pp pc W0 (fun b hb => Nat.lt_of_lt_of_le (hS b hb) k0.size) (HF.out.keep hS k0) (HP.out.keep hS k0)).mono ?_
  rintro e w1 hd
  obtain ⟨kk, rfl, k1, hk0, hkB⟩ := hd.parts
  have K1 := hid (k0.trans k1)
  have B1 := hid (b0.keep k1 b0.facts.2.2)
  have HK0 := hid hk0
  have HKB := hid hkB
  clear k0 b0 k1 hd hk0 hkB
  obtain ⟨hcb, -, hlb⟩ := B1.out.facts
  have hc0 : w1.cell? ⟨w.heap.size, 0, none⟩ = some (.int .i64 x0) := hcb 0
  have hc1 : w1.cell? ⟨w.heap.size, 1, none⟩ = some (.slice p F.length cap) := hcb 1
  clear hcb
  go_wp2_with fail
  refine (refutes_any S x0 F P p cap pp pc w1 (fun b hb => Nat.lt_of_lt_of_le (hS b hb) K1.out.size) (HF.out.keep hS K1.out) (HP.out.keep hS K1.out)).mono ?_
  rintro e w2 hd
  obtain ⟨rr, rfl, k2, hr0, hrR⟩ := hd.whole
  have K2 := hid (K1.out.trans k2)
  have B2 := hid (B1.out.keep k2 B1.out.facts.2.2)
  have HR0 := hid hr0
  have HRR := hid hrR
  clear k2 hd hr0 hrR hc0 hc1
  obtain ⟨hcb, -, hlb2⟩ := B2.out.facts
  have hc0 : w2.cell? ⟨w.heap.size, 0, none⟩ = some (.int .i64 x0) := hcb 0
  have hc1 : w2.cell? ⟨w.heap.size, 1, none⟩ = some (.slice p F.length cap) := hcb 1
  clear hcb
  go_wp2_with fail
  refine (refFormula_any S x0 F p cap w2 (fun b hb => Nat.lt_of_lt_of_le (hS b hb) K2.out.size) (HF.out.keep hS K2.out)).mono ?_
  rintro e w3 ⟨rfl, hw3⟩
  have k3 : Keep w2 w3 := by rw [hw3]; exact Keep.alloc _ _
  have K3 := hid (K2.out.trans k3)
  have B3 := hid (B2.out.keep k3 B2.out.facts.2.2)
  clear hw3 k3 hc0 hc1
  obtain ⟨hcb, -, hlb3⟩ := B3.out.facts
  have hc0 : w3.cell? ⟨w.heap.size, 0, none⟩ = some (.int .i64 x0) := hcb 0
  have hc1 : w3.cell? ⟨w.heap.size, 1, none⟩ = some (.slice p F.length cap) := hcb 1
  clear hcb
  have HBE := hid (show badE x0 F P = if formE x0 F ≠ 0 then formE x0 F else proofE x0 P from rfl)
  have HBZ := hid (fun h : badE x0 F P = 0 => badE_zero h)
  generalize hbe : badE x0 F P = be at HK0 HKB HR0 HRR HBE HBZ ⊢
  clear hbe
  generalize formE x0 F = fe at HBE ⊢
  by_cases hfe : fe = 0
  rotate_left
  · have hfe' : (fe == 0) = false := beq_eq_false_iff_ne.2 hfe
    obtain rfl : be = fe := HBE.out.trans (if_pos hfe)
    have hz : be ≠ 0 := hfe
    clear hfe
    have hbb : (be != be) = false := by simp
    go_wp2_with fail
    refine (refuted_any w3).mono ?_
    rintro e w5 ⟨rfl, k5⟩
    have K5 := hid (K3.out.trans k5)
    have B5 := hid (B3.out.keep k5 B3.out.facts.2.2)
    clear k5 hc0 hc1
    go_wp2_with fail
    refine (rupCheck_any S vars P pp pc w5 (fun b hb => Nat.lt_of_lt_of_le (hS b hb) K5.out.size) (HP.out.keep hS K5.out)).mono ?_
    rintro e w6 ⟨rfl, hw6⟩
    rw [hw6]
    clear hw6
    have HRP := hid (refProof_any S vars P pp pc w5 (fun b hb => Nat.lt_of_lt_of_le (hS b hb) K5.out.size) (HP.out.keep hS K5.out))
    generalize proofE vars P = pe at HRP ⊢
    have hpe : (pe != pe) = false := by simp
    go_wp2_with fail
    refine HRP.out.mono ?_
    rintro e w7 ⟨rfl, hw7⟩
    rw [hw7]
    clear hw7 HRP
    have hz' : (be != 0) = true := by simp; exact hz
    obtain rfl : kk = 0 := HK0.out hz
    obtain rfl : rr = false := HR0.out hz
    clear hz
    go_wp2_with fail
    go_ret
    exact ⟨rfl, K5.out⟩
  have hfe' : (fe == 0) = true := by rw [hfe]; rfl
  have HBE2 := hid (show be = proofE x0 P from HBE.out.trans (if_neg (by simp [hfe])))
  clear hfe HBE
  go_wp2_with fail
  refine (refProof_any S x0 P pp pc w3 (fun b hb => Nat.lt_of_lt_of_le (hS b hb) K3.out.size) (HP.out.keep hS K3.out)).mono ?_
  rintro e w4 ⟨rfl, hw4⟩
  rw [hw4, ← HBE2.out]
  clear hw4 HBE2
  have hbb : (be != be) = false := by simp
  go_wp2_with fail
  refine (refuted_any w3).mono ?_
  rintro e w5 ⟨rfl, k5⟩
  have K5 := hid (K3.out.trans k5)
  have B5 := hid (B3.out.keep k5 B3.out.facts.2.2)
  clear k5 hc0 hc1
  go_wp2_with fail
  refine (rupCheck_any S vars P pp pc w5 (fun b hb => Nat.lt_of_lt_of_le (hS b hb) K5.out.size) (HP.out.keep hS K5.out)).mono ?_
  rintro e w6 ⟨rfl, hw6⟩
  rw [hw6]
  clear hw6
  have HRP := hid (refProof_any S vars P pp pc w5 (fun b hb => Nat.lt_of_lt_of_le (hS b hb) K5.out.size) (HP.out.keep hS K5.out))
  generalize proofE vars P = pe at HRP ⊢
  have hpe : (pe != pe) = false := by simp
  go_wp2_with fail
  refine HRP.out.mono ?_
  rintro e w7 ⟨rfl, hw7⟩
  rw [hw7]
  clear hw7 HRP
  by_cases hz : be = 0
  rotate_left
  · skip
    have hz' : (be != 0) = true := by simp; exact hz
    obtain rfl : kk = 0 := HK0.out hz
    obtain rfl : rr = false := HR0.out hz
    clear hz
    go_wp2_with fail
    go_ret
    exact ⟨rfl, K5.out⟩
  subst hz
  obtain ⟨n, hxn, hn4, hFl, hcl, hPl, hpcl⟩ := HBZ.out (by trivial)
  have HBA := hid (HKB.out (by trivial))
  have HRF := hid (HRR.out (by trivial))
  obtain ⟨hcb, -, hlb5⟩ := B5.out.facts
  have hc0 : w5.cell? ⟨w.heap.size, 0, none⟩ = some (.int .i64 x0) := hcb 0
  have hc1 : w5.cell? ⟨w.heap.size, 1, none⟩ = some (.slice p F.length cap) := hcb 1
  have HBO := hid (badOf_any S n x0 F P p cap pp pc w5 (fun b hb => Nat.lt_of_lt_of_le (hS b hb) K5.out.size) (HF.out.keep hS K5.out) (HP.out.keep hS K5.out) hn4 hFl hcl hPl hpcl)
  clear hcb hxn hn4 hFl hcl hPl hpcl HBZ HKB HRR HK0 HR0
  go_wp2_with fail
  refine HBO.out.mono ?_
  rintro e w8 ⟨k8, rfl, hk8, kp8⟩
  obtain rfl : kk = k8 := HBA.out.one hk8
  have K8 := hid (K5.out.trans kp8)
  clear hk8 kp8 HBO hc0 hc1
  have hkk : (kk == kk) = true := by simp
  rcases HBA.out with ⟨hk1, hall⟩ | ⟨i, c, hki, hci, hno, -⟩
  · have HALL := hid hall
    have hneg : kk < 0 := by omega
    clear hk1 hall
    by_cases h0 : P.length = 0
    · have h0' : ¬ (0 : Int) < (P.length : Int) := by omega
      obtain rfl : rr = false := by
        cases rr with
        | false => rfl
        | true =>
          have := (HRF.out.1 rfl).2
          rw [List.length_eq_zero_iff.1 h0] at this; cases this
      go_wp2_with fail
      go_ret
      exact ⟨rfl, K8.out⟩
    · have h0' : (0 : Int) < (P.length : Int) := by omega
      have hlt : P.length - 1 < P.length := by omega
      obtain ⟨pb, poff, pcap, cp, cc, hpv, hpS, -, hcell, hnum, hcl⟩ := ((HP.out.keep hS K8.out).row).get hlt
      cases hpv
      have HLAST := hid (show P.getLast? = some P[P.length - 1] by rw [List.getLast?_eq_getElem?, List.getElem?_eq_getElem hlt])
      have hpbl : pb < w8.heap.size := Nat.lt_of_lt_of_le (hS pb hpS) K8.out.size
      generalize P[P.length - 1] = c at hcell hnum hcl HLAST
      obtain ⟨m, hm⟩ : ∃ m : Nat, P.length = m + 1 := ⟨P.length - 1, by omega⟩
      have hm1 : P.length - 1 = m := by omega
      rw [hm1] at hcell
      have hmI2 : (P.length : Int) - 1 = (m : Int) := by omega
      have hmI : IntKind.i64.wrap ((P.length : Int) - 1) = (m : Int) := by rw [IntKind.wrap_i64]; omega
      have hml : (m : Int) < (P.length : Int) := by omega
      have hm0 : (0 : Int) ≤ (m : Int) := by omega
      have hrr : rr = ((c.length : Int) == 0) := by
        by_cases e : c.length = 0
        · have e2 : ((c.length : Int) == 0) = true := by rw [e]; rfl
          rw [e2]
          exact HRF.out.2 ⟨HALL.out, by rw [HLAST.out, List.length_eq_zero_iff.1 e]⟩
        · have e2 : ((c.length : Int) == 0) = false := beq_eq_false_iff_ne.2 (by omega)
          rw [e2]
          cases rr with
          | false => rfl
          | true =>
            have h2 := (HRF.out.1 rfl).2
            rw [HLAST.out] at h2
            have := Option.some.inj h2
            rw [this] at e; exact absurd rfl e
      have HRR2 := hid hrr
      clear hnum hm hm1 hrr
      go_wp2_with fail
      go_ret
      refine ⟨?_, K8.out⟩
      rw [HRR2.out]
      simp
  · obtain rfl : rr = false := by
      cases rr with
      | false => rfl
      | true => exact absurd ((HRF.out.1 rfl).1 i c (List.getElem?_eq_some_iff.1 hci).1 hci) hno
    have hpos : ¬ kk < 0 := by omega
    clear hki hci hno
    go_wp2_with fail
    go_ret
    exact ⟨rfl, K8.out⟩
end Go.Proofs.Ytenojmfdghdenab
