/- CnfSound returns true, of any formula, model and literals that lie in memory; nothing that was there is changed. -/
import Derived.Test.YtenojmfdghdenabCnfLaw
namespace Go.Proofs.Ytenojmfdghdenab
open Go.RowKit Go.Lib

theorem enter_sound1 (args : Array Value) (w : World) : (callFunc 11 args).run Try.prog w = .ok (.enter 11 args) w := enters_of Try.func11 (by kernel_rfl) rfl args w
theorem enter_sound2 (args : Array Value) (w : World) : (callFunc 13 args).run Try.prog w = .ok (.enter 13 args) w := enters_of Try.func13 (by kernel_rfl) rfl args w
theorem enter_sound3 (args : Array Value) (w : World) : (callFunc 14 args).run Try.prog w = .ok (.enter 14 args) w := enters_of Try.func14 (by kernel_rfl) rfl args w
theorem enter_sound4 (args : Array Value) (w : World) : (callFunc 15 args).run Try.prog w = .ok (.enter 15 args) w := enters_of Try.func15 (by kernel_rfl) rfl args w
set_option maxHeartbeats 1000000 in
theorem sound1_any (S : Nat → Prop) (n : Nat) (m : List Bool) (mv : Value) (b : Nat) (x : Int) (w : World) (hS : ∀ b, S b → b < w.heap.size) (hm : BoolsIs S w m mv) (hb : VarAt b 25 mv w) (hn : n ≤ 1000) (hl : m.length = n) (hx : Lit n x) :
    Calls Try.prog 11 #[.int .i64 x, .pointer (some ⟨b, 0, none⟩)] w fun e w' => e = .returned (.bool (inM m x)) ∧ w' = w := by
  obtain ⟨mp, mc, rfl, hml⟩ := hm.shape
  have hx2 : x.natAbs - 1 < m.length := by have := hx.2; have := hx.1; omega
  have hx0 := hx.1
  have hx3 : x.natAbs ≤ 1000 := by have := hx.2; omega
  obtain ⟨mb, mo, rfl, hmb, hcell⟩ := hm.cellD hx2
  have HI := hid (show inM m x = (m[x.natAbs - 1] == decide (0 < x)) by unfold inM; rw [List.getD_eq_getElem?_getD, List.getElem?_eq_getElem hx2, Option.getD_some])
  generalize m[x.natAbs - 1] = β at hcell HI
  obtain ⟨hv, -, hlb⟩ := hb.facts
  have hmb2 := hS mb hmb
  clear hl hx
  by_cases h : x < 0
  · have HI2 := hid (show inM m x = (β == false) by rw [HI.out, decide_eq_false (by omega)])
    obtain ⟨k, rfl⟩ : ∃ k : Nat, x = -((k : Int) + 1) := ⟨x.natAbs - 1, by omega⟩
    have e1 : (-((k : Int) + 1)).natAbs - 1 = k := by omega
    rw [e1] at hcell hx2
    have h4 : (k : Int) ≤ 1000 := by omega
    have h5 : (k : Int) < (m.length : Int) := by omega
    have e2 : max (-((k : Int) + 1)) ((k : Int) + 1) = (k : Int) + 1 := by omega
    clear e1 hx3 hx0
    go_enter Try.func11, Try.ntmps11
    go_wp2_with fail
    all_goals
      go_ret
      exact ⟨ret_bool HI2.out.symm, rfl⟩
  · have HI2 := hid (show inM m x = (β == true) by rw [HI.out, decide_eq_true (by omega)])
    obtain ⟨k, rfl⟩ : ∃ k : Nat, x = (k : Int) + 1 := ⟨x.natAbs - 1, by omega⟩
    have e1 : ((k : Int) + 1).natAbs - 1 = k := by omega
    rw [e1] at hcell hx2
    have h4 : (k : Int) ≤ 1000 := by omega
    have h5 : (k : Int) < (m.length : Int) := by omega
    have hbt : (β == true) = β := by cases β <;> rfl
    rw [hbt] at HI2
    have e2 : max ((k : Int) + 1) (-((k : Int) + 1)) = (k : Int) + 1 := by omega
    clear e1 hx3 hx0
    go_enter Try.func11, Try.ntmps11
    go_wp2_with fail
    all_goals
      go_ret
      exact ⟨ret_bool HI2.out.symm, rfl⟩

set_option maxHeartbeats 1000000 in
theorem sound2_any (S : Nat → Prop) (n : Nat) (m : List Bool) (mv : Value) (b d : Nat) (x : Int) (w : World) (hS : ∀ b, S b → b < w.heap.size) (hm : BoolsIs S w m mv) (hb : VarAt b 25 mv w) (hn : n ≤ 1000) (hl : m.length = n) (hx : Lit n x)
    (hd : VarAt d 33 (.func (.func 11) #[] #[.pointer (some ⟨b, 0, none⟩)]) w) :
    Calls Try.prog 13 #[.int .i64 x, .pointer (some ⟨d, 0, none⟩)] w fun e w' => e = .returned (.bool (!inM m x)) ∧ w' = w := by
  obtain ⟨hv, -, hlb⟩ := hd.facts
  have hent := enter_sound1
  have HC := hid (sound1_any S n m mv b x w hS hm hb hn hl hx)
  generalize inM m x = β at HC ⊢
  clear hm hb hl hx hd hn
  go_enter Try.func13, Try.ntmps13
  go_wp2_with fail
  refine HC.out.mono ?_
  rintro e w1 ⟨rfl, hw1⟩
  rw [hw1]
  clear hw1 HC
  go_wp2_with fail
  go_ret
  exact ⟨rfl, rfl⟩
set_option maxHeartbeats 1000000 in
theorem sound3_any (S : Nat → Prop) (n : Nat) (m : List Bool) (mv : Value) (b d : Nat) (x : Int) (w : World) (hS : ∀ b, S b → b < w.heap.size) (hm : BoolsIs S w m mv) (hb : VarAt b 25 mv w) (hn : n ≤ 1000) (hl : m.length = n) (hx : Lit n x)
    (hd : VarAt d 33 (.func (.func 11) #[] #[.pointer (some ⟨b, 0, none⟩)]) w) :
    Calls Try.prog 14 #[.int .i64 x, .pointer (some ⟨d, 0, none⟩)] w fun e w' => e = .returned (.bool (!inM m x)) ∧ w' = w := by
  obtain ⟨hv, -, hlb⟩ := hd.facts
  have hent := enter_sound1
  have HC := hid (sound1_any S n m mv b x w hS hm hb hn hl hx)
  generalize inM m x = β at HC ⊢
  clear hm hb hl hx hd hn
  go_enter Try.func14, Try.ntmps14
  go_wp2_with fail
  refine HC.out.mono ?_
  rintro e w1 ⟨rfl, hw1⟩
  rw [hw1]
  clear hw1 HC
  go_wp2_with fail
  go_ret
  exact ⟨rfl, rfl⟩
set_option maxHeartbeats 1000000 in
theorem sound4_any (S : Nat → Prop) (zs : List Int) (lv : Value) (d : Nat) (x : Int) (w : World) (hS : ∀ b, S b → b < w.heap.size) (hz : NumsIs S w zs lv) (hd : VarAt d 26 lv w) :
    Calls Try.prog 15 #[.int .i64 x, .pointer (some ⟨d, 0, none⟩)] w fun e w' => e = .returned (.bool (!zs.contains x)) ∧ w' = w := by
  obtain ⟨p, cp, rfl, hml⟩ := hz.shape
  obtain ⟨hv, -, hlb⟩ := hd.facts
  have HC := hid (containsInt_any S zs x p cp w hS hz)
  generalize zs.contains x = β at HC ⊢
  clear hz hd
  go_enter Try.func15, Try.ntmps15
  go_wp2_with fail
  refine HC.out.mono ?_
  rintro e w1 ⟨rfl, hw1⟩
  rw [hw1]
  clear hw1 HC
  go_wp2_with fail
  go_ret
  exact ⟨rfl, rfl⟩
theorem known_small {n : Nat} {F : List (List Int)} {A K L : List Int} (h : Good n F A K L) : (known K).length ≤ n := by
  have h0 : K.getD 0 0 = 0 := by
    rcases h.own 0 (by have := h.len; omega) with h0 | h0
    · exact h0
    · omega
  have hl := h.len
  cases K with
  | nil => simp at hl
  | cons a t =>
    have ha : a = 0 := h0
    subst ha
    have : known (0 :: t) = known t := by unfold known; simp
    rw [this]
    have := known_len t
    simp at hl
    omega
theorem known_lits {n : Nat} {F : List (List Int)} {A K L : List Int} (h : Good n F A K L) : LitsC n (known K) := fun x hx => h.lits ((good_mem h x).1 hx)
theorem folE_known {vars : Int} {n : Nat} {F : List (List Int)} {A K L : List Int} (hv : vars = n) (h : folE vars F A = 0) (hg : Good n F A K L) : folE vars F (known K) = 0 := by
  obtain ⟨n', hn', h4, -, -, -, -⟩ := folE_zero h
  obtain rfl : n = n' := by omega
  unfold folE at h ⊢
  split at h
  · rename_i h1; exact absurd h h1
  · rename_i h1
    rw [if_neg h1, if_neg (by have := known_small hg; omega), hv]
    exact litsE_zero.2 (known_lits hg)

set_option maxHeartbeats 4000000 in
set_option maxRecDepth 100000 in
theorem cnfSound_walk (S : Nat → Prop) (vars : Int) (F : List (List Int)) (m : List Bool) (A : List Int) (p : Option Addr) (cap : Nat) (mv av : Value) (w : World) (hS : ∀ b, S b → b < w.heap.size) (hf : FormIs S w vars F p cap) (hm : BoolsIs S w m mv) (ha : NumsIs S w A av) (hr : ∀ x ∈ A, InR x) :
    Calls Try.prog 3 #[.agg #[.int .i64 vars, .slice p F.length cap], mv, av] w fun e w' => e = .returned (.bool true) ∧ Keep w w' := by
  have HF := hid hf
  have HM := hid hm
  have HA := hid ha
  have HR := hid hr
  obtain ⟨mp, mc, rfl, hml⟩ := hm.shape
  obtain ⟨ap, ac, rfl, hal⟩ := ha.shape
  have hmf : ∀ (fn : Fn) (first cap : Array Value) (w : World), (Instr.makeFunc fn first cap).run Try.prog w = .ok (.func fn first cap) w := fun _ _ _ _ => rfl
  clear hf hm ha hr
  go_enter Try.func3, Try.ntmps3
  go_wp2_with fail
  refine at_calls (fun W' => Keep w W' ∧ BoxAt w.heap.size 24 #[.int .i64 vars, .slice p F.length cap] W' ∧ VarAt (w.heap.size + 1) 25 (.slice mp m.length mc) W') ⟨(Keep.alloc _ _).alloc' _, (BoxAt.new _ _ _).keep (Keep.alloc _ _) (by simp), ?_⟩ ?_
  · have := VarAt.new (w.alloc (.cells #[.int .i64 vars, .slice p F.length cap] 24)) 25 (.slice mp m.length mc)
    rw [alloc_size] at this; exact this
  rintro W0 ⟨k0, b0, v0⟩
  have hS0 : ∀ b, S b → b < W0.heap.size := fun b hb => Nat.lt_of_lt_of_le (hS b hb) k0.size
  refine (holds_any S vars F p cap m _ W0 hS0 (HF.out.keep hS k0) (HM.out.keep hS k0)).mono ?_
  rintro e w1 ⟨rfl, k1⟩
  have K1 := hid (k0.trans k1)
  have B1 := hid (b0.keep k1 b0.facts.2.2)
  have V1 := hid (v0.keep k1 v0.facts.2.2)
  clear k0 b0 v0 k1 hS0
  have HHB := hid (show holdsB vars F m = ((holdsE vars F m == 0) && F.all fun c => c.any (inM m)) from rfl)
  have HHE := hid (show holdsE vars F m = if formE vars F ≠ 0 then formE vars F else if (m.length : Int) ≠ vars then 4 else 0 from rfl)
  generalize holdsE vars F m = he at HHB HHE ⊢
  generalize holdsB vars F m = hb at HHB ⊢
  obtain ⟨hcb, -, hlb⟩ := B1.out.facts
  have hc0 : w1.cell? ⟨w.heap.size, 0, none⟩ = some (.int .i64 vars) := hcb 0
  have hc1 : w1.cell? ⟨w.heap.size, 1, none⟩ = some (.slice p F.length cap) := hcb 1
  clear hcb
  have hS1 : ∀ b, S b → b < w1.heap.size := fun b hb => Nat.lt_of_lt_of_le (hS b hb) K1.out.size
  go_wp2_with fail
  refine (follows_any S vars F A p cap _ w1 hS1 (HF.out.keep hS K1.out) (HA.out.keep hS K1.out) HR.out).mono ?_
  rintro e w2 ⟨k2, hd⟩
  have HD := hid hd
  have K2 := hid (K1.out.trans k2)
  have B2 := hid (B1.out.keep k2 B1.out.facts.2.2)
  have V2 := hid (V1.out.keep k2 V1.out.facts.2.2)
  have HK12 := hid k2.size
  clear hd k2 hc0 hc1 hS1 B1 V1
  generalize hge : folE vars F A = ge at HD
  have HGE := hid hge
  clear hge
  rcases HD.out with ⟨hne, rfl⟩ | ⟨hze, n, hvn, hd⟩
  · have hne' : (ge != 0) = true := by simp [hne]
    clear hne
    go_wp2_with fail
    refine at_calls (fun W' => Keep w2 W' ∧ VarAt w2.heap.size 26 (.slice none 0 0) W') ⟨Keep.alloc _ _, VarAt.new _ _ _⟩ ?_
    rintro W3 ⟨k3, l3⟩
    refine (followed_any W3).mono ?_
    rintro e w4 ⟨rfl, k4⟩
    have K4 := hid (K2.out.trans (k3.trans k4))
    have B4 := hid (B2.out.keep (k3.trans k4) B2.out.facts.2.2)
    have V4 := hid (V2.out.keep (k3.trans k4) V2.out.facts.2.2)
    have L4 := hid (l3.keep k4 l3.facts.2.2)
    have K24 := hid (k3.trans k4)
    clear k3 l3 k4
    by_cases h0 : he = 0
    · subst h0
      go_wp2_with fail
      refine (followed_any w4).mono ?_
      rintro e w5 ⟨rfl, k5⟩
      have K5 := hid (K4.out.trans k5)
      clear k5
      go_wp2_with fail
      go_ret
      exact ⟨rfl, K5.out⟩
    · have h0' : (he != 0) = true := by simp [h0]
      clear h0
      go_wp2_with fail
      refine (followed_any w4).mono ?_
      rintro e w5 ⟨rfl, k5⟩
      have K5 := hid (K4.out.trans k5)
      clear k5
      go_wp2_with fail
      go_ret
      exact ⟨rfl, K5.out⟩
  · subst hze
    subst hvn
    rcases hd with ⟨v, K, L, rfl, hg, hL, hno, hnu⟩ | ⟨rfl, hfl⟩
    · have HG := hid (And.intro hg (And.intro hL hno))
      obtain ⟨vp, vcap, hvs, -⟩ := hnu.shape
      subst hvs
      have HNU := hid hnu
      clear hg hL hno hnu HD
      go_wp2_with fail
      refine at_calls (fun W' => Keep w2 W' ∧ VarAt w2.heap.size 26 (.slice vp (known K).length vcap) W') ⟨Keep.alloc _ _, VarAt.new _ _ _⟩ ?_
      rintro W3 ⟨k3, l3⟩
      refine (followed_any W3).mono ?_
      rintro e w4 ⟨rfl, k4⟩
      have K4 := hid (K2.out.trans (k3.trans k4))
      have B4 := hid (B2.out.keep (k3.trans k4) B2.out.facts.2.2)
      have V4 := hid (V2.out.keep (k3.trans k4) V2.out.facts.2.2)
      have L4 := hid (l3.keep k4 l3.facts.2.2)
      have K24 := hid (k3.trans k4)
      clear k3 l3 k4
      by_cases h0 : he = 0
      · subst h0
        have HFZ := hid (show formE n F = 0 ∧ (m.length : Int) = n by
          have := HHE.out
          by_cases h1 : formE n F = 0
          · refine ⟨h1, ?_⟩
            rw [if_neg (by simpa using h1)] at this
            exact Decidable.byContradiction fun h2 => by rw [if_pos h2] at this; cases this
          · rw [if_pos h1] at this; exact absurd this.symm h1)
        obtain ⟨n', hn', hn400, -, hcl, -, hAl⟩ := folE_zero HGE.out
        obtain rfl : n = n' := by omega
        have HMN := hid (show m.length = n by have := HFZ.out.2; omega)
        have HCL := hid hcl
        have HAL := hid hAl
        clear hcl hAl hn'
        have hn4 : n ≤ 1000 := by omega
        go_upto_region 6 with fail
        refine at_wp (fun W' => Keep w4 W' ∧ VarAt w4.heap.size 33 (.func (.func 11) #[] #[.pointer (some ⟨w.heap.size + 1, 0, none⟩)]) W') ⟨Keep.alloc _ _, VarAt.new _ _ _⟩ ?_
        rintro W6 ⟨k6, f6⟩
        have K6 := hid (K4.out.trans k6)
        have B6 := hid (B4.out.keep k6 B4.out.facts.2.2)
        have V6 := hid (V4.out.keep k6 V4.out.facts.2.2)
        have L6 := hid (L4.out.keep k6 L4.out.facts.2.2)
        have K26 := hid (K24.out.trans k6)
        have F6 := hid f6
        clear k6 f6
        have hS6 : ∀ b, S b → b < W6.heap.size := fun b hb => Nat.lt_of_lt_of_le (hS b hb) K6.out.size
        have HC2 := hid (hasI_any (cap := #[.pointer (some ⟨w4.heap.size, 0, none⟩)]) S A (fun x => !inM m x) ap ac W6 hS6 enter_sound2 (HA.out.keep hS K6.out) (fun x hx => sound2_any S n m _ _ _ x W6 hS6 (HM.out.keep hS K6.out) V6.out hn4 HMN.out (HAL.out x hx) F6.out))
        have hSl : ∀ b, (S b ∨ (w1.heap.size ≤ b ∧ b < w2.heap.size)) → b < W6.heap.size := fun b hb => hb.elim (hS6 b) fun h => Nat.lt_of_lt_of_le h.2 K26.out.size
        have HNU6 := hid (HNU.out.keep (B := w2.heap.size) (fun b hb => hb.2) K26.out)
        have HC3 := hid (hasI_any (cap := #[.pointer (some ⟨w4.heap.size, 0, none⟩)]) (fun b => S b ∨ (w1.heap.size ≤ b ∧ b < w2.heap.size)) (known K) (fun x => !inM m x) vp vcap W6 hSl enter_sound3 (HNU6.out.mono (fun _ _ => rfl) fun _ h => Or.inr h) (fun x hx => sound3_any S n m _ _ _ x W6 hS6 (HM.out.keep hS K6.out) V6.out hn4 HMN.out (known_lits HG.out.1 x hx) F6.out))
        have HALL := hid (fun (h1 : hb = true) (h2 : (A.any fun x => !inM m x) = false) => show ((known K).any fun x => !inM m x) = false from List.any_eq_false.2 fun x hx => by
          have := der_holds (m := m) (fun c hc => (HCL.out c hc).2) (fun c hc => by
            rw [HHB.out] at h1
            have h3 := (Bool.and_eq_true_iff.1 h1).2
            obtain ⟨x, hx, hxm⟩ := List.any_eq_true.1 (List.all_eq_true.1 h3 c hc)
            exact ⟨x, hx, hxm⟩) (fun x hx => by
            have := List.any_eq_false.1 h2 x hx
            simpa using this) ((HG.out.2.1 x).1 ((good_mem HG.out.1 x).1 hx))
          simpa using this)
        generalize (A.any fun x => !inM m x) = α at HC2 HALL
        generalize ((known K).any fun x => !inM m x) = γ at HC3 HALL
        cases hb
        · have HC4 := hid (hasI_any (cap := #[.pointer (some ⟨w2.heap.size, 0, none⟩)]) (fun b => S b ∨ (w1.heap.size ≤ b ∧ b < w2.heap.size)) A (fun x => !(known K).contains x) ap ac W6 hSl enter_sound4 ((HA.out.keep hS K6.out).mono (fun _ _ => rfl) fun _ h => Or.inl h) (fun x hx => sound4_any (fun b => S b ∨ (w1.heap.size ≤ b ∧ b < w2.heap.size)) (known K) _ _ x W6 hSl (HNU6.out.mono (fun _ _ => rfl) fun _ h => Or.inr h) L6.out))
          have HNR := hid (show ∀ x ∈ known K, InR x from fun x hx => by
            have h1 := (known_lits HG.out.1 x hx).2
            unfold InR
            omega)
          have HFR := hid (show FormIs (fun b => S b ∨ (w1.heap.size ≤ b ∧ b < w2.heap.size)) W6 n F p cap from ⟨ClsIs.mono (w := W6) (fun _ _ => rfl) (fun _ h => Or.inl h) (HF.out.keep hS K6.out).row, HF.out.num⟩)
          have HNX := hid (show NumsIs (fun b => S b ∨ (w1.heap.size ≤ b ∧ b < w2.heap.size)) W6 (known K) (.slice vp (known K).length vcap) from NumsIs.mono (w := W6) (fun _ _ => rfl) (fun _ h => Or.inr h) HNU6.out)
          have HFOL := hid (follows_any (fun b => S b ∨ (w1.heap.size ≤ b ∧ b < w2.heap.size)) n F (known K) p cap (.slice vp (known K).length vcap) W6 hSl HFR.out HNX.out HNR.out)
          have HIN := hid (show (A.any fun x => !(known K).contains x) = false from List.any_eq_false.2 fun x hx => by
            have : x ∈ known K := (good_mem HG.out.1 x).2 ((HG.out.2.1 x).2 (.told hx))
            simpa using this)
          rw [HIN.out] at HC4
          obtain ⟨hcb, -, hlb6⟩ := B6.out.facts
          have hc0 : W6.cell? ⟨w.heap.size, 0, none⟩ = some (.int .i64 n) := hcb 0
          have hc1 : W6.cell? ⟨w.heap.size, 1, none⟩ = some (.slice p F.length cap) := hcb 1
          obtain ⟨hcl6, -, hll6⟩ := L6.out.facts
          clear hcb
          go_wp2_with fail
          refine HC4.out.mono ?_
          rintro e w9 ⟨rfl, hw9⟩
          rw [hw9]
          clear hw9 HC4
          go_wp2_with fail
          refine HFOL.out.mono ?_
          rintro e w10 ⟨k10, hd⟩
          have K10 := hid (K6.out.trans k10)
          rcases hd with ⟨h, -⟩ | ⟨-, n', hn', hd⟩
          · exact absurd (folE_known rfl HGE.out HG.out.1) h
          obtain rfl : n = n' := by omega
          have hder : ∀ x, x ∈ known K → Der F A x := fun x hx => (HG.out.2.1 x).1 ((good_mem HG.out.1 x).1 hx)
          rcases hd with ⟨v2, K2', L2', rfl, hg2, hL2, -, hnu2⟩ | ⟨-, hf2⟩
          rotate_left
          · exact absurd (hf2.more (fun _ h => h) hder) HG.out.2.2
          have HKK := hid (show K2' = K from good_same hg2 HG.out.1 fun x => by
            rw [hL2 x, HG.out.2.1 x]
            exact ⟨fun h => h.more (fun _ h => h) hder, fun h => .told ((good_mem HG.out.1 x).2 ((HG.out.2.1 x).2 h))⟩)
          have L10 := hid (L6.out.keep k10 L6.out.facts.2.2)
          have HNU10 := hid (HNU6.out.keep (B := W6.heap.size) (fun b hb => Nat.lt_of_lt_of_le hb.2 K26.out.size) k10)
          have HS10 := hid (Nat.le_trans K26.out.size k10.size)
          have HNV := hid hnu2
          clear hg2 hL2 hnu2 hder k10 hc0 hc1 hcl6
          obtain ⟨hcl10, -, hll10⟩ := L10.out.facts
          go_wp2_with fail
          refine (equalNums_any (fun b => b < w10.heap.size) _ _ (known K2') (known K) w10 (HNV.out.mono (fun _ _ => rfl) fun _ h => h.2) (HNU10.out.mono (fun _ _ => rfl) fun b h => Nat.lt_of_lt_of_le h.2 HS10.out)).mono ?_
          rintro e w11 ⟨rfl, q, rfl⟩
          have K11 := hid (K10.out.trans (Keep.drewN (Keep.refl w10) q))
          have HEQ := hid (show (known K2' == known K) = true by rw [HKK.out]; simp)
          rw [HEQ.out]
          generalize w10.drewN q = W11 at K11 ⊢
          clear hcl10
          go_wp2_with fail
          go_ret
          exact ⟨rfl, K11.out⟩
        · go_wp2_with fail
          refine HC2.out.mono ?_
          rintro e w7 ⟨rfl, hw7⟩
          rw [hw7]
          clear hw7 HC2
          cases α
          · have hγ := HALL.out (by trivial) (by trivial)
            subst hγ
            obtain ⟨hcl6, -, hll6⟩ := L6.out.facts
            go_wp2_with fail
            refine HC3.out.mono ?_
            rintro e w8 ⟨rfl, hw8⟩
            rw [hw8]
            clear hw8 HC3 hcl6
            have HC4 := hid (hasI_any (cap := #[.pointer (some ⟨w2.heap.size, 0, none⟩)]) (fun b => S b ∨ (w1.heap.size ≤ b ∧ b < w2.heap.size)) A (fun x => !(known K).contains x) ap ac W6 hSl enter_sound4 ((HA.out.keep hS K6.out).mono (fun _ _ => rfl) fun _ h => Or.inl h) (fun x hx => sound4_any (fun b => S b ∨ (w1.heap.size ≤ b ∧ b < w2.heap.size)) (known K) _ _ x W6 hSl (HNU6.out.mono (fun _ _ => rfl) fun _ h => Or.inr h) L6.out))
            have HNR := hid (show ∀ x ∈ known K, InR x from fun x hx => by
              have h1 := (known_lits HG.out.1 x hx).2
              unfold InR
              omega)
            have HFR := hid (show FormIs (fun b => S b ∨ (w1.heap.size ≤ b ∧ b < w2.heap.size)) W6 n F p cap from ⟨ClsIs.mono (w := W6) (fun _ _ => rfl) (fun _ h => Or.inl h) (HF.out.keep hS K6.out).row, HF.out.num⟩)
            have HNX := hid (show NumsIs (fun b => S b ∨ (w1.heap.size ≤ b ∧ b < w2.heap.size)) W6 (known K) (.slice vp (known K).length vcap) from NumsIs.mono (w := W6) (fun _ _ => rfl) (fun _ h => Or.inr h) HNU6.out)
            have HFOL := hid (follows_any (fun b => S b ∨ (w1.heap.size ≤ b ∧ b < w2.heap.size)) n F (known K) p cap (.slice vp (known K).length vcap) W6 hSl HFR.out HNX.out HNR.out)
            have HIN := hid (show (A.any fun x => !(known K).contains x) = false from List.any_eq_false.2 fun x hx => by
              have : x ∈ known K := (good_mem HG.out.1 x).2 ((HG.out.2.1 x).2 (.told hx))
              simpa using this)
            rw [HIN.out] at HC4
            obtain ⟨hcb, -, hlb6⟩ := B6.out.facts
            have hc0 : W6.cell? ⟨w.heap.size, 0, none⟩ = some (.int .i64 n) := hcb 0
            have hc1 : W6.cell? ⟨w.heap.size, 1, none⟩ = some (.slice p F.length cap) := hcb 1
            obtain ⟨hcl6, -, hll6⟩ := L6.out.facts
            clear hcb
            go_wp2_with fail
            refine HC4.out.mono ?_
            rintro e w9 ⟨rfl, hw9⟩
            rw [hw9]
            clear hw9 HC4
            go_wp2_with fail
            refine HFOL.out.mono ?_
            rintro e w10 ⟨k10, hd⟩
            have K10 := hid (K6.out.trans k10)
            rcases hd with ⟨h, -⟩ | ⟨-, n', hn', hd⟩
            · exact absurd (folE_known rfl HGE.out HG.out.1) h
            obtain rfl : n = n' := by omega
            have hder : ∀ x, x ∈ known K → Der F A x := fun x hx => (HG.out.2.1 x).1 ((good_mem HG.out.1 x).1 hx)
            rcases hd with ⟨v2, K2', L2', rfl, hg2, hL2, -, hnu2⟩ | ⟨-, hf2⟩
            rotate_left
            · exact absurd (hf2.more (fun _ h => h) hder) HG.out.2.2
            have HKK := hid (show K2' = K from good_same hg2 HG.out.1 fun x => by
              rw [hL2 x, HG.out.2.1 x]
              exact ⟨fun h => h.more (fun _ h => h) hder, fun h => .told ((good_mem HG.out.1 x).2 ((HG.out.2.1 x).2 h))⟩)
            have L10 := hid (L6.out.keep k10 L6.out.facts.2.2)
            have HNU10 := hid (HNU6.out.keep (B := W6.heap.size) (fun b hb => Nat.lt_of_lt_of_le hb.2 K26.out.size) k10)
            have HS10 := hid (Nat.le_trans K26.out.size k10.size)
            have HNV := hid hnu2
            clear hg2 hL2 hnu2 hder k10 hc0 hc1 hcl6
            obtain ⟨hcl10, -, hll10⟩ := L10.out.facts
            go_wp2_with fail
            refine (equalNums_any (fun b => b < w10.heap.size) _ _ (known K2') (known K) w10 (HNV.out.mono (fun _ _ => rfl) fun _ h => h.2) (HNU10.out.mono (fun _ _ => rfl) fun b h => Nat.lt_of_lt_of_le h.2 HS10.out)).mono ?_
            rintro e w11 ⟨rfl, q, rfl⟩
            have K11 := hid (K10.out.trans (Keep.drewN (Keep.refl w10) q))
            have HEQ := hid (show (known K2' == known K) = true by rw [HKK.out]; simp)
            rw [HEQ.out]
            generalize w10.drewN q = W11 at K11 ⊢
            clear hcl10
            go_wp2_with fail
            go_ret
            exact ⟨rfl, K11.out⟩
          · have HC4 := hid (hasI_any (cap := #[.pointer (some ⟨w2.heap.size, 0, none⟩)]) (fun b => S b ∨ (w1.heap.size ≤ b ∧ b < w2.heap.size)) A (fun x => !(known K).contains x) ap ac W6 hSl enter_sound4 ((HA.out.keep hS K6.out).mono (fun _ _ => rfl) fun _ h => Or.inl h) (fun x hx => sound4_any (fun b => S b ∨ (w1.heap.size ≤ b ∧ b < w2.heap.size)) (known K) _ _ x W6 hSl (HNU6.out.mono (fun _ _ => rfl) fun _ h => Or.inr h) L6.out))
            have HNR := hid (show ∀ x ∈ known K, InR x from fun x hx => by
              have h1 := (known_lits HG.out.1 x hx).2
              unfold InR
              omega)
            have HFR := hid (show FormIs (fun b => S b ∨ (w1.heap.size ≤ b ∧ b < w2.heap.size)) W6 n F p cap from ⟨ClsIs.mono (w := W6) (fun _ _ => rfl) (fun _ h => Or.inl h) (HF.out.keep hS K6.out).row, HF.out.num⟩)
            have HNX := hid (show NumsIs (fun b => S b ∨ (w1.heap.size ≤ b ∧ b < w2.heap.size)) W6 (known K) (.slice vp (known K).length vcap) from NumsIs.mono (w := W6) (fun _ _ => rfl) (fun _ h => Or.inr h) HNU6.out)
            have HFOL := hid (follows_any (fun b => S b ∨ (w1.heap.size ≤ b ∧ b < w2.heap.size)) n F (known K) p cap (.slice vp (known K).length vcap) W6 hSl HFR.out HNX.out HNR.out)
            have HIN := hid (show (A.any fun x => !(known K).contains x) = false from List.any_eq_false.2 fun x hx => by
              have : x ∈ known K := (good_mem HG.out.1 x).2 ((HG.out.2.1 x).2 (.told hx))
              simpa using this)
            rw [HIN.out] at HC4
            obtain ⟨hcb, -, hlb6⟩ := B6.out.facts
            have hc0 : W6.cell? ⟨w.heap.size, 0, none⟩ = some (.int .i64 n) := hcb 0
            have hc1 : W6.cell? ⟨w.heap.size, 1, none⟩ = some (.slice p F.length cap) := hcb 1
            obtain ⟨hcl6, -, hll6⟩ := L6.out.facts
            clear hcb
            go_wp2_with fail
            refine HC4.out.mono ?_
            rintro e w9 ⟨rfl, hw9⟩
            rw [hw9]
            clear hw9 HC4
            go_wp2_with fail
            refine HFOL.out.mono ?_
            rintro e w10 ⟨k10, hd⟩
            have K10 := hid (K6.out.trans k10)
            rcases hd with ⟨h, -⟩ | ⟨-, n', hn', hd⟩
            · exact absurd (folE_known rfl HGE.out HG.out.1) h
            obtain rfl : n = n' := by omega
            have hder : ∀ x, x ∈ known K → Der F A x := fun x hx => (HG.out.2.1 x).1 ((good_mem HG.out.1 x).1 hx)
            rcases hd with ⟨v2, K2', L2', rfl, hg2, hL2, -, hnu2⟩ | ⟨-, hf2⟩
            rotate_left
            · exact absurd (hf2.more (fun _ h => h) hder) HG.out.2.2
            have HKK := hid (show K2' = K from good_same hg2 HG.out.1 fun x => by
              rw [hL2 x, HG.out.2.1 x]
              exact ⟨fun h => h.more (fun _ h => h) hder, fun h => .told ((good_mem HG.out.1 x).2 ((HG.out.2.1 x).2 h))⟩)
            have L10 := hid (L6.out.keep k10 L6.out.facts.2.2)
            have HNU10 := hid (HNU6.out.keep (B := W6.heap.size) (fun b hb => Nat.lt_of_lt_of_le hb.2 K26.out.size) k10)
            have HS10 := hid (Nat.le_trans K26.out.size k10.size)
            have HNV := hid hnu2
            clear hg2 hL2 hnu2 hder k10 hc0 hc1 hcl6
            obtain ⟨hcl10, -, hll10⟩ := L10.out.facts
            go_wp2_with fail
            refine (equalNums_any (fun b => b < w10.heap.size) _ _ (known K2') (known K) w10 (HNV.out.mono (fun _ _ => rfl) fun _ h => h.2) (HNU10.out.mono (fun _ _ => rfl) fun b h => Nat.lt_of_lt_of_le h.2 HS10.out)).mono ?_
            rintro e w11 ⟨rfl, q, rfl⟩
            have K11 := hid (K10.out.trans (Keep.drewN (Keep.refl w10) q))
            have HEQ := hid (show (known K2' == known K) = true by rw [HKK.out]; simp)
            rw [HEQ.out]
            generalize w10.drewN q = W11 at K11 ⊢
            clear hcl10
            go_wp2_with fail
            go_ret
            exact ⟨rfl, K11.out⟩
      · have h0' : (he != 0) = true := by simp [h0]
        clear h0
        go_wp2_with fail
        refine (followed_any w4).mono ?_
        rintro e w5 ⟨rfl, k5⟩
        have K5 := hid (K4.out.trans k5)
        clear k5
        go_wp2_with fail
        go_ret
        exact ⟨rfl, K5.out⟩
    · have HFL := hid hfl
      clear hfl HD
      go_wp2_with fail
      refine at_calls (fun W' => Keep w2 W' ∧ VarAt w2.heap.size 26 (.slice none 0 0) W') ⟨Keep.alloc _ _, VarAt.new _ _ _⟩ ?_
      rintro W3 ⟨k3, l3⟩
      refine (followed_any W3).mono ?_
      rintro e w4 ⟨rfl, k4⟩
      have K4 := hid (K2.out.trans (k3.trans k4))
      have B4 := hid (B2.out.keep (k3.trans k4) B2.out.facts.2.2)
      have V4 := hid (V2.out.keep (k3.trans k4) V2.out.facts.2.2)
      have L4 := hid (l3.keep k4 l3.facts.2.2)
      have K24 := hid (k3.trans k4)
      clear k3 l3 k4
      by_cases h0 : he = 0
      · subst h0
        have HFZ := hid (show formE n F = 0 ∧ (m.length : Int) = n by
          have := HHE.out
          by_cases h1 : formE n F = 0
          · refine ⟨h1, ?_⟩
            rw [if_neg (by simpa using h1)] at this
            exact Decidable.byContradiction fun h2 => by rw [if_pos h2] at this; cases this
          · rw [if_pos h1] at this; exact absurd this.symm h1)
        obtain ⟨n', hn', hn400, -, hcl, -, hAl⟩ := folE_zero HGE.out
        obtain rfl : n = n' := by omega
        have HMN := hid (show m.length = n by have := HFZ.out.2; omega)
        have HCL := hid hcl
        have HAL := hid hAl
        clear hcl hAl hn'
        have hn4 : n ≤ 1000 := by omega
        go_upto_region 6 with fail
        refine at_wp (fun W' => Keep w4 W' ∧ VarAt w4.heap.size 33 (.func (.func 11) #[] #[.pointer (some ⟨w.heap.size + 1, 0, none⟩)]) W') ⟨Keep.alloc _ _, VarAt.new _ _ _⟩ ?_
        rintro W6 ⟨k6, f6⟩
        have K6 := hid (K4.out.trans k6)
        have B6 := hid (B4.out.keep k6 B4.out.facts.2.2)
        have V6 := hid (V4.out.keep k6 V4.out.facts.2.2)
        have L6 := hid (L4.out.keep k6 L4.out.facts.2.2)
        have K26 := hid (K24.out.trans k6)
        have F6 := hid f6
        clear k6 f6
        have hS6 : ∀ b, S b → b < W6.heap.size := fun b hb => Nat.lt_of_lt_of_le (hS b hb) K6.out.size
        have HC2 := hid (hasI_any (cap := #[.pointer (some ⟨w4.heap.size, 0, none⟩)]) S A (fun x => !inM m x) ap ac W6 hS6 enter_sound2 (HA.out.keep hS K6.out) (fun x hx => sound2_any S n m _ _ _ x W6 hS6 (HM.out.keep hS K6.out) V6.out hn4 HMN.out (HAL.out x hx) F6.out))
        have HNO := hid (fun (h1 : hb = true) (h2 : (A.any fun x => !inM m x) = false) => fails_none (m := m) (fun c hc => (HCL.out c hc).2) HAL.out (fun c hc => by
          rw [HHB.out] at h1
          have h3 := (Bool.and_eq_true_iff.1 h1).2
          obtain ⟨x, hx, hxm⟩ := List.any_eq_true.1 (List.all_eq_true.1 h3 c hc)
          exact ⟨x, hx, hxm⟩) (fun x hx => by
          have := List.any_eq_false.1 h2 x hx
          simpa using this))
        generalize (A.any fun x => !inM m x) = α at HC2 HNO
        cases hb
        · go_wp2_with fail
          go_ret
          exact ⟨rfl, K6.out⟩
        · go_wp2_with fail
          refine HC2.out.mono ?_
          rintro e w7 ⟨rfl, hw7⟩
          rw [hw7]
          clear hw7 HC2
          cases α
          · exact absurd HFL.out (HNO.out (by trivial) (by trivial))
          · go_wp2_with fail
            go_ret
            exact ⟨rfl, K6.out⟩
      · have h0' : (he != 0) = true := by simp [h0]
        clear h0
        go_wp2_with fail
        refine (followed_any w4).mono ?_
        rintro e w5 ⟨rfl, k5⟩
        have K5 := hid (K4.out.trans k5)
        clear k5
        go_wp2_with fail
        go_ret
        exact ⟨rfl, K5.out⟩
end Go.Proofs.Ytenojmfdghdenab
