/- SatNext returns true, of any formula and clause that lie in memory; nothing that was there is changed. -/
import Derived.Test.YtbblgmkjgcjcaabSatTellsWalk
import Derived.Test.YtbblgmkjgcjcaabCnfClone
namespace Go.Proofs.Ytbblgmkjgcjcaab
open Go.RowKit Go.Lib

/-- The clause that forbids a model, up to a place. -/
def noL (m : List Bool) (j : Nat) : List Int := (List.range j).map fun i => if m.getD i false then -(i : Int) - 1 else (i : Int) + 1
theorem noL_len (m : List Bool) (j : Nat) : (noL m j).length = j := by simp [noL]
theorem noL_next (m : List Bool) (j : Nat) : noL m (j + 1) = noL m j ++ [if m.getD j false then -(j : Int) - 1 else (j : Int) + 1] := by
  unfold noL; rw [List.range_succ, List.map_append]; rfl
theorem noL_lits (m : List Bool) : LitsC m.length (noL m m.length) := by
  intro x hx
  obtain ⟨i, hi, rfl⟩ := List.mem_map.1 hx
  have := List.mem_range.1 hi
  unfold Lit
  cases m.getD i false
  · simp; omega
  · simp; omega
/-- The model itself is forbidden. -/
theorem noL_not {n : Nat} {m : List Bool} {F : List (List Int)} (h : Mod n (F ++ [noL m m.length]) m) : False := by
  obtain ⟨x, hx, hm⟩ := h.2 (noL m m.length) (by simp)
  obtain ⟨i, hi, rfl⟩ := List.mem_map.1 hx
  cases e : m.getD i false with
  | false =>
    rw [e] at hm
    have : inM m (((i + 1 : Nat)) : Int) = true := by simpa using hm
    rw [inM_pos (by omega), Nat.add_sub_cancel, e] at this
    cases this
  | true =>
    rw [e] at hm
    have : inM m (-(((i + 1 : Nat)) : Int)) = true := by
      have e2 : -(((i + 1 : Nat)) : Int) = -(i : Int) - 1 := by omega
      rw [e2]; simpa using hm
    rw [inM_negp (by omega), Nat.add_sub_cancel, e] at this
    cases this
theorem Mod.less {n : Nat} {F : List (List Int)} {c : List Int} {m : List Bool} (h : Mod n (F ++ [c]) m) : Mod n F m := ⟨h.1, fun d hd => h.2 d (List.mem_append_left _ hd)⟩
def IsB (g b : Nat) : Prop := b = g
/-- One more clause behind a copy of the formula's own, stored in a second formula. -/
theorem clone_put {bg : Nat} {vars : Int} {gv v3 v5 u : Value} {F : List (List Int)} {c : List Int} {vs3 : List Value} {W2 w3 w5 : World} (hb : BoxAt bg 24 #[.int .i64 vars, gv] W2) (k3 : Keep W2 w3) (hvl : vs3.length = F.length) (hvn : ∀ (i : Nat) c x, F[i]? = some c → vs3[i]? = some x → NumsIs (fun b => b < W2.heap.size ∧ b ≠ bg) w3 c x) (hrow : w3.ownsRow W2.heap.size 38 1 v3 F.length vs3) (hu : NumsIs (fun b => b < W2.heap.size ∧ b ≠ bg) W2 c u) (h1 : w5.ownsRow W2.heap.size 38 1 v5 (F.length + 1) (vs3 ++ [u])) (h2 : w3.grownBy w5 v3.ownBlock) :
    Turn (IsB bg) (IsB bg) W2 (w5.setCell ⟨bg, 1, none⟩ v5) ∧ BoxAt bg 24 #[.int .i64 vars, v5] (w5.setCell ⟨bg, 1, none⟩ v5) ∧ ClsIs (fun b => b < (w5.setCell ⟨bg, 1, none⟩ v5).heap.size ∧ b ≠ bg) (w5.setCell ⟨bg, 1, none⟩ v5) (F ++ [c]) v5 := by
  have hbl := hb.facts.2.2
  have hin3 : ∀ g, v3.ownBlock = some g → W2.heap.size ≤ g := fun g hg => (owns_in hrow hg).1
  have hb25 : Below W2.heap.size W2 w5 := Below.grown k3 h2 k3.size hin3
  have hso : ∀ b, b ≠ bg → (w5.setCell ⟨bg, 1, none⟩ v5).heap[b]? = w5.heap[b]? := fun b hb => Below.heap_setCell _ _ _ _ (fun e => hb e)
  have hsz : (w5.setCell ⟨bg, 1, none⟩ v5).heap.size = w5.heap.size := by simp
  have hrow5 : CRow W2.heap.size (fun b => b < W2.heap.size ∧ b ≠ bg) v5 (F ++ [c]) (w5.setCell ⟨bg, 1, none⟩ v5) := by
    refine ⟨vs3 ++ [u], by simp [hvl], ?_, fun i d x hd hx => ?_⟩
    · have := owns_other (w' := w5.setCell ⟨bg, 1, none⟩ v5) h1 fun g hg => hso g (by have := (owns_in h1 hg).1; omega)
      simpa using this
    · have hmn : ∀ d x, NumsIs (fun b => b < W2.heap.size ∧ b ≠ bg) W2 d x → NumsIs (fun b => b < W2.heap.size ∧ b ≠ bg) (w5.setCell ⟨bg, 1, none⟩ v5) d x := fun d x h => h.mono (fun q hq => World.cell?_of_block (w := W2) ((hso _ hq.2).trans (hb25.block _ hq.1))) fun _ h => h
      by_cases hi : i < F.length
      · rw [List.getElem?_append_left hi] at hd
        rw [List.getElem?_append_left (by omega)] at hx
        exact hmn d x ((hvn i d x hd hx).mono (fun q hq => (k3.cell (p := q) hq.1).symm) fun _ h => h)
      · have hi2 : i = F.length := by have := (List.getElem?_eq_some_iff.1 hd).1; simp at this; omega
        subst hi2
        rw [List.getElem?_append_right (Nat.le_refl _), Nat.sub_self] at hd
        rw [← hvl, List.getElem?_append_right (Nat.le_refl _), Nat.sub_self] at hx
        cases hd; cases hx
        exact hmn _ _ hu
  refine ⟨⟨hb25.os, hb25.tape, hb25.output, by rw [hsz]; exact hb25.size, fun b hbb hn => (hso b hn).trans (hb25.block b hbb), fun _ h => .inl h⟩, ?_, hrow5.cls.mono (fun _ _ => rfl) fun b hb => ?_⟩
  · have h6 : BoxAt bg 24 #[.int .i64 vars, gv] w5 := hb.keep hb25 hbl
    exact h6.set 1 v5
  · rcases hb with hb | hb
    · exact ⟨by rw [hsz]; exact Nat.lt_of_lt_of_le hb.1 hb25.size, hb.2⟩
    · have := owns_in h1 hb
      exact ⟨by rw [hsz]; exact this.2, by omega⟩
theorem solve_len {S : Nat → Prop} {vars : Int} {F : List (List Int)} {p : Option Addr} {k cap : Nat} {steps : Int} {w : World} (hl : F.length = k) (hS : ∀ b, S b → b < w.heap.size) (hf : ClsIs S w F (.slice p k cap)) (hn : ∀ c ∈ F, ∀ x ∈ c, InR x) :
    Calls Try.prog 32 #[.agg #[.int .i64 vars, .slice p k cap], .int .i64 steps] w fun e w' => AnsDone (solA vars F steps) w e w' := by
  subst hl
  exact solve_any S vars F p cap steps w hS ⟨hf, hn⟩
theorem holds_len {S : Nat → Prop} {vars : Int} {F : List (List Int)} {p : Option Addr} {k cap : Nat} {m : List Bool} {mv : Value} {w : World} (hl : F.length = k) (hS : ∀ b, S b → b < w.heap.size) (hf : ClsIs S w F (.slice p k cap)) (hn : ∀ c ∈ F, ∀ x ∈ c, InR x) (hm : BoolsIs S w m mv) :
    Calls Try.prog 11 #[.agg #[.int .i64 vars, .slice p k cap], mv] w fun e w' => e = .returned (.tuple #[.bool (holdsB vars F m), .int .i64 (holdsE vars F m)]) ∧ Keep w w' := by
  subst hl
  exact holds_any S vars F p cap m mv w hS ⟨hf, hn⟩ hm

set_option maxHeartbeats 16000000 in
set_option maxRecDepth 100000 in
theorem satNext_walk (S : Nat → Prop) (vars : Int) (F : List (List Int)) (c : List Int) (p : Option Addr) (cap : Nat) (cv : Value) (w : World) (hS : ∀ b, S b → b < w.heap.size) (hf : FormIs S w vars F p cap) (hc : NumsIs S w c cv) (hrc : ∀ x ∈ c, InR x) :
    Calls Try.prog 10 #[.agg #[.int .i64 vars, .slice p F.length cap], cv] w fun e w' => e = .returned (.bool true) ∧ Keep w w' := by
  obtain ⟨i0, hi, hz0, hz1, hz2⟩ := info_parts infoInt
  obtain ⟨j0, hj, hy0, hy1, hy2⟩ := info_parts infoCl
  have HF := hid hf
  have HC := hid hc
  have HRC := hid hrc
  obtain ⟨cp, cc, rfl, hcl⟩ := hc.shape
  clear hf hc hrc
  go_enter Try.func10, Try.ntmps10
  go_wp2_with fail
  refine at_calls (fun W' => Keep w W' ∧ BoxAt w.heap.size 24 #[.int .i64 vars, .slice p F.length cap] W') ⟨Keep.alloc _ _, BoxAt.new _ _ _⟩ ?_
  rintro W0 ⟨k0, b0⟩
  refine (solve_any S vars F p cap 2000 W0 (fun b hb => Nat.lt_of_lt_of_le (hS b hb) k0.size) (HF.out.keep hS k0)).mono ?_
  rintro e w1 ⟨k1, mv, pv, rfl, hm, hp⟩
  have HOK := hid (fun h : (solA vars F 2000).er = 0 => solA_ok h)
  generalize solA vars F 2000 = a at hm hp HOK ⊢
  obtain ⟨er, m, P⟩ := a
  dsimp only at hm hp HOK ⊢
  have HM1 := hid hm
  obtain ⟨mp, mc, rfl, hml⟩ := hm.shape
  obtain ⟨pp, pc, rfl, hpl⟩ := hp.len
  have K1 := hid (k0.trans k1)
  have B1 := hid (b0.keep k1 b0.facts.2.2)
  have L0 := hid k0.size
  clear k0 b0 k1 hm hp
  go_upto_region 2 with fail
  refine at_wp (fun W' => Keep w1 W' ∧ BoxAt w1.heap.size 53 #[.slice mp m.length mc, .slice pp P.length pc] W') ⟨Keep.alloc _ _, BoxAt.new _ _ _⟩ ?_
  rintro W1 ⟨k2, b2⟩
  have KW := hid (K1.out.trans k2)
  have BF := hid (B1.out.keep k2 B1.out.facts.2.2)
  have BA := hid b2
  have MW := hid ((HM1.out.keep (B := w1.heap.size) (fun b hb => hb.2) k2).mono (S' := fun b => b < w1.heap.size) (fun _ _ => rfl) fun b hb => hb.2)
  have LA := hid (show w.heap.size ≤ w1.heap.size from K1.out.size)
  clear k2 b2 HM1 K1 B1 L0
  generalize w1.heap.size = ba at BA MW LA ⊢
  go_wp2_with fail
  refine (solved_any W1).mono ?_
  rintro e w2 ⟨rfl, k2⟩
  have K2 := hid k2
  clear k2
  by_cases her : er = 0
  rotate_left
  · have her' : (er != 0) = true := by simp [her]
    clear her
    go_wp2_with fail
    refine (solved_any w2).mono ?_
    rintro e w3 ⟨rfl, k3⟩
    have K3 := hid (KW.out.trans (K2.out.trans k3))
    clear k3
    go_wp2_with fail
    go_ret
    exact ⟨rfl, K3.out⟩
  subst her
  obtain ⟨n, hvn, hn4, hFl, hcl4, hfe, hans⟩ := HOK.out rfl
  subst hvn
  have HANS := hid hans
  have HCL := hid hcl4
  have HFE := hid hfe
  clear hans hcl4 hfe HOK
  have KX := hid (KW.out.trans K2.out)
  have BF2 := hid (BF.out.keep K2.out BF.out.facts.2.2)
  have BA2 := hid (BA.out.keep K2.out BA.out.facts.2.2)
  have MW2 := hid (MW.out.keep (B := W1.heap.size) (fun b hb => Nat.lt_trans hb BA.out.facts.2.2) K2.out)
  obtain ⟨hcb, -, hlb⟩ := BF2.out.facts
  have hc0 : w2.cell? ⟨w.heap.size, 0, none⟩ = some (.int .i64 (n : Int)) := hcb 0
  have hc1 : w2.cell? ⟨w.heap.size, 1, none⟩ = some (.slice p F.length cap) := hcb 1
  obtain ⟨hca, -, hla⟩ := BA2.out.facts
  have ha0 : w2.cell? ⟨ba, 0, none⟩ = some (.slice mp m.length mc) := hca 0
  have ha1 : w2.cell? ⟨ba, 1, none⟩ = some (.slice pp P.length pc) := hca 1
  clear hcb hca BF BA MW
  rcases HANS.out with ⟨h1, h2, h3⟩ | ⟨h1, -⟩
  rotate_left
  · have hPl : (0 : Int) < (P.length : Int) := by
      have h1 : P ≠ [] := h1
      have := List.length_pos_iff.2 h1
      omega
    have hPn : 0 < P.length := by omega
    clear h1
    go_wp2_with fail
    refine (solved_any w2).mono ?_
    rintro e w3 ⟨rfl, k3⟩
    have K3 := hid (KW.out.trans (K2.out.trans k3))
    clear k3
    go_wp2_with fail
    go_ret
    exact ⟨rfl, K3.out⟩
  have h1 : P = [] := h1
  subst h1
  have HMO := hid (show Mod n F m from h2)
  have HLE := hid (show ∀ o, Mod n F o → LexLe m o from h3)
  have hmn : m.length = n := HMO.out.1
  have HMN := hid hmn
  clear h2 h3 HANS hmn
  by_cases h60 : 60 < m.length
  · have h60' : (60 : Int) < (m.length : Int) := by omega
    go_wp2_with fail
    refine (solved_any w2).mono ?_
    rintro e w3 ⟨rfl, k3⟩
    have K3 := hid (KW.out.trans (K2.out.trans k3))
    clear k3
    go_wp2_with fail
    go_ret
    exact ⟨rfl, K3.out⟩
  have h60' : ¬ (60 : Int) < (m.length : Int) := by omega
  by_cases h4000 : F.length = 4000
  · have h4' : ((F.length : Int) == 4000) = true := by simp [h4000]
    clear h4000
    go_wp2_with fail
    refine (solved_any w2).mono ?_
    rintro e w3 ⟨rfl, k3⟩
    have K3 := hid (KW.out.trans (K2.out.trans k3))
    clear k3
    go_wp2_with fail
    go_ret
    exact ⟨rfl, K3.out⟩
  have h4' : ((F.length : Int) == 4000) = false := beq_eq_false_iff_ne.2 (by omega)
  have hF4 : F.length < 4000 := by omega
  clear h4000
  go_wp2_with fail
  go_loopg [7, 49] m.length (fun gk lv iv wr => ∃ j : Nat, j + gk = m.length ∧ iv = .int .i64 j ∧ IntsOwn w2.heap.size lv (noL m j) wr ∧ Keep w2 wr)
  case atStart => exact ⟨0, by omega, rfl, World.ownsRow_made w2 #[] 0 (Nat.le_refl _) (Nat.zero_le _) rfl, Keep.alloc _ _⟩
  case round =>
    obtain ⟨j, hj1, rfl, how, hk⟩ := hrel
    have HK := hid hk
    have HOW := hid how
    obtain ⟨lp, lc, hlv⟩ := how.ints.len
    subst hlv
    clear hk how
    by_cases hlt : j < m.length
    · obtain ⟨mb, mo, hmp, hmb, hmc⟩ := (MW2.out.keep (B := w2.heap.size) (fun b hb => Nat.lt_trans hb hla) HK.out).cellD hlt
      subst hmp
      have hmbl : mb < wr.heap.size := Nat.lt_of_lt_of_le (Nat.lt_trans hmb hla) HK.out.size
      have hjI : (j : Int) < (m.length : Int) := by omega
      have HNX := hid (noL_next m j)
      have hgd : m.getD j false = m[j] := by simp [List.getD_eq_getElem?_getD, hlt]
      rw [hgd] at HNX
      have hnl : (noL m j).length ≤ 60 := by rw [noL_len]; omega
      have hsz := HK.out.size
      clear hgd
      generalize m[j] = x at hmc HNX
      generalize noL m j = acc at HOW HNX hnl
      cases x with
      | true =>
        go_wp2_with (at_builtin; refine wpList_append_own_at _ rfl _ _ 38 rfl w2.heap.size 3 i0 (.int .i64 0) 1 8 Try.underlying38 hi hz0 hz1 hz2 rfl (by decide) (.slice lp acc.length lc) acc.length (acc.map (Value.int .i64)) rfl (HOW.out.alloc _) ⟨wr.heap.size, 0, none⟩ 1 1 [.int .i64 (-(j : Int) - 1)] rfl rfl one_newsC one_cellI (by unfold maxLen; omega) (by omega) (by have := alloc_size wr (.cells #[.int .i64 (-(j : Int) - 1)] 3); omega) ?_; intro v5 w5 h1 h2 _ h4; have P5 := hid (ints_push HK.out.size HOW.out h1 h2); clear h1 h2 h4)
        go_roundg (m.length - (j + 1))
        case rel => exact ⟨j + 1, by omega, by go_num, by rw [HNX.out]; exact P5.out.1, Below.trans HK.out P5.out.2⟩
        case measure => omega
      | false =>
        go_wp2_with (at_builtin; refine wpList_append_own_at _ rfl _ _ 38 rfl w2.heap.size 3 i0 (.int .i64 0) 1 8 Try.underlying38 hi hz0 hz1 hz2 rfl (by decide) (.slice lp acc.length lc) acc.length (acc.map (Value.int .i64)) rfl (HOW.out.alloc _) ⟨wr.heap.size, 0, none⟩ 1 1 [.int .i64 ((j : Int) + 1)] rfl rfl one_newsC one_cellI (by unfold maxLen; omega) (by omega) (by have := alloc_size wr (.cells #[.int .i64 ((j : Int) + 1)] 3); omega) ?_; intro v5 w5 h1 h2 _ h4; have P5 := hid (ints_push HK.out.size HOW.out h1 h2); clear h1 h2 h4)
        go_roundg (m.length - (j + 1))
        case rel => exact ⟨j + 1, by omega, by go_num, by rw [HNX.out]; exact P5.out.1, Below.trans HK.out P5.out.2⟩
        case measure => omega
    · obtain rfl : j = m.length := by omega
      have HNL := hid (noL_lits m)
      have hnl : (noL m m.length).length = m.length := noL_len _ _
      have hnl60 : (noL m m.length).length ≤ 60 := by omega
      have HNM := hid (fun (o : List Bool) (h : Mod n (F ++ [noL m m.length]) o) => show o ≠ m from fun e => noL_not (e ▸ h))
      have HOWM := hid (show IntsOwn w2.heap.size (.slice lp (noL m m.length).length lc) (noL m m.length) wr from HOW.out)
      clear HOW hlt hnl
      generalize noL m m.length = no at HNL hnl60 HNM HOWM ⊢
      have KM := hid (KX.out.trans HK.out)
      have BFm := hid (BF2.out.keep HK.out BF2.out.facts.2.2)
      have BAm := hid (BA2.out.keep HK.out BA2.out.facts.2.2)
      have MWm := hid (MW2.out.keep (B := w2.heap.size) (fun b hb => Nat.lt_trans hb hla) HK.out)
      have HBW := hid (show w.heap.size < w2.heap.size from hlb)
      clear hc0 hc1 ha0 ha1 BF2 BA2 MW2 KX KW K2
      obtain ⟨hcb, -, hlbm⟩ := BFm.out.facts
      have hc0 : wr.cell? ⟨w.heap.size, 0, none⟩ = some (.int .i64 (n : Int)) := hcb 0
      have hc1 : wr.cell? ⟨w.heap.size, 1, none⟩ = some (.slice p F.length cap) := hcb 1
      clear hcb
      go_upto_region 13 with fail
      refine at_wp (fun W' => Keep wr W' ∧ BoxAt wr.heap.size 24 #[.int .i64 (n : Int), .slice p F.length cap] W') ⟨Keep.alloc _ _, BoxAt.new _ _ _⟩ ?_
      rintro W2 ⟨k3, g3⟩
      have KN := hid (KM.out.trans k3)
      have G2 := hid g3
      have BFn := hid (BFm.out.keep k3 BFm.out.facts.2.2)
      have BAn := hid (BAm.out.keep k3 BAm.out.facts.2.2)
      have MWn := hid (MWm.out.keep (B := wr.heap.size) (fun b hb => Nat.lt_trans hb BAm.out.facts.2.2) k3)
      have HNU := hid (show NumsIs (fun b => b < W2.heap.size ∧ b ≠ wr.heap.size) W2 no (.slice lp no.length lc) from (HOWM.out.numsO.keep (B := wr.heap.size) (fun b hb => (owns_in HOWM.out hb).2) k3).mono (fun _ _ => rfl) fun b hb => by have := (owns_in HOWM.out hb).2; exact ⟨Nat.lt_of_lt_of_le this k3.size, by omega⟩)
      have HBG := hid (show w.heap.size ≤ wr.heap.size from KM.out.size)
      have HBA := hid (show ba < wr.heap.size from BAm.out.facts.2.2)
      clear k3 g3 hc0 hc1 BFm BAm MWm HOWM KM
      generalize hbge : wr.heap.size = bg at G2 HNU HBG HBA ⊢
      clear hbge
      obtain ⟨hcb, -, hlbn⟩ := BFn.out.facts
      have hc1 : W2.cell? ⟨w.heap.size, 1, none⟩ = some (.slice p F.length cap) := hcb 1
      clear hcb
      have HCLN := hid (cloneC_any (fun b => b < W2.heap.size ∧ b ≠ bg) F p cap W2 (fun b hb => hb.1) ((HF.out.keep hS KN.out).row.mono (fun _ _ => rfl) fun b hb => ⟨Nat.lt_of_lt_of_le (hS b hb) KN.out.size, fun e => by have := hS b hb; have := HBG.out; omega⟩) (by omega))
      go_wp2_with fail
      refine HCLN.out.mono ?_
      rintro e w3 ⟨v3, rfl, ⟨vs3, hvl3, hrow3, hvn3⟩, k3⟩
      have HV3 := hid (And.intro hvl3 hvn3)
      have HR3 := hid hrow3
      have KR3 := hid k3
      have G3 := hid (G2.out.keep k3 G2.out.facts.2.2)
      have hgl3 := G3.out.facts.2.2
      have HNE3 := hid (show v3.ownBlock ≠ some bg from fun e => by have := (owns_in HR3.out e).1; have := G2.out.facts.2.2; omega)
      have HK23 := hid k3.size
      clear hvl3 hvn3 hrow3 k3 HCLN
      go_upto_region 14 with (at_builtin; go_loud (refine wpList_append_own_at _ rfl _ _ 22 rfl W2.heap.size 38 j0 (.slice none 0 0) 1 24 Try.underlying22 hj hy0 hy1 hy2 rfl (by decide) v3 F.length vs3 rfl (HR3.out.alloc _) ⟨w3.heap.size, 0, none⟩ 1 1 [.slice lp no.length lc] rfl rfl one_newsC one_cellC (by unfold maxLen; omega) (by omega) (by rw [alloc_size]; have := HK23.out; omega) ?_; intro v5 w5 h1 h2 _ h4; obtain ⟨g5, cap5, rfl⟩ := owns_shape h1 (Nat.succ_pos _); have H5 := hid (clone_put G2.out KR3.out HV3.out.1 HV3.out.2 HR3.out HNU.out h1 (grown_alloc h2)); have hbx5 := (show BoxAt bg 24 #[.int .i64 (n : Int), .slice p F.length cap] w5 from by (have := G3.out; unfold BoxAt at *; rw [(grown_alloc h2).block _ hgl3 (fun e => HNE3.out e.symm)]; exact this)); obtain ⟨hcb5, hcf5, hcl5⟩ := hbx5.facts; have hcb51 := hcb5 1; have hcf51 := hcf5 1; simp only [List.getElem?_toArray, List.getElem?_cons_zero, List.getElem?_cons_succ] at hcb51; clear h1 h2 h4 hbx5 hcb5 hcf5))
      refine at_wp (fun W' => Turn (IsB bg) (IsB bg) W2 W' ∧ BoxAt bg 24 #[.int .i64 (n : Int), .slice (some ⟨g5, 0, none⟩) (F.length + 1) cap5] W' ∧ ClsIs (fun b => b < W'.heap.size ∧ b ≠ bg) W' (F ++ [no]) (.slice (some ⟨g5, 0, none⟩) (F.length + 1) cap5)) ?_ ?_
      · exact H5.out
      rintro W6 ⟨t6, g6, c6⟩
      have T6 := hid t6
      have G6 := hid g6
      have C6 := hid c6
      have K6 := hid (show Keep w W6 from Below.trans KN.out (t6.below (B := w.heap.size) KN.out.size fun b hb e => by have e2 : b = bg := e; have := HBG.out; omega))
      have BF6 := hid (BFn.out.turn t6 fun e => by have e2 : w.heap.size = bg := e; have := HBG.out; have := HBA.out; have := LA.out; omega)
      have BA6 := hid (BAn.out.turn t6 fun e => by have e2 : ba = bg := e; have := HBA.out; omega)
      have MW6 := hid (MWn.out.mono (w' := W6) (S' := fun b => b < ba) (fun q hq => t6.cell q (by have := G2.out.facts.2.2; have h1 : q.block < ba := hq; have := HBA.out; omega) fun e => by have e2 : q.block = bg := e; have h1 : q.block < ba := hq; have := HBA.out; omega) fun _ h => h)
      clear t6 g6 c6 H5 HV3 HR3 KR3 G3 HNE3 HK23 hgl3 hcb51 hcf51 hcl5 hc1 BFn BAn MWn G2 KN HNU T6
      obtain ⟨hcg, -, hlg⟩ := G6.out.facts
      have hg0 : W6.cell? ⟨bg, 0, none⟩ = some (.int .i64 (n : Int)) := hcg 0
      have hg1 : W6.cell? ⟨bg, 1, none⟩ = some (.slice (some ⟨g5, 0, none⟩) (F.length + 1) cap5) := hcg 1
      clear hcg
      have HGC := hid (show ∀ d ∈ F ++ [no], d.length ≤ 60 ∧ LitsC n d from fun d hd => by
        rcases List.mem_append.1 hd with hd | hd
        · exact HCL.out d hd
        · rw [List.mem_singleton.1 hd]; exact ⟨hnl60, HMN.out ▸ HNL.out⟩)
      have HGE := hid (show formE n (F ++ [no]) = 0 from formE_back hn4 (by simp; omega) HGC.out)
      have HSO := hid (solve_len (vars := (n : Int)) (F := F ++ [no]) (k := F.length + 1) (steps := 40000) (by simp) (fun b hb => hb.1) C6.out (lits_num (n := n) (by omega) HGC.out))
      have HOR := hid (ans_or HGE.out (show (1 : Int) ≤ 40000 by decide) (Int.le_refl _))
      have HOK7 := hid (fun h : (solA n (F ++ [no]) 40000).er = 0 => solA_ok h)
      generalize solA n (F ++ [no]) 40000 = a7 at HSO HOR HOK7
      obtain ⟨er7, m7, P7⟩ := a7
      dsimp only at HSO HOR HOK7
      go_wp2_with fail
      refine HSO.out.mono ?_
      rintro e w7 ⟨k7, mv7, pv7, rfl, hm7, hp7⟩
      have HM7 := hid hm7
      obtain ⟨mp7, mc7, hmv7, hml7⟩ := hm7.shape
      obtain ⟨pp7, pc7, hpv7, hpl7⟩ := hp7.len
      dsimp only at hmv7 hpv7 hml7 hpl7 HM7
      subst hmv7 hpv7
      have KR7 := hid k7
      clear k7 hm7 hp7 HSO hg0 hg1
      go_upto_region 15 with fail
      refine at_wp (fun W' => Keep w7 W' ∧ BoxAt w7.heap.size 53 #[.slice mp7 m7.length mc7, .slice pp7 P7.length pc7] W') ⟨Keep.alloc _ _, BoxAt.new _ _ _⟩ ?_
      rintro W7 ⟨k8, b8⟩
      have KR := hid (show Keep W6 W7 from KR7.out.trans k8)
      have BB7 := hid b8
      have K7 := hid (K6.out.trans KR.out)
      have BF7 := hid (BF6.out.keep KR.out BF6.out.facts.2.2)
      have BA7 := hid (BA6.out.keep KR.out BA6.out.facts.2.2)
      have G7 := hid (G6.out.keep KR.out G6.out.facts.2.2)
      have MW7 := hid (MW6.out.keep (B := W6.heap.size) (fun b hb => Nat.lt_trans hb BA6.out.facts.2.2) KR.out)
      have MB7 := hid ((HM7.out.keep (B := w7.heap.size) (fun b hb => hb.2) k8).mono (S' := fun b => b < W7.heap.size) (fun _ _ => rfl) fun b hb => Nat.lt_of_lt_of_le hb.2 k8.size)
      clear k8 b8 HM7 KR7 K6 BF6 BA6 G6 MW6 KR C6
      generalize w7.heap.size = bb at BB7 ⊢
      by_cases her7 : er7 = 0
      rotate_left
      · obtain rfl : er7 = 8 := HOR.out.resolve_left her7
        clear her7
        go_wp2_with fail
        go_ret
        exact ⟨rfl, K7.out⟩
      subst her7
      obtain ⟨n', hn', -, -, -, -, hans7⟩ := HOK7.out rfl
      obtain rfl : n = n' := by omega
      have HANS7 := hid hans7
      clear hans7 hn' HOK7 HOR
      obtain ⟨hcb, -, hlb7⟩ := BB7.out.facts
      have hb0 : W7.cell? ⟨bb, 0, none⟩ = some (.slice mp7 m7.length mc7) := hcb 0
      have hb1 : W7.cell? ⟨bb, 1, none⟩ = some (.slice pp7 P7.length pc7) := hcb 1
      clear hcb
      rcases HANS7.out with ⟨h1, h2, h3⟩ | ⟨h1, -⟩
      rotate_left
      · have hPl : ((P7.length : Int) == 0) = false := beq_eq_false_iff_ne.2 (by
          have h1 : P7 ≠ [] := h1
          have := List.length_pos_iff.2 h1
          omega)
        clear h1 HANS7
        obtain ⟨hcb, -, hlbf⟩ := BF7.out.facts
        have hc1 : W7.cell? ⟨w.heap.size, 1, none⟩ = some (.slice p F.length cap) := hcb 1
        clear hcb
        have HNC := hid (show NumsIs (fun b => b < W7.heap.size ∧ b ≠ bg) W7 c (.slice cp c.length cc) from (HC.out.keep hS K7.out).mono (fun _ _ => rfl) fun b hb => ⟨Nat.lt_of_lt_of_le (hS b hb) K7.out.size, fun e => by have := hS b hb; have := HBG.out; omega⟩)
        have HCLN := hid (cloneC_any (fun b => b < W7.heap.size ∧ b ≠ bg) F p cap W7 (fun b hb => hb.1) ((HF.out.keep hS K7.out).row.mono (fun _ _ => rfl) fun b hb => ⟨Nat.lt_of_lt_of_le (hS b hb) K7.out.size, fun e => by have := hS b hb; have := HBG.out; omega⟩) (by omega))
        go_wp2_with fail
        refine HCLN.out.mono ?_
        rintro e w3 ⟨v3, rfl, ⟨vs3, hvl3, hrow3, hvn3⟩, k3⟩
        have HV3 := hid (And.intro hvl3 hvn3)
        have HR3 := hid hrow3
        have KR3 := hid k3
        have G3 := hid (G7.out.keep k3 G7.out.facts.2.2)
        have hgl3 := G3.out.facts.2.2
        have HNE3 := hid (show v3.ownBlock ≠ some bg from fun e => by have := (owns_in HR3.out e).1; have := G7.out.facts.2.2; omega)
        have HK23 := hid k3.size
        clear hvl3 hvn3 hrow3 k3 HCLN
        go_upto_region 24 with (at_builtin; go_loud (refine wpList_append_own_at _ rfl _ _ 22 rfl W7.heap.size 38 j0 (.slice none 0 0) 1 24 Try.underlying22 hj hy0 hy1 hy2 rfl (by decide) v3 F.length vs3 rfl (HR3.out.alloc _) ⟨w3.heap.size, 0, none⟩ 1 1 [.slice cp c.length cc] rfl rfl one_newsC one_cellC (by unfold maxLen; omega) (by omega) (by rw [alloc_size]; have := HK23.out; omega) ?_; intro v5 w5 h1 h2 _ h4; obtain ⟨g9, cap9, rfl⟩ := owns_shape h1 (Nat.succ_pos _); have H5 := hid (clone_put G7.out KR3.out HV3.out.1 HV3.out.2 HR3.out HNC.out h1 (grown_alloc h2)); have hbx5 := (show BoxAt bg 24 #[.int .i64 (n : Int), .slice (some ⟨g5, 0, none⟩) (F.length + 1) cap5] w5 from by (have := G3.out; unfold BoxAt at *; rw [(grown_alloc h2).block _ hgl3 (fun e => HNE3.out e.symm)]; exact this)); obtain ⟨hcb5, hcf5, hcl5⟩ := hbx5.facts; have hcb51 := hcb5 1; have hcf51 := hcf5 1; simp only [List.getElem?_toArray, List.getElem?_cons_zero, List.getElem?_cons_succ] at hcb51; clear h1 h2 h4 hbx5 hcb5 hcf5))
        refine at_wp (fun W' => Turn (IsB bg) (IsB bg) W7 W' ∧ BoxAt bg 24 #[.int .i64 (n : Int), .slice (some ⟨g9, 0, none⟩) (F.length + 1) cap9] W' ∧ ClsIs (fun b => b < W'.heap.size ∧ b ≠ bg) W' (F ++ [c]) (.slice (some ⟨g9, 0, none⟩) (F.length + 1) cap9)) ?_ ?_
        · exact H5.out
        rintro W8 ⟨t8, g8, c8⟩
        have G8 := hid g8
        have C8 := hid c8
        have K8 := hid (show Keep w W8 from Below.trans K7.out (t8.below (B := w.heap.size) K7.out.size fun b hb e => by have e2 : b = bg := e; have := HBG.out; omega))
        have BA8 := hid (BA7.out.turn t8 fun e => by have e2 : ba = bg := e; have := HBA.out; omega)
        have MW8 := hid (MW7.out.mono (w' := W8) (S' := fun b => b < W8.heap.size ∧ b ≠ bg) (fun q hq => t8.cell q (by have h1 : q.block < ba := hq; have := BA7.out.facts.2.2; omega) fun e => by have e2 : q.block = bg := e; have h1 : q.block < ba := hq; have := HBA.out; omega) fun b hb => by
          have h1 : b < ba := hb
          have h2 := BA7.out.facts.2.2
          have h3 := t8.size
          have h4 := HBA.out
          exact ⟨by omega, by omega⟩)
        have HNCN := hid (show ∀ d ∈ F ++ [c], ∀ x ∈ d, InR x from fun d hd => by
          rcases List.mem_append.1 hd with hd | hd
          · exact HF.out.num d hd
          · rw [List.mem_singleton.1 hd]; exact HRC.out)
        clear t8 g8 c8 H5 HV3 HR3 KR3 G3 HNE3 HK23 hgl3 hcb51 hcf51 hcl5 hc1 BF7 BA7 MW7 G7 K7 HNC
        obtain ⟨hcg, -, hlg8⟩ := G8.out.facts
        have hg0 : W8.cell? ⟨bg, 0, none⟩ = some (.int .i64 (n : Int)) := hcg 0
        have hg1 : W8.cell? ⟨bg, 1, none⟩ = some (.slice (some ⟨g9, 0, none⟩) (F.length + 1) cap9) := hcg 1
        obtain ⟨hca, -, hla8⟩ := BA8.out.facts
        have ha0 : W8.cell? ⟨ba, 0, none⟩ = some (.slice mp m.length mc) := hca 0
        clear hcg hca
        have HHO := hid (holds_len (vars := (n : Int)) (F := F ++ [c]) (k := F.length + 1) (by simp) (fun b hb => hb.1) C8.out HNCN.out MW8.out)
        have HHE := hid (show holdsE n (F ++ [c]) m = if formE n (F ++ [c]) ≠ 0 then formE n (F ++ [c]) else if (m.length : Int) ≠ n then 4 else 0 from rfl)
        have HHI := hid (fun h : formE n (F ++ [c]) = 0 => holds_iff (m := m) h)
        generalize holdsE n (F ++ [c]) m = he at HHO HHE HHI
        generalize holdsB n (F ++ [c]) m = hb at HHO HHI
        go_wp2_with fail
        refine HHO.out.mono ?_
        rintro e w9 ⟨rfl, k9⟩
        have K9 := hid (K8.out.trans k9)
        have G9 := hid (G8.out.keep k9 G8.out.facts.2.2)
        have BA9 := hid (BA8.out.keep k9 BA8.out.facts.2.2)
        have MW9 := hid (MW8.out.keep (B := W8.heap.size) (fun b hb => hb.1) k9)
        have C9 := hid ((C8.out.keep (B := W8.heap.size) (fun b hb => hb.1) k9).mono (S' := fun b => b < w9.heap.size) (fun _ _ => rfl) fun b hb => Nat.lt_of_lt_of_le hb.1 k9.size)
        have L9 := hid k9.size
        clear k9 hg0 hg1 ha0 HHO G8 BA8 MW8 C8 K8
        by_cases hhe : he = 0
        rotate_left
        · have hhe' : (he != 0) = true := by simp [hhe]
          clear hhe
          cases hb
          all_goals
            go_wp2_with fail
            go_ret
            exact ⟨rfl, K9.out⟩
        subst hhe
        cases hb with
        | false =>
          go_wp2_with fail
          go_ret
          exact ⟨rfl, K9.out⟩
        | true =>
          have hfe2 : formE n (F ++ [c]) = 0 := by
            have h1 := HHE.out
            by_cases e : formE n (F ++ [c]) = 0
            · exact e
            · rw [if_pos e] at h1; exact h1.symm
          have HMC := hid ((HHI.out hfe2).1 ⟨rfl, rfl⟩)
          have HSO := hid (solve_len (vars := (n : Int)) (F := F ++ [c]) (k := F.length + 1) (steps := 40000) (by simp) (fun b hb => hb) C9.out HNCN.out)
          have HOR := hid (ans_or hfe2 (show (1 : Int) ≤ 40000 by decide) (Int.le_refl _))
          have HOK9 := hid (fun h : (solA n (F ++ [c]) 40000).er = 0 => solA_ok h)
          clear HHE HHI hfe2
          generalize solA n (F ++ [c]) 40000 = a9 at HSO HOR HOK9
          obtain ⟨er9, m9, P9⟩ := a9
          dsimp only at HSO HOR HOK9
          obtain ⟨hcg, -, hlg9⟩ := G9.out.facts
          have hg0 : w9.cell? ⟨bg, 0, none⟩ = some (.int .i64 (n : Int)) := hcg 0
          have hg1 : w9.cell? ⟨bg, 1, none⟩ = some (.slice (some ⟨g9, 0, none⟩) (F.length + 1) cap9) := hcg 1
          clear hcg
          go_wp2_with fail
          refine HSO.out.mono ?_
          rintro e wa ⟨ka, mva, pva, rfl, hma, hpa⟩
          have HMA := hid hma
          obtain ⟨mpa, mca, hmva, hmla⟩ := hma.shape
          obtain ⟨ppa, pca, hpva, hpla⟩ := hpa.len
          dsimp only at hmva hpva hmla hpla HMA
          subst hmva hpva
          have KRA := hid ka
          clear ka hma hpa HSO hg0 hg1
          go_upto_region 28 with fail
          refine at_wp (fun W' => Keep wa W' ∧ BoxAt wa.heap.size 53 #[.slice mpa m9.length mca, .slice ppa P9.length pca] W') ⟨Keep.alloc _ _, BoxAt.new _ _ _⟩ ?_
          rintro WA ⟨kb, bda⟩
          have KA := hid (show Keep w9 WA from KRA.out.trans kb)
          have BD := hid bda
          have KZ := hid (K9.out.trans KA.out)
          have BAz := hid (BA9.out.keep KA.out BA9.out.facts.2.2)
          have MWz := hid ((MW9.out.keep (B := w9.heap.size) (fun b hb => Nat.lt_of_lt_of_le hb.1 L9.out) KA.out).mono (S' := fun b => b < WA.heap.size) (fun _ _ => rfl) fun b hb => Nat.lt_of_lt_of_le hb.1 (Nat.le_trans L9.out KA.out.size))
          have MDz := hid ((HMA.out.keep (B := wa.heap.size) (fun b hb => hb.2) kb).mono (S' := fun b => b < WA.heap.size) (fun _ _ => rfl) fun b hb => Nat.lt_of_lt_of_le hb.2 kb.size)
          clear kb bda KRA HMA
          generalize wa.heap.size = bd at BD ⊢
          rcases HOR.out with her9 | her9
          rotate_left
          · have her9 : er9 = 8 := her9
            subst her9
            go_wp2_with fail
            go_ret
            exact ⟨rfl, KZ.out⟩
          have her9 : er9 = 0 := her9
          subst her9
          obtain ⟨n', hn', -, -, -, -, hans9⟩ := HOK9.out rfl
          obtain rfl : n = n' := by omega
          clear hn'
          have hm9 : m9 = m := by
            rcases hans9 with ⟨-, h2, h3⟩ | ⟨-, -, -, -, -, h6⟩
            · exact least_same (fun d hd => List.mem_append_left _ hd) HLE.out HMC.out h2 h3
            · exact absurd HMC.out (h6 m)
          subst hm9
          clear hans9 HOK9 HOR
          obtain ⟨hca, -, hlaz⟩ := BAz.out.facts
          have ha0 : WA.cell? ⟨ba, 0, none⟩ = some (.slice mp m9.length mc) := hca 0
          obtain ⟨hcd, -, hldz⟩ := BD.out.facts
          have hd0 : WA.cell? ⟨bd, 0, none⟩ = some (.slice mpa m9.length mca) := hcd 0
          clear hca hcd
          have HEQ := hid (equalB_any (fun b => b < WA.heap.size) m9 m9 (.slice mpa m9.length mca) (.slice mp m9.length mc) WA (fun b hb => hb) MDz.out MWz.out)
          go_wp2_with fail
          refine HEQ.out.mono ?_
          rintro e wz ⟨rfl, kz⟩
          have KK := hid (KZ.out.trans kz)
          have heq : (m9 == m9) = true := by simp
          rw [heq]
          clear heq kz HEQ ha0 hd0
          go_wp2_with fail
          go_ret
          exact ⟨rfl, KK.out⟩
      have h1 : P7 = [] := h1
      subst h1
      have hPl : (((0 : Nat) : Int) == 0) = true := by decide
      have h2 : Mod n (F ++ [no]) m7 := h2
      obtain ⟨jd, hjd, hpre, hmd, hod⟩ : ∃ j, j < m.length ∧ (∀ i < j, m.getD i false = m7.getD i false) ∧ m.getD j false = false ∧ m7.getD j false = true := by
        rcases HLE.out m7 h2.less with e | h
        · exact absurd e.symm (HNM.out m7 h2)
        · exact h
      have hl7 : m7.length = m.length := h2.1.trans HMN.out.symm
      have HPRE := hid hpre
      have HMD := hid hmd
      have HOD := hid hod
      have HL7 := hid hl7
      clear h2 h3 HANS7 hpre hmd hod hl7
      obtain ⟨hca, -, hla7⟩ := BA7.out.facts
      have ha0 : W7.cell? ⟨ba, 0, none⟩ = some (.slice mp m.length mc) := hca 0
      clear hca
      go_wp2_with fail
      go_loopg [12] (jd + 1) (fun gk kv wq => ∃ k : Nat, k + gk = jd + 1 ∧ 1 ≤ gk ∧ kv = .int .i64 k ∧ Keep W7 wq)
      case atStart => exact ⟨0, by omega, by omega, rfl, Keep.refl _⟩
      case round =>
        obtain ⟨k, hk1, hk2, rfl, hkk⟩ := hrel
        have KQ := hid hkk
        clear hkk
        have hkm : k < m.length := by omega
        have hkm7 : k < m7.length := by have := HL7.out; omega
        obtain ⟨xb, xo, hxp, hxb, hxc⟩ := (MW7.out.keep (B := W7.heap.size) (fun b hb => Nat.lt_trans hb hla7) KQ.out).cellD hkm
        obtain ⟨yb, yo, hyp, hyb, hyc⟩ := (MB7.out.keep (B := W7.heap.size) (fun b hb => hb) KQ.out).cellD hkm7
        subst hxp hyp
        have hxbl : xb < wr.heap.size := Nat.lt_of_lt_of_le (Nat.lt_trans hxb hla7) KQ.out.size
        have hybl : yb < wr.heap.size := Nat.lt_of_lt_of_le hyb KQ.out.size
        have hkI : (k : Int) < (m.length : Int) := by omega
        have hkI7 : (k : Int) < (m7.length : Int) := by omega
        have hkd : decide ((k : Int) < (m.length : Int)) = true := decide_eq_true hkI
        have hqa : wr.cell? ⟨ba, 0, none⟩ = some (.slice (some ⟨xb, xo, none⟩) m.length mc) := (KQ.out.cell (p := ⟨ba, 0, none⟩) hla7).trans ha0
        have hqb : wr.cell? ⟨bb, 0, none⟩ = some (.slice (some ⟨yb, yo, none⟩) m7.length mc7) := (KQ.out.cell (p := ⟨bb, 0, none⟩) hlb7).trans hb0
        have hqal : ba < wr.heap.size := Nat.lt_of_lt_of_le hla7 KQ.out.size
        have hqbl : bb < wr.heap.size := Nat.lt_of_lt_of_le hlb7 KQ.out.size
        have e1 : m.getD k false = m[k] := by simp [List.getD_eq_getElem?_getD, hkm]
        have e2 : m7.getD k false = m7[k] := by simp [List.getD_eq_getElem?_getD, hkm7]
        by_cases hkj : k < jd
        · have hxy : (m[k] == m7[k]) = true := by
            have := HPRE.out k hkj
            rw [e1, e2] at this
            simp [this]
          clear e1 e2
          generalize m[k] = x at hxc hxy
          generalize m7[k] = y at hyc hxy
          go_upto_region 19 with fail
          go_quiet (fail)
          have k0 := hid (show Keep W7 (wr.drewN nq) from KQ.out.trans (Keep.drewN (Keep.refl _) _))
          generalize wr.drewN nq = W9 at k0 ⊢
          clear hxc hyc hxbl hybl hqa hqb hqal hqbl hkd
          go_wp2_with fail
          go_roundg (jd - k)
          case rel => exact ⟨k + 1, by omega, by omega, by go_num, k0.out⟩
          case measure => omega
        · obtain rfl : k = jd := by omega
          have hx : m[k] = false := by rw [← e1]; exact HMD.out
          have hy : m7[k] = true := by rw [← e2]; exact HOD.out
          rw [hx] at hxc
          rw [hy] at hyc
          clear e1 e2 hx hy
          have hkne : ((k : Int) == (m.length : Int)) = false := beq_eq_false_iff_ne.2 (by omega)
          go_upto_region 19 with fail
          go_quiet (fail)
          have k0 := hid (show Keep W7 (wr.drewN nq) from KQ.out.trans (Keep.drewN (Keep.refl _) _))
          have hqa9 : (wr.drewN nq).cell? ⟨ba, 0, none⟩ = some (.slice (some ⟨xb, xo, none⟩) m.length mc) := (k0.out.cell (p := ⟨ba, 0, none⟩) hla7).trans ha0
          have hxc9 : (wr.drewN nq).cell? ⟨xb, xo + k, none⟩ = some (.bool false) := ((Keep.drewN (Keep.refl wr) nq).cell (p := ⟨xb, xo + k, none⟩) hxbl).trans hxc
          have hqal9 : ba < (wr.drewN nq).heap.size := Nat.lt_of_lt_of_le hla7 k0.out.size
          have hxbl9 : xb < (wr.drewN nq).heap.size := Nat.lt_of_lt_of_le hxbl (Keep.drewN (Keep.refl wr) nq).size
          generalize wr.drewN nq = W9 at k0 hqa9 hxc9 hqal9 hxbl9 ⊢
          clear hxc hyc hxbl hybl hqa hqb hqal hqbl
          have K9x := hid (K7.out.trans k0.out)
          have BF9x := hid (BF7.out.keep k0.out BF7.out.facts.2.2)
          have BA9x := hid (BA7.out.keep k0.out BA7.out.facts.2.2)
          have G9x := hid (G7.out.keep k0.out G7.out.facts.2.2)
          have MW9x := hid (MW7.out.keep (B := W7.heap.size) (fun b hb => Nat.lt_trans hb hla7) k0.out)
          clear K7 BF7 BA7 G7 MW7 MB7 ha0 hb0 hb1
          obtain ⟨W7o, hW7o⟩ : ∃ x : World, x = W7 := ⟨_, rfl⟩
          have K7 := K9x
          have BF7 := BF9x
          have BA7 := BA9x
          have G7 := G9x
          have MW7 := MW9x
          clear K9x BF9x BA9x G9x MW9x hW7o
          clear hkd
          go_upto_region 23 with fail
          clear hqa9 hxc9 hqal9 hxbl9 hkne hkI hkI7 hkm hkm7 HPRE HMD HOD HL7 hkj KQ k0 hxb hyb hjd hk1 hk2 hla7 hlb7 hlg hlbn hlb hla BB7 HNM HMN HNL hnl60 HGE HGC
          obtain ⟨hcb, -, hlbf9⟩ := BF7.out.facts
          have hc1 : W9.cell? ⟨w.heap.size, 1, none⟩ = some (.slice p F.length cap) := hcb 1
          clear hcb
          have HNC := hid (show NumsIs (fun b => b < W9.heap.size ∧ b ≠ bg) W9 c (.slice cp c.length cc) from (HC.out.keep hS K7.out).mono (fun _ _ => rfl) fun b hb => ⟨Nat.lt_of_lt_of_le (hS b hb) K7.out.size, fun e => by have := hS b hb; have := HBG.out; omega⟩)
          have HCLN := hid (cloneC_any (fun b => b < W9.heap.size ∧ b ≠ bg) F p cap W9 (fun b hb => hb.1) ((HF.out.keep hS K7.out).row.mono (fun _ _ => rfl) fun b hb => ⟨Nat.lt_of_lt_of_le (hS b hb) K7.out.size, fun e => by have := hS b hb; have := HBG.out; omega⟩) (by omega))
          go_wp2_with fail
          refine HCLN.out.mono ?_
          rintro e w3 ⟨v3, rfl, ⟨vs3, hvl3, hrow3, hvn3⟩, k3⟩
          have HV3 := hid (And.intro hvl3 hvn3)
          have HR3 := hid hrow3
          have KR3 := hid k3
          have G3 := hid (G7.out.keep k3 G7.out.facts.2.2)
          have hgl3 := G3.out.facts.2.2
          have HNE3 := hid (show v3.ownBlock ≠ some bg from fun e => by have := (owns_in HR3.out e).1; have := G7.out.facts.2.2; omega)
          have HK23 := hid k3.size
          clear hvl3 hvn3 hrow3 k3 HCLN
          go_upto_region 24 with (at_builtin; go_loud (refine wpList_append_own_at _ rfl _ _ 22 rfl W9.heap.size 38 j0 (.slice none 0 0) 1 24 Try.underlying22 hj hy0 hy1 hy2 rfl (by decide) v3 F.length vs3 rfl (HR3.out.alloc _) ⟨w3.heap.size, 0, none⟩ 1 1 [.slice cp c.length cc] rfl rfl one_newsC one_cellC (by unfold maxLen; omega) (by omega) (by rw [alloc_size]; have := HK23.out; omega) ?_; intro v5 w5 h1 h2 _ h4; obtain ⟨g9, cap9, rfl⟩ := owns_shape h1 (Nat.succ_pos _); have H5 := hid (clone_put G7.out KR3.out HV3.out.1 HV3.out.2 HR3.out HNC.out h1 (grown_alloc h2)); have hbx5 := (show BoxAt bg 24 #[.int .i64 (n : Int), .slice (some ⟨g5, 0, none⟩) (F.length + 1) cap5] w5 from by (have := G3.out; unfold BoxAt at *; rw [(grown_alloc h2).block _ hgl3 (fun e => HNE3.out e.symm)]; exact this)); obtain ⟨hcb5, hcf5, hcl5⟩ := hbx5.facts; have hcb51 := hcb5 1; have hcf51 := hcf5 1; simp only [List.getElem?_toArray, List.getElem?_cons_zero, List.getElem?_cons_succ] at hcb51; clear h1 h2 h4 hbx5 hcb5 hcf5))
          refine at_wp (fun W' => Turn (IsB bg) (IsB bg) W9 W' ∧ BoxAt bg 24 #[.int .i64 (n : Int), .slice (some ⟨g9, 0, none⟩) (F.length + 1) cap9] W' ∧ ClsIs (fun b => b < W'.heap.size ∧ b ≠ bg) W' (F ++ [c]) (.slice (some ⟨g9, 0, none⟩) (F.length + 1) cap9)) ?_ ?_
          · exact H5.out
          rintro W8 ⟨t8, g8, c8⟩
          have G8 := hid g8
          have C8 := hid c8
          have K8 := hid (show Keep w W8 from Below.trans K7.out (t8.below (B := w.heap.size) K7.out.size fun b hb e => by have e2 : b = bg := e; have := HBG.out; omega))
          have BA8 := hid (BA7.out.turn t8 fun e => by have e2 : ba = bg := e; have := HBA.out; omega)
          have MW8 := hid (MW7.out.mono (w' := W8) (S' := fun b => b < W8.heap.size ∧ b ≠ bg) (fun q hq => t8.cell q (by have h1 : q.block < ba := hq; have := BA7.out.facts.2.2; omega) fun e => by have e2 : q.block = bg := e; have h1 : q.block < ba := hq; have := HBA.out; omega) fun b hb => by
            have h1 : b < ba := hb
            have h2 := BA7.out.facts.2.2
            have h3 := t8.size
            have h4 := HBA.out
            exact ⟨by omega, by omega⟩)
          have HNCN := hid (show ∀ d ∈ F ++ [c], ∀ x ∈ d, InR x from fun d hd => by
            rcases List.mem_append.1 hd with hd | hd
            · exact HF.out.num d hd
            · rw [List.mem_singleton.1 hd]; exact HRC.out)
          clear t8 g8 c8 H5 HV3 HR3 KR3 G3 HNE3 HK23 hgl3 hcb51 hcf51 hcl5 hc1 BF7 BA7 MW7 G7 K7 HNC
          obtain ⟨hcg, -, hlg8⟩ := G8.out.facts
          have hg0 : W8.cell? ⟨bg, 0, none⟩ = some (.int .i64 (n : Int)) := hcg 0
          have hg1 : W8.cell? ⟨bg, 1, none⟩ = some (.slice (some ⟨g9, 0, none⟩) (F.length + 1) cap9) := hcg 1
          obtain ⟨hca, -, hla8⟩ := BA8.out.facts
          have ha0 : W8.cell? ⟨ba, 0, none⟩ = some (.slice (some ⟨xb, xo, none⟩) m.length mc) := hca 0
          clear hcg hca
          have HHO := hid (holds_len (vars := (n : Int)) (F := F ++ [c]) (k := F.length + 1) (by simp) (fun b hb => hb.1) C8.out HNCN.out MW8.out)
          have HHE := hid (show holdsE n (F ++ [c]) m = if formE n (F ++ [c]) ≠ 0 then formE n (F ++ [c]) else if (m.length : Int) ≠ n then 4 else 0 from rfl)
          have HHI := hid (fun h : formE n (F ++ [c]) = 0 => holds_iff (m := m) h)
          generalize holdsE n (F ++ [c]) m = he at HHO HHE HHI
          generalize holdsB n (F ++ [c]) m = hb at HHO HHI
          go_wp2_with fail
          refine HHO.out.mono ?_
          rintro e w9x ⟨rfl, k9⟩
          have K9 := hid (K8.out.trans k9)
          have G9 := hid (G8.out.keep k9 G8.out.facts.2.2)
          have BA9 := hid (BA8.out.keep k9 BA8.out.facts.2.2)
          have MW9 := hid (MW8.out.keep (B := W8.heap.size) (fun b hb => hb.1) k9)
          have C9 := hid ((C8.out.keep (B := W8.heap.size) (fun b hb => hb.1) k9).mono (S' := fun b => b < w9x.heap.size) (fun _ _ => rfl) fun b hb => Nat.lt_of_lt_of_le hb.1 k9.size)
          have L9 := hid k9.size
          clear k9 hg0 hg1 ha0 HHO G8 BA8 MW8 C8 K8
          by_cases hhe : he = 0
          rotate_left
          · have hhe' : (he != 0) = true := by simp [hhe]
            clear hhe
            cases hb
            all_goals
              go_wp2_with fail
              go_ret
              exact ⟨rfl, K9.out⟩
          subst hhe
          cases hb with
          | false =>
            go_wp2_with fail
            go_ret
            exact ⟨rfl, K9.out⟩
          | true =>
            have hfe2 : formE n (F ++ [c]) = 0 := by
              have h1 := HHE.out
              by_cases e : formE n (F ++ [c]) = 0
              · exact e
              · rw [if_pos e] at h1; exact h1.symm
            have HMC := hid ((HHI.out hfe2).1 ⟨rfl, rfl⟩)
            have HSO := hid (solve_len (vars := (n : Int)) (F := F ++ [c]) (k := F.length + 1) (steps := 40000) (by simp) (fun b hb => hb) C9.out HNCN.out)
            have HOR := hid (ans_or hfe2 (show (1 : Int) ≤ 40000 by decide) (Int.le_refl _))
            have HOK9 := hid (fun h : (solA n (F ++ [c]) 40000).er = 0 => solA_ok h)
            clear HHE HHI hfe2
            generalize solA n (F ++ [c]) 40000 = a9 at HSO HOR HOK9
            obtain ⟨er9, m9, P9⟩ := a9
            dsimp only at HSO HOR HOK9
            obtain ⟨hcg, -, hlg9⟩ := G9.out.facts
            have hg0 : w9x.cell? ⟨bg, 0, none⟩ = some (.int .i64 (n : Int)) := hcg 0
            have hg1 : w9x.cell? ⟨bg, 1, none⟩ = some (.slice (some ⟨g9, 0, none⟩) (F.length + 1) cap9) := hcg 1
            clear hcg
            go_wp2_with fail
            refine HSO.out.mono ?_
            rintro e wa ⟨ka, mva, pva, rfl, hma, hpa⟩
            have HMA := hid hma
            obtain ⟨mpa, mca, hmva, hmla⟩ := hma.shape
            obtain ⟨ppa, pca, hpva, hpla⟩ := hpa.len
            dsimp only at hmva hpva hmla hpla HMA
            subst hmva hpva
            have KRA := hid ka
            clear ka hma hpa HSO hg0 hg1
            go_upto_region 28 with fail
            refine at_wp (fun W' => Keep wa W' ∧ BoxAt wa.heap.size 53 #[.slice mpa m9.length mca, .slice ppa P9.length pca] W') ⟨Keep.alloc _ _, BoxAt.new _ _ _⟩ ?_
            rintro WA ⟨kb, bda⟩
            have KA := hid (show Keep w9x WA from KRA.out.trans kb)
            have BD := hid bda
            have KZ := hid (K9.out.trans KA.out)
            have BAz := hid (BA9.out.keep KA.out BA9.out.facts.2.2)
            have MWz := hid ((MW9.out.keep (B := w9x.heap.size) (fun b hb => Nat.lt_of_lt_of_le hb.1 L9.out) KA.out).mono (S' := fun b => b < WA.heap.size) (fun _ _ => rfl) fun b hb => Nat.lt_of_lt_of_le hb.1 (Nat.le_trans L9.out KA.out.size))
            have MDz := hid ((HMA.out.keep (B := wa.heap.size) (fun b hb => hb.2) kb).mono (S' := fun b => b < WA.heap.size) (fun _ _ => rfl) fun b hb => Nat.lt_of_lt_of_le hb.2 kb.size)
            clear kb bda KRA HMA
            generalize wa.heap.size = bd at BD ⊢
            rcases HOR.out with her9 | her9
            rotate_left
            · have her9 : er9 = 8 := her9
              subst her9
              go_wp2_with fail
              go_ret
              exact ⟨rfl, KZ.out⟩
            have her9 : er9 = 0 := her9
            subst her9
            obtain ⟨n', hn', -, -, -, -, hans9⟩ := HOK9.out rfl
            obtain rfl : n = n' := by omega
            clear hn'
            have hm9 : m9 = m := by
              rcases hans9 with ⟨-, h2, h3⟩ | ⟨-, -, -, -, -, h6⟩
              · exact least_same (fun d hd => List.mem_append_left _ hd) HLE.out HMC.out h2 h3
              · exact absurd HMC.out (h6 m)
            subst hm9
            clear hans9 HOK9 HOR
            obtain ⟨hca, -, hlaz⟩ := BAz.out.facts
            have ha0 : WA.cell? ⟨ba, 0, none⟩ = some (.slice (some ⟨xb, xo, none⟩) m9.length mc) := hca 0
            obtain ⟨hcd, -, hldz⟩ := BD.out.facts
            have hd0 : WA.cell? ⟨bd, 0, none⟩ = some (.slice mpa m9.length mca) := hcd 0
            clear hca hcd
            have HEQ := hid (equalB_any (fun b => b < WA.heap.size) m9 m9 (.slice mpa m9.length mca) (.slice (some ⟨xb, xo, none⟩) m9.length mc) WA (fun b hb => hb) MDz.out MWz.out)
            go_wp2_with fail
            refine HEQ.out.mono ?_
            rintro e wz ⟨rfl, kz⟩
            have KK := hid (KZ.out.trans kz)
            have heq : (m9 == m9) = true := by simp
            rw [heq]
            clear heq kz HEQ ha0 hd0
            go_wp2_with fail
            go_ret
            exact ⟨rfl, KK.out⟩
end Go.Proofs.Ytbblgmkjgcjcaab
