/- rup's comesAtOnce, Bad and Refutes. -/
import Derived.Test.YtbblgmkjgcjcaabRupBase
namespace Go.Proofs.Ytbblgmkjgcjcaab
open Go.RowKit Go.Lib

/-- What comesAtOnce leaves. -/
def ComesDone (x : XD) (B : Nat) (K : List Int) (F : List (List Int)) (c : List Int) (w : World) (e : Ending) (w' : World) : Prop :=
  ∃ (r : Bool) (C : List (List Int)) (rv : List Value) (W : List (List Nat)), e = .returned (.bool r) ∧ XF (x.turned C rv W) B K F w' ∧ Turn x.all (x.turned C rv W).all w w' ∧ (r = true ↔ Comes F c)
set_option maxHeartbeats 4000000 in
set_option maxRecDepth 100000 in
theorem comes_any (x : XD) (B : Nat) (S : Nat → Prop) (K : List Int) (F : List (List Int)) (c : List Int) (cv : Value) (w : World) (h : XF x B K F w) (hn : x.n ≤ 1000) (hc : NumsIs S w c cv) (hS : ∀ b, S b → b < w.heap.size ∧ ¬ x.all b) (hF : ∀ c ∈ F, LitsC x.n c) (hFl : F.length ≤ 100000) (hcl : c.length ≤ 60) (hcL : LitsC x.n c) :
    Calls Try.prog 48 #[cv, .pointer (some ⟨x.bx, 0, none⟩)] w fun e w' => ComesDone x B K F c w e w' := by
  obtain ⟨i0, hi, hz0, hz1, hz2⟩ := info_parts infoInt
  have HX := hid h
  have HF := hid hF
  have HC := hid hc
  have HCL := hid hcL
  obtain ⟨cp, cc, rfl, hclen⟩ := hc.shape
  clear h hF hc hcL
  go_enter Try.func48, Try.ntmps48
  go_wp2_with fail
  go_loopg [5, 12] c.length (fun gk lv iv wr => ∃ j : Nat, j + gk = c.length ∧ iv = .int .i64 j ∧ Keep w wr ∧ IntsOwn w.heap.size lv (negs (c.take j)) wr)
  case atStart => exact ⟨0, by omega, rfl, Keep.refl _, by rw [List.take_zero]; exact World.ownsRow_nil _ _ _ _⟩
  case round =>
    obtain ⟨j, hj, rfl, hk, how⟩ := hrel
    have HK := hid hk
    have HOW := hid how
    obtain ⟨lp, lc, hlv⟩ := how.ints.len
    subst hlv
    clear hk how
    by_cases hlt : j < c.length
    · obtain ⟨cb, co, rfl, hcb, hcc⟩ := (HC.out.keep (fun b hb => (hS b hb).1) HK.out).nth hlt
      have hc1 := hcc j _ (List.getElem?_eq_getElem hlt)
      have hx := HCL.out c[j] (List.getElem_mem hlt)
      have HTK := hid (show negs (c.take (j + 1)) = negs (c.take j) ++ [-c[j]] by unfold negs; rw [List.take_succ_eq_append_getElem hlt, List.map_append]; rfl)
      have hbl := Nat.lt_of_lt_of_le (hS cb hcb).1 HK.out.size
      generalize c[j] = z at hc1 hx HTK
      have hz1' : -1000 ≤ z := by have := hx.2; omega
      have hz2' : z ≤ 1000 := by have := hx.2; omega
      have hjI : (j : Int) < (c.length : Int) := by omega
      have hnl : (negs (c.take j)).length ≤ 60 := by simp [negs]; omega
      have hsz := HK.out.size
      generalize negs (c.take j) = acc at HOW HTK hnl
      clear hcc hx
      go_wp2_with (at_builtin; refine wpList_append_own_at _ rfl _ _ 26 rfl w.heap.size 3 i0 (.int .i64 0) 1 8 Try.underlying26 hi hz0 hz1 hz2 rfl (by decide) (.slice lp acc.length lc) acc.length (acc.map (Value.int .i64)) rfl (HOW.out.alloc _) ⟨wr.heap.size, 0, none⟩ 1 1 [.int .i64 (-z)] rfl rfl one_newsC one_cellI (by unfold maxLen; omega) (by omega) (by have := alloc_size wr (.cells #[.int .i64 (-z)] 3); omega) ?_; intro v5 w5 h1 h2 _ h4; have P5 := hid (ints_push HK.out.size HOW.out h1 h2); clear h1 h2 h4)
      go_roundg (c.length - (j + 1))
      case rel => exact ⟨j + 1, by omega, by go_num, Below.trans HK.out P5.out.2, by rw [HTK.out]; exact P5.out.1⟩
      case measure => omega
    · obtain rfl : j = c.length := by omega
      have HOW2 := hid (show IntsOwn w.heap.size (.slice lp (negs c).length lc) (negs c) wr by
        have h1 := HOW.out
        rw [List.take_length] at h1
        exact h1)
      rw [List.take_length]
      have HFR := hid (show Calls Try.prog 45 #[.pointer (some ⟨x.bx, 0, none⟩), .slice lp (negs c).length lc] wr _ from from_any x B (fun b => (Value.slice lp (negs c).length lc).ownBlock = some b) K F (negs c) (.slice lp (negs c).length lc) wr (HX.out.keep HK.out) hn HOW2.out.numsO (fun b hb => ⟨(owns_in HOW2.out hb).2, fun e => by have := (owns_in HOW2.out hb).1; have := HX.out.lt e; omega⟩) HF.out hFl (lits_negs HCL.out))
      clear HOW
      go_wp2_with fail
      with_reducible refine HFR.out.mono ?_
      rintro e w2 ⟨C2, rv2, W2, hx2, ht2, hd⟩
      have X2 := hid hx2
      have T2 := hid ((show Turn x.all x.all w wr from Turn.keep HK.out).trans ht2)
      have HD := hid hd
      clear hx2 ht2 hd HFR
      rcases HD.out with ⟨v, K2, L, rfl, h1, h2, h3, h4⟩ | ⟨rfl, h1⟩
      · have HN := hid h3
        clear h1 h2 h3 h4
        go_wp2_with fail
        go_ret
        exact ⟨false, C2, rv2, W2, rfl, X2.out, T2.out, by simp; exact HN.out⟩
      · have HN := hid h1
        clear h1
        go_wp2_with fail
        go_ret
        exact ⟨true, C2, rv2, W2, rfl, X2.out, T2.out, by simp; exact HN.out⟩
theorem one_cls {S : Nat → Prop} {w : World} {c : List Int} {cv : Value} (hS : ∀ b, S b → b < w.heap.size) (h : NumsIs S w c cv) : ClsIs (fun b => S b ∨ b = w.heap.size) (w.alloc (.cells #[cv] 38)) [c] (.slice (some ⟨w.heap.size, 0, none⟩) 1 1) := by
  refine Or.inr ⟨w.heap.size, 0, 1, rfl, ⟨.inr rfl, Nat.le_refl _⟩, by simp, fun j d hd => ?_⟩
  cases j with
  | zero =>
    have hd2 : c = d := by simpa using hd
    subst hd2
    exact ⟨cv, (VarAt.new w 38 cv).facts.1, h.mono (fun p hp => (Keep.alloc w _).cell (p := p) (hS _ hp)) fun _ h => .inl h⟩
  | succ j => simp at hd
/-- What Bad leaves. -/
def BadDone (vars : Int) (F P : List (List Int)) (w : World) (e : Ending) (w' : World) : Prop :=
  Keep w w' ∧ ((badE vars F P ≠ 0 ∧ e = .returned (.tuple #[.int .i64 0, .int .i64 (badE vars F P)])) ∨ (badE vars F P = 0 ∧ ∃ k : Int, e = .returned (.tuple #[.int .i64 k, .int .i64 0]) ∧ BadAt F P k))
set_option maxHeartbeats 8000000 in
set_option maxRecDepth 100000 in
theorem bad_any (S : Nat → Prop) (vars : Int) (F P : List (List Int)) (p : Option Addr) (cap : Nat) (pp : Option Addr) (pc : Nat) (w : World) (hS : ∀ b, S b → b < w.heap.size) (hf : FormIs S w vars F p cap) (hp : FormIs S w 0 P pp pc) :
    Calls Try.prog 24 #[.agg #[.int .i64 vars, .slice p F.length cap], .slice pp P.length pc] w fun e w' => BadDone vars F P w e w' := by
  have HF := hid hf
  have HP := hid hp
  obtain ⟨_, _, hpp, hmax⟩ := hp.row.len
  clear hpp
  have HE := hid (show badE vars F P = if formE vars F ≠ 0 then formE vars F else proofE vars P from rfl)
  clear hf hp
  go_enter Try.func24, Try.ntmps24
  go_wp2_with fail
  refine at_calls (fun W' => Keep w W' ∧ BoxAt w.heap.size 24 #[.int .i64 vars, .slice p F.length cap] W') ⟨Keep.alloc _ _, BoxAt.new _ _ _⟩ ?_
  rintro W0 ⟨k0, b0⟩
  refine (formCheck_any S vars F p cap W0 (fun b hb => Nat.lt_of_lt_of_le (hS b hb) k0.size) (HF.out.keep hS k0)).mono ?_
  rintro e w1 ⟨rfl, hw1⟩
  have k1 : Keep W0 w1 := by rw [hw1]; exact Keep.alloc _ _
  clear hw1
  have K1 := hid (k0.trans k1)
  have B1 := hid (b0.keep k1 b0.facts.2.2)
  clear k0 b0 k1
  obtain ⟨hcb, -, hlb⟩ := B1.out.facts
  have hc0 : w1.cell? ⟨w.heap.size, 0, none⟩ = some (.int .i64 vars) := hcb 0
  have hc1 : w1.cell? ⟨w.heap.size, 1, none⟩ = some (.slice p F.length cap) := hcb 1
  have HZ := hid (fun h : formE vars F = 0 => formE_zero h)
  generalize formE vars F = r at HE HZ ⊢
  clear hcb
  by_cases hr : r = 0
  · subst hr
    have HE2 := hid (HE.out.trans (if_neg (by simp)))
    go_wp2_with fail
    refine (rupCheck_any S vars P pp pc w1 (fun b hb => Nat.lt_of_lt_of_le (hS b hb) K1.out.size) (HP.out.keep hS K1.out)).mono ?_
    rintro e w2 ⟨rfl, hw2⟩
    rw [hw2]
    clear hw2
    have HPZ := hid (fun (n : Nat) (hv : vars = n) (h : proofE vars P = 0) => proofE_zero (hv ▸ h : proofE n P = 0))
    generalize proofE vars P = r2 at HE2 HPZ ⊢
    by_cases hr2 : r2 = 0
    · subst hr2
      obtain ⟨n, hvn, hn4, hFl, hcl⟩ := HZ.out (by trivial)
      obtain ⟨hPl, hpcl⟩ := HPZ.out n hvn (by trivial)
      subst hvn
      have HCL := hid hcl
      have HPC := hid hpcl
      have HSW1 := hid (fun b (hb : S b) => Nat.lt_of_lt_of_le (hS b hb) K1.out.size)
      clear hcl hpcl
      go_wp2_with fail
      refine (new_any n w1 (by omega)).mono ?_
      rintro e w2 ⟨x, B, rfl, hxn, hxf, k2, hlow⟩
      subst hxn
      have XF2 := hid hxf
      have K2 := hid (K1.out.trans k2)
      have B2 := hid (B1.out.keep k2 B1.out.facts.2.2)
      have HLOW := hid hlow
      have HSZ2 := hid k2.size
      obtain ⟨hcb, -, hlb2⟩ := B2.out.facts
      have hd1 : w2.cell? ⟨w.heap.size, 1, none⟩ = some (.slice p F.length cap) := hcb 1
      clear hxf k2 hc0 hc1 hcb hlow
      have HADD := hid (add_any x B S _ [] F (.slice p F.length cap) w2 XF2.out (by omega) (HF.out.keep hS K2.out).row (fun b hb => ⟨Nat.lt_of_lt_of_le (HSW1.out b hb) HSZ2.out, fun e => by have := HLOW.out b e; have := HSW1.out b hb; omega⟩) (by simp) HCL.out (by simp; omega))
      go_wp2_with fail
      refine HADD.out.mono ?_
      rintro e w3 ⟨rfl, fl, av, rv, cv, C, W, K', hx3, ht3⟩
      have XF3 := hid hx3
      obtain ⟨hb3, hl3⟩ := ht3.under HSZ2.out HLOW.out
      have HL3 := hid hl3
      have K3 := hid (show Keep w w3 from Below.trans K2.out (Below.mono hb3 K1.out.size))
      have HSZ3 := hid (Nat.le_trans HSZ2.out hb3.size)
      clear hx3 ht3 hb3 hl3 hd1 HADD
      go_wp2_with fail
      go_loopg [4, 5, 31] P.length (fun gk kv ev iv wr => ∃ (j : Nat) (fl : Bool) (av : Value) (rv cv : List Value) (C : List (List Int)) (W : List (List Nat)) (K1 : List Int), j + gk = P.length ∧ kv = .int .i64 0 ∧ ev = .int .i64 0 ∧ iv = .int .i64 j ∧ XF (x.next fl av rv cv C W) B K1 (F ++ P.take j) wr ∧ (∀ b, (x.next fl av rv cv C W).all b → w1.heap.size ≤ b) ∧ Keep w wr ∧ w1.heap.size ≤ wr.heap.size ∧ AllCome F P j)
      case atStart => exact ⟨0, fl, av, rv, cv, C, W, K', by omega, rfl, rfl, rfl, by rw [List.take_zero, List.append_nil]; exact XF3.out, HL3.out, K3.out, HSZ3.out, fun i c h => by omega⟩
      case round =>
        obtain ⟨j, fl1, av1, rv1, cv1, C1, W1, K2', hj, rfl, rfl, rfl, hx, hlo, hkw, hsz, hall⟩ := hrel
        have X4 := hid hx
        have HLO := hid hlo
        have K4 := hid hkw
        have HSZ4 := hid hsz
        have HALL := hid hall
        clear hx hlo hkw hsz hall
        by_cases hlt : j < P.length
        · obtain ⟨pb, poff, pcap, cp, cc, hpv, hpS, -, hcell, hnum, -⟩ := ((HP.out.keep hS K4.out).row).get hlt
          cases hpv
          have hcf := HPC.out _ (List.getElem_mem hlt)
          have HTK := hid (List.take_succ_eq_append_getElem hlt)
          have HGET := hid (List.getElem?_eq_getElem hlt)
          have hpbl : pb < wr.heap.size := Nat.lt_of_lt_of_le (hS pb hpS) K4.out.size
          have hjI : (j : Int) < (P.length : Int) := by omega
          generalize P[j] = c at hcell hnum hcf HTK HGET
          have HNUM := hid hnum
          have HCF := hid hcf
          have HFJ := hid (show (F ++ P.take j).length ≤ 50000 ∧ ∀ d ∈ F ++ P.take j, LitsC x.n d from ⟨by rw [List.length_append, List.length_take]; omega, fun d hd => by
            rcases List.mem_append.1 hd with hd | hd
            · exact (HCL.out d hd).2
            · exact (HPC.out d (List.mem_of_mem_take hd)).2⟩)
          have HF2 := hid (show F ++ P.take (j + 1) = (F ++ P.take j) ++ [c] by rw [HTK.out, List.append_assoc])
          have HCO := hid (show Calls Try.prog 48 #[.slice cp c.length cc, .pointer (some ⟨x.bx, 0, none⟩)] wr _ from comes_any (x.next fl1 av1 rv1 cv1 C1 W1) B S K2' (F ++ P.take j) c (.slice cp c.length cc) wr X4.out (by show x.n ≤ 1000; omega) hnum (fun b hb => ⟨Nat.lt_of_lt_of_le (hS b hb) K4.out.size, fun e => by have := HLO.out b e; have := HSW1.out b hb; omega⟩) HFJ.out.2 (by have := HFJ.out.1; omega) hcf.1 hcf.2)
          clear hnum hcf HTK
          go_wp2_with fail
          with_reducible refine HCO.out.mono ?_
          rintro e w5 ⟨ra, C5, rv5, W5, rfl, hx5, ht5, hra⟩
          have X5 := hid (show XF (x.next fl1 av1 rv5 cv1 C5 W5) B K2' (F ++ P.take j) w5 from hx5)
          obtain ⟨hb5, hl5⟩ := Turn.under ht5 HSZ4.out HLO.out
          have HL5 := hid (show ∀ b, (x.next fl1 av1 rv5 cv1 C5 W5).all b → w1.heap.size ≤ b from hl5)
          have K5 := hid (show Keep w w5 from Below.trans K4.out (Below.mono hb5 K1.out.size))
          have HSZ5 := hid (Nat.le_trans HSZ4.out hb5.size)
          have HRA := hid hra
          have hcell5 : w5.cell? ⟨pb, poff + j, none⟩ = some (.slice cp c.length cc) := (hb5.cell (p := ⟨pb, poff + j, none⟩) (Nat.lt_of_lt_of_le (hS pb hpS) K1.out.size)).trans hcell
          have HNUM5 := hid (HNUM.out.keep HSW1.out hb5)
          have hpbl5 : pb < w5.heap.size := Nat.lt_of_lt_of_le hpbl hb5.size
          clear hx5 ht5 hb5 hl5 hra HCO hcell
          cases ra with
          | true =>
            have HALL2 := hid (show AllCome F P (j + 1) from fun i d hi hd => by
              by_cases e : i = j
              · subst e
                rw [HGET.out] at hd
                cases hd
                exact HRA.out.1 rfl
              · exact HALL.out i d (by omega) hd)
            have HADD := hid (show Calls Try.prog 44 #[.pointer (some ⟨x.bx, 0, none⟩), .slice (some ⟨w5.heap.size, 0, none⟩) 1 1] (w5.alloc (.cells #[.slice cp c.length cc] 38)) _ from
              add_any (x.next fl1 av1 rv5 cv1 C5 W5) B (fun b => S b ∨ b = w5.heap.size) K2' (F ++ P.take j) [c] (.slice (some ⟨w5.heap.size, 0, none⟩) 1 1) (w5.alloc (.cells #[.slice cp c.length cc] 38)) (X5.out.keep (Keep.alloc _ _)) (by show x.n ≤ 1000; omega) (one_cls (fun b hb => Nat.lt_of_lt_of_le (hS b hb) K5.out.size) HNUM5.out) (fun b hb => by
                have e1 := alloc_size w5 (.cells #[.slice cp c.length cc] 38)
                rcases hb with hb | hb
                · have e2 := HSW1.out b hb
                  have e3 := HSZ5.out
                  exact ⟨by omega, fun e => by have := HL5.out b e; omega⟩
                · exact ⟨by omega, fun e => by have := X5.out.lt e; omega⟩) HFJ.out.2 (fun d hd => by rw [List.mem_singleton.1 hd]; exact HCF.out) (by have := HFJ.out.1; simp only [List.length_singleton]; omega))
            go_wp2_with fail
            with_reducible refine HADD.out.mono ?_
            rintro e w6 ⟨rfl, fl6, av6, rv6, cv6, C6, W6, K6, hx6, ht6⟩
            have X6 := hid (show XF (x.next fl6 av6 rv6 cv6 C6 W6) B K6 ((F ++ P.take j) ++ [c]) w6 from hx6)
            have e1 := alloc_size w5 (.cells #[.slice cp c.length cc] 38)
            obtain ⟨hb6, hl6⟩ := Turn.under (N := w1.heap.size) ht6 (by have := HSZ5.out; omega) HL5.out
            have HL6 := hid (show ∀ b, (x.next fl6 av6 rv6 cv6 C6 W6).all b → w1.heap.size ≤ b from hl6)
            have K6' := hid (show Keep w w6 from Below.trans (K5.out.alloc' _) (Below.mono hb6 K1.out.size))
            have HSZ6 := hid (show w1.heap.size ≤ w6.heap.size by have := hb6.size; have := HSZ5.out; omega)
            clear hx6 ht6 hb6 hl6 HADD e1 hcell5
            go_wp2_with fail
            go_roundg (P.length - (j + 1))
            case rel => exact ⟨j + 1, fl6, av6, rv6, cv6, C6, W6, K6, by omega, rfl, rfl, by go_num, by rw [HF2.out]; exact X6.out, HL6.out, K6'.out, HSZ6.out, HALL2.out⟩
            case measure => omega
          | false =>
            have HBAD := hid (show BadAt F P j from .inr ⟨j, c, rfl, HGET.out, (fun e => nomatch HRA.out.2 e), HALL.out⟩)
            go_wp2_with fail
            refine bodyPost_ret (v := .tuple #[.int .i64 (j : Int), .int .i64 0]) ?_ rfl ?_
            · simp [results, Try.results24, go_sem]
            · exact ⟨K5.out, .inr ⟨HE2.out, j, rfl, HBAD.out⟩⟩
        · obtain rfl : j = P.length := by omega
          go_wp2_with fail
          refine bodyPost_ret (v := .tuple #[.int .i64 (-1), .int .i64 0]) ?_ rfl ?_
          · simp [results, Try.results24, go_sem]
          · exact ⟨K4.out, .inr ⟨HE2.out, -1, rfl, .inl ⟨rfl, HALL.out⟩⟩⟩
    · have hr' : (r2 != 0) = true := by simp [hr2]
      have hr2' := hid hr2
      clear hr2
      go_wp2_with fail
      refine bodyPost_ret (v := .tuple #[.int .i64 0, .int .i64 r2]) ?_ rfl ?_
      · simp [results, Try.results24, go_sem]
      · exact ⟨K1.out, .inl ⟨by rw [HE2.out]; exact hr2'.out, by rw [HE2.out]⟩⟩
  · have hr' : (r != 0) = true := by simp [hr]
    have HE2 := hid (HE.out.trans (if_pos hr))
    have hrr := hid hr
    clear hr
    go_wp2_with fail
    refine bodyPost_ret (v := .tuple #[.int .i64 0, .int .i64 r]) ?_ rfl ?_
    · simp [results, Try.results24, go_sem]
    · exact ⟨K1.out, .inl ⟨by rw [HE2.out]; exact hrr.out, by rw [HE2.out]⟩⟩
/-- What Refutes leaves. -/
def RefDone (vars : Int) (F P : List (List Int)) (w : World) (e : Ending) (w' : World) : Prop :=
  Keep w w' ∧ ((badE vars F P ≠ 0 ∧ e = .returned (.tuple #[.bool false, .int .i64 (badE vars F P)])) ∨ (badE vars F P = 0 ∧ ∃ r : Bool, e = .returned (.tuple #[.bool r, .int .i64 0]) ∧ (r = true ↔ Refut F P)))
set_option maxHeartbeats 4000000 in
set_option maxRecDepth 100000 in
theorem refutes_any (S : Nat → Prop) (vars : Int) (F P : List (List Int)) (p : Option Addr) (cap : Nat) (pp : Option Addr) (pc : Nat) (w : World) (hS : ∀ b, S b → b < w.heap.size) (hf : FormIs S w vars F p cap) (hp : FormIs S w 0 P pp pc) :
    Calls Try.prog 25 #[.agg #[.int .i64 vars, .slice p F.length cap], .slice pp P.length pc] w fun e w' => RefDone vars F P w e w' := by
  have HF := hid hf
  have HP := hid hp
  obtain ⟨_, _, hpp, hmax⟩ := hp.row.len
  clear hpp hf hp
  go_enter Try.func25, Try.ntmps25
  go_wp2_with fail
  refine at_calls (fun W' => Keep w W') (Keep.alloc _ _) ?_
  intro W0 k0
  refine (bad_any S vars F P p cap pp pc W0 (fun b hb => Nat.lt_of_lt_of_le (hS b hb) k0.size) (HF.out.keep hS k0) (HP.out.keep hS k0)).mono ?_
  rintro e w1 ⟨k1, hd⟩
  have K1 := hid (k0.trans k1)
  have HD := hid hd
  clear k0 k1 hd
  rcases HD.out with ⟨hb, rfl⟩ | ⟨hb, k, rfl, hk⟩
  · have HB := hid hb
    generalize hre : badE vars F P = r at HB ⊢
    have HRE := hid hre
    have hr' : (r != 0) = true := by simp; exact HB.out
    clear hb HD hre
    go_wp2_with fail
    refine bodyPost_ret (v := .tuple #[.bool false, .int .i64 r]) ?_ rfl ?_
    · simp [results, Try.results25, go_sem]
    · exact ⟨K1.out, .inl ⟨by rw [HRE.out]; exact HB.out, by rw [HRE.out]⟩⟩
  · have HB := hid hb
    rcases hk with ⟨rfl, hall⟩ | ⟨i, c, rfl, hc, hno, -⟩
    · have HALL := hid hall
      by_cases h0 : P.length = 0
      · have h0' : ((P.length : Int) == 0) = true := by rw [h0]; rfl
        have HN := hid (show ¬ Refut F P from fun h => by rw [List.length_eq_zero_iff.1 h0] at h; cases h.2)
        clear hb HD hall
        go_wp2_with fail
        refine bodyPost_ret (v := .tuple #[.bool false, .int .i64 0]) ?_ rfl ?_
        · simp [results, Try.results25, go_sem]
        · exact ⟨K1.out, .inr ⟨HB.out, false, rfl, by simp; exact HN.out⟩⟩
      · have h0' : ((P.length : Int) == 0) = false := beq_eq_false_iff_ne.2 (by omega)
        have hlt : P.length - 1 < P.length := by omega
        obtain ⟨pb, poff, pcap, cp, cc, hpv, hpS, -, hcell, hnum, hcl⟩ := ((HP.out.keep hS K1.out).row).get hlt
        cases hpv
        have HLAST := hid (show P.getLast? = some P[P.length - 1] by rw [List.getLast?_eq_getElem?, List.getElem?_eq_getElem hlt])
        have hpbl : pb < w1.heap.size := Nat.lt_of_lt_of_le (hS pb hpS) K1.out.size
        generalize P[P.length - 1] = c at hcell hnum hcl HLAST
        obtain ⟨m, hm⟩ : ∃ m : Nat, P.length = m + 1 := ⟨P.length - 1, by omega⟩
        have hm1 : P.length - 1 = m := by omega
        rw [hm1] at hcell
        have hmI : IntKind.i64.wrap ((P.length : Int) - 1) = (m : Int) := by rw [IntKind.wrap_i64]; omega
        have hmI2 : (P.length : Int) - 1 = (m : Int) := by omega
        have hml : (m : Int) < (P.length : Int) := by omega
        have hm0 : (0 : Int) ≤ (m : Int) := by omega
        have HRF := hid (show ∀ b : Bool, ((c.length : Int) == 0) = b → (b = true ↔ Refut F P) from fun b e => by
          constructor
          · intro hb
            rw [hb] at e
            have hc0 : c.length = 0 := by have := beq_iff_eq.1 e; omega
            exact ⟨HALL.out, by rw [HLAST.out, List.length_eq_zero_iff.1 hc0]⟩
          · rintro ⟨-, h2⟩
            rw [HLAST.out] at h2
            have := Option.some.inj h2
            rw [this] at e
            exact e.symm)
        clear hb HD hall hnum hm hm1
        go_wp2_with fail
        refine bodyPost_ret (v := .tuple #[.bool ((c.length : Int) == 0), .int .i64 0]) ?_ rfl ?_
        · simp [results, Try.results25, go_sem]
        · exact ⟨K1.out, .inr ⟨HB.out, _, rfl, HRF.out _ rfl⟩⟩
    · have HN := hid (show ¬ Refut F P from fun h => hno (h.1 i c (List.getElem?_eq_some_iff.1 hc).1 hc))
      have hi0 : (0 : Int) ≤ (i : Int) := by omega
      clear hb HD hc hno
      go_wp2_with fail
      refine bodyPost_ret (v := .tuple #[.bool false, .int .i64 0]) ?_ rfl ?_
      · simp [results, Try.results25, go_sem]
      · exact ⟨K1.out, .inr ⟨HB.out, false, rfl, by simp; exact HN.out⟩⟩
end Go.Proofs.Ytbblgmkjgcjcaab
