/- The reference's closure: what it does is what srch says. -/
import Derived.Test.YtbblgmkjgcjcaabSatRefMem
import Derived.Test.YtbblgmkjgcjcaabSatSolve
import Derived.Laws.AppendOwnNone
namespace Go.Proofs.Ytbblgmkjgcjcaab
open Go.RowKit Go.Lib

/-- The model, as far as it is laid. -/
def ModR (b : Nat) (pv : Value) (W : World) (fs : List Value) (wr : World) : Prop := ∃ ad mc, BoxAt (b + 3) 53 #[.slice (some ad) fs.length mc, pv] wr ∧ wr.ownsRow W.heap.size 4 1 (.slice (some ad) fs.length mc) fs.length fs ∧ Turn (fun c => c = b + 3) (fun c => c = b + 3 ∨ W.heap.size ≤ c) W wr
theorem modr_start {b : Nat} {pv : Value} {W : World} (h : BoxAt (b + 3) 53 #[.slice none 0 0, pv] W) : ModR b pv W [] ((W.setCell ⟨b + 3, 0, none⟩ (.slice (some ⟨W.heap.size, 0, none⟩) 0 0)).alloc (.cells #[] 4)) := by
  have hsz : (W.setCell ⟨b + 3, 0, none⟩ (.slice (some ⟨W.heap.size, 0, none⟩) 0 0)).heap.size = W.heap.size := by simp
  have hb := h.set 0 (.slice (some ⟨W.heap.size, 0, none⟩) 0 0)
  have ho := World.ownsRow_made (base := W.heap.size) (e := 4) (size := 1) (W.setCell ⟨b + 3, 0, none⟩ (.slice (some ⟨W.heap.size, 0, none⟩) 0 0)) #[] 0 (by rw [hsz]; exact Nat.le_refl _) (Nat.zero_le _) rfl
  rw [hsz] at ho
  refine ⟨⟨W.heap.size, 0, none⟩, 0, hb.keep (Keep.alloc _ _) hb.facts.2.2, ho, ?_⟩
  have t1 : Turn (fun c => c = b + 3) (fun c => c = b + 3) W (W.setCell ⟨b + 3, 0, none⟩ (.slice (some ⟨W.heap.size, 0, none⟩) 0 0)) := Turn.set _ _ _ _ _ rfl
  have t2 := t1.trans (Turn.keep (Keep.alloc _ (.cells #[] 4)))
  exact ⟨t2.os, t2.tape, t2.output, t2.size, t2.block, fun c hc => hc⟩
theorem ModR.next {b : Nat} {pv x v' : Value} {W wr w5 : World} {fs : List Value} {ad : Addr} {mc : Nat} (hb3 : b + 3 < W.heap.size) (h1 : BoxAt (b + 3) 53 #[.slice (some ad) fs.length mc, pv] wr) (h2 : wr.ownsRow W.heap.size 4 1 (.slice (some ad) fs.length mc) fs.length fs) (h3 : Turn (fun c => c = b + 3) (fun c => c = b + 3 ∨ W.heap.size ≤ c) W wr) (hv : ∃ ad' mc', v' = .slice (some ad') (fs.length + 1) mc') (h5 : w5.ownsRow W.heap.size 4 1 v' (fs.length + 1) (fs ++ [x])) (hg : wr.grownBy w5 (Value.slice (some ad) fs.length mc).ownBlock) : ModR b pv W (fs ++ [x]) (w5.setCell ⟨b + 3, 0, none⟩ v') := by
  obtain ⟨ad', mc', rfl⟩ := hv
  have hso : ∀ c, c ≠ b + 3 → (w5.setCell ⟨b + 3, 0, none⟩ (.slice (some ad') (fs.length + 1) mc')).heap[c]? = w5.heap[c]? := fun c hc => Below.heap_setCell _ _ _ _ (fun e => hc e)
  have hsz : (w5.setCell ⟨b + 3, 0, none⟩ (.slice (some ad') (fs.length + 1) mc')).heap.size = w5.heap.size := by simp
  have hl := h1.facts.2.2
  have hin : ∀ g, (Value.slice (some ad) fs.length mc).ownBlock = some g → W.heap.size ≤ g := fun g hgg => (owns_in h2 hgg).1
  have hlen : (fs ++ [x]).length = fs.length + 1 := by simp
  refine ⟨ad', mc', ?_, ?_, ?_⟩
  · have h6 : BoxAt (b + 3) 53 #[.slice (some ad) fs.length mc, pv] w5 := by
      unfold BoxAt at *
      rw [hg.block _ hl fun e => by have := hin _ e.symm; omega]; exact h1
    rw [hlen]; exact h6.set 0 _
  · rw [hlen]
    exact owns_other h5 fun g hgg => hso g (by have := (owns_in h5 hgg).1; omega)
  · refine ⟨hg.os.trans h3.os, hg.tape.trans h3.tape, hg.output.trans h3.output, by rw [hsz]; exact Nat.le_trans h3.size hg.size, fun c hc hn => ?_, fun c hc => hc⟩
    rw [hso c hn, hg.block c (Nat.lt_of_lt_of_le hc h3.size) fun e => by have := hin _ e.symm; omega]
    exact h3.block c hc hn
theorem own_bools {B : Nat} {v : Value} {bs : List Bool} {w : World} (h : w.ownsRow B 4 1 v bs.length (bs.map Value.bool)) (hl : bs.length ≤ 1000) : BoolsIs (fun c => B ≤ c ∧ c < w.heap.size) w bs v := by
  obtain ⟨-, ⟨rfl, h0⟩ | ⟨g, cap, cur, rfl, e2, e3, e4, e5, e6, e7⟩⟩ := h
  · have : bs = [] := List.length_eq_zero_iff.1 h0
    subst this
    exact bools_nil _ _
  · refine ⟨_, cap, rfl, by omega, fun _ => ⟨g, 0, rfl, ⟨e2, (Array.getElem?_eq_some_iff.1 e3).1⟩, fun j x hx => ?_⟩⟩
    have hf : (bs.map Value.bool)[j]? = some (.bool x) := by rw [List.getElem?_map, hx]; rfl
    rw [← e7, List.getElem?_take] at hf
    split at hf
    · simp only [World.cell?, e3, Nat.zero_add]; simpa using hf
    · cases hf
theorem own_some {B e n : Nat} {v : Value} {xs : List Value} {w : World} (h : w.ownsRow B e 1 v n xs) (hn : 0 < n) : ∃ ad cap, v = .slice (some ad) n cap := by
  obtain ⟨g, cap, e⟩ := owns_shape h hn
  exact ⟨_, cap, e⟩
theorem nums_at {S : Nat → Prop} {w : World} {zs : List Int} {ad : Addr} {n cap : Nat} (h : NumsIs S w zs (.slice (some ad) n cap)) : ∀ j u, (zs.map (Value.int .i64))[j]? = some u → w.cell? (ad.add j) = some u := by
  intro j u hu
  rw [List.getElem?_map] at hu
  cases e : zs[j]? with
  | none => rw [e] at hu; cases hu
  | some y =>
    rw [e] at hu
    cases hu
    obtain ⟨b, off, h1, -, h3⟩ := h.nth (List.getElem?_eq_some_iff.1 e).1
    cases h1
    rw [Addr.add_mid]
    exact h3 j y e
theorem step_append_none {P : Program} {ops : Array Oper} {o : Oper} {a : Act} {w : World} {K : Act → World → Prop} {Q : Exit → Act → World → Prop} {E : Prop}
    (hg : o.guard = none) (s x : Operand) (t : TypeId) (hop : o.op = Op.call { callee := Callee.builtin Builtin.append, args := #[s, x], argTypes := #[t, t] })
    (base : Nat) (e : TypeId) (i : TypeInfo) (size : Nat) (ht : P.underlying t = some (.slice e)) (hi : P.info? e = some i) (v : Value) (n : Nat) (xs : List Value) (hs : a.eval s = v) (hown : w.ownsRow base e size v n xs) (hx : a.eval x = .slice none 0 0)
    (hK : K (a.put o.dst v) w) : if Region.wanted o (yielded ops a.tmps) = true then Oper.wp P o a w K Q else E := by
  have hw : Region.wanted o (yielded ops a.tmps) = true := by simp [Region.wanted, hg]
  rw [if_pos hw]
  have hrun := run_append_owned_none (P := P) (w := w) base t o.type e i size ht hi v n xs hown
  unfold Oper.wp
  simp [execOp, hop, resolve, invoke, builtin, hs, hx, hrun, Result.andThen]
  exact hK

/-- append of numbers, or of nil, to an empty row of the call's own. -/
theorem step_append_ints {ops : Array Oper} {o : Oper} {a : Act} {w : World} {K : Act → World → Prop} {Q : Exit → Act → World → Prop} {E : Prop}
    (hg : o.guard = none) (s x : Operand) (hop : o.op = Op.call { callee := Callee.builtin Builtin.append, args := #[s, x], argTypes := #[26, 26] })
    (base x1 : Nat) (S : Nat → Prop) (A : List Int) (av : Value) (hs : a.eval s = .slice (some ⟨x1, 0, none⟩) 0 0) (hown : w.ownsRow base 3 1 (.slice (some ⟨x1, 0, none⟩) 0 0) 0 []) (hx : a.eval x = av) (hn : NumsIs S w A av) (hcap : ∀ k c, av = .slice none k c → c = 0) (hl : A.length ≤ 1000) (hbase : base ≤ w.heap.size)
    (hK : ∀ v' w', w'.ownsRow base 3 1 v' A.length (A.map (Value.int .i64)) → w.grownBy w' (some x1) → K (a.put o.dst v') w') : if Region.wanted o (yielded ops a.tmps) = true then Oper.wp Try.prog o a w K Q else E := by
  obtain ⟨i1, hi1, hz01, hz11, hz21⟩ := info_parts infoInt
  obtain ⟨ap, ac, rfl, -⟩ := hn.shape
  cases ap with
  | none =>
    have hA0 : A = [] := List.length_eq_zero_iff.1 (Decidable.byContradiction fun hne => by
      obtain ⟨b, off, hp, -⟩ := hn.nth (k := 0) (by omega)
      cases hp)
    subst hA0
    obtain rfl : ac = 0 := hcap _ _ rfl
    exact step_append_none hg _ _ 26 hop base 3 i1 1 Try.underlying26 hi1 _ 0 [] hs hown hx (hK _ _ hown (World.grownBy.refl _ _))
  | some ad =>
    refine step_append_own hg _ _ 26 hop base 3 i1 (.int .i64 0) 1 8 Try.underlying26 hi1 hz01 hz11 hz21 rfl (by decide) (.slice (some ⟨x1, 0, none⟩) 0 0) 0 [] hs hown ad A.length ac (A.map (Value.int .i64)) hx (by simp) (nums_at hn) (fun u hu => by obtain ⟨q, -, rfl⟩ := List.mem_map.1 hu; rfl) (by unfold maxLen; omega) (by omega) hbase ?_
    intro v' w' h1 h2 _
    rw [Nat.zero_add, List.nil_append] at h1
    exact hK v' w' h1 h2

set_option maxHeartbeats 4000000 in
set_option maxRecDepth 100000 in
theorem rstep_zero (F : List (List Int)) (n : Nat) : RStepOK F n 0 := by
  intro d S A av p cap w h hf ha hS hg hA hP hcap
  obtain ⟨ap, ac, rfl, halen⟩ := ha.shape
  obtain ⟨hst, hsf, hsl⟩ := h.st.facts
  obtain ⟨hou, hof, hol⟩ := h.ou.facts
  have HOUT := hid (show VarAt (d.b + 4) 4 (.bool true) (w.setCell ⟨d.b + 4, 0, none⟩ (.bool true)) ∧ Turn d.own d.own w (w.setCell ⟨d.b + 4, 0, none⟩ (.bool true)) from ⟨h.ou.set _, Turn.set _ _ _ _ _ (.inr (.inr (.inl rfl)))⟩)
  have hl : (60 : Int) < (A.length : Int) := by omega
  clear h hf ha hS hA hg hcap
  by_cases hs : d.s = 0
  · have hs' : ((d.s : Int) == 0) = true := by rw [hs]; rfl
    clear hs
    go_enter Try.func54, Try.ntmps54
    go_wp2_with fail
    go_ret
    exact ⟨d, rfl, HOUT.out.2, .inl ⟨by rw [srch_zero], rfl, HOUT.out.1⟩⟩
  · have hs' : ((d.s : Int) == 0) = false := beq_eq_false_iff_ne.2 (by omega)
    clear hs
    go_enter Try.func54, Try.ntmps54
    go_wp2_with fail
    go_ret
    exact ⟨d, rfl, HOUT.out.2, .inl ⟨by rw [srch_zero], rfl, HOUT.out.1⟩⟩

set_option maxHeartbeats 16000000 in
set_option maxRecDepth 100000 in
theorem rstep_succ (F : List (List Int)) (n g : Nat) (hn : n ≤ 400) (hF : ∀ c ∈ F, c.length ≤ 60 ∧ LitsC n c) (hFl : F.length ≤ 4000) (ih : RStepOK F n g) : RStepOK F n (g + 1) := by
  have IH := hid ih
  clear ih
  intro d S A av p cap w h hf ha hS hg hA hP hcap
  obtain ⟨i0, hi, hz0, hz1, hz2⟩ := info_parts infoCl
  have HX := hid h
  have HFC := hid hf
  have HA := hid ha
  have HLA := hid hA
  have HS0 := hid hS
  have HF := hid hF
  obtain ⟨ap, ac, rfl, halen⟩ := ha.shape
  have HCAP := hid hcap
  clear hcap
  obtain ⟨hst, hsf, hsl⟩ := h.st.facts
  obtain ⟨hou, hof, hol⟩ := h.ou.facts
  have HOUT := hid (show VarAt (d.b + 4) 4 (.bool true) (w.setCell ⟨d.b + 4, 0, none⟩ (.bool true)) ∧ Turn d.own d.own w (w.setCell ⟨d.b + 4, 0, none⟩ (.bool true)) from ⟨h.ou.set _, Turn.set _ _ _ _ _ (.inr (.inr (.inl rfl)))⟩)
  have hl : ¬ (60 : Int) < (A.length : Int) := by omega
  clear h hf ha hS hA hF
  by_cases hs : d.s = 0
  · have hs' : ((d.s : Int) == 0) = true := by rw [hs]; rfl
    have HSR := hid (show srch n F (g + 1) A d.s d.P = ⟨.out, 0, d.P⟩ by rw [hs]; exact srch_none _ _ _ _ _)
    clear hs
    go_enter Try.func54, Try.ntmps54
    go_wp2_with fail
    go_ret
    exact ⟨d, rfl, HOUT.out.2, .inl ⟨by rw [HSR.out], rfl, HOUT.out.1⟩⟩
  have hs' : ((d.s : Int) == 0) = false := beq_eq_false_iff_ne.2 (by omega)
  have hs4 : (d.s : Int) ≤ 40000 := by omega
  have hs0 : 0 < (d.s : Int) := by omega
  have HNE := hid hs
  have HQ := hid (show RM { d with s := d.s - 1 } n F p cap (w.setCell ⟨d.b + 1, 0, none⟩ (.int .i64 ((d.s : Int) - 1))) ∧ Turn d.own ({ d with s := d.s - 1 } : RD).own w (w.setCell ⟨d.b + 1, 0, none⟩ (.int .i64 ((d.s : Int) - 1))) from by
    have e : (d.s : Int) - 1 = ((d.s - 1 : Nat) : Int) := by omega
    rw [e]; exact HX.out.less (d.s - 1))
  clear hs
  go_enter Try.func54, Try.ntmps54
  go_upto_region 6 with fail
  refine at_wp (fun W' => RM { d with s := d.s - 1 } n F p cap W' ∧ Turn d.own ({ d with s := d.s - 1 } : RD).own w W') ?_ ?_
  · exact HQ.out
  rintro W1 ⟨hx1, ht1⟩
  obtain ⟨d2, hd2e⟩ : ∃ d2 : RD, d2 = { d with s := d.s - 1 } := ⟨_, rfl⟩
  have X1 := hid (show RM d2 n F p cap W1 by rw [hd2e]; exact hx1)
  have T1 := hid (show Turn d.own d2.own w W1 by rw [hd2e]; exact ht1)
  have HB2 := hid (show d2.b = d.b by rw [hd2e])
  have HPS := hid (show d2.s = d.s - 1 ∧ d2.P = d.P by rw [hd2e]; exact ⟨rfl, rfl⟩)
  have hps1 : d2.P.length ≤ 40000 := by rw [HPS.out.2]; omega
  have hps2 : d2.P.length + d2.s ≤ 40000 := by rw [HPS.out.2, HPS.out.1]; omega
  have HBE := hid (show d.b = d2.b by rw [hd2e])
  clear hx1 ht1 HQ hst hsf hsl hou hof hol hs' hs0 HOUT hd2e
  rw [HBE.out]
  have N1 := hid (HA.out.turn T1.out HS0.out)
  have C1 := hid (HFC.out.turn T1.out HS0.out)
  have HS1 := hid (show ∀ b, S b → b < W1.heap.size ∧ ¬ d2.own b from fun b hb => ⟨Nat.lt_of_lt_of_le (HS0.out b hb).1 T1.out.size, fun e => (T1.out.new b e).elim (HS0.out b hb).2 fun e => by have := (HS0.out b hb).1; omega⟩)
  obtain ⟨hcf, -, hlf⟩ := X1.out.fo.facts
  have hf0 : W1.cell? ⟨d2.b, 0, none⟩ = some (.int .i64 (n : Int)) := hcf 0
  have hf1 : W1.cell? ⟨d2.b, 1, none⟩ = some (.slice p F.length cap) := hcf 1
  clear hcf
  have HFO := hid (folFrom_any S n F A p cap (.slice ap A.length ac) W1 (fun b hb => (HS1.out b hb).1) C1.out N1.out hn hFl HF.out HLA.out (by omega))
  go_wp2_with fail
  with_reducible refine HFO.out.mono ?_
  rintro e W2 ⟨k2, hd⟩
  have X2 := hid (X1.out.keep k2)
  have T2 := hid (T1.out.trans (Turn.keep k2))
  have N2 := hid (N1.out.keep (fun b hb => (HS1.out b hb).1) k2)
  have C2 := hid (C1.out.keep (fun b hb => (HS1.out b hb).1) k2)
  have HS2 := hid (show ∀ b, S b → b < W2.heap.size ∧ ¬ d2.own b from fun b hb => ⟨Nat.lt_of_lt_of_le (HS1.out b hb).1 k2.size, (HS1.out b hb).2⟩)
  have HNB := hid (show d2.b + 6 ≤ W1.heap.size from X1.out.nw)
  clear k2 hf0 hf1 hlf HFO X1 T1 N1 C1
  rcases hd with ⟨h1, rfl⟩ | ⟨h1, v, l, rfl, h2, h3⟩
  · have HR := hid (show (srch n F (g + 1) A d.s d.P).o = .closed ∧ (srch n F (g + 1) A d.s d.P).s = d2.s ∧ (srch n F (g + 1) A d.s d.P).P = d2.P ++ [negs A] by
      rw [srch_fails HNE.out h1, HPS.out.1, HPS.out.2]; exact ⟨rfl, rfl, rfl⟩)
    clear h1
    obtain ⟨i1, hi1, hz01, hz11, hz21⟩ := info_parts infoInt
    have hA60 : A.length ≤ 60 := by omega
    go_wp2_with fail
    go_loopg [15, 105] A.length (fun gk lv iv wq => ∃ j : Nat, j + gk = A.length ∧ iv = .int .i64 j ∧ IntsOwn W2.heap.size lv (negs (A.take j)) wq ∧ Keep W2 wq)
    case atStart => exact ⟨0, by omega, rfl, World.ownsRow_made W2 #[] 0 (Nat.le_refl _) (Nat.zero_le _) rfl, Keep.alloc _ _⟩
    case round =>
      obtain ⟨j, hj1, rfl, how, hk⟩ := hrel
      have HK := hid hk
      have HOW := hid how
      obtain ⟨lp, lc, hlv⟩ := how.ints.len
      subst hlv
      clear hk how
      by_cases hlt : j < A.length
      · obtain ⟨cb, co, hcp, hcb, hcc⟩ := (N2.out.keep (fun b hb => (HS2.out b hb).1) HK.out).nth hlt
        subst hcp
        have hc1 := hcc j _ (List.getElem?_eq_getElem hlt)
        have hx := HLA.out A[j] (List.getElem_mem hlt)
        have HTK := hid (show negs (A.take (j + 1)) = negs (A.take j) ++ [-A[j]] by unfold negs; rw [List.take_succ_eq_append_getElem hlt, List.map_append]; rfl)
        have hbl := Nat.lt_of_lt_of_le (HS2.out cb hcb).1 HK.out.size
        generalize A[j] = z at hc1 hx HTK
        have hz1' : -1000 ≤ z := by have := hx.2; omega
        have hz2' : z ≤ 1000 := by have := hx.2; omega
        have hjI : (j : Int) < (A.length : Int) := by omega
        have hnl : (negs (A.take j)).length ≤ 60 := by simp [negs]; omega
        have hsz := HK.out.size
        generalize negs (A.take j) = acc at HOW HTK hnl
        clear hcc hx
        go_wp2_with (at_builtin; refine wpList_append_own_at _ rfl _ _ 38 rfl W2.heap.size 3 i1 (.int .i64 0) 1 8 Try.underlying38 hi1 hz01 hz11 hz21 rfl (by decide) (.slice lp acc.length lc) acc.length (acc.map (Value.int .i64)) rfl (HOW.out.alloc _) ⟨wr.heap.size, 0, none⟩ 1 1 [.int .i64 (-z)] rfl rfl one_newsC one_cellI (by unfold maxLen; omega) (by omega) (by have := alloc_size wr (.cells #[.int .i64 (-z)] 3); omega) ?_; intro v5 w5 h1 h2 _ h4; have P5 := hid (ints_push HK.out.size HOW.out h1 h2); clear h1 h2 h4)
        go_roundg (A.length - (j + 1))
        case rel => exact ⟨j + 1, by omega, by go_num, by rw [HTK.out]; exact P5.out.1, Below.trans HK.out P5.out.2⟩
        case measure => omega
      · obtain rfl : j = A.length := by omega
        have HOW2 := hid (show IntsOwn W2.heap.size (.slice lp (negs A).length lc) (negs A) wr by
          have h1 := HOW.out
          rw [List.take_length] at h1
          exact h1)
        rw [List.take_length]
        clear HOW hlt hj1
        have X3 := hid (X2.out.keep HK.out)
        have HNU := hid (show NumsIs (d2.far wr) wr (negs A) (.slice lp (negs A).length lc) from HOW2.out.numsO.mono (fun _ _ => rfl) fun b hb => by
          have h1 := owns_in HOW2.out hb
          have h2 := X2.out.nw
          exact ⟨by omega, h1.2, fun e => by have := (X2.out.pr.in e).2; omega⟩)
        obtain ⟨pp, pc, hpv⟩ := X3.out.pr.shape
        have HPV := hid hpv
        obtain ⟨vs, hvl, how3, hvn⟩ := X3.out.pr
        have HVL := hid hvl
        have HVN := hid hvn
        have HOW3 := hid (show wr.ownsRow (d2.b + 6) 38 1 (.slice pp d2.P.length pc) d2.P.length vs from hpv ▸ how3)
        obtain ⟨hca, hfa, hla⟩ := X3.out.an.facts
        have ha1 : wr.cell? ⟨d2.b + 3, 1, none⟩ = some (.slice pp d2.P.length pc) := (hca 1).trans (congrArg some hpv)
        have hnw := X3.out.nw
        generalize hngl : (negs A).length = ng at HNU HOW2 ⊢
        have HNGL := hid hngl
        clear hvl how3 hvn hca hfa hpv hngl
        go_upto_region 32 with (at_builtin; go_loud (refine wpList_append_own_at _ rfl _ _ 22 rfl (d2.b + 6) 38 i0 (.slice none 0 0) 1 24 Try.underlying22 hi hz0 hz1 hz2 rfl (by decide) (.slice pp d2.P.length pc) d2.P.length vs rfl (HOW3.out.alloc _) ⟨wr.heap.size, 0, none⟩ 1 1 [.slice lp ng lc] rfl rfl one_newsC one_cellC (by unfold maxLen; omega) (by omega) (by rw [alloc_size]; omega) ?_; intro v5 w5 h1 h2 _ h4; obtain ⟨g5, cap5, rfl⟩ := owns_shape h1 (Nat.succ_pos _); have P5 := hid (X3.out.push (c := negs A) HVL.out HVN.out HNU.out (HPV.out ▸ grown_alloc h2) (HPV.out ▸ own_far h4) h1); have hB5 := (show BoxAt (d2.b + 3) 53 #[.slice none 0 0, d2.pv] w5 from by (have h5 := X3.out.an; have h6 := h5.facts.2.2; unfold BoxAt at *; rw [(grown_alloc h2).block _ h6 (fun e => by (have h7 := (X3.out.pr.in (HPV.out ▸ e.symm)).1; omega))]; exact h5)); obtain ⟨hbc5, hbf5, hbl5⟩ := hB5.facts; have hc51 := hbc5 1; have hf51 := hbf5 1; simp only [List.getElem?_toArray, List.getElem?_cons_zero, List.getElem?_cons_succ] at hc51; clear h1 h2 h4 hbc5 hbf5 hB5))
        have HQ := hid (show RM { d2 with pv := .slice (some ⟨g5, 0, none⟩) (d2.P.length + 1) cap5, P := d2.P ++ [negs A] } n F p cap (w5.setCell ⟨d2.b + 3, 1, none⟩ (.slice (some ⟨g5, 0, none⟩) (d2.P.length + 1) cap5)) ∧ Turn d.own ({ d2 with pv := .slice (some ⟨g5, 0, none⟩) (d2.P.length + 1) cap5, P := d2.P ++ [negs A] } : RD).own w (w5.setCell ⟨d2.b + 3, 1, none⟩ (.slice (some ⟨g5, 0, none⟩) (d2.P.length + 1) cap5)) from ⟨P5.out.1, T2.out.trans ((Turn.keep HK.out).trans P5.out.2)⟩)
        refine at_wp (fun W' => RM { d2 with pv := .slice (some ⟨g5, 0, none⟩) (d2.P.length + 1) cap5, P := d2.P ++ [negs A] } n F p cap W' ∧ Turn d.own ({ d2 with pv := .slice (some ⟨g5, 0, none⟩) (d2.P.length + 1) cap5, P := d2.P ++ [negs A] } : RD).own w W') ?_ ?_
        · exact HQ.out
        rintro W6 ⟨hx6, ht6⟩
        have HQ6 := hid (And.intro hx6 ht6)
        clear hx6 ht6 HQ P5 hc51 hf51 hbl5 ha1
        go_wp2_with fail
        go_ret
        exact ⟨{ d2 with pv := .slice (some ⟨g5, 0, none⟩) (d2.P.length + 1) cap5, P := d2.P ++ [negs A] }, HB2.out, HQ6.out.2, .inr (.inr ⟨HR.out.1, rfl, HQ6.out.1, HR.out.2.1.symm, HR.out.2.2.symm⟩)⟩
  have HNF := hid h1
  have HBV := hid h2
  have HNU := hid (h3.mono (w' := W2) (S' := fun b => d2.b + 6 ≤ b ∧ b < W2.heap.size) (fun _ _ => rfl) fun b hb => ⟨Nat.le_trans HNB.out hb.1, hb.2⟩)
  obtain ⟨vp, vc, hvs, hvl⟩ := h3.shape
  subst hvs
  have hln : l.length ≤ 400 := Nat.le_trans h2.short hn
  clear h1 h2 h3
  obtain ⟨hcf, -, hlf⟩ := X2.out.fo.facts
  have hf0 : W2.cell? ⟨d2.b, 0, none⟩ = some (.int .i64 (n : Int)) := hcf 0
  clear hcf
  cases hlow : lowU n F A with
  | none =>
    have HLO := hid hlow
    have hq : ((l.length : Int) == (n : Int)) = true := by rw [HBV.out.full.2 hlow]; simp
    clear hlow
    obtain ⟨hca, hfa, hla⟩ := X2.out.an.facts
    have ha0 : W2.cell? ⟨d2.b + 3, 0, none⟩ = some (.slice none 0 0) := hca 0
    have hfa0 := hfa 0
    clear hca hfa
    have hb3 : d2.b + 3 < W2.heap.size := hla
    have HST := hid (modr_start X2.out.an)
    go_upto_region 9 with fail
    refine at_wp (fun W' => ModR d2.b d2.pv W2 [] W') ?_ ?_
    · exact HST.out
    rintro W3 hm3
    have M3 := hid hm3
    clear hm3 HST ha0 hfa0 hf0
    obtain ⟨i2, hi2, hz02, hz12, hz22⟩ := info_parts infoBool
    go_wp2_with fail
    go_loopg [46] l.length (fun gk iv wq => ∃ j : Nat, j + gk = l.length ∧ iv = .int .i64 j ∧ ModR d2.b d2.pv W2 ((l.take j).map fun x => .bool (decide (0 < x))) wq)
    case atStart => exact ⟨0, by omega, rfl, M3.out⟩
    case round =>
      obtain ⟨j, hj1, rfl, ad, mc, hb, how, ht⟩ := hrel
      have HB := hid hb
      have HOW := hid how
      have HT := hid ht
      clear hb how ht
      by_cases hlt : j < l.length
      · obtain ⟨cb, co, hcp, hcb, hcc⟩ := (HNU.out.mono (w' := wr) (S' := fun b => d2.b + 6 ≤ b ∧ b < W2.heap.size) (fun q hq => HT.out.cell q hq.2 fun e => by have e2 : q.block = d2.b + 3 := e; have := hq.1; omega) fun _ h => h).nth hlt
        subst hcp
        have hc1 := hcc j _ (List.getElem?_eq_getElem hlt)
        have HTK := hid (show ((l.take (j + 1)).map fun x => Value.bool (decide (0 < x))) = ((l.take j).map fun x => Value.bool (decide (0 < x))) ++ [.bool (decide (0 < l[j]))] by rw [List.take_succ_eq_append_getElem hlt, List.map_append]; rfl)
        have hbl : cb < wr.heap.size := Nat.lt_of_lt_of_le hcb.2 HT.out.size
        have hfl : ((l.take j).map fun x => Value.bool (decide (0 < x))).length ≤ 400 := by simp; omega
        generalize ((l.take j).map fun x => Value.bool (decide (0 < x))) = fs at HB HOW HTK hfl
        generalize l[j] = z at hc1 HTK
        have hjI : (j : Int) < (l.length : Int) := by omega
        obtain ⟨hca, hfa, hla3⟩ := HB.out.facts
        have ha0 : wr.cell? ⟨d2.b + 3, 0, none⟩ = some (.slice (some ad) fs.length mc) := hca 0
        have hsz := HT.out.size
        clear hcc hca hfa
        generalize hbz : decide (0 < z) = bz at HTK
        have hbz' : decide (z > 0) = bz := hbz
        go_upto_region 13 with (at_builtin; go_loud (refine wpList_append_own_at _ rfl _ _ 25 rfl W2.heap.size 4 i2 (.bool false) 1 1 Try.underlying25 hi2 hz02 hz12 hz22 rfl (by decide) (.slice (some ad) fs.length mc) fs.length fs rfl (HOW.out.alloc _) ⟨wr.heap.size, 0, none⟩ 1 1 [.bool bz] rfl rfl one_newsC (fun u hu => by rw [List.mem_singleton.1 hu]; rfl) (by unfold maxLen; omega) (by omega) (by rw [alloc_size]; omega) ?_; intro v5 w5 h1 h2 _ h4; obtain ⟨g5, cap5, rfl⟩ := owns_shape h1 (Nat.succ_pos _); have P5 := hid (ModR.next hb3 HB.out HOW.out HT.out ⟨_, _, rfl⟩ h1 (grown_alloc h2)); have hB5 := (show BoxAt (d2.b + 3) 53 #[.slice (some ad) fs.length mc, d2.pv] w5 from by (have h5 := HB.out; have h6 := h5.facts.2.2; unfold BoxAt at *; rw [(grown_alloc h2).block _ h6 (fun e => by (have h7 := (owns_in HOW.out e.symm).1; omega))]; exact h5)); obtain ⟨hbc5, hbf5, hbl5⟩ := hB5.facts; have hc51 := hbc5 0; have hf51 := hbf5 0; simp only [List.getElem?_toArray, List.getElem?_cons_zero] at hc51; clear h1 h2 h4 hbc5 hbf5 hB5))
        refine at_wp (fun W' => ModR d2.b d2.pv W2 (fs ++ [.bool bz]) W') ?_ ?_
        · exact P5.out
        rintro W6 hm6
        have M6 := hid hm6
        clear hm6 P5 hc51 hf51 hbl5 ha0 hbz hbz'
        go_wp2_with fail
        go_roundg (l.length - (j + 1))
        case rel => exact ⟨j + 1, by omega, by go_num, by rw [HTK.out]; exact M6.out⟩
        case measure => omega
      · obtain rfl : j = l.length := by omega
        have HMU := hid (HBV.out.model HNF.out HLO.out)
        have HLN := hid (show (modU n F A).length = l.length by rw [← HMU.out]; simp)
        have HBX := hid (show BoxAt (d2.b + 3) 53 #[.slice (some ad) (modU n F A).length mc, d2.pv] wr from by
          have h1 := HB.out
          rw [List.take_length, List.length_map] at h1
          rw [HLN.out]; exact h1)
        have HBO := hid (show BoolsIs (fun c => d2.b + 6 ≤ c ∧ c < wr.heap.size) wr (modU n F A) (.slice (some ad) (modU n F A).length mc) from by
          have h1 := HOW.out
          rw [List.take_length, List.length_map] at h1
          have h2 : wr.ownsRow W2.heap.size 4 1 (.slice (some ad) (modU n F A).length mc) (modU n F A).length ((modU n F A).map Value.bool) := by
            rw [HLN.out, ← HMU.out, List.map_map]; exact h1
          refine (own_bools h2 (by rw [HLN.out]; omega)).mono (fun _ _ => rfl) fun c hc => ⟨?_, hc.2⟩
          have h3 := X2.out.nw
          have h4 := hc.1
          omega)
        have HOU := hid (show VarAt (d2.b + 4) 4 (.bool false) wr from X2.out.ou.turn HT.out fun e => by have e2 : d2.b + 4 = d2.b + 3 := e; omega)
        have HTT := hid (show Turn d.own d2.own w wr from T2.out.trans ⟨HT.out.os, HT.out.tape, HT.out.output, HT.out.size, fun c hc hn => HT.out.block c hc fun e => hn (.inr (.inl e)), fun _ h => .inl h⟩)
        obtain ⟨pp, pc, hpv⟩ := X2.out.pr.shape
        have HPVS := hid hpv
        clear hpv hlt hj1
        go_wp2_with fail
        go_ret
        exact ⟨d2, HB2.out, HTT.out, .inr (.inl ⟨modU n F A, ad, mc, d2.pv, by rw [srch_model HNE.out HNF.out HLO.out], rfl, HB2.out ▸ HOU.out, HB2.out ▸ HBX.out, ⟨_, _, _, HPVS.out⟩, HB2.out ▸ HBO.out⟩)⟩
  | some k =>
    have HLO := hid hlow
    obtain ⟨hk1, hk2, -, -⟩ := lowU_some hlow
    have HLIT := hid (show Lit n (k : Int) from ⟨by omega, by omega⟩)
    have hq : ((l.length : Int) == (n : Int)) = false := beq_eq_false_iff_ne.2 fun e => by
      have := HBV.out.full.1 (by omega)
      rw [HLO.out] at this; cases this
    have SAB := hid (show ((both n F g A k d2.s d2.P).o ≠ .closed → srch n F (g + 1) A d.s d.P = both n F g A k d2.s d2.P) ∧ ((both n F g A k d2.s d2.P).o = .closed → srch n F (g + 1) A d.s d.P = ⟨.closed, (both n F g A k d2.s d2.P).s, (both n F g A k d2.s d2.P).P ++ [negs A]⟩) by
      rw [HPS.out.1, HPS.out.2]; exact srch_as_both (g := g) (P := d.P) HNE.out HNF.out HLO.out)
    clear hlow
    obtain ⟨hg1, hg2, hg3⟩ := HBV.out.gap HLO.out
    have HG1 := hid hg1
    have HG3 := hid hg3
    have hk400 : (k : Int) ≤ 400 := by omega
    clear hg1 hg3
    go_wp2_with fail
    go_loopg [12] (k - 1) (fun gk kv wq => ∃ j : Nat, j + gk = k - 1 ∧ kv = .int .i64 ((j : Int) + 1) ∧ wq = W2)
    case atStart => exact ⟨0, by omega, rfl, rfl⟩
    case round =>
      obtain ⟨j, hj1, rfl, hw⟩ := hrel
      rw [hw]
      clear hw
      have hwj : IntKind.i64.wrap ((j : Int) + 1 - 1) = (j : Int) := by rw [IntKind.wrap_i64]; omega
      have hwj2 : (j : Int) + 1 - 1 = (j : Int) := by omega
      have hj400 : (j : Int) ≤ 400 := by omega
      by_cases hjl : j < l.length
      · obtain ⟨cb, co, hcp, hcb, hcc⟩ := HNU.out.nth hjl
        subst hcp
        have hc1 := hcc j _ (List.getElem?_eq_getElem hjl)
        have HXJ := hid (List.getElem?_eq_getElem hjl)
        have hx := HBV.out.lit l[j] (List.getElem_mem hjl)
        have hx2 := hx.2
        have hbl : cb < W2.heap.size := hcb.2
        have hjI : (j : Int) + 1 ≤ (l.length : Int) := by omega
        have hjI2 : (j : Int) < (l.length : Int) := by omega
        generalize l[j] = x at hc1 HXJ hx2
        clear hcc hx
        by_cases hjk : j < k - 1
        · have hab := HG1.out j x hjk HXJ.out
          by_cases hpos : x = (j : Int) + 1
          · have hb1 : (x == (j : Int) + 1) = true := by simp [hpos]
            clear hpos hab
            go_wp2_with fail
            go_roundg (k - 1 - (j + 1))
            case rel => exact ⟨j + 1, by omega, by go_num, rfl⟩
            case measure => omega
          · have hb1 : (x == (j : Int) + 1) = false := beq_eq_false_iff_ne.2 hpos
            have hb2 : (x == -((j : Int) + 1)) = true := by rw [show x = -((j : Int) + 1) by omega]; simp
            clear hpos hab
            go_wp2_with fail
            go_roundg (k - 1 - (j + 1))
            case rel => exact ⟨j + 1, by omega, by go_num, rfl⟩
            case measure => omega
        · obtain rfl : j = k - 1 := by omega
          have hab := HG3.out x HXJ.out
          have hb1 : (x == (((k - 1 : Nat) : Int) + 1)) = false := beq_eq_false_iff_ne.2 (by omega)
          have hb2 : (x == -(((k - 1 : Nat) : Int) + 1)) = false := beq_eq_false_iff_ne.2 (by omega)
          have hkk : (((k - 1 : Nat) : Int) + 1) = (k : Int) := by omega
          have hwk : IntKind.i64.wrap ((k : Int) - 1) = ((k - 1 : Nat) : Int) := by rw [IntKind.wrap_i64]; omega
          have hwk2 : (k : Int) - 1 = ((k - 1 : Nat) : Int) := by omega
          rw [hkk] at hb1 hb2 hjI
          rw [hkk]
          clear hab hkk hwj hwj2
          obtain ⟨i1, hi1, hz01, hz11, hz21⟩ := info_parts infoInt
          have hent := enter_from
          have BQ := hid (BoxAt.new W2 3 #[.int .i64 (-(k : Int)), .int .i64 (k : Int)])
          have XA := hid (X2.out.keep (Keep.alloc W2 (.cells #[.int .i64 (-(k : Int)), .int .i64 (k : Int)] 3)))
          have TA := hid (T2.out.trans (Turn.keep (O := d2.own) (Keep.alloc W2 (.cells #[.int .i64 (-(k : Int)), .int .i64 (k : Int)] 3))))
          have HNQ := hid (show ¬ d2.own W2.heap.size from fun e => by have := X2.out.lt e; omega)
          have KWQ := hid (Keep.alloc W2 (.cells #[.int .i64 (-(k : Int)), .int .i64 (k : Int)] 3))
          go_wp2_with fail
          clear hwk hwk2 hb1 hb2 hc1 hbl hjI2 HXJ hx2
          generalize W2.alloc (.cells #[.int .i64 (-(k : Int)), .int .i64 (k : Int)] 3) = W3 at BQ XA TA KWQ ⊢
          generalize W2.heap.size = bq at BQ HNQ ⊢
          go_loopg [7, 89] 2 (fun gk rv iv wq => ∃ (i : Nat) (d1 : RD), i + gk = 2 ∧ rv = .bool false ∧ iv = .int .i64 (i : Int) ∧ RM d1 n F p cap wq ∧ Turn d.own d1.own w wq ∧ d1.b = d2.b ∧ BoxAt bq 3 #[.int .i64 (-(k : Int)), .int .i64 (k : Int)] wq ∧ ¬ d1.own bq ∧ ((i = 0 ∧ d1 = d2) ∨ (i = 1 ∧ srch n F g (A ++ [-(k : Int)]) d2.s d2.P = ⟨.closed, d1.s, d1.P⟩) ∨ (i = 2 ∧ both n F g A k d2.s d2.P = ⟨.closed, d1.s, d1.P⟩)))
          case atStart => exact ⟨0, d2, rfl, rfl, rfl, XA.out, TA.out, rfl, BQ.out, HNQ.out, .inl ⟨rfl, rfl⟩⟩
          case round =>
            obtain ⟨i, d1, hi3, rfl, rfl, hx1, ht1, hdb, hbq, hno, hcase⟩ := hrel
            have X1 := hid hx1
            have T1 := hid ht1
            have HDB := hid hdb
            have HBB := hid (hdb.trans HB2.out)
            have BQ1 := hid hbq
            have HNO := hid hno
            have HDE := hid hdb.symm
            clear hx1 ht1 hdb hbq hno
            have N1 := hid (HA.out.turn T1.out HS0.out)
            have C1 := hid (HFC.out.turn T1.out HS0.out)
            have HS1 := hid (show ∀ b, S b → b < wr.heap.size ∧ ¬ d1.own b from fun b hb => ⟨Nat.lt_of_lt_of_le (HS0.out b hb).1 T1.out.size, fun e => (T1.out.new b e).elim (HS0.out b hb).2 fun e => by have := (HS0.out b hb).1; omega⟩)
            rcases hcase with ⟨rfl, hd⟩ | ⟨rfl, hs1⟩ | ⟨rfl, hb⟩
            · have HD1 := hid hd
              clear hd
              have hgk : gk = 2 := by omega
              clear hi3
              have hcq : wr.cell? ⟨bq, 0, none⟩ = some (.int .i64 (-(k : Int))) := BQ1.out.facts.1 0
              have hbql := BQ1.out.facts.2.2
              have HLZ0 := hid (show LitsC n (A ++ [-(k : Int)]) from fun x hx => by
                rcases List.mem_append.1 hx with hx | hx
                · exact HLA.out x hx
                · rw [List.mem_singleton.1 hx]; exact HLIT.out.neg)
              have HP1 := hid (show d1.P.length + d1.s ≤ 40000 by rw [HD1.out]; exact hps2)
              obtain ⟨z, hze⟩ : ∃ z : Int, z = -(k : Int) := ⟨_, rfl⟩
              have HZE := hid hze
              have HLZ := hid (show LitsC n (A ++ [z]) by rw [hze]; exact HLZ0.out)
              rw [← hze] at hcq
              have hz1000 : -1000 ≤ z ∧ z ≤ 1000 := by omega
              obtain ⟨hzl, hzg⟩ := hz1000
              clear hze HLZ0
              have hre : wr.cell? ⟨d2.b + 5, 0, none⟩ = some (.func (.func 54) #[] #[.pointer (some ⟨d2.b + 1, 0, none⟩), .pointer (some ⟨d2.b + 4, 0, none⟩), .pointer (some ⟨d2.b, 0, none⟩), .pointer (some ⟨d2.b + 3, 0, none⟩), .pointer (some ⟨d2.b + 5, 0, none⟩)]) := by
                have h := X1.out.re.facts.1
                rw [HDB.out] at h
                exact h
              have hrel5 : d2.b + 5 < wr.heap.size := by
                have h := X1.out.re.facts.2.2
                rw [HDB.out] at h
                exact h
              have HNB9 := hid (show ∀ (d9 : RD) (W9 : World), Turn d1.own d9.own wr W9 → ¬ d9.own bq from fun d9 W9 t e => (t.new bq e).elim HNO.out fun h => by have := BQ1.out.facts.2.2; omega)
              have HBO1 := hid (fun h => (SAB.out.1 (by rw [both_first h]; exact h)).trans (both_first (n := n) (F := F) (g := g) (A := A) (k := k) (s := d2.s) (P := d2.P) h))
              go_upto_region 22 with fail
              refine wp_region_held_drew (S := fun W' => W'.cell? ⟨d2.b + 5, 0, none⟩ = some (.func (.func 54) #[] #[.pointer (some ⟨d2.b + 1, 0, none⟩), .pointer (some ⟨d2.b + 4, 0, none⟩), .pointer (some ⟨d2.b, 0, none⟩), .pointer (some ⟨d2.b + 3, 0, none⟩), .pointer (some ⟨d2.b + 5, 0, none⟩)])) (by kernel_rfl) hre (fun hHeld => ?_)
              refine wpAnyH_take (i := 0) (v := ?_) rfl (by kernel_rfl) (by kernel_rfl) (by kernel_rfl) (fun _ _ _ h => h) (Or.inl ⟨by rfl, ?_⟩) (by assumption) ?_
              rotate_left
              · intro w hSw
                (try dsimp only at hSw)
                go_simp
                try with_reducible rfl
              simp only [Act.put, List.setIfInBounds_toArray, List.set_cons_zero, List.set_cons_succ, List.getElem_toArray, List.getElem_cons_zero]
              refine wpAnyH_take (i := 2) (v := ?_) rfl (by kernel_rfl) (by kernel_rfl) (by kernel_rfl) (fun _ _ _ h => h) (Or.inl ⟨by rfl, ?_⟩) (by assumption) ?_
              rotate_left
              · intro w hSw
                (try dsimp only at hSw)
                go_simp
                try with_reducible rfl
              simp only [Act.put, List.setIfInBounds_toArray, List.set_cons_zero, List.set_cons_succ, List.getElem_toArray, List.getElem_cons_zero, List.getElem_cons_succ]
              refine wpAnyH_take (i := 4) (v := ?_) rfl (by kernel_rfl) (by kernel_rfl) (by kernel_rfl) (fun _ _ _ h => h) (Or.inl ⟨by rfl, ?_⟩) (by assumption) ?_
              rotate_left
              · intro w hSw
                (try dsimp only at hSw)
                go_simp
                try with_reducible rfl
              simp only [Act.put, List.setIfInBounds_toArray, List.set_cons_zero, List.set_cons_succ, List.getElem_toArray, List.getElem_cons_zero, List.getElem_cons_succ]
              refine at_anyS (fun W' => Keep wr W') (Keep.drew (Keep.refl _)) ?_
              rintro Wa kWa
              have KWa := hid kWa
              clear kWa
              have hHWa := ((KWa.out.cell (p := ⟨d2.b + 5, 0, none⟩) hrel5).trans hre)
              refine wpAnyH_ready (rs := [1, 5]) (by kernel_rfl) (by simp) ?_
              refine AllReadyH.cons rfl (fun KK hK => ?_) (AllReadyH.cons rfl (fun KK hK => ?_) AllReadyH.nil)
              · go_simp
                refine hK.out _ _ (((KWa.out.alloc' _).cell (p := ⟨d2.b + 5, 0, none⟩) hrel5).trans hre) (fun hHx => ?_)
                clear hK KK hHx
                refine at_anyS (fun W' => Keep Wa W' ∧ W'.ownsRow wr.heap.size 3 1 (.slice (some ⟨Wa.heap.size, 0, none⟩) 0 0) 0 []) ⟨Keep.alloc _ _, World.ownsRow_made Wa #[] 0 KWa.out.size (Nat.zero_le _) rfl⟩ ?_
                rintro Wb ⟨kk, ee⟩
                have KWb := hid (show Keep wr Wb from KWa.out.trans kk)
                have EWb := hid ee
                have hHWb := ((KWb.out.cell (p := ⟨d2.b + 5, 0, none⟩) hrel5).trans hre)
                clear kk ee
                generalize Wa.heap.size = x1 at EWb ⊢
                refine wpAnyH_ready (rs := [3, 5]) (by kernel_rfl) (by simp) ?_
                refine AllReadyH.cons rfl (fun KK hK => ?_) (AllReadyH.cons rfl (fun KK hK => ?_) AllReadyH.nil)
                · refine step_append_ints rfl _ _ rfl wr.heap.size x1 S A (.slice ap A.length ac) rfl EWb.out rfl (N1.out.keep (B := wr.heap.size) (fun b hb => (HS1.out b hb).1) KWb.out) HCAP.out (by omega) KWb.out.size ?_
                  intro v3 Wc h1 h2
                  have KWc := hid (show Keep wr Wc from Below.grown KWb.out h2 KWb.out.size (fun g hg => (owns_in EWb.out hg).1))
                  have IWc := hid (show IntsOwn wr.heap.size v3 A Wc from h1)
                  obtain ⟨v3p, v3c, hv3⟩ := IWc.out.ints.len
                  subst hv3
                  have hHWc := ((KWc.out.cell (p := ⟨d2.b + 5, 0, none⟩) hrel5).trans hre)
                  refine hK.out _ _ hHWc (fun hHx => ?_)
                  clear hK KK hHx h1 h2
                  simp only [Act.put, List.setIfInBounds_toArray, List.set_cons_zero, List.set_cons_succ, List.getElem_toArray, List.getElem_cons_zero, List.getElem_cons_succ]
                  refine wpAnyH_ready (rs := [5]) (by kernel_rfl) (by simp) ?_
                  refine AllReadyH.cons rfl (fun KK hK => ?_) AllReadyH.nil
                  go_simp
                  refine hK.out _ _ (((KWc.out.alloc' _).cell (p := ⟨d2.b + 5, 0, none⟩) hrel5).trans hre) (fun hHx => ?_)
                  clear hK KK hHx
                  refine at_anyS (fun W' => Keep Wc W' ∧ VarAt Wc.heap.size 3 (.int .i64 z) W') ⟨Keep.alloc _ _, VarAt.new _ _ _⟩ ?_
                  rintro Wd ⟨kk, ee⟩
                  have KWd := hid (show Keep wr Wd from KWc.out.trans kk)
                  have VWd := hid ee
                  have IWd := hid (owns_keep IWc.out kk)
                  have hHWd := ((KWd.out.cell (p := ⟨d2.b + 5, 0, none⟩) hrel5).trans hre)
                  clear kk ee
                  generalize Wc.heap.size = x5 at VWd ⊢
                  refine wpAnyH_ready (rs := [6]) (by kernel_rfl) (by simp) ?_
                  refine AllReadyH.cons rfl (fun KK hK => ?_) AllReadyH.nil
                  refine step_append_own rfl _ _ 26 rfl wr.heap.size 3 i1 (.int .i64 0) 1 8 Try.underlying26 hi1 hz01 hz11 hz21 rfl (by decide) (.slice v3p A.length v3c) A.length (A.map (Value.int .i64)) rfl IWd.out ⟨x5, 0, none⟩ 1 1 [.int .i64 z] rfl rfl (one_atS VWd.out) one_cellI (by unfold maxLen; omega) (by omega) KWd.out.size ?_
                  intro v6 Wf h1 h2 h4
                  obtain ⟨g6, cap6, hv6⟩ := owns_shape h1 (Nat.succ_pos _)
                  subst hv6
                  have KWf := hid (show Keep wr Wf from Below.grown KWd.out h2 KWd.out.size (fun g hg => (owns_in IWd.out hg).1))
                  have IWf := hid (show IntsOwn wr.heap.size (.slice (some ⟨g6, 0, none⟩) (A.length + 1) cap6) (A ++ [z]) Wf by unfold IntsOwn; rw [List.length_append, List.map_append]; exact h1)
                  have hHWf := ((KWf.out.cell (p := ⟨d2.b + 5, 0, none⟩) hrel5).trans hre)
                  refine hK.out _ _ hHWf (fun hHx => ?_)
                  clear hK KK hHx h1 h2 h4
                  simp only [Act.put, List.setIfInBounds_toArray, List.set_cons_zero, List.set_cons_succ, List.getElem_toArray, List.getElem_cons_zero, List.getElem_cons_succ]
                  refine wpAnyH_ready (rs := [7]) (by kernel_rfl) (by simp) ?_
                  refine AllReadyH.cons rfl (fun KK hK => ?_) AllReadyH.nil
                  have HIH := hid (show Calls Try.prog 54 #[.slice (some ⟨g6, 0, none⟩) (A.length + 1) cap6, .pointer (some ⟨d2.b + 1, 0, none⟩), .pointer (some ⟨d2.b + 4, 0, none⟩), .pointer (some ⟨d2.b, 0, none⟩), .pointer (some ⟨d2.b + 3, 0, none⟩), .pointer (some ⟨d2.b + 5, 0, none⟩)] Wf fun e w' => RDone d1 n F p cap (srch n F g (A ++ [z]) d1.s d1.P) Wf e w' from by
                    have hsp : (A ++ [z]).length = A.length + 1 := by simp
                    have h9 := IH.out d1 (fun b => S b ∨ (Value.slice (some ⟨g6, 0, none⟩) (A.length + 1) cap6).ownBlock = some b) (A ++ [z]) (.slice (some ⟨g6, 0, none⟩) (A.length + 1) cap6) p cap Wf (X1.out.keep KWf.out) ((C1.out.keep (B := wr.heap.size) (fun b hb => (HS1.out b hb).1) KWf.out).mono (fun _ _ => rfl) fun _ h => .inl h) (IWf.out.numsO.mono (fun _ _ => rfl) fun _ h => .inr h) (fun b hb => by
                      rcases hb with hb | hb
                      · exact ⟨Nat.lt_of_lt_of_le (HS1.out b hb).1 KWf.out.size, (HS1.out b hb).2⟩
                      · have h1 := owns_in IWf.out hb
                        exact ⟨h1.2, fun e => by have := X1.out.lt e; omega⟩) (by rw [hsp]; omega) HLZ.out HP1.out (fun k c e => by cases e)
                    rw [HDB.out] at h9
                    exact h9)
                  go_simp
                  with_reducible refine HIH.out.mono ?_
                  rintro e W9 ⟨d9, hb9, ht9, hr9⟩
                  have KT := hid (show Turn d1.own d9.own wr W9 from (Turn.keep KWf.out).trans ht9)
                  have hre9 : W9.cell? ⟨d2.b + 5, 0, none⟩ = some (.func (.func 54) #[] #[.pointer (some ⟨d2.b + 1, 0, none⟩), .pointer (some ⟨d2.b + 4, 0, none⟩), .pointer (some ⟨d2.b, 0, none⟩), .pointer (some ⟨d2.b + 3, 0, none⟩), .pointer (some ⟨d2.b + 5, 0, none⟩)]) := (KT.out.cell ⟨d2.b + 5, 0, none⟩ hrel5 (fun e => by
                    rcases e with e | e | e | e
                    · have e2 : d2.b + 5 = d1.b + 1 := e; have := HDB.out; omega
                    · have e2 : d2.b + 5 = d1.b + 3 := e; have := HDB.out; omega
                    · have e2 : d2.b + 5 = d1.b + 4 := e; have := HDB.out; omega
                    · have h1 := (X1.out.pr.in (show d1.pv.ownBlock = some (d2.b + 5) from e)).1; have := HDB.out; omega)).trans hre
                  clear ht9 HIH
                  rcases hr9 with ⟨h1, rfl, h2⟩ | ⟨m, mad, mmc, mpv, h1, rfl, h2, h3, h4, h5⟩ | ⟨h1, rfl, h2, h3, h4⟩
                  · refine hK.out _ _ hre9 (fun hHx => ?_)
                    clear hK KK hHx
                    refine wpAnyH_done (by kernel_rfl) ?_ _
                    have HOUT := hid (And.intro h1 h2)
                    clear h1 h2 hre9 hre hrel5
                    go_wp2_with fail
                    go_ret
                    exact ⟨d9, hb9.trans HBB.out, T1.out.trans KT.out, .inl ⟨by rw [HBO1.out (by rw [← HZE.out, ← HD1.out, HOUT.out.1]; simp), ← HZE.out, ← HD1.out]; exact HOUT.out.1, rfl, HBB.out ▸ HOUT.out.2⟩⟩
                  · refine hK.out _ _ hre9 (fun hHx => ?_)
                    clear hK KK hHx
                    refine wpAnyH_done (by kernel_rfl) ?_ _
                    have HOUT := hid (And.intro h1 (And.intro h2 (And.intro h3 (And.intro h4 h5))))
                    clear h1 h2 h3 h4 h5 hre9 hre hrel5
                    go_wp2_with fail
                    go_ret
                    exact ⟨d9, hb9.trans HBB.out, T1.out.trans KT.out, .inr (.inl ⟨m, mad, mmc, mpv, by rw [HBO1.out (by rw [← HZE.out, ← HD1.out, HOUT.out.1]; simp), ← HZE.out, ← HD1.out]; exact HOUT.out.1, rfl, HBB.out ▸ HOUT.out.2.1, HBB.out ▸ HOUT.out.2.2.1, HOUT.out.2.2.2.1, HBB.out ▸ HOUT.out.2.2.2.2⟩)⟩
                  · refine hK.out _ _ hre9 (fun hHx => ?_)
                    clear hK KK hHx
                    refine wpAnyH_done (by kernel_rfl) ?_ _
                    have X9 := hid h2
                    have HCLO := hid (show srch n F g (A ++ [z]) d1.s d1.P = ⟨.closed, d9.s, d9.P⟩ by rw [h3, h4, ← h1])
                    clear h1 h2 h3 h4 hre9 hre hrel5
                    go_wp2_with fail
                    go_roundg 1
                    case rel => exact ⟨1, d9, by omega, rfl, by go_num, X9.out, T1.out.trans KT.out, hb9.trans HDB.out, BQ1.out.turn KT.out HNO.out, HNB9.out d9 W9 KT.out, .inr (.inl ⟨rfl, by rw [← HZE.out, ← HD1.out]; exact HCLO.out⟩)⟩
                    case measure => omega
                · go_simp
                  refine hK.out _ _ (((KWb.out.alloc' _).cell (p := ⟨d2.b + 5, 0, none⟩) hrel5).trans hre) (fun hHx => ?_)
                  clear hK KK hHx
                  refine at_anyS (fun W' => Keep Wb W' ∧ VarAt Wb.heap.size 3 (.int .i64 z) W') ⟨Keep.alloc _ _, VarAt.new _ _ _⟩ ?_
                  rintro Wc ⟨kk, ee⟩
                  have KWc := hid (show Keep wr Wc from KWb.out.trans kk)
                  have VWc := hid ee
                  have EWc := hid (owns_keep EWb.out kk)
                  have hne : Wb.heap.size ≠ x1 := fun e => by have := (owns_in EWb.out (g := x1) rfl).2; omega
                  have hHWc := ((KWc.out.cell (p := ⟨d2.b + 5, 0, none⟩) hrel5).trans hre)
                  clear kk ee
                  generalize Wb.heap.size = x5 at VWc hne ⊢
                  refine wpAnyH_ready (rs := [3]) (by kernel_rfl) (by simp) ?_
                  refine AllReadyH.cons rfl (fun KK hK => ?_) AllReadyH.nil
                  refine step_append_ints rfl _ _ rfl wr.heap.size x1 S A (.slice ap A.length ac) rfl EWc.out rfl (N1.out.keep (B := wr.heap.size) (fun b hb => (HS1.out b hb).1) KWc.out) HCAP.out (by omega) KWc.out.size ?_
                  intro v3 Wd h1 h2
                  have KWd := hid (show Keep wr Wd from Below.grown KWc.out h2 KWc.out.size (fun g hg => (owns_in EWc.out hg).1))
                  have IWd := hid (show IntsOwn wr.heap.size v3 A Wd from h1)
                  have VWd := hid (VWc.out.grew (g := x1) h2 hne)
                  obtain ⟨v3p, v3c, hv3⟩ := IWd.out.ints.len
                  subst hv3
                  have hHWd := ((KWd.out.cell (p := ⟨d2.b + 5, 0, none⟩) hrel5).trans hre)
                  refine hK.out _ _ hHWd (fun hHx => ?_)
                  clear hK KK hHx h1 h2
                  simp only [Act.put, List.setIfInBounds_toArray, List.set_cons_zero, List.set_cons_succ, List.getElem_toArray, List.getElem_cons_zero, List.getElem_cons_succ]
                  refine wpAnyH_ready (rs := [6]) (by kernel_rfl) (by simp) ?_
                  refine AllReadyH.cons rfl (fun KK hK => ?_) AllReadyH.nil
                  refine step_append_own rfl _ _ 26 rfl wr.heap.size 3 i1 (.int .i64 0) 1 8 Try.underlying26 hi1 hz01 hz11 hz21 rfl (by decide) (.slice v3p A.length v3c) A.length (A.map (Value.int .i64)) rfl IWd.out ⟨x5, 0, none⟩ 1 1 [.int .i64 z] rfl rfl (one_atS VWd.out) one_cellI (by unfold maxLen; omega) (by omega) KWd.out.size ?_
                  intro v6 Wf h1 h2 h4
                  obtain ⟨g6, cap6, hv6⟩ := owns_shape h1 (Nat.succ_pos _)
                  subst hv6
                  have KWf := hid (show Keep wr Wf from Below.grown KWd.out h2 KWd.out.size (fun g hg => (owns_in IWd.out hg).1))
                  have IWf := hid (show IntsOwn wr.heap.size (.slice (some ⟨g6, 0, none⟩) (A.length + 1) cap6) (A ++ [z]) Wf by unfold IntsOwn; rw [List.length_append, List.map_append]; exact h1)
                  have hHWf := ((KWf.out.cell (p := ⟨d2.b + 5, 0, none⟩) hrel5).trans hre)
                  refine hK.out _ _ hHWf (fun hHx => ?_)
                  clear hK KK hHx h1 h2 h4
                  simp only [Act.put, List.setIfInBounds_toArray, List.set_cons_zero, List.set_cons_succ, List.getElem_toArray, List.getElem_cons_zero, List.getElem_cons_succ]
                  refine wpAnyH_ready (rs := [7]) (by kernel_rfl) (by simp) ?_
                  refine AllReadyH.cons rfl (fun KK hK => ?_) AllReadyH.nil
                  have HIH := hid (show Calls Try.prog 54 #[.slice (some ⟨g6, 0, none⟩) (A.length + 1) cap6, .pointer (some ⟨d2.b + 1, 0, none⟩), .pointer (some ⟨d2.b + 4, 0, none⟩), .pointer (some ⟨d2.b, 0, none⟩), .pointer (some ⟨d2.b + 3, 0, none⟩), .pointer (some ⟨d2.b + 5, 0, none⟩)] Wf fun e w' => RDone d1 n F p cap (srch n F g (A ++ [z]) d1.s d1.P) Wf e w' from by
                    have hsp : (A ++ [z]).length = A.length + 1 := by simp
                    have h9 := IH.out d1 (fun b => S b ∨ (Value.slice (some ⟨g6, 0, none⟩) (A.length + 1) cap6).ownBlock = some b) (A ++ [z]) (.slice (some ⟨g6, 0, none⟩) (A.length + 1) cap6) p cap Wf (X1.out.keep KWf.out) ((C1.out.keep (B := wr.heap.size) (fun b hb => (HS1.out b hb).1) KWf.out).mono (fun _ _ => rfl) fun _ h => .inl h) (IWf.out.numsO.mono (fun _ _ => rfl) fun _ h => .inr h) (fun b hb => by
                      rcases hb with hb | hb
                      · exact ⟨Nat.lt_of_lt_of_le (HS1.out b hb).1 KWf.out.size, (HS1.out b hb).2⟩
                      · have h1 := owns_in IWf.out hb
                        exact ⟨h1.2, fun e => by have := X1.out.lt e; omega⟩) (by rw [hsp]; omega) HLZ.out HP1.out (fun k c e => by cases e)
                    rw [HDB.out] at h9
                    exact h9)
                  go_simp
                  with_reducible refine HIH.out.mono ?_
                  rintro e W9 ⟨d9, hb9, ht9, hr9⟩
                  have KT := hid (show Turn d1.own d9.own wr W9 from (Turn.keep KWf.out).trans ht9)
                  have hre9 : W9.cell? ⟨d2.b + 5, 0, none⟩ = some (.func (.func 54) #[] #[.pointer (some ⟨d2.b + 1, 0, none⟩), .pointer (some ⟨d2.b + 4, 0, none⟩), .pointer (some ⟨d2.b, 0, none⟩), .pointer (some ⟨d2.b + 3, 0, none⟩), .pointer (some ⟨d2.b + 5, 0, none⟩)]) := (KT.out.cell ⟨d2.b + 5, 0, none⟩ hrel5 (fun e => by
                    rcases e with e | e | e | e
                    · have e2 : d2.b + 5 = d1.b + 1 := e; have := HDB.out; omega
                    · have e2 : d2.b + 5 = d1.b + 3 := e; have := HDB.out; omega
                    · have e2 : d2.b + 5 = d1.b + 4 := e; have := HDB.out; omega
                    · have h1 := (X1.out.pr.in (show d1.pv.ownBlock = some (d2.b + 5) from e)).1; have := HDB.out; omega)).trans hre
                  clear ht9 HIH
                  rcases hr9 with ⟨h1, rfl, h2⟩ | ⟨m, mad, mmc, mpv, h1, rfl, h2, h3, h4, h5⟩ | ⟨h1, rfl, h2, h3, h4⟩
                  · refine hK.out _ _ hre9 (fun hHx => ?_)
                    clear hK KK hHx
                    refine wpAnyH_done (by kernel_rfl) ?_ _
                    have HOUT := hid (And.intro h1 h2)
                    clear h1 h2 hre9 hre hrel5
                    go_wp2_with fail
                    go_ret
                    exact ⟨d9, hb9.trans HBB.out, T1.out.trans KT.out, .inl ⟨by rw [HBO1.out (by rw [← HZE.out, ← HD1.out, HOUT.out.1]; simp), ← HZE.out, ← HD1.out]; exact HOUT.out.1, rfl, HBB.out ▸ HOUT.out.2⟩⟩
                  · refine hK.out _ _ hre9 (fun hHx => ?_)
                    clear hK KK hHx
                    refine wpAnyH_done (by kernel_rfl) ?_ _
                    have HOUT := hid (And.intro h1 (And.intro h2 (And.intro h3 (And.intro h4 h5))))
                    clear h1 h2 h3 h4 h5 hre9 hre hrel5
                    go_wp2_with fail
                    go_ret
                    exact ⟨d9, hb9.trans HBB.out, T1.out.trans KT.out, .inr (.inl ⟨m, mad, mmc, mpv, by rw [HBO1.out (by rw [← HZE.out, ← HD1.out, HOUT.out.1]; simp), ← HZE.out, ← HD1.out]; exact HOUT.out.1, rfl, HBB.out ▸ HOUT.out.2.1, HBB.out ▸ HOUT.out.2.2.1, HOUT.out.2.2.2.1, HBB.out ▸ HOUT.out.2.2.2.2⟩)⟩
                  · refine hK.out _ _ hre9 (fun hHx => ?_)
                    clear hK KK hHx
                    refine wpAnyH_done (by kernel_rfl) ?_ _
                    have X9 := hid h2
                    have HCLO := hid (show srch n F g (A ++ [z]) d1.s d1.P = ⟨.closed, d9.s, d9.P⟩ by rw [h3, h4, ← h1])
                    clear h1 h2 h3 h4 hre9 hre hrel5
                    go_wp2_with fail
                    go_roundg 1
                    case rel => exact ⟨1, d9, by omega, rfl, by go_num, X9.out, T1.out.trans KT.out, hb9.trans HDB.out, BQ1.out.turn KT.out HNO.out, HNB9.out d9 W9 KT.out, .inr (.inl ⟨rfl, by rw [← HZE.out, ← HD1.out]; exact HCLO.out⟩)⟩
                    case measure => omega
              · go_simp
                refine hK.out _ _ (((KWa.out.alloc' _).cell (p := ⟨d2.b + 5, 0, none⟩) hrel5).trans hre) (fun hHx => ?_)
                clear hK KK hHx
                refine at_anyS (fun W' => Keep Wa W' ∧ VarAt Wa.heap.size 3 (.int .i64 z) W') ⟨Keep.alloc _ _, VarAt.new _ _ _⟩ ?_
                rintro Wb ⟨kk, ee⟩
                have KWb := hid (show Keep wr Wb from KWa.out.trans kk)
                have VWb := hid ee
                have hHWb := ((KWb.out.cell (p := ⟨d2.b + 5, 0, none⟩) hrel5).trans hre)
                clear kk ee
                generalize Wa.heap.size = x5 at VWb ⊢
                refine wpAnyH_ready (rs := [1]) (by kernel_rfl) (by simp) ?_
                refine AllReadyH.cons rfl (fun KK hK => ?_) AllReadyH.nil
                go_simp
                refine hK.out _ _ (((KWb.out.alloc' _).cell (p := ⟨d2.b + 5, 0, none⟩) hrel5).trans hre) (fun hHx => ?_)
                clear hK KK hHx
                refine at_anyS (fun W' => Keep Wb W' ∧ W'.ownsRow wr.heap.size 3 1 (.slice (some ⟨Wb.heap.size, 0, none⟩) 0 0) 0 []) ⟨Keep.alloc _ _, World.ownsRow_made Wb #[] 0 KWb.out.size (Nat.zero_le _) rfl⟩ ?_
                rintro Wc ⟨kk, ee⟩
                have KWc := hid (show Keep wr Wc from KWb.out.trans kk)
                have EWc := hid ee
                have VWc := hid (VWb.out.keep kk VWb.out.facts.2.2)
                have hne : x5 ≠ Wb.heap.size := fun e => by have := VWb.out.facts.2.2; omega
                have hHWc := ((KWc.out.cell (p := ⟨d2.b + 5, 0, none⟩) hrel5).trans hre)
                clear kk ee
                generalize Wb.heap.size = x1 at EWc hne ⊢
                refine wpAnyH_ready (rs := [3]) (by kernel_rfl) (by simp) ?_
                refine AllReadyH.cons rfl (fun KK hK => ?_) AllReadyH.nil
                refine step_append_ints rfl _ _ rfl wr.heap.size x1 S A (.slice ap A.length ac) rfl EWc.out rfl (N1.out.keep (B := wr.heap.size) (fun b hb => (HS1.out b hb).1) KWc.out) HCAP.out (by omega) KWc.out.size ?_
                intro v3 Wd h1 h2
                have KWd := hid (show Keep wr Wd from Below.grown KWc.out h2 KWc.out.size (fun g hg => (owns_in EWc.out hg).1))
                have IWd := hid (show IntsOwn wr.heap.size v3 A Wd from h1)
                have VWd := hid (VWc.out.grew (g := x1) h2 hne)
                obtain ⟨v3p, v3c, hv3⟩ := IWd.out.ints.len
                subst hv3
                have hHWd := ((KWd.out.cell (p := ⟨d2.b + 5, 0, none⟩) hrel5).trans hre)
                refine hK.out _ _ hHWd (fun hHx => ?_)
                clear hK KK hHx h1 h2
                simp only [Act.put, List.setIfInBounds_toArray, List.set_cons_zero, List.set_cons_succ, List.getElem_toArray, List.getElem_cons_zero, List.getElem_cons_succ]
                refine wpAnyH_ready (rs := [6]) (by kernel_rfl) (by simp) ?_
                refine AllReadyH.cons rfl (fun KK hK => ?_) AllReadyH.nil
                refine step_append_own rfl _ _ 26 rfl wr.heap.size 3 i1 (.int .i64 0) 1 8 Try.underlying26 hi1 hz01 hz11 hz21 rfl (by decide) (.slice v3p A.length v3c) A.length (A.map (Value.int .i64)) rfl IWd.out ⟨x5, 0, none⟩ 1 1 [.int .i64 z] rfl rfl (one_atS VWd.out) one_cellI (by unfold maxLen; omega) (by omega) KWd.out.size ?_
                intro v6 Wf h1 h2 h4
                obtain ⟨g6, cap6, hv6⟩ := owns_shape h1 (Nat.succ_pos _)
                subst hv6
                have KWf := hid (show Keep wr Wf from Below.grown KWd.out h2 KWd.out.size (fun g hg => (owns_in IWd.out hg).1))
                have IWf := hid (show IntsOwn wr.heap.size (.slice (some ⟨g6, 0, none⟩) (A.length + 1) cap6) (A ++ [z]) Wf by unfold IntsOwn; rw [List.length_append, List.map_append]; exact h1)
                have hHWf := ((KWf.out.cell (p := ⟨d2.b + 5, 0, none⟩) hrel5).trans hre)
                refine hK.out _ _ hHWf (fun hHx => ?_)
                clear hK KK hHx h1 h2 h4
                simp only [Act.put, List.setIfInBounds_toArray, List.set_cons_zero, List.set_cons_succ, List.getElem_toArray, List.getElem_cons_zero, List.getElem_cons_succ]
                refine wpAnyH_ready (rs := [7]) (by kernel_rfl) (by simp) ?_
                refine AllReadyH.cons rfl (fun KK hK => ?_) AllReadyH.nil
                have HIH := hid (show Calls Try.prog 54 #[.slice (some ⟨g6, 0, none⟩) (A.length + 1) cap6, .pointer (some ⟨d2.b + 1, 0, none⟩), .pointer (some ⟨d2.b + 4, 0, none⟩), .pointer (some ⟨d2.b, 0, none⟩), .pointer (some ⟨d2.b + 3, 0, none⟩), .pointer (some ⟨d2.b + 5, 0, none⟩)] Wf fun e w' => RDone d1 n F p cap (srch n F g (A ++ [z]) d1.s d1.P) Wf e w' from by
                  have hsp : (A ++ [z]).length = A.length + 1 := by simp
                  have h9 := IH.out d1 (fun b => S b ∨ (Value.slice (some ⟨g6, 0, none⟩) (A.length + 1) cap6).ownBlock = some b) (A ++ [z]) (.slice (some ⟨g6, 0, none⟩) (A.length + 1) cap6) p cap Wf (X1.out.keep KWf.out) ((C1.out.keep (B := wr.heap.size) (fun b hb => (HS1.out b hb).1) KWf.out).mono (fun _ _ => rfl) fun _ h => .inl h) (IWf.out.numsO.mono (fun _ _ => rfl) fun _ h => .inr h) (fun b hb => by
                    rcases hb with hb | hb
                    · exact ⟨Nat.lt_of_lt_of_le (HS1.out b hb).1 KWf.out.size, (HS1.out b hb).2⟩
                    · have h1 := owns_in IWf.out hb
                      exact ⟨h1.2, fun e => by have := X1.out.lt e; omega⟩) (by rw [hsp]; omega) HLZ.out HP1.out (fun k c e => by cases e)
                  rw [HDB.out] at h9
                  exact h9)
                go_simp
                with_reducible refine HIH.out.mono ?_
                rintro e W9 ⟨d9, hb9, ht9, hr9⟩
                have KT := hid (show Turn d1.own d9.own wr W9 from (Turn.keep KWf.out).trans ht9)
                have hre9 : W9.cell? ⟨d2.b + 5, 0, none⟩ = some (.func (.func 54) #[] #[.pointer (some ⟨d2.b + 1, 0, none⟩), .pointer (some ⟨d2.b + 4, 0, none⟩), .pointer (some ⟨d2.b, 0, none⟩), .pointer (some ⟨d2.b + 3, 0, none⟩), .pointer (some ⟨d2.b + 5, 0, none⟩)]) := (KT.out.cell ⟨d2.b + 5, 0, none⟩ hrel5 (fun e => by
                  rcases e with e | e | e | e
                  · have e2 : d2.b + 5 = d1.b + 1 := e; have := HDB.out; omega
                  · have e2 : d2.b + 5 = d1.b + 3 := e; have := HDB.out; omega
                  · have e2 : d2.b + 5 = d1.b + 4 := e; have := HDB.out; omega
                  · have h1 := (X1.out.pr.in (show d1.pv.ownBlock = some (d2.b + 5) from e)).1; have := HDB.out; omega)).trans hre
                clear ht9 HIH
                rcases hr9 with ⟨h1, rfl, h2⟩ | ⟨m, mad, mmc, mpv, h1, rfl, h2, h3, h4, h5⟩ | ⟨h1, rfl, h2, h3, h4⟩
                · refine hK.out _ _ hre9 (fun hHx => ?_)
                  clear hK KK hHx
                  refine wpAnyH_done (by kernel_rfl) ?_ _
                  have HOUT := hid (And.intro h1 h2)
                  clear h1 h2 hre9 hre hrel5
                  go_wp2_with fail
                  go_ret
                  exact ⟨d9, hb9.trans HBB.out, T1.out.trans KT.out, .inl ⟨by rw [HBO1.out (by rw [← HZE.out, ← HD1.out, HOUT.out.1]; simp), ← HZE.out, ← HD1.out]; exact HOUT.out.1, rfl, HBB.out ▸ HOUT.out.2⟩⟩
                · refine hK.out _ _ hre9 (fun hHx => ?_)
                  clear hK KK hHx
                  refine wpAnyH_done (by kernel_rfl) ?_ _
                  have HOUT := hid (And.intro h1 (And.intro h2 (And.intro h3 (And.intro h4 h5))))
                  clear h1 h2 h3 h4 h5 hre9 hre hrel5
                  go_wp2_with fail
                  go_ret
                  exact ⟨d9, hb9.trans HBB.out, T1.out.trans KT.out, .inr (.inl ⟨m, mad, mmc, mpv, by rw [HBO1.out (by rw [← HZE.out, ← HD1.out, HOUT.out.1]; simp), ← HZE.out, ← HD1.out]; exact HOUT.out.1, rfl, HBB.out ▸ HOUT.out.2.1, HBB.out ▸ HOUT.out.2.2.1, HOUT.out.2.2.2.1, HBB.out ▸ HOUT.out.2.2.2.2⟩)⟩
                · refine hK.out _ _ hre9 (fun hHx => ?_)
                  clear hK KK hHx
                  refine wpAnyH_done (by kernel_rfl) ?_ _
                  have X9 := hid h2
                  have HCLO := hid (show srch n F g (A ++ [z]) d1.s d1.P = ⟨.closed, d9.s, d9.P⟩ by rw [h3, h4, ← h1])
                  clear h1 h2 h3 h4 hre9 hre hrel5
                  go_wp2_with fail
                  go_roundg 1
                  case rel => exact ⟨1, d9, by omega, rfl, by go_num, X9.out, T1.out.trans KT.out, hb9.trans HDB.out, BQ1.out.turn KT.out HNO.out, HNB9.out d9 W9 KT.out, .inr (.inl ⟨rfl, by rw [← HZE.out, ← HD1.out]; exact HCLO.out⟩)⟩
                  case measure => omega
            · have HS1E := hid hs1
              clear hs1
              have hgk : gk = 1 := by omega
              clear hi3
              have hcq : wr.cell? ⟨bq, 1, none⟩ = some (.int .i64 ((k : Int))) := BQ1.out.facts.1 1
              have hbql := BQ1.out.facts.2.2
              have HLZ0 := hid (show LitsC n (A ++ [(k : Int)]) from fun x hx => by
                rcases List.mem_append.1 hx with hx | hx
                · exact HLA.out x hx
                · rw [List.mem_singleton.1 hx]; exact HLIT.out)
              have HP1 := hid (show d1.P.length + d1.s ≤ 40000 from by
                have h1 := (srch_closed (n := n) (F := F) g _ _ _ _ _ (by simp; omega) (fun x hx => by
                  rcases List.mem_append.1 hx with hx | hx
                  · exact HLA.out x hx
                  · rw [List.mem_singleton.1 hx]; exact HLIT.out.neg) HS1E.out).few
                omega)
              obtain ⟨z, hze⟩ : ∃ z : Int, z = (k : Int) := ⟨_, rfl⟩
              have HZE := hid hze
              have HLZ := hid (show LitsC n (A ++ [z]) by rw [hze]; exact HLZ0.out)
              rw [← hze] at hcq
              have hz1000 : -1000 ≤ z ∧ z ≤ 1000 := by omega
              obtain ⟨hzl, hzg⟩ := hz1000
              clear hze HLZ0
              have hre : wr.cell? ⟨d2.b + 5, 0, none⟩ = some (.func (.func 54) #[] #[.pointer (some ⟨d2.b + 1, 0, none⟩), .pointer (some ⟨d2.b + 4, 0, none⟩), .pointer (some ⟨d2.b, 0, none⟩), .pointer (some ⟨d2.b + 3, 0, none⟩), .pointer (some ⟨d2.b + 5, 0, none⟩)]) := by
                have h := X1.out.re.facts.1
                rw [HDB.out] at h
                exact h
              have hrel5 : d2.b + 5 < wr.heap.size := by
                have h := X1.out.re.facts.2.2
                rw [HDB.out] at h
                exact h
              have HNB9 := hid (show ∀ (d9 : RD) (W9 : World), Turn d1.own d9.own wr W9 → ¬ d9.own bq from fun d9 W9 t e => (t.new bq e).elim HNO.out fun h => by have := BQ1.out.facts.2.2; omega)
              go_upto_region 22 with fail
              refine wp_region_held_drew (S := fun W' => W'.cell? ⟨d2.b + 5, 0, none⟩ = some (.func (.func 54) #[] #[.pointer (some ⟨d2.b + 1, 0, none⟩), .pointer (some ⟨d2.b + 4, 0, none⟩), .pointer (some ⟨d2.b, 0, none⟩), .pointer (some ⟨d2.b + 3, 0, none⟩), .pointer (some ⟨d2.b + 5, 0, none⟩)])) (by kernel_rfl) hre (fun hHeld => ?_)
              refine wpAnyH_take (i := 0) (v := ?_) rfl (by kernel_rfl) (by kernel_rfl) (by kernel_rfl) (fun _ _ _ h => h) (Or.inl ⟨by rfl, ?_⟩) (by assumption) ?_
              rotate_left
              · intro w hSw
                (try dsimp only at hSw)
                go_simp
                try with_reducible rfl
              simp only [Act.put, List.setIfInBounds_toArray, List.set_cons_zero, List.set_cons_succ, List.getElem_toArray, List.getElem_cons_zero]
              refine wpAnyH_take (i := 2) (v := ?_) rfl (by kernel_rfl) (by kernel_rfl) (by kernel_rfl) (fun _ _ _ h => h) (Or.inl ⟨by rfl, ?_⟩) (by assumption) ?_
              rotate_left
              · intro w hSw
                (try dsimp only at hSw)
                go_simp
                try with_reducible rfl
              simp only [Act.put, List.setIfInBounds_toArray, List.set_cons_zero, List.set_cons_succ, List.getElem_toArray, List.getElem_cons_zero, List.getElem_cons_succ]
              refine wpAnyH_take (i := 4) (v := ?_) rfl (by kernel_rfl) (by kernel_rfl) (by kernel_rfl) (fun _ _ _ h => h) (Or.inl ⟨by rfl, ?_⟩) (by assumption) ?_
              rotate_left
              · intro w hSw
                (try dsimp only at hSw)
                go_simp
                try with_reducible rfl
              simp only [Act.put, List.setIfInBounds_toArray, List.set_cons_zero, List.set_cons_succ, List.getElem_toArray, List.getElem_cons_zero, List.getElem_cons_succ]
              refine at_anyS (fun W' => Keep wr W') (Keep.drew (Keep.refl _)) ?_
              rintro Wa kWa
              have KWa := hid kWa
              clear kWa
              have hHWa := ((KWa.out.cell (p := ⟨d2.b + 5, 0, none⟩) hrel5).trans hre)
              refine wpAnyH_ready (rs := [1, 5]) (by kernel_rfl) (by simp) ?_
              refine AllReadyH.cons rfl (fun KK hK => ?_) (AllReadyH.cons rfl (fun KK hK => ?_) AllReadyH.nil)
              · go_simp
                refine hK.out _ _ (((KWa.out.alloc' _).cell (p := ⟨d2.b + 5, 0, none⟩) hrel5).trans hre) (fun hHx => ?_)
                clear hK KK hHx
                refine at_anyS (fun W' => Keep Wa W' ∧ W'.ownsRow wr.heap.size 3 1 (.slice (some ⟨Wa.heap.size, 0, none⟩) 0 0) 0 []) ⟨Keep.alloc _ _, World.ownsRow_made Wa #[] 0 KWa.out.size (Nat.zero_le _) rfl⟩ ?_
                rintro Wb ⟨kk, ee⟩
                have KWb := hid (show Keep wr Wb from KWa.out.trans kk)
                have EWb := hid ee
                have hHWb := ((KWb.out.cell (p := ⟨d2.b + 5, 0, none⟩) hrel5).trans hre)
                clear kk ee
                generalize Wa.heap.size = x1 at EWb ⊢
                refine wpAnyH_ready (rs := [3, 5]) (by kernel_rfl) (by simp) ?_
                refine AllReadyH.cons rfl (fun KK hK => ?_) (AllReadyH.cons rfl (fun KK hK => ?_) AllReadyH.nil)
                · refine step_append_ints rfl _ _ rfl wr.heap.size x1 S A (.slice ap A.length ac) rfl EWb.out rfl (N1.out.keep (B := wr.heap.size) (fun b hb => (HS1.out b hb).1) KWb.out) HCAP.out (by omega) KWb.out.size ?_
                  intro v3 Wc h1 h2
                  have KWc := hid (show Keep wr Wc from Below.grown KWb.out h2 KWb.out.size (fun g hg => (owns_in EWb.out hg).1))
                  have IWc := hid (show IntsOwn wr.heap.size v3 A Wc from h1)
                  obtain ⟨v3p, v3c, hv3⟩ := IWc.out.ints.len
                  subst hv3
                  have hHWc := ((KWc.out.cell (p := ⟨d2.b + 5, 0, none⟩) hrel5).trans hre)
                  refine hK.out _ _ hHWc (fun hHx => ?_)
                  clear hK KK hHx h1 h2
                  simp only [Act.put, List.setIfInBounds_toArray, List.set_cons_zero, List.set_cons_succ, List.getElem_toArray, List.getElem_cons_zero, List.getElem_cons_succ]
                  refine wpAnyH_ready (rs := [5]) (by kernel_rfl) (by simp) ?_
                  refine AllReadyH.cons rfl (fun KK hK => ?_) AllReadyH.nil
                  go_simp
                  refine hK.out _ _ (((KWc.out.alloc' _).cell (p := ⟨d2.b + 5, 0, none⟩) hrel5).trans hre) (fun hHx => ?_)
                  clear hK KK hHx
                  refine at_anyS (fun W' => Keep Wc W' ∧ VarAt Wc.heap.size 3 (.int .i64 z) W') ⟨Keep.alloc _ _, VarAt.new _ _ _⟩ ?_
                  rintro Wd ⟨kk, ee⟩
                  have KWd := hid (show Keep wr Wd from KWc.out.trans kk)
                  have VWd := hid ee
                  have IWd := hid (owns_keep IWc.out kk)
                  have hHWd := ((KWd.out.cell (p := ⟨d2.b + 5, 0, none⟩) hrel5).trans hre)
                  clear kk ee
                  generalize Wc.heap.size = x5 at VWd ⊢
                  refine wpAnyH_ready (rs := [6]) (by kernel_rfl) (by simp) ?_
                  refine AllReadyH.cons rfl (fun KK hK => ?_) AllReadyH.nil
                  refine step_append_own rfl _ _ 26 rfl wr.heap.size 3 i1 (.int .i64 0) 1 8 Try.underlying26 hi1 hz01 hz11 hz21 rfl (by decide) (.slice v3p A.length v3c) A.length (A.map (Value.int .i64)) rfl IWd.out ⟨x5, 0, none⟩ 1 1 [.int .i64 z] rfl rfl (one_atS VWd.out) one_cellI (by unfold maxLen; omega) (by omega) KWd.out.size ?_
                  intro v6 Wf h1 h2 h4
                  obtain ⟨g6, cap6, hv6⟩ := owns_shape h1 (Nat.succ_pos _)
                  subst hv6
                  have KWf := hid (show Keep wr Wf from Below.grown KWd.out h2 KWd.out.size (fun g hg => (owns_in IWd.out hg).1))
                  have IWf := hid (show IntsOwn wr.heap.size (.slice (some ⟨g6, 0, none⟩) (A.length + 1) cap6) (A ++ [z]) Wf by unfold IntsOwn; rw [List.length_append, List.map_append]; exact h1)
                  have hHWf := ((KWf.out.cell (p := ⟨d2.b + 5, 0, none⟩) hrel5).trans hre)
                  refine hK.out _ _ hHWf (fun hHx => ?_)
                  clear hK KK hHx h1 h2 h4
                  simp only [Act.put, List.setIfInBounds_toArray, List.set_cons_zero, List.set_cons_succ, List.getElem_toArray, List.getElem_cons_zero, List.getElem_cons_succ]
                  refine wpAnyH_ready (rs := [7]) (by kernel_rfl) (by simp) ?_
                  refine AllReadyH.cons rfl (fun KK hK => ?_) AllReadyH.nil
                  have HIH := hid (show Calls Try.prog 54 #[.slice (some ⟨g6, 0, none⟩) (A.length + 1) cap6, .pointer (some ⟨d2.b + 1, 0, none⟩), .pointer (some ⟨d2.b + 4, 0, none⟩), .pointer (some ⟨d2.b, 0, none⟩), .pointer (some ⟨d2.b + 3, 0, none⟩), .pointer (some ⟨d2.b + 5, 0, none⟩)] Wf fun e w' => RDone d1 n F p cap (srch n F g (A ++ [z]) d1.s d1.P) Wf e w' from by
                    have hsp : (A ++ [z]).length = A.length + 1 := by simp
                    have h9 := IH.out d1 (fun b => S b ∨ (Value.slice (some ⟨g6, 0, none⟩) (A.length + 1) cap6).ownBlock = some b) (A ++ [z]) (.slice (some ⟨g6, 0, none⟩) (A.length + 1) cap6) p cap Wf (X1.out.keep KWf.out) ((C1.out.keep (B := wr.heap.size) (fun b hb => (HS1.out b hb).1) KWf.out).mono (fun _ _ => rfl) fun _ h => .inl h) (IWf.out.numsO.mono (fun _ _ => rfl) fun _ h => .inr h) (fun b hb => by
                      rcases hb with hb | hb
                      · exact ⟨Nat.lt_of_lt_of_le (HS1.out b hb).1 KWf.out.size, (HS1.out b hb).2⟩
                      · have h1 := owns_in IWf.out hb
                        exact ⟨h1.2, fun e => by have := X1.out.lt e; omega⟩) (by rw [hsp]; omega) HLZ.out HP1.out (fun k c e => by cases e)
                    rw [HDB.out] at h9
                    exact h9)
                  go_simp
                  with_reducible refine HIH.out.mono ?_
                  rintro e W9 ⟨d9, hb9, ht9, hr9⟩
                  have KT := hid (show Turn d1.own d9.own wr W9 from (Turn.keep KWf.out).trans ht9)
                  have hre9 : W9.cell? ⟨d2.b + 5, 0, none⟩ = some (.func (.func 54) #[] #[.pointer (some ⟨d2.b + 1, 0, none⟩), .pointer (some ⟨d2.b + 4, 0, none⟩), .pointer (some ⟨d2.b, 0, none⟩), .pointer (some ⟨d2.b + 3, 0, none⟩), .pointer (some ⟨d2.b + 5, 0, none⟩)]) := (KT.out.cell ⟨d2.b + 5, 0, none⟩ hrel5 (fun e => by
                    rcases e with e | e | e | e
                    · have e2 : d2.b + 5 = d1.b + 1 := e; have := HDB.out; omega
                    · have e2 : d2.b + 5 = d1.b + 3 := e; have := HDB.out; omega
                    · have e2 : d2.b + 5 = d1.b + 4 := e; have := HDB.out; omega
                    · have h1 := (X1.out.pr.in (show d1.pv.ownBlock = some (d2.b + 5) from e)).1; have := HDB.out; omega)).trans hre
                  clear ht9 HIH
                  rcases hr9 with ⟨h1, rfl, h2⟩ | ⟨m, mad, mmc, mpv, h1, rfl, h2, h3, h4, h5⟩ | ⟨h1, rfl, h2, h3, h4⟩
                  · refine hK.out _ _ hre9 (fun hHx => ?_)
                    clear hK KK hHx
                    refine wpAnyH_done (by kernel_rfl) ?_ _
                    have HOUT := hid (And.intro h1 h2)
                    clear h1 h2 hre9 hre hrel5
                    go_wp2_with fail
                    go_ret
                    exact ⟨d9, hb9.trans HBB.out, T1.out.trans KT.out, .inl ⟨by rw [SAB.out.1 (by rw [both_second HS1E.out, ← HZE.out, HOUT.out.1]; simp), both_second HS1E.out, ← HZE.out]; exact HOUT.out.1, rfl, HBB.out ▸ HOUT.out.2⟩⟩
                  · refine hK.out _ _ hre9 (fun hHx => ?_)
                    clear hK KK hHx
                    refine wpAnyH_done (by kernel_rfl) ?_ _
                    have HOUT := hid (And.intro h1 (And.intro h2 (And.intro h3 (And.intro h4 h5))))
                    clear h1 h2 h3 h4 h5 hre9 hre hrel5
                    go_wp2_with fail
                    go_ret
                    exact ⟨d9, hb9.trans HBB.out, T1.out.trans KT.out, .inr (.inl ⟨m, mad, mmc, mpv, by rw [SAB.out.1 (by rw [both_second HS1E.out, ← HZE.out, HOUT.out.1]; simp), both_second HS1E.out, ← HZE.out]; exact HOUT.out.1, rfl, HBB.out ▸ HOUT.out.2.1, HBB.out ▸ HOUT.out.2.2.1, HOUT.out.2.2.2.1, HBB.out ▸ HOUT.out.2.2.2.2⟩)⟩
                  · refine hK.out _ _ hre9 (fun hHx => ?_)
                    clear hK KK hHx
                    refine wpAnyH_done (by kernel_rfl) ?_ _
                    have X9 := hid h2
                    have HCLO := hid (show srch n F g (A ++ [z]) d1.s d1.P = ⟨.closed, d9.s, d9.P⟩ by rw [h3, h4, ← h1])
                    clear h1 h2 h3 h4 hre9 hre hrel5
                    go_wp2_with fail
                    go_roundg 0
                    case rel => exact ⟨2, d9, by omega, rfl, by go_num, X9.out, T1.out.trans KT.out, hb9.trans HDB.out, BQ1.out.turn KT.out HNO.out, HNB9.out d9 W9 KT.out, .inr (.inr ⟨rfl, by rw [both_second HS1E.out, ← HZE.out]; exact HCLO.out⟩)⟩
                    case measure => omega
                · go_simp
                  refine hK.out _ _ (((KWb.out.alloc' _).cell (p := ⟨d2.b + 5, 0, none⟩) hrel5).trans hre) (fun hHx => ?_)
                  clear hK KK hHx
                  refine at_anyS (fun W' => Keep Wb W' ∧ VarAt Wb.heap.size 3 (.int .i64 z) W') ⟨Keep.alloc _ _, VarAt.new _ _ _⟩ ?_
                  rintro Wc ⟨kk, ee⟩
                  have KWc := hid (show Keep wr Wc from KWb.out.trans kk)
                  have VWc := hid ee
                  have EWc := hid (owns_keep EWb.out kk)
                  have hne : Wb.heap.size ≠ x1 := fun e => by have := (owns_in EWb.out (g := x1) rfl).2; omega
                  have hHWc := ((KWc.out.cell (p := ⟨d2.b + 5, 0, none⟩) hrel5).trans hre)
                  clear kk ee
                  generalize Wb.heap.size = x5 at VWc hne ⊢
                  refine wpAnyH_ready (rs := [3]) (by kernel_rfl) (by simp) ?_
                  refine AllReadyH.cons rfl (fun KK hK => ?_) AllReadyH.nil
                  refine step_append_ints rfl _ _ rfl wr.heap.size x1 S A (.slice ap A.length ac) rfl EWc.out rfl (N1.out.keep (B := wr.heap.size) (fun b hb => (HS1.out b hb).1) KWc.out) HCAP.out (by omega) KWc.out.size ?_
                  intro v3 Wd h1 h2
                  have KWd := hid (show Keep wr Wd from Below.grown KWc.out h2 KWc.out.size (fun g hg => (owns_in EWc.out hg).1))
                  have IWd := hid (show IntsOwn wr.heap.size v3 A Wd from h1)
                  have VWd := hid (VWc.out.grew (g := x1) h2 hne)
                  obtain ⟨v3p, v3c, hv3⟩ := IWd.out.ints.len
                  subst hv3
                  have hHWd := ((KWd.out.cell (p := ⟨d2.b + 5, 0, none⟩) hrel5).trans hre)
                  refine hK.out _ _ hHWd (fun hHx => ?_)
                  clear hK KK hHx h1 h2
                  simp only [Act.put, List.setIfInBounds_toArray, List.set_cons_zero, List.set_cons_succ, List.getElem_toArray, List.getElem_cons_zero, List.getElem_cons_succ]
                  refine wpAnyH_ready (rs := [6]) (by kernel_rfl) (by simp) ?_
                  refine AllReadyH.cons rfl (fun KK hK => ?_) AllReadyH.nil
                  refine step_append_own rfl _ _ 26 rfl wr.heap.size 3 i1 (.int .i64 0) 1 8 Try.underlying26 hi1 hz01 hz11 hz21 rfl (by decide) (.slice v3p A.length v3c) A.length (A.map (Value.int .i64)) rfl IWd.out ⟨x5, 0, none⟩ 1 1 [.int .i64 z] rfl rfl (one_atS VWd.out) one_cellI (by unfold maxLen; omega) (by omega) KWd.out.size ?_
                  intro v6 Wf h1 h2 h4
                  obtain ⟨g6, cap6, hv6⟩ := owns_shape h1 (Nat.succ_pos _)
                  subst hv6
                  have KWf := hid (show Keep wr Wf from Below.grown KWd.out h2 KWd.out.size (fun g hg => (owns_in IWd.out hg).1))
                  have IWf := hid (show IntsOwn wr.heap.size (.slice (some ⟨g6, 0, none⟩) (A.length + 1) cap6) (A ++ [z]) Wf by unfold IntsOwn; rw [List.length_append, List.map_append]; exact h1)
                  have hHWf := ((KWf.out.cell (p := ⟨d2.b + 5, 0, none⟩) hrel5).trans hre)
                  refine hK.out _ _ hHWf (fun hHx => ?_)
                  clear hK KK hHx h1 h2 h4
                  simp only [Act.put, List.setIfInBounds_toArray, List.set_cons_zero, List.set_cons_succ, List.getElem_toArray, List.getElem_cons_zero, List.getElem_cons_succ]
                  refine wpAnyH_ready (rs := [7]) (by kernel_rfl) (by simp) ?_
                  refine AllReadyH.cons rfl (fun KK hK => ?_) AllReadyH.nil
                  have HIH := hid (show Calls Try.prog 54 #[.slice (some ⟨g6, 0, none⟩) (A.length + 1) cap6, .pointer (some ⟨d2.b + 1, 0, none⟩), .pointer (some ⟨d2.b + 4, 0, none⟩), .pointer (some ⟨d2.b, 0, none⟩), .pointer (some ⟨d2.b + 3, 0, none⟩), .pointer (some ⟨d2.b + 5, 0, none⟩)] Wf fun e w' => RDone d1 n F p cap (srch n F g (A ++ [z]) d1.s d1.P) Wf e w' from by
                    have hsp : (A ++ [z]).length = A.length + 1 := by simp
                    have h9 := IH.out d1 (fun b => S b ∨ (Value.slice (some ⟨g6, 0, none⟩) (A.length + 1) cap6).ownBlock = some b) (A ++ [z]) (.slice (some ⟨g6, 0, none⟩) (A.length + 1) cap6) p cap Wf (X1.out.keep KWf.out) ((C1.out.keep (B := wr.heap.size) (fun b hb => (HS1.out b hb).1) KWf.out).mono (fun _ _ => rfl) fun _ h => .inl h) (IWf.out.numsO.mono (fun _ _ => rfl) fun _ h => .inr h) (fun b hb => by
                      rcases hb with hb | hb
                      · exact ⟨Nat.lt_of_lt_of_le (HS1.out b hb).1 KWf.out.size, (HS1.out b hb).2⟩
                      · have h1 := owns_in IWf.out hb
                        exact ⟨h1.2, fun e => by have := X1.out.lt e; omega⟩) (by rw [hsp]; omega) HLZ.out HP1.out (fun k c e => by cases e)
                    rw [HDB.out] at h9
                    exact h9)
                  go_simp
                  with_reducible refine HIH.out.mono ?_
                  rintro e W9 ⟨d9, hb9, ht9, hr9⟩
                  have KT := hid (show Turn d1.own d9.own wr W9 from (Turn.keep KWf.out).trans ht9)
                  have hre9 : W9.cell? ⟨d2.b + 5, 0, none⟩ = some (.func (.func 54) #[] #[.pointer (some ⟨d2.b + 1, 0, none⟩), .pointer (some ⟨d2.b + 4, 0, none⟩), .pointer (some ⟨d2.b, 0, none⟩), .pointer (some ⟨d2.b + 3, 0, none⟩), .pointer (some ⟨d2.b + 5, 0, none⟩)]) := (KT.out.cell ⟨d2.b + 5, 0, none⟩ hrel5 (fun e => by
                    rcases e with e | e | e | e
                    · have e2 : d2.b + 5 = d1.b + 1 := e; have := HDB.out; omega
                    · have e2 : d2.b + 5 = d1.b + 3 := e; have := HDB.out; omega
                    · have e2 : d2.b + 5 = d1.b + 4 := e; have := HDB.out; omega
                    · have h1 := (X1.out.pr.in (show d1.pv.ownBlock = some (d2.b + 5) from e)).1; have := HDB.out; omega)).trans hre
                  clear ht9 HIH
                  rcases hr9 with ⟨h1, rfl, h2⟩ | ⟨m, mad, mmc, mpv, h1, rfl, h2, h3, h4, h5⟩ | ⟨h1, rfl, h2, h3, h4⟩
                  · refine hK.out _ _ hre9 (fun hHx => ?_)
                    clear hK KK hHx
                    refine wpAnyH_done (by kernel_rfl) ?_ _
                    have HOUT := hid (And.intro h1 h2)
                    clear h1 h2 hre9 hre hrel5
                    go_wp2_with fail
                    go_ret
                    exact ⟨d9, hb9.trans HBB.out, T1.out.trans KT.out, .inl ⟨by rw [SAB.out.1 (by rw [both_second HS1E.out, ← HZE.out, HOUT.out.1]; simp), both_second HS1E.out, ← HZE.out]; exact HOUT.out.1, rfl, HBB.out ▸ HOUT.out.2⟩⟩
                  · refine hK.out _ _ hre9 (fun hHx => ?_)
                    clear hK KK hHx
                    refine wpAnyH_done (by kernel_rfl) ?_ _
                    have HOUT := hid (And.intro h1 (And.intro h2 (And.intro h3 (And.intro h4 h5))))
                    clear h1 h2 h3 h4 h5 hre9 hre hrel5
                    go_wp2_with fail
                    go_ret
                    exact ⟨d9, hb9.trans HBB.out, T1.out.trans KT.out, .inr (.inl ⟨m, mad, mmc, mpv, by rw [SAB.out.1 (by rw [both_second HS1E.out, ← HZE.out, HOUT.out.1]; simp), both_second HS1E.out, ← HZE.out]; exact HOUT.out.1, rfl, HBB.out ▸ HOUT.out.2.1, HBB.out ▸ HOUT.out.2.2.1, HOUT.out.2.2.2.1, HBB.out ▸ HOUT.out.2.2.2.2⟩)⟩
                  · refine hK.out _ _ hre9 (fun hHx => ?_)
                    clear hK KK hHx
                    refine wpAnyH_done (by kernel_rfl) ?_ _
                    have X9 := hid h2
                    have HCLO := hid (show srch n F g (A ++ [z]) d1.s d1.P = ⟨.closed, d9.s, d9.P⟩ by rw [h3, h4, ← h1])
                    clear h1 h2 h3 h4 hre9 hre hrel5
                    go_wp2_with fail
                    go_roundg 0
                    case rel => exact ⟨2, d9, by omega, rfl, by go_num, X9.out, T1.out.trans KT.out, hb9.trans HDB.out, BQ1.out.turn KT.out HNO.out, HNB9.out d9 W9 KT.out, .inr (.inr ⟨rfl, by rw [both_second HS1E.out, ← HZE.out]; exact HCLO.out⟩)⟩
                    case measure => omega
              · go_simp
                refine hK.out _ _ (((KWa.out.alloc' _).cell (p := ⟨d2.b + 5, 0, none⟩) hrel5).trans hre) (fun hHx => ?_)
                clear hK KK hHx
                refine at_anyS (fun W' => Keep Wa W' ∧ VarAt Wa.heap.size 3 (.int .i64 z) W') ⟨Keep.alloc _ _, VarAt.new _ _ _⟩ ?_
                rintro Wb ⟨kk, ee⟩
                have KWb := hid (show Keep wr Wb from KWa.out.trans kk)
                have VWb := hid ee
                have hHWb := ((KWb.out.cell (p := ⟨d2.b + 5, 0, none⟩) hrel5).trans hre)
                clear kk ee
                generalize Wa.heap.size = x5 at VWb ⊢
                refine wpAnyH_ready (rs := [1]) (by kernel_rfl) (by simp) ?_
                refine AllReadyH.cons rfl (fun KK hK => ?_) AllReadyH.nil
                go_simp
                refine hK.out _ _ (((KWb.out.alloc' _).cell (p := ⟨d2.b + 5, 0, none⟩) hrel5).trans hre) (fun hHx => ?_)
                clear hK KK hHx
                refine at_anyS (fun W' => Keep Wb W' ∧ W'.ownsRow wr.heap.size 3 1 (.slice (some ⟨Wb.heap.size, 0, none⟩) 0 0) 0 []) ⟨Keep.alloc _ _, World.ownsRow_made Wb #[] 0 KWb.out.size (Nat.zero_le _) rfl⟩ ?_
                rintro Wc ⟨kk, ee⟩
                have KWc := hid (show Keep wr Wc from KWb.out.trans kk)
                have EWc := hid ee
                have VWc := hid (VWb.out.keep kk VWb.out.facts.2.2)
                have hne : x5 ≠ Wb.heap.size := fun e => by have := VWb.out.facts.2.2; omega
                have hHWc := ((KWc.out.cell (p := ⟨d2.b + 5, 0, none⟩) hrel5).trans hre)
                clear kk ee
                generalize Wb.heap.size = x1 at EWc hne ⊢
                refine wpAnyH_ready (rs := [3]) (by kernel_rfl) (by simp) ?_
                refine AllReadyH.cons rfl (fun KK hK => ?_) AllReadyH.nil
                refine step_append_ints rfl _ _ rfl wr.heap.size x1 S A (.slice ap A.length ac) rfl EWc.out rfl (N1.out.keep (B := wr.heap.size) (fun b hb => (HS1.out b hb).1) KWc.out) HCAP.out (by omega) KWc.out.size ?_
                intro v3 Wd h1 h2
                have KWd := hid (show Keep wr Wd from Below.grown KWc.out h2 KWc.out.size (fun g hg => (owns_in EWc.out hg).1))
                have IWd := hid (show IntsOwn wr.heap.size v3 A Wd from h1)
                have VWd := hid (VWc.out.grew (g := x1) h2 hne)
                obtain ⟨v3p, v3c, hv3⟩ := IWd.out.ints.len
                subst hv3
                have hHWd := ((KWd.out.cell (p := ⟨d2.b + 5, 0, none⟩) hrel5).trans hre)
                refine hK.out _ _ hHWd (fun hHx => ?_)
                clear hK KK hHx h1 h2
                simp only [Act.put, List.setIfInBounds_toArray, List.set_cons_zero, List.set_cons_succ, List.getElem_toArray, List.getElem_cons_zero, List.getElem_cons_succ]
                refine wpAnyH_ready (rs := [6]) (by kernel_rfl) (by simp) ?_
                refine AllReadyH.cons rfl (fun KK hK => ?_) AllReadyH.nil
                refine step_append_own rfl _ _ 26 rfl wr.heap.size 3 i1 (.int .i64 0) 1 8 Try.underlying26 hi1 hz01 hz11 hz21 rfl (by decide) (.slice v3p A.length v3c) A.length (A.map (Value.int .i64)) rfl IWd.out ⟨x5, 0, none⟩ 1 1 [.int .i64 z] rfl rfl (one_atS VWd.out) one_cellI (by unfold maxLen; omega) (by omega) KWd.out.size ?_
                intro v6 Wf h1 h2 h4
                obtain ⟨g6, cap6, hv6⟩ := owns_shape h1 (Nat.succ_pos _)
                subst hv6
                have KWf := hid (show Keep wr Wf from Below.grown KWd.out h2 KWd.out.size (fun g hg => (owns_in IWd.out hg).1))
                have IWf := hid (show IntsOwn wr.heap.size (.slice (some ⟨g6, 0, none⟩) (A.length + 1) cap6) (A ++ [z]) Wf by unfold IntsOwn; rw [List.length_append, List.map_append]; exact h1)
                have hHWf := ((KWf.out.cell (p := ⟨d2.b + 5, 0, none⟩) hrel5).trans hre)
                refine hK.out _ _ hHWf (fun hHx => ?_)
                clear hK KK hHx h1 h2 h4
                simp only [Act.put, List.setIfInBounds_toArray, List.set_cons_zero, List.set_cons_succ, List.getElem_toArray, List.getElem_cons_zero, List.getElem_cons_succ]
                refine wpAnyH_ready (rs := [7]) (by kernel_rfl) (by simp) ?_
                refine AllReadyH.cons rfl (fun KK hK => ?_) AllReadyH.nil
                have HIH := hid (show Calls Try.prog 54 #[.slice (some ⟨g6, 0, none⟩) (A.length + 1) cap6, .pointer (some ⟨d2.b + 1, 0, none⟩), .pointer (some ⟨d2.b + 4, 0, none⟩), .pointer (some ⟨d2.b, 0, none⟩), .pointer (some ⟨d2.b + 3, 0, none⟩), .pointer (some ⟨d2.b + 5, 0, none⟩)] Wf fun e w' => RDone d1 n F p cap (srch n F g (A ++ [z]) d1.s d1.P) Wf e w' from by
                  have hsp : (A ++ [z]).length = A.length + 1 := by simp
                  have h9 := IH.out d1 (fun b => S b ∨ (Value.slice (some ⟨g6, 0, none⟩) (A.length + 1) cap6).ownBlock = some b) (A ++ [z]) (.slice (some ⟨g6, 0, none⟩) (A.length + 1) cap6) p cap Wf (X1.out.keep KWf.out) ((C1.out.keep (B := wr.heap.size) (fun b hb => (HS1.out b hb).1) KWf.out).mono (fun _ _ => rfl) fun _ h => .inl h) (IWf.out.numsO.mono (fun _ _ => rfl) fun _ h => .inr h) (fun b hb => by
                    rcases hb with hb | hb
                    · exact ⟨Nat.lt_of_lt_of_le (HS1.out b hb).1 KWf.out.size, (HS1.out b hb).2⟩
                    · have h1 := owns_in IWf.out hb
                      exact ⟨h1.2, fun e => by have := X1.out.lt e; omega⟩) (by rw [hsp]; omega) HLZ.out HP1.out (fun k c e => by cases e)
                  rw [HDB.out] at h9
                  exact h9)
                go_simp
                with_reducible refine HIH.out.mono ?_
                rintro e W9 ⟨d9, hb9, ht9, hr9⟩
                have KT := hid (show Turn d1.own d9.own wr W9 from (Turn.keep KWf.out).trans ht9)
                have hre9 : W9.cell? ⟨d2.b + 5, 0, none⟩ = some (.func (.func 54) #[] #[.pointer (some ⟨d2.b + 1, 0, none⟩), .pointer (some ⟨d2.b + 4, 0, none⟩), .pointer (some ⟨d2.b, 0, none⟩), .pointer (some ⟨d2.b + 3, 0, none⟩), .pointer (some ⟨d2.b + 5, 0, none⟩)]) := (KT.out.cell ⟨d2.b + 5, 0, none⟩ hrel5 (fun e => by
                  rcases e with e | e | e | e
                  · have e2 : d2.b + 5 = d1.b + 1 := e; have := HDB.out; omega
                  · have e2 : d2.b + 5 = d1.b + 3 := e; have := HDB.out; omega
                  · have e2 : d2.b + 5 = d1.b + 4 := e; have := HDB.out; omega
                  · have h1 := (X1.out.pr.in (show d1.pv.ownBlock = some (d2.b + 5) from e)).1; have := HDB.out; omega)).trans hre
                clear ht9 HIH
                rcases hr9 with ⟨h1, rfl, h2⟩ | ⟨m, mad, mmc, mpv, h1, rfl, h2, h3, h4, h5⟩ | ⟨h1, rfl, h2, h3, h4⟩
                · refine hK.out _ _ hre9 (fun hHx => ?_)
                  clear hK KK hHx
                  refine wpAnyH_done (by kernel_rfl) ?_ _
                  have HOUT := hid (And.intro h1 h2)
                  clear h1 h2 hre9 hre hrel5
                  go_wp2_with fail
                  go_ret
                  exact ⟨d9, hb9.trans HBB.out, T1.out.trans KT.out, .inl ⟨by rw [SAB.out.1 (by rw [both_second HS1E.out, ← HZE.out, HOUT.out.1]; simp), both_second HS1E.out, ← HZE.out]; exact HOUT.out.1, rfl, HBB.out ▸ HOUT.out.2⟩⟩
                · refine hK.out _ _ hre9 (fun hHx => ?_)
                  clear hK KK hHx
                  refine wpAnyH_done (by kernel_rfl) ?_ _
                  have HOUT := hid (And.intro h1 (And.intro h2 (And.intro h3 (And.intro h4 h5))))
                  clear h1 h2 h3 h4 h5 hre9 hre hrel5
                  go_wp2_with fail
                  go_ret
                  exact ⟨d9, hb9.trans HBB.out, T1.out.trans KT.out, .inr (.inl ⟨m, mad, mmc, mpv, by rw [SAB.out.1 (by rw [both_second HS1E.out, ← HZE.out, HOUT.out.1]; simp), both_second HS1E.out, ← HZE.out]; exact HOUT.out.1, rfl, HBB.out ▸ HOUT.out.2.1, HBB.out ▸ HOUT.out.2.2.1, HOUT.out.2.2.2.1, HBB.out ▸ HOUT.out.2.2.2.2⟩)⟩
                · refine hK.out _ _ hre9 (fun hHx => ?_)
                  clear hK KK hHx
                  refine wpAnyH_done (by kernel_rfl) ?_ _
                  have X9 := hid h2
                  have HCLO := hid (show srch n F g (A ++ [z]) d1.s d1.P = ⟨.closed, d9.s, d9.P⟩ by rw [h3, h4, ← h1])
                  clear h1 h2 h3 h4 hre9 hre hrel5
                  go_wp2_with fail
                  go_roundg 0
                  case rel => exact ⟨2, d9, by omega, rfl, by go_num, X9.out, T1.out.trans KT.out, hb9.trans HDB.out, BQ1.out.turn KT.out HNO.out, HNB9.out d9 W9 KT.out, .inr (.inr ⟨rfl, by rw [both_second HS1E.out, ← HZE.out]; exact HCLO.out⟩)⟩
                  case measure => omega
            · have HBC := hid hb
              have hgk : gk = 0 := by omega
              clear hb hi3
              have HR := hid (show (srch n F (g + 1) A d.s d.P).o = .closed ∧ (srch n F (g + 1) A d.s d.P).s = d1.s ∧ (srch n F (g + 1) A d.s d.P).P = d1.P ++ [negs A] by
                have h1 := SAB.out.2 (by rw [HBC.out])
                rw [HBC.out] at h1
                rw [h1]; exact ⟨rfl, rfl, rfl⟩)
              have hps9 : d1.P.length ≤ 40000 := by
                have h5 := HR.out
                cases e5 : srch n F (g + 1) A d.s d.P with
                | mk o5 s5 P5 =>
                  rw [e5] at h5
                  obtain ⟨h6, h7, h8⟩ := h5
                  have h6 : o5 = .closed := h6
                  subst h6
                  have h9 := (srch_closed (g + 1) _ _ _ _ _ (by omega) HLA.out e5).few
                  have h8 : P5 = d1.P ++ [negs A] := h8
                  rw [h8, List.length_append] at h9
                  omega
              have HB9 := hid (HBB.out)
              clear X2 T2 N2 C2 HS2 hps1 hps2 HB2 BQ XA TA HNQ KWQ HNU HNO BQ1 hf0 HPS hq hvl
              obtain ⟨W2o, hW2o⟩ : ∃ x : World, x = W2 := ⟨_, rfl⟩
              have X2 := X1
              have T2 := T1
              have N2 := N1
              have C2 := C1
              have HS2 := HS1
              have hps1 := hps9
              have HB2 := HB9
              clear X1 T1 N1 C1 HS1 hps9 HB9 hW2o
              obtain ⟨wc, hwc⟩ : ∃ x : World, x = wr := ⟨_, rfl⟩
              subst hwc
              rw [HDE.out]
              obtain ⟨i1, hi1, hz01, hz11, hz21⟩ := info_parts infoInt
              have hA60 : A.length ≤ 60 := by omega
              go_wp2_with fail
              go_loopg [15, 105] A.length (fun gk lv iv wq => ∃ j : Nat, j + gk = A.length ∧ iv = .int .i64 j ∧ IntsOwn wc.heap.size lv (negs (A.take j)) wq ∧ Keep wc wq)
              case atStart => exact ⟨0, by omega, rfl, World.ownsRow_made wc #[] 0 (Nat.le_refl _) (Nat.zero_le _) rfl, Keep.alloc _ _⟩
              case round =>
                obtain ⟨j, hj1, rfl, how, hk⟩ := hrel
                have HK := hid hk
                have HOW := hid how
                obtain ⟨lp, lc, hlv⟩ := how.ints.len
                subst hlv
                clear hk how
                by_cases hlt : j < A.length
                · obtain ⟨cb, co, hcp, hcb, hcc⟩ := (N2.out.keep (fun b hb => (HS2.out b hb).1) HK.out).nth hlt
                  subst hcp
                  have hc1 := hcc j _ (List.getElem?_eq_getElem hlt)
                  have hx := HLA.out A[j] (List.getElem_mem hlt)
                  have HTK := hid (show negs (A.take (j + 1)) = negs (A.take j) ++ [-A[j]] by unfold negs; rw [List.take_succ_eq_append_getElem hlt, List.map_append]; rfl)
                  have hbl := Nat.lt_of_lt_of_le (HS2.out cb hcb).1 HK.out.size
                  generalize A[j] = z at hc1 hx HTK
                  have hz1' : -1000 ≤ z := by have := hx.2; omega
                  have hz2' : z ≤ 1000 := by have := hx.2; omega
                  have hjI : (j : Int) < (A.length : Int) := by omega
                  have hnl : (negs (A.take j)).length ≤ 60 := by simp [negs]; omega
                  have hsz := HK.out.size
                  generalize negs (A.take j) = acc at HOW HTK hnl
                  clear hcc hx
                  go_wp2_with (at_builtin; refine wpList_append_own_at _ rfl _ _ 38 rfl wc.heap.size 3 i1 (.int .i64 0) 1 8 Try.underlying38 hi1 hz01 hz11 hz21 rfl (by decide) (.slice lp acc.length lc) acc.length (acc.map (Value.int .i64)) rfl (HOW.out.alloc _) ⟨wr.heap.size, 0, none⟩ 1 1 [.int .i64 (-z)] rfl rfl one_newsC one_cellI (by unfold maxLen; omega) (by omega) (by have := alloc_size wr (.cells #[.int .i64 (-z)] 3); omega) ?_; intro v5 w5 h1 h2 _ h4; have P5 := hid (ints_push HK.out.size HOW.out h1 h2); clear h1 h2 h4)
                  go_roundg (A.length - (j + 1))
                  case rel => exact ⟨j + 1, by omega, by go_num, by rw [HTK.out]; exact P5.out.1, Below.trans HK.out P5.out.2⟩
                  case measure => omega
                · obtain rfl : j = A.length := by omega
                  have HOW2 := hid (show IntsOwn wc.heap.size (.slice lp (negs A).length lc) (negs A) wr by
                    have h1 := HOW.out
                    rw [List.take_length] at h1
                    exact h1)
                  rw [List.take_length]
                  clear HOW hlt hj1
                  have X3 := hid (X2.out.keep HK.out)
                  have HNU := hid (show NumsIs (d1.far wr) wr (negs A) (.slice lp (negs A).length lc) from HOW2.out.numsO.mono (fun _ _ => rfl) fun b hb => by
                    have h1 := owns_in HOW2.out hb
                    have h2 := X2.out.nw
                    exact ⟨by omega, h1.2, fun e => by have := (X2.out.pr.in e).2; omega⟩)
                  obtain ⟨pp, pc, hpv⟩ := X3.out.pr.shape
                  have HPV := hid hpv
                  obtain ⟨vs, hvl, how3, hvn⟩ := X3.out.pr
                  have HVL := hid hvl
                  have HVN := hid hvn
                  have HOW3 := hid (show wr.ownsRow (d1.b + 6) 38 1 (.slice pp d1.P.length pc) d1.P.length vs from hpv ▸ how3)
                  obtain ⟨hca, hfa, hla⟩ := X3.out.an.facts
                  have ha1 : wr.cell? ⟨d1.b + 3, 1, none⟩ = some (.slice pp d1.P.length pc) := (hca 1).trans (congrArg some hpv)
                  have hnw := X3.out.nw
                  generalize hngl : (negs A).length = ng at HNU HOW2 ⊢
                  have HNGL := hid hngl
                  clear hvl how3 hvn hca hfa hpv hngl
                  go_upto_region 32 with (at_builtin; go_loud (refine wpList_append_own_at _ rfl _ _ 22 rfl (d1.b + 6) 38 i0 (.slice none 0 0) 1 24 Try.underlying22 hi hz0 hz1 hz2 rfl (by decide) (.slice pp d1.P.length pc) d1.P.length vs rfl (HOW3.out.alloc _) ⟨wr.heap.size, 0, none⟩ 1 1 [.slice lp ng lc] rfl rfl one_newsC one_cellC (by unfold maxLen; omega) (by omega) (by rw [alloc_size]; omega) ?_; intro v5 w5 h1 h2 _ h4; obtain ⟨g5, cap5, rfl⟩ := owns_shape h1 (Nat.succ_pos _); have P5 := hid (X3.out.push (c := negs A) HVL.out HVN.out HNU.out (HPV.out ▸ grown_alloc h2) (HPV.out ▸ own_far h4) h1); have hB5 := (show BoxAt (d1.b + 3) 53 #[.slice none 0 0, d1.pv] w5 from by (have h5 := X3.out.an; have h6 := h5.facts.2.2; unfold BoxAt at *; rw [(grown_alloc h2).block _ h6 (fun e => by (have h7 := (X3.out.pr.in (HPV.out ▸ e.symm)).1; omega))]; exact h5)); obtain ⟨hbc5, hbf5, hbl5⟩ := hB5.facts; have hc51 := hbc5 1; have hf51 := hbf5 1; simp only [List.getElem?_toArray, List.getElem?_cons_zero, List.getElem?_cons_succ] at hc51; clear h1 h2 h4 hbc5 hbf5 hB5))
                  have HQ := hid (show RM { d1 with pv := .slice (some ⟨g5, 0, none⟩) (d1.P.length + 1) cap5, P := d1.P ++ [negs A] } n F p cap (w5.setCell ⟨d1.b + 3, 1, none⟩ (.slice (some ⟨g5, 0, none⟩) (d1.P.length + 1) cap5)) ∧ Turn d.own ({ d1 with pv := .slice (some ⟨g5, 0, none⟩) (d1.P.length + 1) cap5, P := d1.P ++ [negs A] } : RD).own w (w5.setCell ⟨d1.b + 3, 1, none⟩ (.slice (some ⟨g5, 0, none⟩) (d1.P.length + 1) cap5)) from ⟨P5.out.1, T2.out.trans ((Turn.keep HK.out).trans P5.out.2)⟩)
                  refine at_wp (fun W' => RM { d1 with pv := .slice (some ⟨g5, 0, none⟩) (d1.P.length + 1) cap5, P := d1.P ++ [negs A] } n F p cap W' ∧ Turn d.own ({ d1 with pv := .slice (some ⟨g5, 0, none⟩) (d1.P.length + 1) cap5, P := d1.P ++ [negs A] } : RD).own w W') ?_ ?_
                  · exact HQ.out
                  rintro W6 ⟨hx6, ht6⟩
                  have HQ6 := hid (And.intro hx6 ht6)
                  clear hx6 ht6 HQ P5 hc51 hf51 hbl5 ha1
                  go_wp2_with fail
                  go_ret
                  exact ⟨{ d1 with pv := .slice (some ⟨g5, 0, none⟩) (d1.P.length + 1) cap5, P := d1.P ++ [negs A] }, HB2.out, HQ6.out.2, .inr (.inr ⟨HR.out.1, rfl, HQ6.out.1, HR.out.2.1.symm, HR.out.2.2.symm⟩)⟩
      · have hjk : j = k - 1 := by omega
        subst hjk
        have hkk : (((k - 1 : Nat) : Int) + 1) = (k : Int) := by omega
        have hjI : ¬ (((k - 1 : Nat) : Int) + 1) ≤ (l.length : Int) := by omega
        rw [hkk]
        rw [hkk] at hjI
        clear hkk
        obtain ⟨i1, hi1, hz01, hz11, hz21⟩ := info_parts infoInt
        have hent := enter_from
        have BQ := hid (BoxAt.new W2 3 #[.int .i64 (-(k : Int)), .int .i64 (k : Int)])
        have XA := hid (X2.out.keep (Keep.alloc W2 (.cells #[.int .i64 (-(k : Int)), .int .i64 (k : Int)] 3)))
        have TA := hid (T2.out.trans (Turn.keep (O := d2.own) (Keep.alloc W2 (.cells #[.int .i64 (-(k : Int)), .int .i64 (k : Int)] 3))))
        have HNQ := hid (show ¬ d2.own W2.heap.size from fun e => by have := X2.out.lt e; omega)
        have KWQ := hid (Keep.alloc W2 (.cells #[.int .i64 (-(k : Int)), .int .i64 (k : Int)] 3))
        go_wp2_with fail
        generalize W2.alloc (.cells #[.int .i64 (-(k : Int)), .int .i64 (k : Int)] 3) = W3 at BQ XA TA KWQ ⊢
        generalize W2.heap.size = bq at BQ HNQ ⊢
        go_loopg [7, 89] 2 (fun gk rv iv wq => ∃ (i : Nat) (d1 : RD), i + gk = 2 ∧ rv = .bool false ∧ iv = .int .i64 (i : Int) ∧ RM d1 n F p cap wq ∧ Turn d.own d1.own w wq ∧ d1.b = d2.b ∧ BoxAt bq 3 #[.int .i64 (-(k : Int)), .int .i64 (k : Int)] wq ∧ ¬ d1.own bq ∧ ((i = 0 ∧ d1 = d2) ∨ (i = 1 ∧ srch n F g (A ++ [-(k : Int)]) d2.s d2.P = ⟨.closed, d1.s, d1.P⟩) ∨ (i = 2 ∧ both n F g A k d2.s d2.P = ⟨.closed, d1.s, d1.P⟩)))
        case atStart => exact ⟨0, d2, rfl, rfl, rfl, XA.out, TA.out, rfl, BQ.out, HNQ.out, .inl ⟨rfl, rfl⟩⟩
        case round =>
          obtain ⟨i, d1, hi3, rfl, rfl, hx1, ht1, hdb, hbq, hno, hcase⟩ := hrel
          have X1 := hid hx1
          have T1 := hid ht1
          have HDB := hid hdb
          have HBB := hid (hdb.trans HB2.out)
          have BQ1 := hid hbq
          have HNO := hid hno
          have HDE := hid hdb.symm
          clear hx1 ht1 hdb hbq hno
          have N1 := hid (HA.out.turn T1.out HS0.out)
          have C1 := hid (HFC.out.turn T1.out HS0.out)
          have HS1 := hid (show ∀ b, S b → b < wr.heap.size ∧ ¬ d1.own b from fun b hb => ⟨Nat.lt_of_lt_of_le (HS0.out b hb).1 T1.out.size, fun e => (T1.out.new b e).elim (HS0.out b hb).2 fun e => by have := (HS0.out b hb).1; omega⟩)
          rcases hcase with ⟨rfl, hd⟩ | ⟨rfl, hs1⟩ | ⟨rfl, hb⟩
          · have HD1 := hid hd
            clear hd
            have hgk : gk = 2 := by omega
            clear hi3
            have hcq : wr.cell? ⟨bq, 0, none⟩ = some (.int .i64 (-(k : Int))) := BQ1.out.facts.1 0
            have hbql := BQ1.out.facts.2.2
            have HLZ0 := hid (show LitsC n (A ++ [-(k : Int)]) from fun x hx => by
              rcases List.mem_append.1 hx with hx | hx
              · exact HLA.out x hx
              · rw [List.mem_singleton.1 hx]; exact HLIT.out.neg)
            have HP1 := hid (show d1.P.length + d1.s ≤ 40000 by rw [HD1.out]; exact hps2)
            obtain ⟨z, hze⟩ : ∃ z : Int, z = -(k : Int) := ⟨_, rfl⟩
            have HZE := hid hze
            have HLZ := hid (show LitsC n (A ++ [z]) by rw [hze]; exact HLZ0.out)
            rw [← hze] at hcq
            have hz1000 : -1000 ≤ z ∧ z ≤ 1000 := by omega
            obtain ⟨hzl, hzg⟩ := hz1000
            clear hze HLZ0
            have hre : wr.cell? ⟨d2.b + 5, 0, none⟩ = some (.func (.func 54) #[] #[.pointer (some ⟨d2.b + 1, 0, none⟩), .pointer (some ⟨d2.b + 4, 0, none⟩), .pointer (some ⟨d2.b, 0, none⟩), .pointer (some ⟨d2.b + 3, 0, none⟩), .pointer (some ⟨d2.b + 5, 0, none⟩)]) := by
              have h := X1.out.re.facts.1
              rw [HDB.out] at h
              exact h
            have hrel5 : d2.b + 5 < wr.heap.size := by
              have h := X1.out.re.facts.2.2
              rw [HDB.out] at h
              exact h
            have HNB9 := hid (show ∀ (d9 : RD) (W9 : World), Turn d1.own d9.own wr W9 → ¬ d9.own bq from fun d9 W9 t e => (t.new bq e).elim HNO.out fun h => by have := BQ1.out.facts.2.2; omega)
            have HBO1 := hid (fun h => (SAB.out.1 (by rw [both_first h]; exact h)).trans (both_first (n := n) (F := F) (g := g) (A := A) (k := k) (s := d2.s) (P := d2.P) h))
            go_upto_region 22 with fail
            refine wp_region_held_drew (S := fun W' => W'.cell? ⟨d2.b + 5, 0, none⟩ = some (.func (.func 54) #[] #[.pointer (some ⟨d2.b + 1, 0, none⟩), .pointer (some ⟨d2.b + 4, 0, none⟩), .pointer (some ⟨d2.b, 0, none⟩), .pointer (some ⟨d2.b + 3, 0, none⟩), .pointer (some ⟨d2.b + 5, 0, none⟩)])) (by kernel_rfl) hre (fun hHeld => ?_)
            refine wpAnyH_take (i := 0) (v := ?_) rfl (by kernel_rfl) (by kernel_rfl) (by kernel_rfl) (fun _ _ _ h => h) (Or.inl ⟨by rfl, ?_⟩) (by assumption) ?_
            rotate_left
            · intro w hSw
              (try dsimp only at hSw)
              go_simp
              try with_reducible rfl
            simp only [Act.put, List.setIfInBounds_toArray, List.set_cons_zero, List.set_cons_succ, List.getElem_toArray, List.getElem_cons_zero]
            refine wpAnyH_take (i := 2) (v := ?_) rfl (by kernel_rfl) (by kernel_rfl) (by kernel_rfl) (fun _ _ _ h => h) (Or.inl ⟨by rfl, ?_⟩) (by assumption) ?_
            rotate_left
            · intro w hSw
              (try dsimp only at hSw)
              go_simp
              try with_reducible rfl
            simp only [Act.put, List.setIfInBounds_toArray, List.set_cons_zero, List.set_cons_succ, List.getElem_toArray, List.getElem_cons_zero, List.getElem_cons_succ]
            refine wpAnyH_take (i := 4) (v := ?_) rfl (by kernel_rfl) (by kernel_rfl) (by kernel_rfl) (fun _ _ _ h => h) (Or.inl ⟨by rfl, ?_⟩) (by assumption) ?_
            rotate_left
            · intro w hSw
              (try dsimp only at hSw)
              go_simp
              try with_reducible rfl
            simp only [Act.put, List.setIfInBounds_toArray, List.set_cons_zero, List.set_cons_succ, List.getElem_toArray, List.getElem_cons_zero, List.getElem_cons_succ]
            refine at_anyS (fun W' => Keep wr W') (Keep.drew (Keep.refl _)) ?_
            rintro Wa kWa
            have KWa := hid kWa
            clear kWa
            have hHWa := ((KWa.out.cell (p := ⟨d2.b + 5, 0, none⟩) hrel5).trans hre)
            refine wpAnyH_ready (rs := [1, 5]) (by kernel_rfl) (by simp) ?_
            refine AllReadyH.cons rfl (fun KK hK => ?_) (AllReadyH.cons rfl (fun KK hK => ?_) AllReadyH.nil)
            · go_simp
              refine hK.out _ _ (((KWa.out.alloc' _).cell (p := ⟨d2.b + 5, 0, none⟩) hrel5).trans hre) (fun hHx => ?_)
              clear hK KK hHx
              refine at_anyS (fun W' => Keep Wa W' ∧ W'.ownsRow wr.heap.size 3 1 (.slice (some ⟨Wa.heap.size, 0, none⟩) 0 0) 0 []) ⟨Keep.alloc _ _, World.ownsRow_made Wa #[] 0 KWa.out.size (Nat.zero_le _) rfl⟩ ?_
              rintro Wb ⟨kk, ee⟩
              have KWb := hid (show Keep wr Wb from KWa.out.trans kk)
              have EWb := hid ee
              have hHWb := ((KWb.out.cell (p := ⟨d2.b + 5, 0, none⟩) hrel5).trans hre)
              clear kk ee
              generalize Wa.heap.size = x1 at EWb ⊢
              refine wpAnyH_ready (rs := [3, 5]) (by kernel_rfl) (by simp) ?_
              refine AllReadyH.cons rfl (fun KK hK => ?_) (AllReadyH.cons rfl (fun KK hK => ?_) AllReadyH.nil)
              · refine step_append_ints rfl _ _ rfl wr.heap.size x1 S A (.slice ap A.length ac) rfl EWb.out rfl (N1.out.keep (B := wr.heap.size) (fun b hb => (HS1.out b hb).1) KWb.out) HCAP.out (by omega) KWb.out.size ?_
                intro v3 Wc h1 h2
                have KWc := hid (show Keep wr Wc from Below.grown KWb.out h2 KWb.out.size (fun g hg => (owns_in EWb.out hg).1))
                have IWc := hid (show IntsOwn wr.heap.size v3 A Wc from h1)
                obtain ⟨v3p, v3c, hv3⟩ := IWc.out.ints.len
                subst hv3
                have hHWc := ((KWc.out.cell (p := ⟨d2.b + 5, 0, none⟩) hrel5).trans hre)
                refine hK.out _ _ hHWc (fun hHx => ?_)
                clear hK KK hHx h1 h2
                simp only [Act.put, List.setIfInBounds_toArray, List.set_cons_zero, List.set_cons_succ, List.getElem_toArray, List.getElem_cons_zero, List.getElem_cons_succ]
                refine wpAnyH_ready (rs := [5]) (by kernel_rfl) (by simp) ?_
                refine AllReadyH.cons rfl (fun KK hK => ?_) AllReadyH.nil
                go_simp
                refine hK.out _ _ (((KWc.out.alloc' _).cell (p := ⟨d2.b + 5, 0, none⟩) hrel5).trans hre) (fun hHx => ?_)
                clear hK KK hHx
                refine at_anyS (fun W' => Keep Wc W' ∧ VarAt Wc.heap.size 3 (.int .i64 z) W') ⟨Keep.alloc _ _, VarAt.new _ _ _⟩ ?_
                rintro Wd ⟨kk, ee⟩
                have KWd := hid (show Keep wr Wd from KWc.out.trans kk)
                have VWd := hid ee
                have IWd := hid (owns_keep IWc.out kk)
                have hHWd := ((KWd.out.cell (p := ⟨d2.b + 5, 0, none⟩) hrel5).trans hre)
                clear kk ee
                generalize Wc.heap.size = x5 at VWd ⊢
                refine wpAnyH_ready (rs := [6]) (by kernel_rfl) (by simp) ?_
                refine AllReadyH.cons rfl (fun KK hK => ?_) AllReadyH.nil
                refine step_append_own rfl _ _ 26 rfl wr.heap.size 3 i1 (.int .i64 0) 1 8 Try.underlying26 hi1 hz01 hz11 hz21 rfl (by decide) (.slice v3p A.length v3c) A.length (A.map (Value.int .i64)) rfl IWd.out ⟨x5, 0, none⟩ 1 1 [.int .i64 z] rfl rfl (one_atS VWd.out) one_cellI (by unfold maxLen; omega) (by omega) KWd.out.size ?_
                intro v6 Wf h1 h2 h4
                obtain ⟨g6, cap6, hv6⟩ := owns_shape h1 (Nat.succ_pos _)
                subst hv6
                have KWf := hid (show Keep wr Wf from Below.grown KWd.out h2 KWd.out.size (fun g hg => (owns_in IWd.out hg).1))
                have IWf := hid (show IntsOwn wr.heap.size (.slice (some ⟨g6, 0, none⟩) (A.length + 1) cap6) (A ++ [z]) Wf by unfold IntsOwn; rw [List.length_append, List.map_append]; exact h1)
                have hHWf := ((KWf.out.cell (p := ⟨d2.b + 5, 0, none⟩) hrel5).trans hre)
                refine hK.out _ _ hHWf (fun hHx => ?_)
                clear hK KK hHx h1 h2 h4
                simp only [Act.put, List.setIfInBounds_toArray, List.set_cons_zero, List.set_cons_succ, List.getElem_toArray, List.getElem_cons_zero, List.getElem_cons_succ]
                refine wpAnyH_ready (rs := [7]) (by kernel_rfl) (by simp) ?_
                refine AllReadyH.cons rfl (fun KK hK => ?_) AllReadyH.nil
                have HIH := hid (show Calls Try.prog 54 #[.slice (some ⟨g6, 0, none⟩) (A.length + 1) cap6, .pointer (some ⟨d2.b + 1, 0, none⟩), .pointer (some ⟨d2.b + 4, 0, none⟩), .pointer (some ⟨d2.b, 0, none⟩), .pointer (some ⟨d2.b + 3, 0, none⟩), .pointer (some ⟨d2.b + 5, 0, none⟩)] Wf fun e w' => RDone d1 n F p cap (srch n F g (A ++ [z]) d1.s d1.P) Wf e w' from by
                  have hsp : (A ++ [z]).length = A.length + 1 := by simp
                  have h9 := IH.out d1 (fun b => S b ∨ (Value.slice (some ⟨g6, 0, none⟩) (A.length + 1) cap6).ownBlock = some b) (A ++ [z]) (.slice (some ⟨g6, 0, none⟩) (A.length + 1) cap6) p cap Wf (X1.out.keep KWf.out) ((C1.out.keep (B := wr.heap.size) (fun b hb => (HS1.out b hb).1) KWf.out).mono (fun _ _ => rfl) fun _ h => .inl h) (IWf.out.numsO.mono (fun _ _ => rfl) fun _ h => .inr h) (fun b hb => by
                    rcases hb with hb | hb
                    · exact ⟨Nat.lt_of_lt_of_le (HS1.out b hb).1 KWf.out.size, (HS1.out b hb).2⟩
                    · have h1 := owns_in IWf.out hb
                      exact ⟨h1.2, fun e => by have := X1.out.lt e; omega⟩) (by rw [hsp]; omega) HLZ.out HP1.out (fun k c e => by cases e)
                  rw [HDB.out] at h9
                  exact h9)
                go_simp
                with_reducible refine HIH.out.mono ?_
                rintro e W9 ⟨d9, hb9, ht9, hr9⟩
                have KT := hid (show Turn d1.own d9.own wr W9 from (Turn.keep KWf.out).trans ht9)
                have hre9 : W9.cell? ⟨d2.b + 5, 0, none⟩ = some (.func (.func 54) #[] #[.pointer (some ⟨d2.b + 1, 0, none⟩), .pointer (some ⟨d2.b + 4, 0, none⟩), .pointer (some ⟨d2.b, 0, none⟩), .pointer (some ⟨d2.b + 3, 0, none⟩), .pointer (some ⟨d2.b + 5, 0, none⟩)]) := (KT.out.cell ⟨d2.b + 5, 0, none⟩ hrel5 (fun e => by
                  rcases e with e | e | e | e
                  · have e2 : d2.b + 5 = d1.b + 1 := e; have := HDB.out; omega
                  · have e2 : d2.b + 5 = d1.b + 3 := e; have := HDB.out; omega
                  · have e2 : d2.b + 5 = d1.b + 4 := e; have := HDB.out; omega
                  · have h1 := (X1.out.pr.in (show d1.pv.ownBlock = some (d2.b + 5) from e)).1; have := HDB.out; omega)).trans hre
                clear ht9 HIH
                rcases hr9 with ⟨h1, rfl, h2⟩ | ⟨m, mad, mmc, mpv, h1, rfl, h2, h3, h4, h5⟩ | ⟨h1, rfl, h2, h3, h4⟩
                · refine hK.out _ _ hre9 (fun hHx => ?_)
                  clear hK KK hHx
                  refine wpAnyH_done (by kernel_rfl) ?_ _
                  have HOUT := hid (And.intro h1 h2)
                  clear h1 h2 hre9 hre hrel5
                  go_wp2_with fail
                  go_ret
                  exact ⟨d9, hb9.trans HBB.out, T1.out.trans KT.out, .inl ⟨by rw [HBO1.out (by rw [← HZE.out, ← HD1.out, HOUT.out.1]; simp), ← HZE.out, ← HD1.out]; exact HOUT.out.1, rfl, HBB.out ▸ HOUT.out.2⟩⟩
                · refine hK.out _ _ hre9 (fun hHx => ?_)
                  clear hK KK hHx
                  refine wpAnyH_done (by kernel_rfl) ?_ _
                  have HOUT := hid (And.intro h1 (And.intro h2 (And.intro h3 (And.intro h4 h5))))
                  clear h1 h2 h3 h4 h5 hre9 hre hrel5
                  go_wp2_with fail
                  go_ret
                  exact ⟨d9, hb9.trans HBB.out, T1.out.trans KT.out, .inr (.inl ⟨m, mad, mmc, mpv, by rw [HBO1.out (by rw [← HZE.out, ← HD1.out, HOUT.out.1]; simp), ← HZE.out, ← HD1.out]; exact HOUT.out.1, rfl, HBB.out ▸ HOUT.out.2.1, HBB.out ▸ HOUT.out.2.2.1, HOUT.out.2.2.2.1, HBB.out ▸ HOUT.out.2.2.2.2⟩)⟩
                · refine hK.out _ _ hre9 (fun hHx => ?_)
                  clear hK KK hHx
                  refine wpAnyH_done (by kernel_rfl) ?_ _
                  have X9 := hid h2
                  have HCLO := hid (show srch n F g (A ++ [z]) d1.s d1.P = ⟨.closed, d9.s, d9.P⟩ by rw [h3, h4, ← h1])
                  clear h1 h2 h3 h4 hre9 hre hrel5
                  go_wp2_with fail
                  go_roundg 1
                  case rel => exact ⟨1, d9, by omega, rfl, by go_num, X9.out, T1.out.trans KT.out, hb9.trans HDB.out, BQ1.out.turn KT.out HNO.out, HNB9.out d9 W9 KT.out, .inr (.inl ⟨rfl, by rw [← HZE.out, ← HD1.out]; exact HCLO.out⟩)⟩
                  case measure => omega
              · go_simp
                refine hK.out _ _ (((KWb.out.alloc' _).cell (p := ⟨d2.b + 5, 0, none⟩) hrel5).trans hre) (fun hHx => ?_)
                clear hK KK hHx
                refine at_anyS (fun W' => Keep Wb W' ∧ VarAt Wb.heap.size 3 (.int .i64 z) W') ⟨Keep.alloc _ _, VarAt.new _ _ _⟩ ?_
                rintro Wc ⟨kk, ee⟩
                have KWc := hid (show Keep wr Wc from KWb.out.trans kk)
                have VWc := hid ee
                have EWc := hid (owns_keep EWb.out kk)
                have hne : Wb.heap.size ≠ x1 := fun e => by have := (owns_in EWb.out (g := x1) rfl).2; omega
                have hHWc := ((KWc.out.cell (p := ⟨d2.b + 5, 0, none⟩) hrel5).trans hre)
                clear kk ee
                generalize Wb.heap.size = x5 at VWc hne ⊢
                refine wpAnyH_ready (rs := [3]) (by kernel_rfl) (by simp) ?_
                refine AllReadyH.cons rfl (fun KK hK => ?_) AllReadyH.nil
                refine step_append_ints rfl _ _ rfl wr.heap.size x1 S A (.slice ap A.length ac) rfl EWc.out rfl (N1.out.keep (B := wr.heap.size) (fun b hb => (HS1.out b hb).1) KWc.out) HCAP.out (by omega) KWc.out.size ?_
                intro v3 Wd h1 h2
                have KWd := hid (show Keep wr Wd from Below.grown KWc.out h2 KWc.out.size (fun g hg => (owns_in EWc.out hg).1))
                have IWd := hid (show IntsOwn wr.heap.size v3 A Wd from h1)
                have VWd := hid (VWc.out.grew (g := x1) h2 hne)
                obtain ⟨v3p, v3c, hv3⟩ := IWd.out.ints.len
                subst hv3
                have hHWd := ((KWd.out.cell (p := ⟨d2.b + 5, 0, none⟩) hrel5).trans hre)
                refine hK.out _ _ hHWd (fun hHx => ?_)
                clear hK KK hHx h1 h2
                simp only [Act.put, List.setIfInBounds_toArray, List.set_cons_zero, List.set_cons_succ, List.getElem_toArray, List.getElem_cons_zero, List.getElem_cons_succ]
                refine wpAnyH_ready (rs := [6]) (by kernel_rfl) (by simp) ?_
                refine AllReadyH.cons rfl (fun KK hK => ?_) AllReadyH.nil
                refine step_append_own rfl _ _ 26 rfl wr.heap.size 3 i1 (.int .i64 0) 1 8 Try.underlying26 hi1 hz01 hz11 hz21 rfl (by decide) (.slice v3p A.length v3c) A.length (A.map (Value.int .i64)) rfl IWd.out ⟨x5, 0, none⟩ 1 1 [.int .i64 z] rfl rfl (one_atS VWd.out) one_cellI (by unfold maxLen; omega) (by omega) KWd.out.size ?_
                intro v6 Wf h1 h2 h4
                obtain ⟨g6, cap6, hv6⟩ := owns_shape h1 (Nat.succ_pos _)
                subst hv6
                have KWf := hid (show Keep wr Wf from Below.grown KWd.out h2 KWd.out.size (fun g hg => (owns_in IWd.out hg).1))
                have IWf := hid (show IntsOwn wr.heap.size (.slice (some ⟨g6, 0, none⟩) (A.length + 1) cap6) (A ++ [z]) Wf by unfold IntsOwn; rw [List.length_append, List.map_append]; exact h1)
                have hHWf := ((KWf.out.cell (p := ⟨d2.b + 5, 0, none⟩) hrel5).trans hre)
                refine hK.out _ _ hHWf (fun hHx => ?_)
                clear hK KK hHx h1 h2 h4
                simp only [Act.put, List.setIfInBounds_toArray, List.set_cons_zero, List.set_cons_succ, List.getElem_toArray, List.getElem_cons_zero, List.getElem_cons_succ]
                refine wpAnyH_ready (rs := [7]) (by kernel_rfl) (by simp) ?_
                refine AllReadyH.cons rfl (fun KK hK => ?_) AllReadyH.nil
                have HIH := hid (show Calls Try.prog 54 #[.slice (some ⟨g6, 0, none⟩) (A.length + 1) cap6, .pointer (some ⟨d2.b + 1, 0, none⟩), .pointer (some ⟨d2.b + 4, 0, none⟩), .pointer (some ⟨d2.b, 0, none⟩), .pointer (some ⟨d2.b + 3, 0, none⟩), .pointer (some ⟨d2.b + 5, 0, none⟩)] Wf fun e w' => RDone d1 n F p cap (srch n F g (A ++ [z]) d1.s d1.P) Wf e w' from by
                  have hsp : (A ++ [z]).length = A.length + 1 := by simp
                  have h9 := IH.out d1 (fun b => S b ∨ (Value.slice (some ⟨g6, 0, none⟩) (A.length + 1) cap6).ownBlock = some b) (A ++ [z]) (.slice (some ⟨g6, 0, none⟩) (A.length + 1) cap6) p cap Wf (X1.out.keep KWf.out) ((C1.out.keep (B := wr.heap.size) (fun b hb => (HS1.out b hb).1) KWf.out).mono (fun _ _ => rfl) fun _ h => .inl h) (IWf.out.numsO.mono (fun _ _ => rfl) fun _ h => .inr h) (fun b hb => by
                    rcases hb with hb | hb
                    · exact ⟨Nat.lt_of_lt_of_le (HS1.out b hb).1 KWf.out.size, (HS1.out b hb).2⟩
                    · have h1 := owns_in IWf.out hb
                      exact ⟨h1.2, fun e => by have := X1.out.lt e; omega⟩) (by rw [hsp]; omega) HLZ.out HP1.out (fun k c e => by cases e)
                  rw [HDB.out] at h9
                  exact h9)
                go_simp
                with_reducible refine HIH.out.mono ?_
                rintro e W9 ⟨d9, hb9, ht9, hr9⟩
                have KT := hid (show Turn d1.own d9.own wr W9 from (Turn.keep KWf.out).trans ht9)
                have hre9 : W9.cell? ⟨d2.b + 5, 0, none⟩ = some (.func (.func 54) #[] #[.pointer (some ⟨d2.b + 1, 0, none⟩), .pointer (some ⟨d2.b + 4, 0, none⟩), .pointer (some ⟨d2.b, 0, none⟩), .pointer (some ⟨d2.b + 3, 0, none⟩), .pointer (some ⟨d2.b + 5, 0, none⟩)]) := (KT.out.cell ⟨d2.b + 5, 0, none⟩ hrel5 (fun e => by
                  rcases e with e | e | e | e
                  · have e2 : d2.b + 5 = d1.b + 1 := e; have := HDB.out; omega
                  · have e2 : d2.b + 5 = d1.b + 3 := e; have := HDB.out; omega
                  · have e2 : d2.b + 5 = d1.b + 4 := e; have := HDB.out; omega
                  · have h1 := (X1.out.pr.in (show d1.pv.ownBlock = some (d2.b + 5) from e)).1; have := HDB.out; omega)).trans hre
                clear ht9 HIH
                rcases hr9 with ⟨h1, rfl, h2⟩ | ⟨m, mad, mmc, mpv, h1, rfl, h2, h3, h4, h5⟩ | ⟨h1, rfl, h2, h3, h4⟩
                · refine hK.out _ _ hre9 (fun hHx => ?_)
                  clear hK KK hHx
                  refine wpAnyH_done (by kernel_rfl) ?_ _
                  have HOUT := hid (And.intro h1 h2)
                  clear h1 h2 hre9 hre hrel5
                  go_wp2_with fail
                  go_ret
                  exact ⟨d9, hb9.trans HBB.out, T1.out.trans KT.out, .inl ⟨by rw [HBO1.out (by rw [← HZE.out, ← HD1.out, HOUT.out.1]; simp), ← HZE.out, ← HD1.out]; exact HOUT.out.1, rfl, HBB.out ▸ HOUT.out.2⟩⟩
                · refine hK.out _ _ hre9 (fun hHx => ?_)
                  clear hK KK hHx
                  refine wpAnyH_done (by kernel_rfl) ?_ _
                  have HOUT := hid (And.intro h1 (And.intro h2 (And.intro h3 (And.intro h4 h5))))
                  clear h1 h2 h3 h4 h5 hre9 hre hrel5
                  go_wp2_with fail
                  go_ret
                  exact ⟨d9, hb9.trans HBB.out, T1.out.trans KT.out, .inr (.inl ⟨m, mad, mmc, mpv, by rw [HBO1.out (by rw [← HZE.out, ← HD1.out, HOUT.out.1]; simp), ← HZE.out, ← HD1.out]; exact HOUT.out.1, rfl, HBB.out ▸ HOUT.out.2.1, HBB.out ▸ HOUT.out.2.2.1, HOUT.out.2.2.2.1, HBB.out ▸ HOUT.out.2.2.2.2⟩)⟩
                · refine hK.out _ _ hre9 (fun hHx => ?_)
                  clear hK KK hHx
                  refine wpAnyH_done (by kernel_rfl) ?_ _
                  have X9 := hid h2
                  have HCLO := hid (show srch n F g (A ++ [z]) d1.s d1.P = ⟨.closed, d9.s, d9.P⟩ by rw [h3, h4, ← h1])
                  clear h1 h2 h3 h4 hre9 hre hrel5
                  go_wp2_with fail
                  go_roundg 1
                  case rel => exact ⟨1, d9, by omega, rfl, by go_num, X9.out, T1.out.trans KT.out, hb9.trans HDB.out, BQ1.out.turn KT.out HNO.out, HNB9.out d9 W9 KT.out, .inr (.inl ⟨rfl, by rw [← HZE.out, ← HD1.out]; exact HCLO.out⟩)⟩
                  case measure => omega
            · go_simp
              refine hK.out _ _ (((KWa.out.alloc' _).cell (p := ⟨d2.b + 5, 0, none⟩) hrel5).trans hre) (fun hHx => ?_)
              clear hK KK hHx
              refine at_anyS (fun W' => Keep Wa W' ∧ VarAt Wa.heap.size 3 (.int .i64 z) W') ⟨Keep.alloc _ _, VarAt.new _ _ _⟩ ?_
              rintro Wb ⟨kk, ee⟩
              have KWb := hid (show Keep wr Wb from KWa.out.trans kk)
              have VWb := hid ee
              have hHWb := ((KWb.out.cell (p := ⟨d2.b + 5, 0, none⟩) hrel5).trans hre)
              clear kk ee
              generalize Wa.heap.size = x5 at VWb ⊢
              refine wpAnyH_ready (rs := [1]) (by kernel_rfl) (by simp) ?_
              refine AllReadyH.cons rfl (fun KK hK => ?_) AllReadyH.nil
              go_simp
              refine hK.out _ _ (((KWb.out.alloc' _).cell (p := ⟨d2.b + 5, 0, none⟩) hrel5).trans hre) (fun hHx => ?_)
              clear hK KK hHx
              refine at_anyS (fun W' => Keep Wb W' ∧ W'.ownsRow wr.heap.size 3 1 (.slice (some ⟨Wb.heap.size, 0, none⟩) 0 0) 0 []) ⟨Keep.alloc _ _, World.ownsRow_made Wb #[] 0 KWb.out.size (Nat.zero_le _) rfl⟩ ?_
              rintro Wc ⟨kk, ee⟩
              have KWc := hid (show Keep wr Wc from KWb.out.trans kk)
              have EWc := hid ee
              have VWc := hid (VWb.out.keep kk VWb.out.facts.2.2)
              have hne : x5 ≠ Wb.heap.size := fun e => by have := VWb.out.facts.2.2; omega
              have hHWc := ((KWc.out.cell (p := ⟨d2.b + 5, 0, none⟩) hrel5).trans hre)
              clear kk ee
              generalize Wb.heap.size = x1 at EWc hne ⊢
              refine wpAnyH_ready (rs := [3]) (by kernel_rfl) (by simp) ?_
              refine AllReadyH.cons rfl (fun KK hK => ?_) AllReadyH.nil
              refine step_append_ints rfl _ _ rfl wr.heap.size x1 S A (.slice ap A.length ac) rfl EWc.out rfl (N1.out.keep (B := wr.heap.size) (fun b hb => (HS1.out b hb).1) KWc.out) HCAP.out (by omega) KWc.out.size ?_
              intro v3 Wd h1 h2
              have KWd := hid (show Keep wr Wd from Below.grown KWc.out h2 KWc.out.size (fun g hg => (owns_in EWc.out hg).1))
              have IWd := hid (show IntsOwn wr.heap.size v3 A Wd from h1)
              have VWd := hid (VWc.out.grew (g := x1) h2 hne)
              obtain ⟨v3p, v3c, hv3⟩ := IWd.out.ints.len
              subst hv3
              have hHWd := ((KWd.out.cell (p := ⟨d2.b + 5, 0, none⟩) hrel5).trans hre)
              refine hK.out _ _ hHWd (fun hHx => ?_)
              clear hK KK hHx h1 h2
              simp only [Act.put, List.setIfInBounds_toArray, List.set_cons_zero, List.set_cons_succ, List.getElem_toArray, List.getElem_cons_zero, List.getElem_cons_succ]
              refine wpAnyH_ready (rs := [6]) (by kernel_rfl) (by simp) ?_
              refine AllReadyH.cons rfl (fun KK hK => ?_) AllReadyH.nil
              refine step_append_own rfl _ _ 26 rfl wr.heap.size 3 i1 (.int .i64 0) 1 8 Try.underlying26 hi1 hz01 hz11 hz21 rfl (by decide) (.slice v3p A.length v3c) A.length (A.map (Value.int .i64)) rfl IWd.out ⟨x5, 0, none⟩ 1 1 [.int .i64 z] rfl rfl (one_atS VWd.out) one_cellI (by unfold maxLen; omega) (by omega) KWd.out.size ?_
              intro v6 Wf h1 h2 h4
              obtain ⟨g6, cap6, hv6⟩ := owns_shape h1 (Nat.succ_pos _)
              subst hv6
              have KWf := hid (show Keep wr Wf from Below.grown KWd.out h2 KWd.out.size (fun g hg => (owns_in IWd.out hg).1))
              have IWf := hid (show IntsOwn wr.heap.size (.slice (some ⟨g6, 0, none⟩) (A.length + 1) cap6) (A ++ [z]) Wf by unfold IntsOwn; rw [List.length_append, List.map_append]; exact h1)
              have hHWf := ((KWf.out.cell (p := ⟨d2.b + 5, 0, none⟩) hrel5).trans hre)
              refine hK.out _ _ hHWf (fun hHx => ?_)
              clear hK KK hHx h1 h2 h4
              simp only [Act.put, List.setIfInBounds_toArray, List.set_cons_zero, List.set_cons_succ, List.getElem_toArray, List.getElem_cons_zero, List.getElem_cons_succ]
              refine wpAnyH_ready (rs := [7]) (by kernel_rfl) (by simp) ?_
              refine AllReadyH.cons rfl (fun KK hK => ?_) AllReadyH.nil
              have HIH := hid (show Calls Try.prog 54 #[.slice (some ⟨g6, 0, none⟩) (A.length + 1) cap6, .pointer (some ⟨d2.b + 1, 0, none⟩), .pointer (some ⟨d2.b + 4, 0, none⟩), .pointer (some ⟨d2.b, 0, none⟩), .pointer (some ⟨d2.b + 3, 0, none⟩), .pointer (some ⟨d2.b + 5, 0, none⟩)] Wf fun e w' => RDone d1 n F p cap (srch n F g (A ++ [z]) d1.s d1.P) Wf e w' from by
                have hsp : (A ++ [z]).length = A.length + 1 := by simp
                have h9 := IH.out d1 (fun b => S b ∨ (Value.slice (some ⟨g6, 0, none⟩) (A.length + 1) cap6).ownBlock = some b) (A ++ [z]) (.slice (some ⟨g6, 0, none⟩) (A.length + 1) cap6) p cap Wf (X1.out.keep KWf.out) ((C1.out.keep (B := wr.heap.size) (fun b hb => (HS1.out b hb).1) KWf.out).mono (fun _ _ => rfl) fun _ h => .inl h) (IWf.out.numsO.mono (fun _ _ => rfl) fun _ h => .inr h) (fun b hb => by
                  rcases hb with hb | hb
                  · exact ⟨Nat.lt_of_lt_of_le (HS1.out b hb).1 KWf.out.size, (HS1.out b hb).2⟩
                  · have h1 := owns_in IWf.out hb
                    exact ⟨h1.2, fun e => by have := X1.out.lt e; omega⟩) (by rw [hsp]; omega) HLZ.out HP1.out (fun k c e => by cases e)
                rw [HDB.out] at h9
                exact h9)
              go_simp
              with_reducible refine HIH.out.mono ?_
              rintro e W9 ⟨d9, hb9, ht9, hr9⟩
              have KT := hid (show Turn d1.own d9.own wr W9 from (Turn.keep KWf.out).trans ht9)
              have hre9 : W9.cell? ⟨d2.b + 5, 0, none⟩ = some (.func (.func 54) #[] #[.pointer (some ⟨d2.b + 1, 0, none⟩), .pointer (some ⟨d2.b + 4, 0, none⟩), .pointer (some ⟨d2.b, 0, none⟩), .pointer (some ⟨d2.b + 3, 0, none⟩), .pointer (some ⟨d2.b + 5, 0, none⟩)]) := (KT.out.cell ⟨d2.b + 5, 0, none⟩ hrel5 (fun e => by
                rcases e with e | e | e | e
                · have e2 : d2.b + 5 = d1.b + 1 := e; have := HDB.out; omega
                · have e2 : d2.b + 5 = d1.b + 3 := e; have := HDB.out; omega
                · have e2 : d2.b + 5 = d1.b + 4 := e; have := HDB.out; omega
                · have h1 := (X1.out.pr.in (show d1.pv.ownBlock = some (d2.b + 5) from e)).1; have := HDB.out; omega)).trans hre
              clear ht9 HIH
              rcases hr9 with ⟨h1, rfl, h2⟩ | ⟨m, mad, mmc, mpv, h1, rfl, h2, h3, h4, h5⟩ | ⟨h1, rfl, h2, h3, h4⟩
              · refine hK.out _ _ hre9 (fun hHx => ?_)
                clear hK KK hHx
                refine wpAnyH_done (by kernel_rfl) ?_ _
                have HOUT := hid (And.intro h1 h2)
                clear h1 h2 hre9 hre hrel5
                go_wp2_with fail
                go_ret
                exact ⟨d9, hb9.trans HBB.out, T1.out.trans KT.out, .inl ⟨by rw [HBO1.out (by rw [← HZE.out, ← HD1.out, HOUT.out.1]; simp), ← HZE.out, ← HD1.out]; exact HOUT.out.1, rfl, HBB.out ▸ HOUT.out.2⟩⟩
              · refine hK.out _ _ hre9 (fun hHx => ?_)
                clear hK KK hHx
                refine wpAnyH_done (by kernel_rfl) ?_ _
                have HOUT := hid (And.intro h1 (And.intro h2 (And.intro h3 (And.intro h4 h5))))
                clear h1 h2 h3 h4 h5 hre9 hre hrel5
                go_wp2_with fail
                go_ret
                exact ⟨d9, hb9.trans HBB.out, T1.out.trans KT.out, .inr (.inl ⟨m, mad, mmc, mpv, by rw [HBO1.out (by rw [← HZE.out, ← HD1.out, HOUT.out.1]; simp), ← HZE.out, ← HD1.out]; exact HOUT.out.1, rfl, HBB.out ▸ HOUT.out.2.1, HBB.out ▸ HOUT.out.2.2.1, HOUT.out.2.2.2.1, HBB.out ▸ HOUT.out.2.2.2.2⟩)⟩
              · refine hK.out _ _ hre9 (fun hHx => ?_)
                clear hK KK hHx
                refine wpAnyH_done (by kernel_rfl) ?_ _
                have X9 := hid h2
                have HCLO := hid (show srch n F g (A ++ [z]) d1.s d1.P = ⟨.closed, d9.s, d9.P⟩ by rw [h3, h4, ← h1])
                clear h1 h2 h3 h4 hre9 hre hrel5
                go_wp2_with fail
                go_roundg 1
                case rel => exact ⟨1, d9, by omega, rfl, by go_num, X9.out, T1.out.trans KT.out, hb9.trans HDB.out, BQ1.out.turn KT.out HNO.out, HNB9.out d9 W9 KT.out, .inr (.inl ⟨rfl, by rw [← HZE.out, ← HD1.out]; exact HCLO.out⟩)⟩
                case measure => omega
          · have HS1E := hid hs1
            clear hs1
            have hgk : gk = 1 := by omega
            clear hi3
            have hcq : wr.cell? ⟨bq, 1, none⟩ = some (.int .i64 ((k : Int))) := BQ1.out.facts.1 1
            have hbql := BQ1.out.facts.2.2
            have HLZ0 := hid (show LitsC n (A ++ [(k : Int)]) from fun x hx => by
              rcases List.mem_append.1 hx with hx | hx
              · exact HLA.out x hx
              · rw [List.mem_singleton.1 hx]; exact HLIT.out)
            have HP1 := hid (show d1.P.length + d1.s ≤ 40000 from by
              have h1 := (srch_closed (n := n) (F := F) g _ _ _ _ _ (by simp; omega) (fun x hx => by
                rcases List.mem_append.1 hx with hx | hx
                · exact HLA.out x hx
                · rw [List.mem_singleton.1 hx]; exact HLIT.out.neg) HS1E.out).few
              omega)
            obtain ⟨z, hze⟩ : ∃ z : Int, z = (k : Int) := ⟨_, rfl⟩
            have HZE := hid hze
            have HLZ := hid (show LitsC n (A ++ [z]) by rw [hze]; exact HLZ0.out)
            rw [← hze] at hcq
            have hz1000 : -1000 ≤ z ∧ z ≤ 1000 := by omega
            obtain ⟨hzl, hzg⟩ := hz1000
            clear hze HLZ0
            have hre : wr.cell? ⟨d2.b + 5, 0, none⟩ = some (.func (.func 54) #[] #[.pointer (some ⟨d2.b + 1, 0, none⟩), .pointer (some ⟨d2.b + 4, 0, none⟩), .pointer (some ⟨d2.b, 0, none⟩), .pointer (some ⟨d2.b + 3, 0, none⟩), .pointer (some ⟨d2.b + 5, 0, none⟩)]) := by
              have h := X1.out.re.facts.1
              rw [HDB.out] at h
              exact h
            have hrel5 : d2.b + 5 < wr.heap.size := by
              have h := X1.out.re.facts.2.2
              rw [HDB.out] at h
              exact h
            have HNB9 := hid (show ∀ (d9 : RD) (W9 : World), Turn d1.own d9.own wr W9 → ¬ d9.own bq from fun d9 W9 t e => (t.new bq e).elim HNO.out fun h => by have := BQ1.out.facts.2.2; omega)
            go_upto_region 22 with fail
            refine wp_region_held_drew (S := fun W' => W'.cell? ⟨d2.b + 5, 0, none⟩ = some (.func (.func 54) #[] #[.pointer (some ⟨d2.b + 1, 0, none⟩), .pointer (some ⟨d2.b + 4, 0, none⟩), .pointer (some ⟨d2.b, 0, none⟩), .pointer (some ⟨d2.b + 3, 0, none⟩), .pointer (some ⟨d2.b + 5, 0, none⟩)])) (by kernel_rfl) hre (fun hHeld => ?_)
            refine wpAnyH_take (i := 0) (v := ?_) rfl (by kernel_rfl) (by kernel_rfl) (by kernel_rfl) (fun _ _ _ h => h) (Or.inl ⟨by rfl, ?_⟩) (by assumption) ?_
            rotate_left
            · intro w hSw
              (try dsimp only at hSw)
              go_simp
              try with_reducible rfl
            simp only [Act.put, List.setIfInBounds_toArray, List.set_cons_zero, List.set_cons_succ, List.getElem_toArray, List.getElem_cons_zero]
            refine wpAnyH_take (i := 2) (v := ?_) rfl (by kernel_rfl) (by kernel_rfl) (by kernel_rfl) (fun _ _ _ h => h) (Or.inl ⟨by rfl, ?_⟩) (by assumption) ?_
            rotate_left
            · intro w hSw
              (try dsimp only at hSw)
              go_simp
              try with_reducible rfl
            simp only [Act.put, List.setIfInBounds_toArray, List.set_cons_zero, List.set_cons_succ, List.getElem_toArray, List.getElem_cons_zero, List.getElem_cons_succ]
            refine wpAnyH_take (i := 4) (v := ?_) rfl (by kernel_rfl) (by kernel_rfl) (by kernel_rfl) (fun _ _ _ h => h) (Or.inl ⟨by rfl, ?_⟩) (by assumption) ?_
            rotate_left
            · intro w hSw
              (try dsimp only at hSw)
              go_simp
              try with_reducible rfl
            simp only [Act.put, List.setIfInBounds_toArray, List.set_cons_zero, List.set_cons_succ, List.getElem_toArray, List.getElem_cons_zero, List.getElem_cons_succ]
            refine at_anyS (fun W' => Keep wr W') (Keep.drew (Keep.refl _)) ?_
            rintro Wa kWa
            have KWa := hid kWa
            clear kWa
            have hHWa := ((KWa.out.cell (p := ⟨d2.b + 5, 0, none⟩) hrel5).trans hre)
            refine wpAnyH_ready (rs := [1, 5]) (by kernel_rfl) (by simp) ?_
            refine AllReadyH.cons rfl (fun KK hK => ?_) (AllReadyH.cons rfl (fun KK hK => ?_) AllReadyH.nil)
            · go_simp
              refine hK.out _ _ (((KWa.out.alloc' _).cell (p := ⟨d2.b + 5, 0, none⟩) hrel5).trans hre) (fun hHx => ?_)
              clear hK KK hHx
              refine at_anyS (fun W' => Keep Wa W' ∧ W'.ownsRow wr.heap.size 3 1 (.slice (some ⟨Wa.heap.size, 0, none⟩) 0 0) 0 []) ⟨Keep.alloc _ _, World.ownsRow_made Wa #[] 0 KWa.out.size (Nat.zero_le _) rfl⟩ ?_
              rintro Wb ⟨kk, ee⟩
              have KWb := hid (show Keep wr Wb from KWa.out.trans kk)
              have EWb := hid ee
              have hHWb := ((KWb.out.cell (p := ⟨d2.b + 5, 0, none⟩) hrel5).trans hre)
              clear kk ee
              generalize Wa.heap.size = x1 at EWb ⊢
              refine wpAnyH_ready (rs := [3, 5]) (by kernel_rfl) (by simp) ?_
              refine AllReadyH.cons rfl (fun KK hK => ?_) (AllReadyH.cons rfl (fun KK hK => ?_) AllReadyH.nil)
              · refine step_append_ints rfl _ _ rfl wr.heap.size x1 S A (.slice ap A.length ac) rfl EWb.out rfl (N1.out.keep (B := wr.heap.size) (fun b hb => (HS1.out b hb).1) KWb.out) HCAP.out (by omega) KWb.out.size ?_
                intro v3 Wc h1 h2
                have KWc := hid (show Keep wr Wc from Below.grown KWb.out h2 KWb.out.size (fun g hg => (owns_in EWb.out hg).1))
                have IWc := hid (show IntsOwn wr.heap.size v3 A Wc from h1)
                obtain ⟨v3p, v3c, hv3⟩ := IWc.out.ints.len
                subst hv3
                have hHWc := ((KWc.out.cell (p := ⟨d2.b + 5, 0, none⟩) hrel5).trans hre)
                refine hK.out _ _ hHWc (fun hHx => ?_)
                clear hK KK hHx h1 h2
                simp only [Act.put, List.setIfInBounds_toArray, List.set_cons_zero, List.set_cons_succ, List.getElem_toArray, List.getElem_cons_zero, List.getElem_cons_succ]
                refine wpAnyH_ready (rs := [5]) (by kernel_rfl) (by simp) ?_
                refine AllReadyH.cons rfl (fun KK hK => ?_) AllReadyH.nil
                go_simp
                refine hK.out _ _ (((KWc.out.alloc' _).cell (p := ⟨d2.b + 5, 0, none⟩) hrel5).trans hre) (fun hHx => ?_)
                clear hK KK hHx
                refine at_anyS (fun W' => Keep Wc W' ∧ VarAt Wc.heap.size 3 (.int .i64 z) W') ⟨Keep.alloc _ _, VarAt.new _ _ _⟩ ?_
                rintro Wd ⟨kk, ee⟩
                have KWd := hid (show Keep wr Wd from KWc.out.trans kk)
                have VWd := hid ee
                have IWd := hid (owns_keep IWc.out kk)
                have hHWd := ((KWd.out.cell (p := ⟨d2.b + 5, 0, none⟩) hrel5).trans hre)
                clear kk ee
                generalize Wc.heap.size = x5 at VWd ⊢
                refine wpAnyH_ready (rs := [6]) (by kernel_rfl) (by simp) ?_
                refine AllReadyH.cons rfl (fun KK hK => ?_) AllReadyH.nil
                refine step_append_own rfl _ _ 26 rfl wr.heap.size 3 i1 (.int .i64 0) 1 8 Try.underlying26 hi1 hz01 hz11 hz21 rfl (by decide) (.slice v3p A.length v3c) A.length (A.map (Value.int .i64)) rfl IWd.out ⟨x5, 0, none⟩ 1 1 [.int .i64 z] rfl rfl (one_atS VWd.out) one_cellI (by unfold maxLen; omega) (by omega) KWd.out.size ?_
                intro v6 Wf h1 h2 h4
                obtain ⟨g6, cap6, hv6⟩ := owns_shape h1 (Nat.succ_pos _)
                subst hv6
                have KWf := hid (show Keep wr Wf from Below.grown KWd.out h2 KWd.out.size (fun g hg => (owns_in IWd.out hg).1))
                have IWf := hid (show IntsOwn wr.heap.size (.slice (some ⟨g6, 0, none⟩) (A.length + 1) cap6) (A ++ [z]) Wf by unfold IntsOwn; rw [List.length_append, List.map_append]; exact h1)
                have hHWf := ((KWf.out.cell (p := ⟨d2.b + 5, 0, none⟩) hrel5).trans hre)
                refine hK.out _ _ hHWf (fun hHx => ?_)
                clear hK KK hHx h1 h2 h4
                simp only [Act.put, List.setIfInBounds_toArray, List.set_cons_zero, List.set_cons_succ, List.getElem_toArray, List.getElem_cons_zero, List.getElem_cons_succ]
                refine wpAnyH_ready (rs := [7]) (by kernel_rfl) (by simp) ?_
                refine AllReadyH.cons rfl (fun KK hK => ?_) AllReadyH.nil
                have HIH := hid (show Calls Try.prog 54 #[.slice (some ⟨g6, 0, none⟩) (A.length + 1) cap6, .pointer (some ⟨d2.b + 1, 0, none⟩), .pointer (some ⟨d2.b + 4, 0, none⟩), .pointer (some ⟨d2.b, 0, none⟩), .pointer (some ⟨d2.b + 3, 0, none⟩), .pointer (some ⟨d2.b + 5, 0, none⟩)] Wf fun e w' => RDone d1 n F p cap (srch n F g (A ++ [z]) d1.s d1.P) Wf e w' from by
                  have hsp : (A ++ [z]).length = A.length + 1 := by simp
                  have h9 := IH.out d1 (fun b => S b ∨ (Value.slice (some ⟨g6, 0, none⟩) (A.length + 1) cap6).ownBlock = some b) (A ++ [z]) (.slice (some ⟨g6, 0, none⟩) (A.length + 1) cap6) p cap Wf (X1.out.keep KWf.out) ((C1.out.keep (B := wr.heap.size) (fun b hb => (HS1.out b hb).1) KWf.out).mono (fun _ _ => rfl) fun _ h => .inl h) (IWf.out.numsO.mono (fun _ _ => rfl) fun _ h => .inr h) (fun b hb => by
                    rcases hb with hb | hb
                    · exact ⟨Nat.lt_of_lt_of_le (HS1.out b hb).1 KWf.out.size, (HS1.out b hb).2⟩
                    · have h1 := owns_in IWf.out hb
                      exact ⟨h1.2, fun e => by have := X1.out.lt e; omega⟩) (by rw [hsp]; omega) HLZ.out HP1.out (fun k c e => by cases e)
                  rw [HDB.out] at h9
                  exact h9)
                go_simp
                with_reducible refine HIH.out.mono ?_
                rintro e W9 ⟨d9, hb9, ht9, hr9⟩
                have KT := hid (show Turn d1.own d9.own wr W9 from (Turn.keep KWf.out).trans ht9)
                have hre9 : W9.cell? ⟨d2.b + 5, 0, none⟩ = some (.func (.func 54) #[] #[.pointer (some ⟨d2.b + 1, 0, none⟩), .pointer (some ⟨d2.b + 4, 0, none⟩), .pointer (some ⟨d2.b, 0, none⟩), .pointer (some ⟨d2.b + 3, 0, none⟩), .pointer (some ⟨d2.b + 5, 0, none⟩)]) := (KT.out.cell ⟨d2.b + 5, 0, none⟩ hrel5 (fun e => by
                  rcases e with e | e | e | e
                  · have e2 : d2.b + 5 = d1.b + 1 := e; have := HDB.out; omega
                  · have e2 : d2.b + 5 = d1.b + 3 := e; have := HDB.out; omega
                  · have e2 : d2.b + 5 = d1.b + 4 := e; have := HDB.out; omega
                  · have h1 := (X1.out.pr.in (show d1.pv.ownBlock = some (d2.b + 5) from e)).1; have := HDB.out; omega)).trans hre
                clear ht9 HIH
                rcases hr9 with ⟨h1, rfl, h2⟩ | ⟨m, mad, mmc, mpv, h1, rfl, h2, h3, h4, h5⟩ | ⟨h1, rfl, h2, h3, h4⟩
                · refine hK.out _ _ hre9 (fun hHx => ?_)
                  clear hK KK hHx
                  refine wpAnyH_done (by kernel_rfl) ?_ _
                  have HOUT := hid (And.intro h1 h2)
                  clear h1 h2 hre9 hre hrel5
                  go_wp2_with fail
                  go_ret
                  exact ⟨d9, hb9.trans HBB.out, T1.out.trans KT.out, .inl ⟨by rw [SAB.out.1 (by rw [both_second HS1E.out, ← HZE.out, HOUT.out.1]; simp), both_second HS1E.out, ← HZE.out]; exact HOUT.out.1, rfl, HBB.out ▸ HOUT.out.2⟩⟩
                · refine hK.out _ _ hre9 (fun hHx => ?_)
                  clear hK KK hHx
                  refine wpAnyH_done (by kernel_rfl) ?_ _
                  have HOUT := hid (And.intro h1 (And.intro h2 (And.intro h3 (And.intro h4 h5))))
                  clear h1 h2 h3 h4 h5 hre9 hre hrel5
                  go_wp2_with fail
                  go_ret
                  exact ⟨d9, hb9.trans HBB.out, T1.out.trans KT.out, .inr (.inl ⟨m, mad, mmc, mpv, by rw [SAB.out.1 (by rw [both_second HS1E.out, ← HZE.out, HOUT.out.1]; simp), both_second HS1E.out, ← HZE.out]; exact HOUT.out.1, rfl, HBB.out ▸ HOUT.out.2.1, HBB.out ▸ HOUT.out.2.2.1, HOUT.out.2.2.2.1, HBB.out ▸ HOUT.out.2.2.2.2⟩)⟩
                · refine hK.out _ _ hre9 (fun hHx => ?_)
                  clear hK KK hHx
                  refine wpAnyH_done (by kernel_rfl) ?_ _
                  have X9 := hid h2
                  have HCLO := hid (show srch n F g (A ++ [z]) d1.s d1.P = ⟨.closed, d9.s, d9.P⟩ by rw [h3, h4, ← h1])
                  clear h1 h2 h3 h4 hre9 hre hrel5
                  go_wp2_with fail
                  go_roundg 0
                  case rel => exact ⟨2, d9, by omega, rfl, by go_num, X9.out, T1.out.trans KT.out, hb9.trans HDB.out, BQ1.out.turn KT.out HNO.out, HNB9.out d9 W9 KT.out, .inr (.inr ⟨rfl, by rw [both_second HS1E.out, ← HZE.out]; exact HCLO.out⟩)⟩
                  case measure => omega
              · go_simp
                refine hK.out _ _ (((KWb.out.alloc' _).cell (p := ⟨d2.b + 5, 0, none⟩) hrel5).trans hre) (fun hHx => ?_)
                clear hK KK hHx
                refine at_anyS (fun W' => Keep Wb W' ∧ VarAt Wb.heap.size 3 (.int .i64 z) W') ⟨Keep.alloc _ _, VarAt.new _ _ _⟩ ?_
                rintro Wc ⟨kk, ee⟩
                have KWc := hid (show Keep wr Wc from KWb.out.trans kk)
                have VWc := hid ee
                have EWc := hid (owns_keep EWb.out kk)
                have hne : Wb.heap.size ≠ x1 := fun e => by have := (owns_in EWb.out (g := x1) rfl).2; omega
                have hHWc := ((KWc.out.cell (p := ⟨d2.b + 5, 0, none⟩) hrel5).trans hre)
                clear kk ee
                generalize Wb.heap.size = x5 at VWc hne ⊢
                refine wpAnyH_ready (rs := [3]) (by kernel_rfl) (by simp) ?_
                refine AllReadyH.cons rfl (fun KK hK => ?_) AllReadyH.nil
                refine step_append_ints rfl _ _ rfl wr.heap.size x1 S A (.slice ap A.length ac) rfl EWc.out rfl (N1.out.keep (B := wr.heap.size) (fun b hb => (HS1.out b hb).1) KWc.out) HCAP.out (by omega) KWc.out.size ?_
                intro v3 Wd h1 h2
                have KWd := hid (show Keep wr Wd from Below.grown KWc.out h2 KWc.out.size (fun g hg => (owns_in EWc.out hg).1))
                have IWd := hid (show IntsOwn wr.heap.size v3 A Wd from h1)
                have VWd := hid (VWc.out.grew (g := x1) h2 hne)
                obtain ⟨v3p, v3c, hv3⟩ := IWd.out.ints.len
                subst hv3
                have hHWd := ((KWd.out.cell (p := ⟨d2.b + 5, 0, none⟩) hrel5).trans hre)
                refine hK.out _ _ hHWd (fun hHx => ?_)
                clear hK KK hHx h1 h2
                simp only [Act.put, List.setIfInBounds_toArray, List.set_cons_zero, List.set_cons_succ, List.getElem_toArray, List.getElem_cons_zero, List.getElem_cons_succ]
                refine wpAnyH_ready (rs := [6]) (by kernel_rfl) (by simp) ?_
                refine AllReadyH.cons rfl (fun KK hK => ?_) AllReadyH.nil
                refine step_append_own rfl _ _ 26 rfl wr.heap.size 3 i1 (.int .i64 0) 1 8 Try.underlying26 hi1 hz01 hz11 hz21 rfl (by decide) (.slice v3p A.length v3c) A.length (A.map (Value.int .i64)) rfl IWd.out ⟨x5, 0, none⟩ 1 1 [.int .i64 z] rfl rfl (one_atS VWd.out) one_cellI (by unfold maxLen; omega) (by omega) KWd.out.size ?_
                intro v6 Wf h1 h2 h4
                obtain ⟨g6, cap6, hv6⟩ := owns_shape h1 (Nat.succ_pos _)
                subst hv6
                have KWf := hid (show Keep wr Wf from Below.grown KWd.out h2 KWd.out.size (fun g hg => (owns_in IWd.out hg).1))
                have IWf := hid (show IntsOwn wr.heap.size (.slice (some ⟨g6, 0, none⟩) (A.length + 1) cap6) (A ++ [z]) Wf by unfold IntsOwn; rw [List.length_append, List.map_append]; exact h1)
                have hHWf := ((KWf.out.cell (p := ⟨d2.b + 5, 0, none⟩) hrel5).trans hre)
                refine hK.out _ _ hHWf (fun hHx => ?_)
                clear hK KK hHx h1 h2 h4
                simp only [Act.put, List.setIfInBounds_toArray, List.set_cons_zero, List.set_cons_succ, List.getElem_toArray, List.getElem_cons_zero, List.getElem_cons_succ]
                refine wpAnyH_ready (rs := [7]) (by kernel_rfl) (by simp) ?_
                refine AllReadyH.cons rfl (fun KK hK => ?_) AllReadyH.nil
                have HIH := hid (show Calls Try.prog 54 #[.slice (some ⟨g6, 0, none⟩) (A.length + 1) cap6, .pointer (some ⟨d2.b + 1, 0, none⟩), .pointer (some ⟨d2.b + 4, 0, none⟩), .pointer (some ⟨d2.b, 0, none⟩), .pointer (some ⟨d2.b + 3, 0, none⟩), .pointer (some ⟨d2.b + 5, 0, none⟩)] Wf fun e w' => RDone d1 n F p cap (srch n F g (A ++ [z]) d1.s d1.P) Wf e w' from by
                  have hsp : (A ++ [z]).length = A.length + 1 := by simp
                  have h9 := IH.out d1 (fun b => S b ∨ (Value.slice (some ⟨g6, 0, none⟩) (A.length + 1) cap6).ownBlock = some b) (A ++ [z]) (.slice (some ⟨g6, 0, none⟩) (A.length + 1) cap6) p cap Wf (X1.out.keep KWf.out) ((C1.out.keep (B := wr.heap.size) (fun b hb => (HS1.out b hb).1) KWf.out).mono (fun _ _ => rfl) fun _ h => .inl h) (IWf.out.numsO.mono (fun _ _ => rfl) fun _ h => .inr h) (fun b hb => by
                    rcases hb with hb | hb
                    · exact ⟨Nat.lt_of_lt_of_le (HS1.out b hb).1 KWf.out.size, (HS1.out b hb).2⟩
                    · have h1 := owns_in IWf.out hb
                      exact ⟨h1.2, fun e => by have := X1.out.lt e; omega⟩) (by rw [hsp]; omega) HLZ.out HP1.out (fun k c e => by cases e)
                  rw [HDB.out] at h9
                  exact h9)
                go_simp
                with_reducible refine HIH.out.mono ?_
                rintro e W9 ⟨d9, hb9, ht9, hr9⟩
                have KT := hid (show Turn d1.own d9.own wr W9 from (Turn.keep KWf.out).trans ht9)
                have hre9 : W9.cell? ⟨d2.b + 5, 0, none⟩ = some (.func (.func 54) #[] #[.pointer (some ⟨d2.b + 1, 0, none⟩), .pointer (some ⟨d2.b + 4, 0, none⟩), .pointer (some ⟨d2.b, 0, none⟩), .pointer (some ⟨d2.b + 3, 0, none⟩), .pointer (some ⟨d2.b + 5, 0, none⟩)]) := (KT.out.cell ⟨d2.b + 5, 0, none⟩ hrel5 (fun e => by
                  rcases e with e | e | e | e
                  · have e2 : d2.b + 5 = d1.b + 1 := e; have := HDB.out; omega
                  · have e2 : d2.b + 5 = d1.b + 3 := e; have := HDB.out; omega
                  · have e2 : d2.b + 5 = d1.b + 4 := e; have := HDB.out; omega
                  · have h1 := (X1.out.pr.in (show d1.pv.ownBlock = some (d2.b + 5) from e)).1; have := HDB.out; omega)).trans hre
                clear ht9 HIH
                rcases hr9 with ⟨h1, rfl, h2⟩ | ⟨m, mad, mmc, mpv, h1, rfl, h2, h3, h4, h5⟩ | ⟨h1, rfl, h2, h3, h4⟩
                · refine hK.out _ _ hre9 (fun hHx => ?_)
                  clear hK KK hHx
                  refine wpAnyH_done (by kernel_rfl) ?_ _
                  have HOUT := hid (And.intro h1 h2)
                  clear h1 h2 hre9 hre hrel5
                  go_wp2_with fail
                  go_ret
                  exact ⟨d9, hb9.trans HBB.out, T1.out.trans KT.out, .inl ⟨by rw [SAB.out.1 (by rw [both_second HS1E.out, ← HZE.out, HOUT.out.1]; simp), both_second HS1E.out, ← HZE.out]; exact HOUT.out.1, rfl, HBB.out ▸ HOUT.out.2⟩⟩
                · refine hK.out _ _ hre9 (fun hHx => ?_)
                  clear hK KK hHx
                  refine wpAnyH_done (by kernel_rfl) ?_ _
                  have HOUT := hid (And.intro h1 (And.intro h2 (And.intro h3 (And.intro h4 h5))))
                  clear h1 h2 h3 h4 h5 hre9 hre hrel5
                  go_wp2_with fail
                  go_ret
                  exact ⟨d9, hb9.trans HBB.out, T1.out.trans KT.out, .inr (.inl ⟨m, mad, mmc, mpv, by rw [SAB.out.1 (by rw [both_second HS1E.out, ← HZE.out, HOUT.out.1]; simp), both_second HS1E.out, ← HZE.out]; exact HOUT.out.1, rfl, HBB.out ▸ HOUT.out.2.1, HBB.out ▸ HOUT.out.2.2.1, HOUT.out.2.2.2.1, HBB.out ▸ HOUT.out.2.2.2.2⟩)⟩
                · refine hK.out _ _ hre9 (fun hHx => ?_)
                  clear hK KK hHx
                  refine wpAnyH_done (by kernel_rfl) ?_ _
                  have X9 := hid h2
                  have HCLO := hid (show srch n F g (A ++ [z]) d1.s d1.P = ⟨.closed, d9.s, d9.P⟩ by rw [h3, h4, ← h1])
                  clear h1 h2 h3 h4 hre9 hre hrel5
                  go_wp2_with fail
                  go_roundg 0
                  case rel => exact ⟨2, d9, by omega, rfl, by go_num, X9.out, T1.out.trans KT.out, hb9.trans HDB.out, BQ1.out.turn KT.out HNO.out, HNB9.out d9 W9 KT.out, .inr (.inr ⟨rfl, by rw [both_second HS1E.out, ← HZE.out]; exact HCLO.out⟩)⟩
                  case measure => omega
            · go_simp
              refine hK.out _ _ (((KWa.out.alloc' _).cell (p := ⟨d2.b + 5, 0, none⟩) hrel5).trans hre) (fun hHx => ?_)
              clear hK KK hHx
              refine at_anyS (fun W' => Keep Wa W' ∧ VarAt Wa.heap.size 3 (.int .i64 z) W') ⟨Keep.alloc _ _, VarAt.new _ _ _⟩ ?_
              rintro Wb ⟨kk, ee⟩
              have KWb := hid (show Keep wr Wb from KWa.out.trans kk)
              have VWb := hid ee
              have hHWb := ((KWb.out.cell (p := ⟨d2.b + 5, 0, none⟩) hrel5).trans hre)
              clear kk ee
              generalize Wa.heap.size = x5 at VWb ⊢
              refine wpAnyH_ready (rs := [1]) (by kernel_rfl) (by simp) ?_
              refine AllReadyH.cons rfl (fun KK hK => ?_) AllReadyH.nil
              go_simp
              refine hK.out _ _ (((KWb.out.alloc' _).cell (p := ⟨d2.b + 5, 0, none⟩) hrel5).trans hre) (fun hHx => ?_)
              clear hK KK hHx
              refine at_anyS (fun W' => Keep Wb W' ∧ W'.ownsRow wr.heap.size 3 1 (.slice (some ⟨Wb.heap.size, 0, none⟩) 0 0) 0 []) ⟨Keep.alloc _ _, World.ownsRow_made Wb #[] 0 KWb.out.size (Nat.zero_le _) rfl⟩ ?_
              rintro Wc ⟨kk, ee⟩
              have KWc := hid (show Keep wr Wc from KWb.out.trans kk)
              have EWc := hid ee
              have VWc := hid (VWb.out.keep kk VWb.out.facts.2.2)
              have hne : x5 ≠ Wb.heap.size := fun e => by have := VWb.out.facts.2.2; omega
              have hHWc := ((KWc.out.cell (p := ⟨d2.b + 5, 0, none⟩) hrel5).trans hre)
              clear kk ee
              generalize Wb.heap.size = x1 at EWc hne ⊢
              refine wpAnyH_ready (rs := [3]) (by kernel_rfl) (by simp) ?_
              refine AllReadyH.cons rfl (fun KK hK => ?_) AllReadyH.nil
              refine step_append_ints rfl _ _ rfl wr.heap.size x1 S A (.slice ap A.length ac) rfl EWc.out rfl (N1.out.keep (B := wr.heap.size) (fun b hb => (HS1.out b hb).1) KWc.out) HCAP.out (by omega) KWc.out.size ?_
              intro v3 Wd h1 h2
              have KWd := hid (show Keep wr Wd from Below.grown KWc.out h2 KWc.out.size (fun g hg => (owns_in EWc.out hg).1))
              have IWd := hid (show IntsOwn wr.heap.size v3 A Wd from h1)
              have VWd := hid (VWc.out.grew (g := x1) h2 hne)
              obtain ⟨v3p, v3c, hv3⟩ := IWd.out.ints.len
              subst hv3
              have hHWd := ((KWd.out.cell (p := ⟨d2.b + 5, 0, none⟩) hrel5).trans hre)
              refine hK.out _ _ hHWd (fun hHx => ?_)
              clear hK KK hHx h1 h2
              simp only [Act.put, List.setIfInBounds_toArray, List.set_cons_zero, List.set_cons_succ, List.getElem_toArray, List.getElem_cons_zero, List.getElem_cons_succ]
              refine wpAnyH_ready (rs := [6]) (by kernel_rfl) (by simp) ?_
              refine AllReadyH.cons rfl (fun KK hK => ?_) AllReadyH.nil
              refine step_append_own rfl _ _ 26 rfl wr.heap.size 3 i1 (.int .i64 0) 1 8 Try.underlying26 hi1 hz01 hz11 hz21 rfl (by decide) (.slice v3p A.length v3c) A.length (A.map (Value.int .i64)) rfl IWd.out ⟨x5, 0, none⟩ 1 1 [.int .i64 z] rfl rfl (one_atS VWd.out) one_cellI (by unfold maxLen; omega) (by omega) KWd.out.size ?_
              intro v6 Wf h1 h2 h4
              obtain ⟨g6, cap6, hv6⟩ := owns_shape h1 (Nat.succ_pos _)
              subst hv6
              have KWf := hid (show Keep wr Wf from Below.grown KWd.out h2 KWd.out.size (fun g hg => (owns_in IWd.out hg).1))
              have IWf := hid (show IntsOwn wr.heap.size (.slice (some ⟨g6, 0, none⟩) (A.length + 1) cap6) (A ++ [z]) Wf by unfold IntsOwn; rw [List.length_append, List.map_append]; exact h1)
              have hHWf := ((KWf.out.cell (p := ⟨d2.b + 5, 0, none⟩) hrel5).trans hre)
              refine hK.out _ _ hHWf (fun hHx => ?_)
              clear hK KK hHx h1 h2 h4
              simp only [Act.put, List.setIfInBounds_toArray, List.set_cons_zero, List.set_cons_succ, List.getElem_toArray, List.getElem_cons_zero, List.getElem_cons_succ]
              refine wpAnyH_ready (rs := [7]) (by kernel_rfl) (by simp) ?_
              refine AllReadyH.cons rfl (fun KK hK => ?_) AllReadyH.nil
              have HIH := hid (show Calls Try.prog 54 #[.slice (some ⟨g6, 0, none⟩) (A.length + 1) cap6, .pointer (some ⟨d2.b + 1, 0, none⟩), .pointer (some ⟨d2.b + 4, 0, none⟩), .pointer (some ⟨d2.b, 0, none⟩), .pointer (some ⟨d2.b + 3, 0, none⟩), .pointer (some ⟨d2.b + 5, 0, none⟩)] Wf fun e w' => RDone d1 n F p cap (srch n F g (A ++ [z]) d1.s d1.P) Wf e w' from by
                have hsp : (A ++ [z]).length = A.length + 1 := by simp
                have h9 := IH.out d1 (fun b => S b ∨ (Value.slice (some ⟨g6, 0, none⟩) (A.length + 1) cap6).ownBlock = some b) (A ++ [z]) (.slice (some ⟨g6, 0, none⟩) (A.length + 1) cap6) p cap Wf (X1.out.keep KWf.out) ((C1.out.keep (B := wr.heap.size) (fun b hb => (HS1.out b hb).1) KWf.out).mono (fun _ _ => rfl) fun _ h => .inl h) (IWf.out.numsO.mono (fun _ _ => rfl) fun _ h => .inr h) (fun b hb => by
                  rcases hb with hb | hb
                  · exact ⟨Nat.lt_of_lt_of_le (HS1.out b hb).1 KWf.out.size, (HS1.out b hb).2⟩
                  · have h1 := owns_in IWf.out hb
                    exact ⟨h1.2, fun e => by have := X1.out.lt e; omega⟩) (by rw [hsp]; omega) HLZ.out HP1.out (fun k c e => by cases e)
                rw [HDB.out] at h9
                exact h9)
              go_simp
              with_reducible refine HIH.out.mono ?_
              rintro e W9 ⟨d9, hb9, ht9, hr9⟩
              have KT := hid (show Turn d1.own d9.own wr W9 from (Turn.keep KWf.out).trans ht9)
              have hre9 : W9.cell? ⟨d2.b + 5, 0, none⟩ = some (.func (.func 54) #[] #[.pointer (some ⟨d2.b + 1, 0, none⟩), .pointer (some ⟨d2.b + 4, 0, none⟩), .pointer (some ⟨d2.b, 0, none⟩), .pointer (some ⟨d2.b + 3, 0, none⟩), .pointer (some ⟨d2.b + 5, 0, none⟩)]) := (KT.out.cell ⟨d2.b + 5, 0, none⟩ hrel5 (fun e => by
                rcases e with e | e | e | e
                · have e2 : d2.b + 5 = d1.b + 1 := e; have := HDB.out; omega
                · have e2 : d2.b + 5 = d1.b + 3 := e; have := HDB.out; omega
                · have e2 : d2.b + 5 = d1.b + 4 := e; have := HDB.out; omega
                · have h1 := (X1.out.pr.in (show d1.pv.ownBlock = some (d2.b + 5) from e)).1; have := HDB.out; omega)).trans hre
              clear ht9 HIH
              rcases hr9 with ⟨h1, rfl, h2⟩ | ⟨m, mad, mmc, mpv, h1, rfl, h2, h3, h4, h5⟩ | ⟨h1, rfl, h2, h3, h4⟩
              · refine hK.out _ _ hre9 (fun hHx => ?_)
                clear hK KK hHx
                refine wpAnyH_done (by kernel_rfl) ?_ _
                have HOUT := hid (And.intro h1 h2)
                clear h1 h2 hre9 hre hrel5
                go_wp2_with fail
                go_ret
                exact ⟨d9, hb9.trans HBB.out, T1.out.trans KT.out, .inl ⟨by rw [SAB.out.1 (by rw [both_second HS1E.out, ← HZE.out, HOUT.out.1]; simp), both_second HS1E.out, ← HZE.out]; exact HOUT.out.1, rfl, HBB.out ▸ HOUT.out.2⟩⟩
              · refine hK.out _ _ hre9 (fun hHx => ?_)
                clear hK KK hHx
                refine wpAnyH_done (by kernel_rfl) ?_ _
                have HOUT := hid (And.intro h1 (And.intro h2 (And.intro h3 (And.intro h4 h5))))
                clear h1 h2 h3 h4 h5 hre9 hre hrel5
                go_wp2_with fail
                go_ret
                exact ⟨d9, hb9.trans HBB.out, T1.out.trans KT.out, .inr (.inl ⟨m, mad, mmc, mpv, by rw [SAB.out.1 (by rw [both_second HS1E.out, ← HZE.out, HOUT.out.1]; simp), both_second HS1E.out, ← HZE.out]; exact HOUT.out.1, rfl, HBB.out ▸ HOUT.out.2.1, HBB.out ▸ HOUT.out.2.2.1, HOUT.out.2.2.2.1, HBB.out ▸ HOUT.out.2.2.2.2⟩)⟩
              · refine hK.out _ _ hre9 (fun hHx => ?_)
                clear hK KK hHx
                refine wpAnyH_done (by kernel_rfl) ?_ _
                have X9 := hid h2
                have HCLO := hid (show srch n F g (A ++ [z]) d1.s d1.P = ⟨.closed, d9.s, d9.P⟩ by rw [h3, h4, ← h1])
                clear h1 h2 h3 h4 hre9 hre hrel5
                go_wp2_with fail
                go_roundg 0
                case rel => exact ⟨2, d9, by omega, rfl, by go_num, X9.out, T1.out.trans KT.out, hb9.trans HDB.out, BQ1.out.turn KT.out HNO.out, HNB9.out d9 W9 KT.out, .inr (.inr ⟨rfl, by rw [both_second HS1E.out, ← HZE.out]; exact HCLO.out⟩)⟩
                case measure => omega
          · have HBC := hid hb
            have hgk : gk = 0 := by omega
            clear hb hi3
            have HR := hid (show (srch n F (g + 1) A d.s d.P).o = .closed ∧ (srch n F (g + 1) A d.s d.P).s = d1.s ∧ (srch n F (g + 1) A d.s d.P).P = d1.P ++ [negs A] by
              have h1 := SAB.out.2 (by rw [HBC.out])
              rw [HBC.out] at h1
              rw [h1]; exact ⟨rfl, rfl, rfl⟩)
            have hps9 : d1.P.length ≤ 40000 := by
              have h5 := HR.out
              cases e5 : srch n F (g + 1) A d.s d.P with
              | mk o5 s5 P5 =>
                rw [e5] at h5
                obtain ⟨h6, h7, h8⟩ := h5
                have h6 : o5 = .closed := h6
                subst h6
                have h9 := (srch_closed (g + 1) _ _ _ _ _ (by omega) HLA.out e5).few
                have h8 : P5 = d1.P ++ [negs A] := h8
                rw [h8, List.length_append] at h9
                omega
            have HB9 := hid (HBB.out)
            clear X2 T2 N2 C2 HS2 hps1 hps2 HB2 BQ XA TA HNQ KWQ HNU HNO BQ1 hf0 HPS hq hvl
            obtain ⟨W2o, hW2o⟩ : ∃ x : World, x = W2 := ⟨_, rfl⟩
            have X2 := X1
            have T2 := T1
            have N2 := N1
            have C2 := C1
            have HS2 := HS1
            have hps1 := hps9
            have HB2 := HB9
            clear X1 T1 N1 C1 HS1 hps9 HB9 hW2o
            obtain ⟨wc, hwc⟩ : ∃ x : World, x = wr := ⟨_, rfl⟩
            subst hwc
            rw [HDE.out]
            obtain ⟨i1, hi1, hz01, hz11, hz21⟩ := info_parts infoInt
            have hA60 : A.length ≤ 60 := by omega
            go_wp2_with fail
            go_loopg [15, 105] A.length (fun gk lv iv wq => ∃ j : Nat, j + gk = A.length ∧ iv = .int .i64 j ∧ IntsOwn wc.heap.size lv (negs (A.take j)) wq ∧ Keep wc wq)
            case atStart => exact ⟨0, by omega, rfl, World.ownsRow_made wc #[] 0 (Nat.le_refl _) (Nat.zero_le _) rfl, Keep.alloc _ _⟩
            case round =>
              obtain ⟨j, hj1, rfl, how, hk⟩ := hrel
              have HK := hid hk
              have HOW := hid how
              obtain ⟨lp, lc, hlv⟩ := how.ints.len
              subst hlv
              clear hk how
              by_cases hlt : j < A.length
              · obtain ⟨cb, co, hcp, hcb, hcc⟩ := (N2.out.keep (fun b hb => (HS2.out b hb).1) HK.out).nth hlt
                subst hcp
                have hc1 := hcc j _ (List.getElem?_eq_getElem hlt)
                have hx := HLA.out A[j] (List.getElem_mem hlt)
                have HTK := hid (show negs (A.take (j + 1)) = negs (A.take j) ++ [-A[j]] by unfold negs; rw [List.take_succ_eq_append_getElem hlt, List.map_append]; rfl)
                have hbl := Nat.lt_of_lt_of_le (HS2.out cb hcb).1 HK.out.size
                generalize A[j] = z at hc1 hx HTK
                have hz1' : -1000 ≤ z := by have := hx.2; omega
                have hz2' : z ≤ 1000 := by have := hx.2; omega
                have hjI : (j : Int) < (A.length : Int) := by omega
                have hnl : (negs (A.take j)).length ≤ 60 := by simp [negs]; omega
                have hsz := HK.out.size
                generalize negs (A.take j) = acc at HOW HTK hnl
                clear hcc hx
                go_wp2_with (at_builtin; refine wpList_append_own_at _ rfl _ _ 38 rfl wc.heap.size 3 i1 (.int .i64 0) 1 8 Try.underlying38 hi1 hz01 hz11 hz21 rfl (by decide) (.slice lp acc.length lc) acc.length (acc.map (Value.int .i64)) rfl (HOW.out.alloc _) ⟨wr.heap.size, 0, none⟩ 1 1 [.int .i64 (-z)] rfl rfl one_newsC one_cellI (by unfold maxLen; omega) (by omega) (by have := alloc_size wr (.cells #[.int .i64 (-z)] 3); omega) ?_; intro v5 w5 h1 h2 _ h4; have P5 := hid (ints_push HK.out.size HOW.out h1 h2); clear h1 h2 h4)
                go_roundg (A.length - (j + 1))
                case rel => exact ⟨j + 1, by omega, by go_num, by rw [HTK.out]; exact P5.out.1, Below.trans HK.out P5.out.2⟩
                case measure => omega
              · obtain rfl : j = A.length := by omega
                have HOW2 := hid (show IntsOwn wc.heap.size (.slice lp (negs A).length lc) (negs A) wr by
                  have h1 := HOW.out
                  rw [List.take_length] at h1
                  exact h1)
                rw [List.take_length]
                clear HOW hlt hj1
                have X3 := hid (X2.out.keep HK.out)
                have HNU := hid (show NumsIs (d1.far wr) wr (negs A) (.slice lp (negs A).length lc) from HOW2.out.numsO.mono (fun _ _ => rfl) fun b hb => by
                  have h1 := owns_in HOW2.out hb
                  have h2 := X2.out.nw
                  exact ⟨by omega, h1.2, fun e => by have := (X2.out.pr.in e).2; omega⟩)
                obtain ⟨pp, pc, hpv⟩ := X3.out.pr.shape
                have HPV := hid hpv
                obtain ⟨vs, hvl, how3, hvn⟩ := X3.out.pr
                have HVL := hid hvl
                have HVN := hid hvn
                have HOW3 := hid (show wr.ownsRow (d1.b + 6) 38 1 (.slice pp d1.P.length pc) d1.P.length vs from hpv ▸ how3)
                obtain ⟨hca, hfa, hla⟩ := X3.out.an.facts
                have ha1 : wr.cell? ⟨d1.b + 3, 1, none⟩ = some (.slice pp d1.P.length pc) := (hca 1).trans (congrArg some hpv)
                have hnw := X3.out.nw
                generalize hngl : (negs A).length = ng at HNU HOW2 ⊢
                have HNGL := hid hngl
                clear hvl how3 hvn hca hfa hpv hngl
                go_upto_region 32 with (at_builtin; go_loud (refine wpList_append_own_at _ rfl _ _ 22 rfl (d1.b + 6) 38 i0 (.slice none 0 0) 1 24 Try.underlying22 hi hz0 hz1 hz2 rfl (by decide) (.slice pp d1.P.length pc) d1.P.length vs rfl (HOW3.out.alloc _) ⟨wr.heap.size, 0, none⟩ 1 1 [.slice lp ng lc] rfl rfl one_newsC one_cellC (by unfold maxLen; omega) (by omega) (by rw [alloc_size]; omega) ?_; intro v5 w5 h1 h2 _ h4; obtain ⟨g5, cap5, rfl⟩ := owns_shape h1 (Nat.succ_pos _); have P5 := hid (X3.out.push (c := negs A) HVL.out HVN.out HNU.out (HPV.out ▸ grown_alloc h2) (HPV.out ▸ own_far h4) h1); have hB5 := (show BoxAt (d1.b + 3) 53 #[.slice none 0 0, d1.pv] w5 from by (have h5 := X3.out.an; have h6 := h5.facts.2.2; unfold BoxAt at *; rw [(grown_alloc h2).block _ h6 (fun e => by (have h7 := (X3.out.pr.in (HPV.out ▸ e.symm)).1; omega))]; exact h5)); obtain ⟨hbc5, hbf5, hbl5⟩ := hB5.facts; have hc51 := hbc5 1; have hf51 := hbf5 1; simp only [List.getElem?_toArray, List.getElem?_cons_zero, List.getElem?_cons_succ] at hc51; clear h1 h2 h4 hbc5 hbf5 hB5))
                have HQ := hid (show RM { d1 with pv := .slice (some ⟨g5, 0, none⟩) (d1.P.length + 1) cap5, P := d1.P ++ [negs A] } n F p cap (w5.setCell ⟨d1.b + 3, 1, none⟩ (.slice (some ⟨g5, 0, none⟩) (d1.P.length + 1) cap5)) ∧ Turn d.own ({ d1 with pv := .slice (some ⟨g5, 0, none⟩) (d1.P.length + 1) cap5, P := d1.P ++ [negs A] } : RD).own w (w5.setCell ⟨d1.b + 3, 1, none⟩ (.slice (some ⟨g5, 0, none⟩) (d1.P.length + 1) cap5)) from ⟨P5.out.1, T2.out.trans ((Turn.keep HK.out).trans P5.out.2)⟩)
                refine at_wp (fun W' => RM { d1 with pv := .slice (some ⟨g5, 0, none⟩) (d1.P.length + 1) cap5, P := d1.P ++ [negs A] } n F p cap W' ∧ Turn d.own ({ d1 with pv := .slice (some ⟨g5, 0, none⟩) (d1.P.length + 1) cap5, P := d1.P ++ [negs A] } : RD).own w W') ?_ ?_
                · exact HQ.out
                rintro W6 ⟨hx6, ht6⟩
                have HQ6 := hid (And.intro hx6 ht6)
                clear hx6 ht6 HQ P5 hc51 hf51 hbl5 ha1
                go_wp2_with fail
                go_ret
                exact ⟨{ d1 with pv := .slice (some ⟨g5, 0, none⟩) (d1.P.length + 1) cap5, P := d1.P ++ [negs A] }, HB2.out, HQ6.out.2, .inr (.inr ⟨HR.out.1, rfl, HQ6.out.1, HR.out.2.1.symm, HR.out.2.2.symm⟩)⟩
end Go.Proofs.Ytbblgmkjgcjcaab
