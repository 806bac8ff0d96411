/- The closure ask of follow's From: clauses are asked, one behind the other; what is known and what was found grow as the plain function askL says. -/
import Derived.Test.YtkckkjpkidcbnabCnfAdd
namespace Go.Proofs.Ytkckkjpkidcbnab
open Go.RowKit Go.Lib

/-- What is known, at bg, by the variable at bk; what was found, by the variable at bf, in a row of the call's own. -/
structure AskSt (B bk bg bf n : Nat) (fv : Value) (K L : List Int) (w : World) : Prop where
  kv : VarAt bk 26 (.slice (some ⟨bg, 0, none⟩) (n + 1) (n + 1)) w
  kc : BoxAt bg 3 (K.map (Value.int .i64)).toArray w
  len : K.length = n + 1
  fd : VarAt bf 26 fv w
  own : IntsOwn B fv L w
  low : bk < B ∧ bg < B ∧ bf < B ∧ bg ≠ bk ∧ bg ≠ bf ∧ bk ≠ bf ∧ B ≤ w.heap.size
theorem AskSt.keep {B bk bg bf n : Nat} {fv : Value} {K L : List Int} {w w' : World} (h : AskSt B bk bg bf n fv K L w) (k : Keep w w') : AskSt B bk bg bf n fv K L w' := by
  have hl := h.low
  exact ⟨h.kv.keep k h.kv.facts.2.2, h.kc.keep k h.kc.facts.2.2, h.len, h.fd.keep k h.fd.facts.2.2, owns_keep h.own k, hl.1, hl.2.1, hl.2.2.1, hl.2.2.2.1, hl.2.2.2.2.1, hl.2.2.2.2.2.1, Nat.le_trans hl.2.2.2.2.2.2 k.size⟩
theorem AskSt.nums {B bk bg bf n : Nat} {fv : Value} {K L : List Int} {w : World} (h : AskSt B bk bg bf n fv K L w) (hn : n ≤ 1000) : NumsIs (fun b => b = bg) w K (.slice (some ⟨bg, 0, none⟩) (n + 1) (n + 1)) := by
  refine ⟨_, n + 1, by rw [h.len], by rw [h.len]; omega, fun _ => ⟨bg, 0, rfl, rfl, fun j x hx => ?_⟩⟩
  rw [h.kc.facts.1]
  simp [hx]
/-- A literal is known. -/
theorem AskSt.know {B bk bg bf n : Nat} {fv : Value} {K L : List Int} {w : World} (h : AskSt B bk bg bf n fv K L w) (i : Nat) (x : Int) : AskSt B bk bg bf n fv (K.set i x) L (w.setCell ⟨bg, i, none⟩ (.int .i64 x)) := by
  have hl := h.low
  have hso : ∀ b, b ≠ bg → (w.setCell ⟨bg, i, none⟩ (.int .i64 x)).heap[b]? = w.heap[b]? := fun b hb => heap_setO _ _ _ _ hb
  refine ⟨?_, ?_, by simp [h.len], ?_, ?_, ⟨hl.1, hl.2.1, hl.2.2.1, hl.2.2.2.1, hl.2.2.2.2.1, hl.2.2.2.2.2.1, by rw [size_setO]; exact hl.2.2.2.2.2.2⟩⟩
  · have := h.kv; unfold VarAt at *; rw [hso bk (Ne.symm hl.2.2.2.1)]; exact this
  · have := h.kc.set i (.int .i64 x)
    rwa [show (K.map (Value.int .i64)).toArray.setIfInBounds i (.int .i64 x) = ((K.set i x).map (Value.int .i64)).toArray by simp [List.map_set]] at this
  · have := h.fd; unfold VarAt at *; rw [hso bf (Ne.symm hl.2.2.2.2.1)]; exact this
  · exact owns_other h.own fun g hg => hso g (by have := (owns_in h.own hg).1; omega)
/-- A literal is found. -/
theorem AskSt.grew {B bk bg bf n : Nat} {fv v' : Value} {K L : List Int} {x : Int} {w w5 : World} (h : AskSt B bk bg bf n fv K L w) (hg : w.grownBy w5 fv.ownBlock) (h5 : w5.ownsRow B 3 1 v' (L.length + 1) (L.map (Value.int .i64) ++ [.int .i64 x])) :
    VarAt bf 26 fv w5 ∧ AskSt B bk bg bf n v' K (L ++ [x]) (w5.setCell ⟨bf, 0, none⟩ v') := by
  have hl := h.low
  have hin : ∀ b, b < B → fv.ownBlock ≠ some b := fun b hb e => by have := (owns_in h.own e).1; omega
  have hlow : ∀ b, b < B → w5.heap[b]? = w.heap[b]? := fun b hb => hg.block b (by omega) (fun e => hin b hb e.symm)
  have hf5 : VarAt bf 26 fv w5 := by have := h.fd; unfold VarAt at *; rw [hlow bf hl.2.2.1]; exact this
  have hso : ∀ b, b ≠ bf → (w5.setCell ⟨bf, 0, none⟩ v').heap[b]? = w5.heap[b]? := fun b hb => heap_setO _ _ _ _ hb
  refine ⟨hf5, ?_, ?_, h.len, hf5.set v', ?_, ⟨hl.1, hl.2.1, hl.2.2.1, hl.2.2.2.1, hl.2.2.2.2.1, hl.2.2.2.2.2.1, by rw [size_setO]; exact Nat.le_trans hl.2.2.2.2.2.2 hg.size⟩⟩
  · have := h.kv; unfold VarAt at *; rw [hso bk hl.2.2.2.2.2.1, hlow bk hl.1]; exact this
  · have := h.kc; unfold BoxAt at *; rw [hso bg hl.2.2.2.2.1, hlow bg hl.2.1]; exact this
  · unfold IntsOwn
    rw [List.length_append, List.map_append]
    exact owns_other h5 fun g hg => hso g (by have := (owns_in h5 hg).1; omega)

theorem own_apart {v v' : Value} {w : World} {b : Nat} (h : v'.ownBlock = v.ownBlock ∨ ∃ g, v'.ownBlock = some g ∧ w.heap.size ≤ g) (hv : v.ownBlock ≠ some b) (hb : b < w.heap.size) : v'.ownBlock ≠ some b := by
  rcases h with h | ⟨g, h, hg⟩
  · rw [h]; exact hv
  · rw [h]; intro e; have := Option.some.inj e; omega
/-- What a run of ask leaves. -/
def AskDone (B0 B bk bg bf n : Nat) (S : Nat → Prop) (F : List (List Int)) (A : List Int) (cs : List (List Int)) (K L : List Int) (w : World) (e : Ending) (w' : World) : Prop :=
  ∃ fv' K' L', AskSt B bk bg bf n fv' K' L' w' ∧ Below B0 w w' ∧ (∀ b, S b → w'.heap[b]? = w.heap[b]? ∧ fv'.ownBlock ≠ some b) ∧
    ((e = .returned (.bool true) ∧ askL cs K L = some (K', L') ∧ Good n F A K' L') ∨ (e = .returned (.bool false) ∧ askL cs K L = none))
theorem askL_step {cs : List (List Int)} {j : Nat} (h : j < cs.length) (K L : List Int) : askL (cs.drop j) K L = match ask1 K L cs[j] with
    | none => none
    | some (K', L') => askL (cs.drop (j + 1)) K' L' := by
  rw [List.drop_eq_getElem_cons h, askL]
  cases ask1 K L cs[j] <;> rfl

set_option maxHeartbeats 4000000 in
set_option maxRecDepth 100000 in
theorem ask_any (B0 B bk bg bf n : Nat) (S : Nat → Prop) (fv : Value) (F : List (List Int)) (A : List Int) (cs : List (List Int)) (cv : Value) (K L : List Int) (w : World) (h : AskSt B bk bg bf n fv K L w) (hg : Good n F A K L) (hn : n ≤ 1000) (hB : B0 ≤ bk ∧ B0 ≤ bg ∧ B0 ≤ bf)
    (hS : ∀ b, S b → b < w.heap.size ∧ b ≠ bg ∧ b ≠ bf ∧ fv.ownBlock ≠ some b) (hc : ClsIs S w cs cv) (hcs : ∀ c ∈ cs, LitsC n c ∧ (c ∈ F ∨ ∃ a ∈ A, c = [a])) :
    Calls Try.prog 34 #[cv, .pointer (some ⟨bk, 0, none⟩), .pointer (some ⟨bf, 0, none⟩)] w fun e w' => AskDone B0 B bk bg bf n S F A cs K L w e w' := by
  obtain ⟨i0, hi, hz0, hz1, hz2⟩ := info_parts infoInt
  have HST := hid h
  have HG := hid hg
  have HCV := hid hc
  have HCS := hid hcs
  obtain ⟨cp, cc, rfl, hlen⟩ := hc.len
  clear h hg hc hcs
  go_enter Try.func34, Try.ntmps34
  go_wp2_with fail
  go_loopg [11] cs.length (fun gn i wr => ∃ (j : Nat) (fv1 : Value) (K1 L1 : List Int), j + gn = cs.length ∧ i = .int .i64 j ∧ AskSt B bk bg bf n fv1 K1 L1 wr ∧ Good n F A K1 L1 ∧ askL (cs.drop j) K1 L1 = askL cs K L ∧ Below B0 w wr ∧ (∀ b, S b → wr.heap[b]? = w.heap[b]? ∧ fv1.ownBlock ≠ some b))
  case atStart => exact ⟨0, fv, K, L, by simp, rfl, HST.out, HG.out, by simp, Below.refl _ _, fun b hb => ⟨rfl, (hS b hb).2.2.2⟩⟩
  case round =>
    obtain ⟨j, fv1, K1, L1, hj, rfl, hst, hgo, hak, hbe, hsb⟩ := hrel
    have HS1 := hid hst
    have HG1 := hid hgo
    have HAK := hid hak
    have HBE := hid hbe
    have HSB := hid hsb
    clear hst hgo hak hbe hsb
    by_cases hlt : j < cs.length
    · obtain ⟨b, off, cap', cp', cc', hv, hb, -, hcell, hnum, -⟩ := HCV.out.get hlt
      cases hv
      have hcell' : wr.cell? ⟨b, off + j, none⟩ = _ := (World.cell?_of_block (w := w) (a := ⟨b, off + j, none⟩) (HSB.out b hb).1).trans hcell
      have hblw : b < wr.heap.size := World.block_lt_of_cell? wr ⟨b, off + j, none⟩ hcell'
      have HNU := hid (hnum.mono (w' := wr) (S' := fun b => S b ∨ b = bg) (fun p hp => World.cell?_of_block (w := w) (HSB.out _ hp).1) fun _ h => Or.inl h)
      have hcc := HCS.out _ (List.getElem_mem hlt)
      have HSTEP := hid (HAK.out.symm.trans (askL_step hlt K1 L1))
      have HCC := hid hcc
      clear hnum hcell hcc
      generalize cs[j] = c at hcell' HNU HCC HSTEP
      have hk0 := HS1.out.kv.facts
      obtain ⟨hkc, hkf, hkl⟩ := hk0
      obtain ⟨hgc, hgf, hgl⟩ := HS1.out.kc.facts
      obtain ⟨hfc, hff, hfl⟩ := HS1.out.fd.facts
      have hl1 := HS1.out.low
      have HCAN := hid (canHold_any (fun b => S b ∨ b = bg) n c K1 _ _ wr (fun b' hb' => by
        rcases hb' with hb' | hb'
        · exact Nat.lt_of_lt_of_le (hS b' hb').1 HBE.out.size
        · rw [hb']; exact hgl) HNU.out ((HS1.out.nums hn).mono (fun _ _ => rfl) fun _ h => Or.inr h) HCC.out.1 hn HS1.out.len)
      go_wp2_with fail
      refine HCAN.out.mono ?_
      rintro e w1 ⟨rfl, hw1⟩
      rw [hw1]
      clear hw1 HCAN
      have HA1 := hid (show ask1 K1 L1 c = if (canH K1 0 c).2 = true then some (K1, L1) else if (canH K1 0 c).1 = 0 then none else if kn K1 (canH K1 0 c).1 = 0 then some (K1.set (canH K1 0 c).1.natAbs (canH K1 0 c).1, L1 ++ [(canH K1 0 c).1]) else some (K1, L1) from rfl)
      have HGD := hid (ask1_good HG1.out HCC.out.1 HCC.out.2)
      have HIN := hid (fun (h1 : (canH K1 0 c).2 = false) (h2 : (canH K1 0 c).1 ≠ 0) => HCC.out.1 _ ((canH_says HCC.out.1).2.2 h1 h2).1)
      generalize canH K1 0 c = p at HA1 HIN ⊢
      obtain ⟨f, more⟩ := p
      cases more
      · by_cases hf0 : f = 0
        · have hf' : (f == 0) = true := by simp [hf0]
          have HE := hid (show askL cs K L = none by rw [HSTEP.out, HA1.out, if_neg (by simp), if_pos hf0])
          clear hf0
          go_wp2_with fail
          go_ret
          exact ⟨fv1, K1, L1, HS1.out, HBE.out, HSB.out, .inr ⟨rfl, HE.out⟩⟩
        · have hf' : (f == 0) = false := by simp [hf0]
          have hfl := HIN.out rfl hf0
          have HA2 := hid (show ask1 K1 L1 c = if kn K1 f = 0 then some (K1.set f.natAbs f, L1 ++ [f]) else some (K1, L1) by rw [HA1.out, if_neg (by simp), if_neg hf0])
          have hfa : f.natAbs ≤ n := hfl.2
          have hfK : f.natAbs < K1.length := by rw [HS1.out.len]; omega
          have hkk : wr.cell? ⟨bg, f.natAbs, none⟩ = some (.int .i64 K1[f.natAbs]) := by rw [hgc]; simp [hfK]
          have HKN := hid (show kn K1 f = K1[f.natAbs] by simp [kn, List.getD_eq_getElem?_getD, hfK])
          generalize K1[f.natAbs] = y at hkk HKN
          have hq := hid (show ∀ n, Calls Try.prog 36 #[.int .i64 f] (wr.drewN n) fun e w'' => e = .returned (.int .i64 (f.natAbs : Nat)) ∧ ∃ n', w'' = wr.drewN n' from fun n => by
            refine (variable_any f (wr.drewN n) (by omega)).mono ?_
            rintro e w' ⟨rfl, rfl⟩
            exact ⟨rfl, n, rfl⟩)
          have hfn : (f.natAbs : Int) < (n : Int) + 1 := by omega
          clear hf0 hgc
          go_upto_region 8 with fail
          go_quiet ((go_at_call 36; exact hq.out _))
          have k2 : Keep wr (wr.drewN nq) := Keep.drewN (Keep.refl _) _
          have S2 := hid (HS1.out.keep k2)
          have BE2 := hid (Below.trans HBE.out (Below.mono k2 (Nat.le_trans hB.1 (Nat.le_of_lt hkl))))
          have SB2 := hid (fun b (hb : S b) => And.intro ((k2.block b (Nat.lt_of_lt_of_le (hS b hb).1 HBE.out.size)).trans (HSB.out b hb).1) (HSB.out b hb).2)
          generalize wr.drewN nq = W2 at k2 S2 BE2 SB2
          clear k2 hq HS1 HBE HSB hkk hkc hkf hgf hfc hff hcell'
          by_cases hy : y = 0
          · have hy' : (y == 0) = true := by simp [hy]
            have HA3 := hid (show ask1 K1 L1 c = some (K1.set f.natAbs f, L1 ++ [f]) by rw [HA2.out, if_pos (HKN.out.trans hy)])
            have HE := hid (show askL cs K L = askL (cs.drop (j + 1)) (K1.set f.natAbs f) (L1 ++ [f]) by rw [HSTEP.out, HA3.out])
            have HG3 := hid (show Good n F A (K1.set f.natAbs f) (L1 ++ [f]) by
              have := HGD.out
              rw [HA3.out] at this
              exact this.1)
            have hLl := HG1.out.le
            clear hy
            obtain ⟨hkc, hkf, hkl2⟩ := S2.out.kv.facts
            obtain ⟨hgc, hgf, hgl2⟩ := S2.out.kc.facts
            obtain ⟨hfc, hff, hfl2⟩ := S2.out.fd.facts
            have hkk : W2.cell? ⟨bg, f.natAbs, none⟩ = some (.int .i64 K1[f.natAbs]) := by rw [hgc]; simp [hfK]
            have hkfr := hgf f.natAbs
            have hbkg : bk ≠ bg := Ne.symm hl1.2.2.2.1
            clear hgc hgf
            go_upto_region 9 with fail
            go_region_held3 (fun W' => W'.cell? ⟨bk, 0, none⟩ = some (.slice (some ⟨bg, 0, none⟩) (n + 1) (n + 1))) (first | (with_reducible exact hkc) | (with_reducible exact (cell_setO _ _ _ _ hbkg).trans hkc) | go_keep) (first | (go_at_call 36; refine (variable_any f _ (by omega)).mono ?_; rintro e w' ⟨rfl, rfl⟩) | fail)
            have S3 := hid ((S2.out.know f.natAbs f).keep (Keep.drew (Keep.refl _)))
            have BE3 := hid (Below.drew (Below.setCell BE2.out (p := ⟨bg, f.natAbs, none⟩) hB.2.1 (.int .i64 f)))
            have SB3 := hid (fun b (hb : S b) => And.intro (show (W2.setCell ⟨bg, f.natAbs, none⟩ (.int .i64 f)).drew.heap[b]? = w.heap[b]? from (heap_setO W2 bg f.natAbs (.int .i64 f) (hS b hb).2.1).trans (SB2.out b hb).1) (SB2.out b hb).2)
            generalize (W2.setCell ⟨bg, f.natAbs, none⟩ (.int .i64 f)).drew = W3 at S3 BE3 SB3 ⊢
            clear hkc hkf hkl2 hkk hkfr hfc hff hfl2 hgl2 S2 BE2 SB2
            obtain ⟨hfc, hff, hfl3⟩ := S3.out.fd.facts
            have hl3 := S3.out.low
            have HOW := hid S3.out.own
            obtain ⟨fp, fcap, hfv⟩ := S3.out.own.ints.len
            subst hfv
            go_wp2_with (at_builtin; refine wpList_append_own_at _ rfl _ _ 26 rfl B 3 i0 (.int .i64 0) 1 8 Try.underlying26 hi hz0 hz1 hz2 rfl (by decide) (.slice fp L1.length fcap) L1.length (L1.map (Value.int .i64)) rfl (HOW.out.alloc _) ⟨W3.heap.size, 0, none⟩ 1 1 [.int .i64 f] rfl rfl one_newsC one_cellI (by unfold maxLen; omega) (by omega) (by have := alloc_size W3 (.cells #[.int .i64 f] 3); omega) ?_; intro v5 w5 h1 h2 _ h4; obtain ⟨g5, cap5, rfl⟩ := owns_shape h1 (Nat.succ_pos _); have P5 := hid (S3.out.grew (grown_alloc h2) h1); obtain ⟨hfc5, hff5, hfl5⟩ := P5.out.1.facts; have G5 := hid (grown_alloc h2); have O5 := hid (own_far h4); clear h1 h2 h4)
            go_roundg (cs.length - (j + 1))
            case rel => exact ⟨j + 1, _, _, _, by omega, by go_num, P5.out.2, HG3.out, HE.out.symm, Below.setCell (Below.grown BE3.out G5.out (by omega) (fun g hg => Nat.le_trans hB.1 (Nat.le_trans (Nat.le_of_lt hl3.1) (owns_in HOW.out hg).1))) (p := ⟨bf, 0, none⟩) hB.2.2 _, fun b hb => ⟨(heap_setO _ _ _ _ (hS b hb).2.2.1).trans ((G5.out.block b (Nat.lt_of_lt_of_le (hS b hb).1 BE3.out.size) (fun e => (SB3.out b hb).2 e.symm)).trans (SB3.out b hb).1), own_apart O5.out (SB3.out b hb).2 (Nat.lt_of_lt_of_le (hS b hb).1 BE3.out.size)⟩⟩
            case measure => omega
          · have hy' : (y == 0) = false := by simp [hy]
            have HE := hid (show askL cs K L = askL (cs.drop (j + 1)) K1 L1 by rw [HSTEP.out, HA2.out, if_neg (by rw [HKN.out]; exact hy)])
            clear hy
            go_wp2_with fail
            go_roundg (cs.length - (j + 1))
            case rel => exact ⟨j + 1, fv1, K1, L1, by omega, by go_num, S2.out, HG1.out, HE.out.symm, BE2.out, SB2.out⟩
            case measure => omega
      · have HE := hid (show askL cs K L = askL (cs.drop (j + 1)) K1 L1 by rw [HSTEP.out, HA1.out, if_pos rfl])
        go_wp2_with fail
        go_roundg (cs.length - (j + 1))
        case rel => exact ⟨j + 1, fv1, K1, L1, by omega, by go_num, HS1.out, HG1.out, HE.out.symm, HBE.out, HSB.out⟩
        case measure => omega
    · obtain rfl : j = cs.length := by omega
      have HE := hid (show askL cs K L = some (K1, L1) by rw [← HAK.out, List.drop_length, askL])
      go_wp2_with fail
      go_ret
      exact ⟨fv1, K1, L1, HS1.out, HBE.out, HSB.out, .inl ⟨rfl, HE.out, HG1.out⟩⟩
end Go.Proofs.Ytkckkjpkidcbnab
