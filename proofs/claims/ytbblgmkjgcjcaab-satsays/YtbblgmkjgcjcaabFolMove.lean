/- follow's move: a clause that watches a literal which doesn't hold any more watches another one, or stays. -/
import Derived.Test.YtbblgmkjgcjcaabFolWatch
import Derived.BigRegion
namespace Go.Proofs.Ytbblgmkjgcjcaab
open Go.RowKit Go.Lib

theorem XM.swap {x : XD} {B : Nat} {w : World} (h : XM x B w) {p g cap i j : Nat} {c : List Int} (hp : x.C[p]? = some c) (hv : x.cv[p]? = some (.slice (some ⟨g, 0, none⟩) c.length cap)) {a b : Int} (ha : c.getD i 0 = a) (hb : c.getD j 0 = b) :
    XM { x with C := x.C.set p (swp c i j) } B ((w.setCell ⟨g, i, none⟩ (.int .i64 b)).setCell ⟨g, j, none⟩ (.int .i64 a)) ∧ Turn x.own ({ x with C := x.C.set p (swp c i j) } : XD).own w ((w.setCell ⟨g, i, none⟩ (.int .i64 b)).setCell ⟨g, j, none⟩ (.int .i64 a)) := by
  have hpl := (List.getElem?_eq_some_iff.1 hp).1
  obtain ⟨h1, t1⟩ := h.setC (i := i) hp hv b
  obtain ⟨h2, t2⟩ := h1.setC (p := p) (g := g) (cap := cap) (c := c.set i b) (i := j) (by simp [hpl]) (by simpa using hv) a
  have e : (x.C.set p (c.set i b)).set p ((c.set i b).set j a) = x.C.set p (swp c i j) := by rw [List.set_set, ← ha, ← hb]; rfl
  simp only [e] at h2 t2
  exact ⟨h2, t1.trans t2⟩
/-- What move leaves. -/
def MoveDone (x : XD) (B p : Nat) (K : List Int) (lit : Int) (c : List Int) (w : World) (e : Ending) (w' : World) : Prop :=
  ∃ (r : Bool) (c' : List Int), e = .returned (.bool r) ∧ Mv K lit c c' r ∧
    ((r = false ∧ XM { x with C := x.C.set p c' } B w' ∧ Turn x.own ({ x with C := x.C.set p c' } : XD).own w w') ∨
     (r = true ∧ ∃ v', XM { x with C := x.C.set p c', rv := x.rv.set ((x.n : Int) + w1 c').toNat v', W := pushW x.n x.W (w1 c') p } B w' ∧ Turn x.own ({ x with C := x.C.set p c', rv := x.rv.set ((x.n : Int) + w1 c').toNat v', W := pushW x.n x.W (w1 c') p } : XD).own w w'))

set_option maxHeartbeats 8000000 in
set_option maxRecDepth 100000 in
theorem move_any (kc : Nat) (J : List Value) (x : XD) (B p bg : Nat) (K : List Int) (lit : Int) (c : List Int) (w : World) (h : XM x B w) (hn : x.n ≤ 1000) (hp : x.C[p]? = some c) (h2 : Two x.n c) (hw : w0 c = lit ∨ w1 c = lit) (hK : Tb x.n K) (hkb : BoxAt bg 3 (K.map (Value.int .i64) ++ J).toArray w) (hbg : ¬ x.own bg)
    (hr : ∀ z, Lit x.n z → (x.W.getD ((x.n : Int) + z).toNat []).length ≤ 1000000) :
    Calls Try.prog 77 #[.pointer (some ⟨x.bx, 0, none⟩), .int .i64 (p : Int), .int .i64 lit, .slice (some ⟨bg, 0, none⟩) (x.n + 1) kc] w fun e w' => MoveDone x B p K lit c w e w' := by
  have HX := hid h
  have HPC := hid hp
  have HPL := hid (List.getElem?_eq_some_iff.1 hp).1
  have HR := hid hr
  have HTW := hid h2
  obtain ⟨v, hcv, hvs, -, ho⟩ := h.cls hp
  obtain ⟨ga, capa, hav, hgal, hac⟩ := h.arr_cell hcv
  have h2l := h2.len
  obtain ⟨g, cap, hve, hgB, hgl, hcap1, hcap2, hcell, hfro, -⟩ := own_cells ho (by omega)
  subst hve
  have HCV := hid hcv
  have hOg : x.own g := .inr (.inr ⟨_, List.mem_of_getElem? hvs, rfl⟩)
  have hgbg : g ≠ bg := fun e => hbg (e ▸ hOg)
  have hc0 : w.cell? ⟨g, 0, none⟩ = some (.int .i64 (c.getD 0 0)) := hcell 0 _ (by simp [ivI, List.getD_eq_getElem?_getD, List.getElem?_eq_getElem (show 0 < c.length by omega)])
  have hc1 : w.cell? ⟨g, 1, none⟩ = some (.int .i64 (c.getD 1 0)) := hcell 1 _ (by simp [ivI, List.getD_eq_getElem?_getD, List.getElem?_eq_getElem (show 1 < c.length by omega)])
  have hf0 := hfro 0
  have hf1 := hfro 1
  obtain ⟨hbc, -, hbl⟩ := h.box.facts
  have hb3 : w.cell? ⟨x.bx, 3, none⟩ = some (.slice (some ⟨ga, 0, none⟩) x.C.length capa) := (hbc 3).trans (congrArg some hav)
  have hpl : p < x.C.length := HPL.out
  have hpi : (p : Int) < (x.C.length : Int) := by omega
  have HKB := hid hkb
  have hlc : c.length ≤ 9223372036854775807 := by unfold maxLen at hcap2; omega
  clear h hp hr hkb hbc hcell hfro hcv ho hvs
  go_enter Try.func77, Try.ntmps77
  by_cases hlit : c.getD 0 0 = lit
  · have hlit' : (c.getD 0 0 == lit) = true := beq_iff_eq.2 hlit
    obtain ⟨c1, hc1e⟩ : ∃ c1, c1 = mv0 lit c := ⟨_, rfl⟩
    have hc1s : c1 = swp c 0 1 := by rw [hc1e]; unfold mv0; rw [if_pos hlit]
    have M1 := hid hc1e
    have HL1 := hid (show c1.length = c.length by rw [hc1e]; exact mv0_len lit c)
    have T1 := hid (show Two x.n c1 by rw [hc1e]; exact (mv0_says HTW.out hw).1)
    have HS1 := hid hc1s
    generalize hce0 : c.getD 0 0 = a0 at hc0 hlit'
    generalize hce1 : c.getD 1 0 = a1 at hc1
    have HCE := hid (And.intro hce0 hce1)
    clear hc1e hc1s hlit hce0 hce1
    go_upto_region 3 with fail
    go_region
    obtain ⟨hS1, hS2⟩ := HX.out.swap (i := 0) (j := 1) HPC.out HCV.out HCE.out.1 HCE.out.2
    rw [← HS1.out] at hS1 hS2
    generalize (w.setCell ⟨g, 0, none⟩ (.int .i64 a1)).setCell ⟨g, 1, none⟩ (.int .i64 a0) = Ws at hS1 hS2 ⊢
    have HP1 := hid (show ({ x with C := x.C.set p c1 } : XD).C[p]? = some c1 from List.getElem?_set_self hpl)
    have HQ := hid (show XM { x with C := x.C.set p c1 } B Ws.drew ∧ BoxAt bg 3 (K.map (Value.int .i64) ++ J).toArray Ws.drew ∧ Turn x.own ({ x with C := x.C.set p c1 } : XD).own w Ws.drew from ⟨hS1.keep (Keep.drew (Keep.refl _)), (HKB.out.turn hS2 hbg).keep (Keep.drew (Keep.refl _)) (Nat.lt_of_lt_of_le HKB.out.facts.2.2 hS2.size), hS2.trans (Turn.keep (Keep.drew (Keep.refl _)))⟩)
    clear hS1 hS2 hc0 hc1 hf0 hf1 hac hb3 hgl
    go_upto_region 4 with fail
    refine at_wp (fun W' => XM { x with C := x.C.set p c1 } B W' ∧ BoxAt bg 3 (K.map (Value.int .i64) ++ J).toArray W' ∧ Turn x.own ({ x with C := x.C.set p c1 } : XD).own w W') ?_ ?_
    · exact HQ.out
    rintro W1 ⟨hX1, hKB1, hTU1⟩
    have X1 := hid hX1
    have KB1 := hid hKB1
    have TU1 := hid hTU1
    clear hX1 hKB1 hTU1 HQ
    -- c1 is the clause with lit as its second one, W1 the world
    have hl1 : c1.length = c.length := HL1.out
    obtain ⟨v1, hv1, -, -, ho1⟩ := X1.out.cls (p := p) (c := c1) HP1.out
    have hvv : v1 = .slice (some ⟨g, 0, none⟩) c.length cap := by
      have : x.cv[p]? = some v1 := hv1
      rw [HCV.out] at this; exact (Option.some.inj this).symm
    subst hvv
    rw [← hl1] at ho1
    obtain ⟨g', cap', e1, -, hgl, hcap1, hcap2, hcell, hfro, -⟩ := own_cells ho1 (by omega)
    cases e1
    have hlen1 : c1.length ≤ 9223372036854775807 := by unfold maxLen at hcap2; omega
    have h0 : W1.cell? ⟨g, 0, none⟩ = some (.int .i64 (c1.getD 0 0)) := hcell 0 _ (by simp [ivI, List.getD_eq_getElem?_getD, List.getElem?_eq_getElem (show 0 < c1.length by omega)])
    have hoL : Lit x.n (c1.getD 0 0) := T1.out.lits _ T1.out.mem0
    have HO := hid (show w0 c1 = c1.getD 0 0 from rfl)
    have hbgc := KB1.out.facts.1
    generalize c1.getD 0 0 = o at h0 hoL HO
    have hoK : o.natAbs < K.length := by rw [hK.len]; have := hoL.2; omega
    have hk0 : W1.cell? ⟨bg, o.natAbs, none⟩ = some (.int .i64 K[o.natAbs]) := by rw [hbgc]; exact kbox_get J hoK
    have HKO := hid (show kn K o = K[o.natAbs] by simp [kn, List.getD_eq_getElem?_getD, hoK])
    generalize K[o.natAbs] = y at hk0 HKO
    have hoa : o.natAbs ≤ x.n := hoL.2
    have hon : (o.natAbs : Int) < (x.n : Int) + 1 := by omega
    have hlen2 : (2 : Int) ≤ (c1.length : Int) := by omega
    have hbgl := KB1.out.facts.2.2
    have hq := hid (show ∀ m, Calls Try.prog 71 #[.int .i64 o] (W1.drewN m) fun e w'' => e = .returned (.int .i64 (o.natAbs : Nat)) ∧ ∃ n', w'' = W1.drewN n' from fun m => by
      refine (variable_any o (W1.drewN m) (by omega)).mono ?_
      rintro e w' ⟨rfl, rfl⟩
      exact ⟨rfl, m, rfl⟩)
    clear hcell hbgc hfro
    go_quiet ((go_at_call 71; exact hq.out _))
    have k2 : Keep W1 (W1.drewN nq) := Keep.drewN (Keep.refl _) _
    have X2 := hid (X1.out.keep k2)
    have KB2 := hid (KB1.out.keep k2 hbgl)
    have TU2 := hid (TU1.out.trans (Turn.keep k2))
    generalize W1.drewN nq = W2 at k2 X2 KB2 TU2
    clear k2 hq h0 hk0 X1 KB1 TU1
    by_cases hy : y = o
    · have hy' : (y == o) = true := by simp [hy]
      have HM := hid (show Mv K lit c c1 false by rw [M1.out]; exact .stay (.inl (by rw [← M1.out, HO.out]; exact HKO.out.trans hy)))
      clear hy
      go_wp2_with fail
      go_ret
      exact ⟨false, c1, rfl, HM.out, .inl ⟨rfl, X2.out, TU2.out⟩⟩
    · have hy' : (y == o) = false := by simp [hy]
      clear hy
      go_wp2_with fail
      go_loopg [10] c1.length (fun gn i wr => ∃ k : Nat, 2 ≤ k ∧ k + gn = c1.length + 2 ∧ k ≤ c1.length ∧ i = .int .i64 k ∧ XM { x with C := x.C.set p c1 } B wr ∧ BoxAt bg 3 (K.map (Value.int .i64) ++ J).toArray wr ∧ Turn x.own ({ x with C := x.C.set p c1 } : XD).own w wr ∧ ∀ j, 2 ≤ j → j < k → kn K (c1.getD j 0) = -(c1.getD j 0))
      case atStart => exact ⟨2, by omega, by omega, by omega, rfl, X2.out, KB2.out, TU2.out, fun j h1 h2 => by omega⟩
      case round =>
        obtain ⟨k, hk2, hkg, hkc, rfl, hxm, hkb, htu, hall⟩ := hrel
        have XR := hid hxm
        have KR := hid hkb
        have TR := hid htu
        have HALL := hid hall
        clear hxm hkb htu hall
        by_cases hlt : k < c1.length
        · obtain ⟨v3, hv3, -, -, ho3⟩ := XR.out.cls (p := p) (c := c1) HP1.out
          have hvv : v3 = .slice (some ⟨g, 0, none⟩) c1.length cap := by
            have : x.cv[p]? = some v3 := hv3
            rw [HCV.out] at this; rw [hl1]; exact (Option.some.inj this).symm
          subst hvv
          obtain ⟨g', cap', e1, hgB, hgl3, -, -, hcell, hfro, -⟩ := own_cells ho3 (by omega)
          cases e1
          have hc1 : wr.cell? ⟨g, 1, none⟩ = some (.int .i64 (c1.getD 1 0)) := hcell 1 _ (by simp [ivI, List.getD_eq_getElem?_getD, List.getElem?_eq_getElem (show 1 < c1.length by omega)])
          have hck : wr.cell? ⟨g, k, none⟩ = some (.int .i64 (c1.getD k 0)) := hcell k _ (by simp [ivI, List.getD_eq_getElem?_getD, List.getElem?_eq_getElem hlt])
          have hf1 := hfro 1
          have hfk := hfro k
          have hzL : Lit x.n (c1.getD k 0) := T1.out.lits _ (mem_getD.2 ⟨k, hlt, rfl⟩)
          obtain ⟨hbgc, -, hbgl3⟩ := KR.out.facts
          generalize hze : c1.getD k 0 = z at hck hzL
          generalize hue : c1.getD 1 0 = u at hc1
          have HZE := hid hze
          have HUE := hid hue
          have hzK : z.natAbs < K.length := by rw [hK.len]; have := hzL.2; omega
          have hkk : wr.cell? ⟨bg, z.natAbs, none⟩ = some (.int .i64 K[z.natAbs]) := by rw [hbgc]; exact kbox_get J hzK
          have HKZ := hid (show kn K z = K[z.natAbs] by simp [kn, List.getD_eq_getElem?_getD, hzK])
          generalize K[z.natAbs] = y2 at hkk HKZ
          have hza : z.natAbs ≤ x.n := hzL.2
          have hzn : (z.natAbs : Int) < (x.n : Int) + 1 := by omega
          have hz1 : -1000 ≤ z := by omega
          have hz2 : z ≤ 1000 := by omega
          have hkI : (k : Int) < (c1.length : Int) := by omega
          have hq := hid (show ∀ m, Calls Try.prog 71 #[.int .i64 z] (wr.drewN m) fun e w'' => e = .returned (.int .i64 (z.natAbs : Nat)) ∧ ∃ n', w'' = wr.drewN n' from fun m => by
            refine (variable_any z (wr.drewN m) (by omega)).mono ?_
            rintro e w' ⟨rfl, rfl⟩
            exact ⟨rfl, m, rfl⟩)
          clear hcell hbgc hfro hze hue
          go_upto_region 9 with fail
          go_quiet ((go_at_call 71; exact hq.out _))
          have k4 : Keep wr (wr.drewN nq) := Keep.drewN (Keep.refl _) _
          have X4 := hid (XR.out.keep k4)
          have KB4 := hid (KR.out.keep k4 hbgl3)
          have TU4 := hid (TR.out.trans (Turn.keep k4))
          have hd1 : (wr.drewN nq).cell? ⟨g, 1, none⟩ = some (.int .i64 u) := (k4.cell (p := ⟨g, 1, none⟩) hgl3).trans hc1
          have hdk : (wr.drewN nq).cell? ⟨g, k, none⟩ = some (.int .i64 z) := (k4.cell (p := ⟨g, k, none⟩) hgl3).trans hck
          have hd1f : (wr.drewN nq).frozen? ⟨g, 1, none⟩ = false := (k4.cells.2 g 1 hgl3).trans hf1
          have hdkf : (wr.drewN nq).frozen? ⟨g, k, none⟩ = false := (k4.cells.2 g k hgl3).trans hfk
          have hgl4 : g < (wr.drewN nq).heap.size := Nat.lt_of_lt_of_le hgl3 k4.size
          generalize wr.drewN nq = W4 at k4 X4 KB4 TU4 hd1 hdk hd1f hdkf hgl4
          clear k4 hq hc1 hck hf1 hfk hkk XR KR TR
          by_cases hy2 : y2 = -z
          · have hy2' : (y2 != -z) = false := by simp [hy2]
            have HN := hid (show ∀ j, 2 ≤ j → j < k + 1 → kn K (c1.getD j 0) = -(c1.getD j 0) from fun j h1 h2 => by
              by_cases e : j = k
              · rw [e, HZE.out]; exact HKZ.out.trans hy2
              · exact HALL.out j h1 (by omega))
            clear hy2
            go_wp2_with fail
            go_roundg (c1.length + 2 - (k + 1))
            case rel => exact ⟨k + 1, by omega, by omega, by omega, by go_num, X4.out, KB4.out, TU4.out, HN.out⟩
            case measure => omega
          · have hy2' : (y2 != -z) = true := by simp [hy2]
            have HM := hid (show Mv K lit c (swp c1 1 k) true by
              rw [M1.out]
              refine .gone hk2 (by omega) ?_
              rw [← M1.out, HZE.out, HKZ.out]; exact hy2)
            clear hy2
            have h1k : (1 : Nat) ≠ k := by omega
            go_upto_region 10 with fail
            go_region
            obtain ⟨hS1, hS2⟩ := X4.out.swap (p := p) (g := g) (cap := cap) (i := 1) (j := k) HP1.out (by rw [hl1]; exact HCV.out) HUE.out HZE.out
            have e5 : (x.C.set p c1).set p (swp c1 1 k) = x.C.set p (swp c1 1 k) := List.set_set ..
            simp only [e5] at hS1 hS2
            have HE1 := hid (show (swp c1 1 k).getD 1 0 = z by rw [swp_getD c1 (by omega) hlt, if_neg h1k, if_pos rfl]; exact HZE.out)
            generalize (W4.setCell ⟨g, 1, none⟩ (.int .i64 z)).setCell ⟨g, k, none⟩ (.int .i64 u) = Ws at hS1 hS2 ⊢
            have k5 : Keep Ws Ws.drew := Keep.drew (Keep.refl _)
            have X5 := hid (hS1.keep k5)
            have TU5 := hid ((TU4.out.trans hS2).trans (Turn.keep k5))
            generalize Ws.drew = W5 at X5 TU5 k5 ⊢
            clear hS1 hS2 k5 hd1 hdk hd1f hdkf hgl4 KB4 TU4 X4
            obtain ⟨v5, hv5, -, -, ho5⟩ := X5.out.cls (p := p) (c := swp c1 1 k) (List.getElem?_set_self hpl)
            have hvv : v5 = .slice (some ⟨g, 0, none⟩) c1.length cap := by
              have : x.cv[p]? = some v5 := hv5
              rw [HCV.out] at this; rw [hl1]; exact (Option.some.inj this).symm
            subst hvv
            rw [swp_len] at ho5
            obtain ⟨g', cap', e6, -, hgl5, -, -, hcell, -, -⟩ := own_cells ho5 (by omega)
            cases e6
            have hc5 : W5.cell? ⟨g, 1, none⟩ = some (.int .i64 z) := hcell 1 _ (by
              have := HE1.out
              rw [List.getD_eq_getElem?_getD] at this
              have h6 : (swp c1 1 k)[1]? = some z := by
                rw [List.getElem?_eq_getElem (by rw [swp_len]; omega)] at this ⊢
                exact congrArg some this
              simp [ivI, h6])
            have HW := hid (watch_any _ B z p W5 X5.out hn hzL (HR.out z hzL))
            clear hcell
            go_wp2_with fail
            refine HW.out.mono ?_
            rintro e w6 ⟨rfl, rv6, hx6, ht6⟩
            have X6 := hid hx6
            have T6 := hid (TU5.out.trans ht6)
            clear hx6 ht6 hc5 HW
            go_wp2_with fail
            go_ret
            exact ⟨true, swp c1 1 k, rfl, HM.out, .inr ⟨rfl, rv6, by unfold w1; rw [HE1.out]; exact X6.out, by unfold w1; rw [HE1.out]; exact T6.out⟩⟩
        · obtain rfl : k = c1.length := by omega
          have HM := hid (show Mv K lit c c1 false by
            rw [M1.out]
            exact .stay (.inr fun j h1 h2 => by rw [← M1.out]; exact HALL.out j h1 (by omega)))
          go_wp2_with fail
          go_ret
          exact ⟨false, c1, rfl, HM.out, .inl ⟨rfl, XR.out, TR.out⟩⟩
  · have hlit' : (c.getD 0 0 == lit) = false := beq_eq_false_iff_ne.2 hlit
    obtain ⟨c1, hc1e⟩ : ∃ c1, c1 = mv0 lit c := ⟨_, rfl⟩
    have M1 := hid hc1e
    have hcc : c1 = c := by rw [hc1e]; unfold mv0; rw [if_neg hlit]
    have HL1 := hid (show c1.length = c.length by rw [hcc])
    have T1 := hid (show Two x.n c1 by rw [hcc]; exact HTW.out)
    have hxe : ({ x with C := x.C.set p c1 } : XD) = x := by rw [hcc, set_get HPC.out]
    have X1 := hid (show XM { x with C := x.C.set p c1 } B w by rw [hxe]; exact HX.out)
    have HP1 := hid (show ({ x with C := x.C.set p c1 } : XD).C[p]? = some c1 by rw [hxe, hcc]; exact HPC.out)
    have KB1 := hid HKB.out
    have TU1 := hid (show Turn x.own ({ x with C := x.C.set p c1 } : XD).own w w by rw [hxe]; exact Turn.refl _ _)
    generalize c.getD 0 0 = a0 at hc0 hlit'
    clear hlit hc1e hcc hxe
    go_upto_region 4 with fail
    have HQ := hid (And.intro X1.out (And.intro KB1.out TU1.out))
    clear X1 KB1 TU1 hc0 hc1 hf0 hf1 hac hb3 hgl
    refine at_wp (fun W' => XM { x with C := x.C.set p c1 } B W' ∧ BoxAt bg 3 (K.map (Value.int .i64) ++ J).toArray W' ∧ Turn x.own ({ x with C := x.C.set p c1 } : XD).own w W') ?_ ?_
    · exact HQ.out
    rintro W1 ⟨hX1, hKB1, hTU1⟩
    have X1 := hid hX1
    have KB1 := hid hKB1
    have TU1 := hid hTU1
    clear hX1 hKB1 hTU1 HQ
    -- c1 is the clause with lit as its second one, W1 the world
    have hl1 : c1.length = c.length := HL1.out
    obtain ⟨v1, hv1, -, -, ho1⟩ := X1.out.cls (p := p) (c := c1) HP1.out
    have hvv : v1 = .slice (some ⟨g, 0, none⟩) c.length cap := by
      have : x.cv[p]? = some v1 := hv1
      rw [HCV.out] at this; exact (Option.some.inj this).symm
    subst hvv
    rw [← hl1] at ho1
    obtain ⟨g', cap', e1, -, hgl, hcap1, hcap2, hcell, hfro, -⟩ := own_cells ho1 (by omega)
    cases e1
    have hlen1 : c1.length ≤ 9223372036854775807 := by unfold maxLen at hcap2; omega
    have h0 : W1.cell? ⟨g, 0, none⟩ = some (.int .i64 (c1.getD 0 0)) := hcell 0 _ (by simp [ivI, List.getD_eq_getElem?_getD, List.getElem?_eq_getElem (show 0 < c1.length by omega)])
    have hoL : Lit x.n (c1.getD 0 0) := T1.out.lits _ T1.out.mem0
    have HO := hid (show w0 c1 = c1.getD 0 0 from rfl)
    have hbgc := KB1.out.facts.1
    generalize c1.getD 0 0 = o at h0 hoL HO
    have hoK : o.natAbs < K.length := by rw [hK.len]; have := hoL.2; omega
    have hk0 : W1.cell? ⟨bg, o.natAbs, none⟩ = some (.int .i64 K[o.natAbs]) := by rw [hbgc]; exact kbox_get J hoK
    have HKO := hid (show kn K o = K[o.natAbs] by simp [kn, List.getD_eq_getElem?_getD, hoK])
    generalize K[o.natAbs] = y at hk0 HKO
    have hoa : o.natAbs ≤ x.n := hoL.2
    have hon : (o.natAbs : Int) < (x.n : Int) + 1 := by omega
    have hlen2 : (2 : Int) ≤ (c1.length : Int) := by omega
    have hbgl := KB1.out.facts.2.2
    have hq := hid (show ∀ m, Calls Try.prog 71 #[.int .i64 o] (W1.drewN m) fun e w'' => e = .returned (.int .i64 (o.natAbs : Nat)) ∧ ∃ n', w'' = W1.drewN n' from fun m => by
      refine (variable_any o (W1.drewN m) (by omega)).mono ?_
      rintro e w' ⟨rfl, rfl⟩
      exact ⟨rfl, m, rfl⟩)
    clear hcell hbgc hfro
    go_quiet ((go_at_call 71; exact hq.out _))
    have k2 : Keep W1 (W1.drewN nq) := Keep.drewN (Keep.refl _) _
    have X2 := hid (X1.out.keep k2)
    have KB2 := hid (KB1.out.keep k2 hbgl)
    have TU2 := hid (TU1.out.trans (Turn.keep k2))
    generalize W1.drewN nq = W2 at k2 X2 KB2 TU2
    clear k2 hq h0 hk0 X1 KB1 TU1
    by_cases hy : y = o
    · have hy' : (y == o) = true := by simp [hy]
      have HM := hid (show Mv K lit c c1 false by rw [M1.out]; exact .stay (.inl (by rw [← M1.out, HO.out]; exact HKO.out.trans hy)))
      clear hy
      go_wp2_with fail
      go_ret
      exact ⟨false, c1, rfl, HM.out, .inl ⟨rfl, X2.out, TU2.out⟩⟩
    · have hy' : (y == o) = false := by simp [hy]
      clear hy
      go_wp2_with fail
      go_loopg [10] c1.length (fun gn i wr => ∃ k : Nat, 2 ≤ k ∧ k + gn = c1.length + 2 ∧ k ≤ c1.length ∧ i = .int .i64 k ∧ XM { x with C := x.C.set p c1 } B wr ∧ BoxAt bg 3 (K.map (Value.int .i64) ++ J).toArray wr ∧ Turn x.own ({ x with C := x.C.set p c1 } : XD).own w wr ∧ ∀ j, 2 ≤ j → j < k → kn K (c1.getD j 0) = -(c1.getD j 0))
      case atStart => exact ⟨2, by omega, by omega, by omega, rfl, X2.out, KB2.out, TU2.out, fun j h1 h2 => by omega⟩
      case round =>
        obtain ⟨k, hk2, hkg, hkc, rfl, hxm, hkb, htu, hall⟩ := hrel
        have XR := hid hxm
        have KR := hid hkb
        have TR := hid htu
        have HALL := hid hall
        clear hxm hkb htu hall
        by_cases hlt : k < c1.length
        · obtain ⟨v3, hv3, -, -, ho3⟩ := XR.out.cls (p := p) (c := c1) HP1.out
          have hvv : v3 = .slice (some ⟨g, 0, none⟩) c1.length cap := by
            have : x.cv[p]? = some v3 := hv3
            rw [HCV.out] at this; rw [hl1]; exact (Option.some.inj this).symm
          subst hvv
          obtain ⟨g', cap', e1, hgB, hgl3, -, -, hcell, hfro, -⟩ := own_cells ho3 (by omega)
          cases e1
          have hc1 : wr.cell? ⟨g, 1, none⟩ = some (.int .i64 (c1.getD 1 0)) := hcell 1 _ (by simp [ivI, List.getD_eq_getElem?_getD, List.getElem?_eq_getElem (show 1 < c1.length by omega)])
          have hck : wr.cell? ⟨g, k, none⟩ = some (.int .i64 (c1.getD k 0)) := hcell k _ (by simp [ivI, List.getD_eq_getElem?_getD, List.getElem?_eq_getElem hlt])
          have hf1 := hfro 1
          have hfk := hfro k
          have hzL : Lit x.n (c1.getD k 0) := T1.out.lits _ (mem_getD.2 ⟨k, hlt, rfl⟩)
          obtain ⟨hbgc, -, hbgl3⟩ := KR.out.facts
          generalize hze : c1.getD k 0 = z at hck hzL
          generalize hue : c1.getD 1 0 = u at hc1
          have HZE := hid hze
          have HUE := hid hue
          have hzK : z.natAbs < K.length := by rw [hK.len]; have := hzL.2; omega
          have hkk : wr.cell? ⟨bg, z.natAbs, none⟩ = some (.int .i64 K[z.natAbs]) := by rw [hbgc]; exact kbox_get J hzK
          have HKZ := hid (show kn K z = K[z.natAbs] by simp [kn, List.getD_eq_getElem?_getD, hzK])
          generalize K[z.natAbs] = y2 at hkk HKZ
          have hza : z.natAbs ≤ x.n := hzL.2
          have hzn : (z.natAbs : Int) < (x.n : Int) + 1 := by omega
          have hz1 : -1000 ≤ z := by omega
          have hz2 : z ≤ 1000 := by omega
          have hkI : (k : Int) < (c1.length : Int) := by omega
          have hq := hid (show ∀ m, Calls Try.prog 71 #[.int .i64 z] (wr.drewN m) fun e w'' => e = .returned (.int .i64 (z.natAbs : Nat)) ∧ ∃ n', w'' = wr.drewN n' from fun m => by
            refine (variable_any z (wr.drewN m) (by omega)).mono ?_
            rintro e w' ⟨rfl, rfl⟩
            exact ⟨rfl, m, rfl⟩)
          clear hcell hbgc hfro hze hue
          go_upto_region 9 with fail
          go_quiet ((go_at_call 71; exact hq.out _))
          have k4 : Keep wr (wr.drewN nq) := Keep.drewN (Keep.refl _) _
          have X4 := hid (XR.out.keep k4)
          have KB4 := hid (KR.out.keep k4 hbgl3)
          have TU4 := hid (TR.out.trans (Turn.keep k4))
          have hd1 : (wr.drewN nq).cell? ⟨g, 1, none⟩ = some (.int .i64 u) := (k4.cell (p := ⟨g, 1, none⟩) hgl3).trans hc1
          have hdk : (wr.drewN nq).cell? ⟨g, k, none⟩ = some (.int .i64 z) := (k4.cell (p := ⟨g, k, none⟩) hgl3).trans hck
          have hd1f : (wr.drewN nq).frozen? ⟨g, 1, none⟩ = false := (k4.cells.2 g 1 hgl3).trans hf1
          have hdkf : (wr.drewN nq).frozen? ⟨g, k, none⟩ = false := (k4.cells.2 g k hgl3).trans hfk
          have hgl4 : g < (wr.drewN nq).heap.size := Nat.lt_of_lt_of_le hgl3 k4.size
          generalize wr.drewN nq = W4 at k4 X4 KB4 TU4 hd1 hdk hd1f hdkf hgl4
          clear k4 hq hc1 hck hf1 hfk hkk XR KR TR
          by_cases hy2 : y2 = -z
          · have hy2' : (y2 != -z) = false := by simp [hy2]
            have HN := hid (show ∀ j, 2 ≤ j → j < k + 1 → kn K (c1.getD j 0) = -(c1.getD j 0) from fun j h1 h2 => by
              by_cases e : j = k
              · rw [e, HZE.out]; exact HKZ.out.trans hy2
              · exact HALL.out j h1 (by omega))
            clear hy2
            go_wp2_with fail
            go_roundg (c1.length + 2 - (k + 1))
            case rel => exact ⟨k + 1, by omega, by omega, by omega, by go_num, X4.out, KB4.out, TU4.out, HN.out⟩
            case measure => omega
          · have hy2' : (y2 != -z) = true := by simp [hy2]
            have HM := hid (show Mv K lit c (swp c1 1 k) true by
              rw [M1.out]
              refine .gone hk2 (by omega) ?_
              rw [← M1.out, HZE.out, HKZ.out]; exact hy2)
            clear hy2
            have h1k : (1 : Nat) ≠ k := by omega
            go_upto_region 10 with fail
            go_region
            obtain ⟨hS1, hS2⟩ := X4.out.swap (p := p) (g := g) (cap := cap) (i := 1) (j := k) HP1.out (by rw [hl1]; exact HCV.out) HUE.out HZE.out
            have e5 : (x.C.set p c1).set p (swp c1 1 k) = x.C.set p (swp c1 1 k) := List.set_set ..
            simp only [e5] at hS1 hS2
            have HE1 := hid (show (swp c1 1 k).getD 1 0 = z by rw [swp_getD c1 (by omega) hlt, if_neg h1k, if_pos rfl]; exact HZE.out)
            generalize (W4.setCell ⟨g, 1, none⟩ (.int .i64 z)).setCell ⟨g, k, none⟩ (.int .i64 u) = Ws at hS1 hS2 ⊢
            have k5 : Keep Ws Ws.drew := Keep.drew (Keep.refl _)
            have X5 := hid (hS1.keep k5)
            have TU5 := hid ((TU4.out.trans hS2).trans (Turn.keep k5))
            generalize Ws.drew = W5 at X5 TU5 k5 ⊢
            clear hS1 hS2 k5 hd1 hdk hd1f hdkf hgl4 KB4 TU4 X4
            obtain ⟨v5, hv5, -, -, ho5⟩ := X5.out.cls (p := p) (c := swp c1 1 k) (List.getElem?_set_self hpl)
            have hvv : v5 = .slice (some ⟨g, 0, none⟩) c1.length cap := by
              have : x.cv[p]? = some v5 := hv5
              rw [HCV.out] at this; rw [hl1]; exact (Option.some.inj this).symm
            subst hvv
            rw [swp_len] at ho5
            obtain ⟨g', cap', e6, -, hgl5, -, -, hcell, -, -⟩ := own_cells ho5 (by omega)
            cases e6
            have hc5 : W5.cell? ⟨g, 1, none⟩ = some (.int .i64 z) := hcell 1 _ (by
              have := HE1.out
              rw [List.getD_eq_getElem?_getD] at this
              have h6 : (swp c1 1 k)[1]? = some z := by
                rw [List.getElem?_eq_getElem (by rw [swp_len]; omega)] at this ⊢
                exact congrArg some this
              simp [ivI, h6])
            have HW := hid (watch_any _ B z p W5 X5.out hn hzL (HR.out z hzL))
            clear hcell
            go_wp2_with fail
            refine HW.out.mono ?_
            rintro e w6 ⟨rfl, rv6, hx6, ht6⟩
            have X6 := hid hx6
            have T6 := hid (TU5.out.trans ht6)
            clear hx6 ht6 hc5 HW
            go_wp2_with fail
            go_ret
            exact ⟨true, swp c1 1 k, rfl, HM.out, .inr ⟨rfl, rv6, by unfold w1; rw [HE1.out]; exact X6.out, by unfold w1; rw [HE1.out]; exact T6.out⟩⟩
        · obtain rfl : k = c1.length := by omega
          have HM := hid (show Mv K lit c c1 false by
            rw [M1.out]
            exact .stay (.inr fun j h1 h2 => by rw [← M1.out]; exact HALL.out j h1 (by omega)))
          go_wp2_with fail
          go_ret
          exact ⟨false, c1, rfl, HM.out, .inl ⟨rfl, XR.out, TR.out⟩⟩
end Go.Proofs.Ytbblgmkjgcjcaab
