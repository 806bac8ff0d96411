/- follow.New and Add: the table of what stands where. -/
import Derived.Test.YtkckkjpkidcbnabCnfTab
import Derived.OwnWalk
namespace Go.Proofs.Ytkckkjpkidcbnab
open Go.RowKit Go.Lib

theorem enter_short1 (args : Array Value) (w : World) : (callFunc 39 args).run Try.prog w = .ok (.enter 39 args) w := enters_of Try.func39 (by kernel_rfl) rfl args w
set_option maxHeartbeats 1000000 in
theorem isShort_any (S : Nat → Prop) (c : List Int) (cv : Value) (w : World) (hS : ∀ b, S b → b < w.heap.size) (hc : NumsIs S w c cv) :
    Calls Try.prog 33 #[cv] w fun e w' => e = .returned (.bool (shortB c)) ∧ Keep w w' := by
  have hmf : ∀ (fn : Fn) (first cap : Array Value) (w : World), (Instr.makeFunc fn first cap).run Try.prog w = .ok (.func fn first cap) w := fun _ _ _ _ => rfl
  have HC := hid hc
  obtain ⟨cp, cc, rfl, hcl⟩ := hc.shape
  have HB := hid (show shortB c = !c.any fun x => !(x == c.headD 0) from rfl)
  clear hc
  go_enter Try.func33, Try.ntmps33
  go_wp2_with fail
  refine at_calls (fun W' => Keep w W' ∧ VarAt w.heap.size 38 (.slice cp c.length cc) W') ⟨Keep.alloc _ _, VarAt.new _ _ _⟩ ?_
  rintro W0 ⟨k0, v0⟩
  have hS0 : ∀ b, S b → b < W0.heap.size := fun b hb => Nat.lt_of_lt_of_le (hS b hb) k0.size
  have hc0 := HC.out.keep hS k0
  refine (hasC_any (cap := #[.pointer (some ⟨w.heap.size, 0, none⟩)]) S c (fun x => !(x == c.headD 0)) cp cc W0 hS0 enter_short1 hc0 (fun x hx => short1_any S c _ _ x W0 hS0 hc0 v0 (List.length_pos_of_mem hx))).mono ?_
  rintro e w1 ⟨rfl, hw1⟩
  rw [hw1]
  have K0 := hid k0
  generalize (c.any fun x => !(x == c.headD 0)) = β at HB ⊢
  clear hw1 k0 v0 hS0 hc0 hmf
  go_wp2_with fail
  go_ret
  exact ⟨ret_bool HB.out.symm, K0.out⟩
theorem made_one (v : Value) (hv : v.cells = #[v]) (n : Nat) : (madeCells v.cells (n * 1)).toList = List.replicate n v := by
  rw [hv, Nat.mul_one]
  apply List.ext_getElem
  · simp [madeCells]
  · intro i h1 h2
    simp [madeCells, Nat.mod_one]
/-- A row that was made whole lies in a block of its own. -/
theorem made_box {w w' : World} {B T n : Nat} {v : Value} (hv : v.cells = #[v]) (h : w'.ownsRow B T 1 (.slice (some ⟨w.heap.size, 0, none⟩) n n) n (madeCells v.cells (n * 1)).toList) : BoxAt w.heap.size T (List.replicate n v).toArray w' := by
  obtain ⟨h1, ⟨h2, -⟩ | ⟨g, cap, cur, h2, e2, e3, e4, e5, e6, e7⟩⟩ := h
  · cases h2
  · cases h2
    unfold BoxAt
    rw [e3]
    rw [made_one v hv, List.take_of_length_le (by simp; omega)] at e7
    rw [← e7]
theorem infoRow : (Try.prog.info? 22).map (fun i => (i.zero, i.size, i.bytes)) = some (some (.slice none 0 0), 1, 24) := by kernel_rfl
theorem infoCl : (Try.prog.info? 38).map (fun i => (i.zero, i.size, i.bytes)) = some (some (.slice none 0 0), 1, 24) := by kernel_rfl
set_option maxHeartbeats 1000000 in
theorem new_any (S : Nat → Prop) (n : Nat) (w : World) (hS : ∀ b, S b → b < w.heap.size) (hn : n ≤ 1000) :
    Calls Try.prog 24 #[.int .i64 n] w fun e w' => ∃ bx bw, e = .returned (.pointer (some ⟨bx, 0, none⟩)) ∧ w.heap.size ≤ bx ∧ w.heap.size ≤ bw ∧ Keep w w' ∧ Cls w'.heap.size S bx bw n (.slice none 0 0) (List.replicate (2 * n + 1) (.slice none 0 0)) [] (List.replicate (2 * n + 1) []) w' := by
  have h1 : (n : Int) ≤ 1000 := by omega
  obtain ⟨i0, hi, hz0, hz1, hz2⟩ := info_parts infoRow
  have e1 : 2 * (n : Int) + 1 = ((2 * n + 1 : Nat) : Int) := by omega
  have HEQ := hid e1
  clear e1
  go_enter Try.func24, Try.ntmps24
  go_wp2_with (at_make; refine wpList_make_full _ rfl _ _ 58 rfl w.heap.size 22 i0 (.slice none 0 0) 1 Try.underlying58 hi hz0 hz1 .i64 .i64 (2 * (n : Int) + 1) (2 * (n : Int) + 1) (2 * n + 1) rfl rfl HEQ.out HEQ.out (by rw [hz2]; omega) (by unfold maxLen; omega) (Nat.le_refl _) ?_; intro w1 h1 h2)
  have hbw := made_box (v := .slice none 0 0) rfl h1
  have k1 : Keep w w1 := ⟨h2.os, h2.tape, h2.output, h2.size, fun b hb => h2.block b hb (by simp)⟩
  have hlt := hbw.facts.2.2
  go_ret
  refine ⟨_, w.heap.size, rfl, k1.size, Nat.le_refl _, k1.alloc' _, BoxAt.new _ _ _, hbw.keep (Keep.alloc _ _) hlt, ?_, by simp, ⟨by simp, by rw [alloc_size]; omega, by omega, Nat.le_refl _⟩, fun b hb => ?_⟩
  · exact Tab.none _ S (2 * n + 1 + 1) _
  · have := hS b hb; rw [alloc_size]; omega

theorem take_foldl {n j : Nat} {R : List (List (List Int))} {F : List (List Int)} (h : j < F.length) : addL n R (F.take (j + 1)) = addC n (addL n R (F.take j)) F[j] := by
  unfold addL
  rw [List.take_succ_eq_append_getElem h, List.foldl_append]; rfl
theorem take_foldC {n j : Nat} {R : List (List (List Int))} {c : List Int} (h : j < c.length) : (c.take (j + 1)).foldl (putL n c) R = putL n c ((c.take j).foldl (putL n c) R) c[j] := by
  rw [List.take_succ_eq_append_getElem h, List.foldl_append]; rfl
theorem one_newsC {w : World} {T : TypeId} {v : Value} : ∀ j u, [v][j]? = some u → (w.alloc (.cells #[v] T)).cell? ((⟨w.heap.size, 0, none⟩ : Addr).add j) = some u := by
  intro j u h
  cases j with
  | zero =>
    have : v = u := by simpa using h
    subst this
    simp [Addr.add]
  | succ j => simp at h
theorem one_cellC {p : Option Addr} {n c : Nat} (u : Value) (h : u ∈ [Value.slice p n c]) : u.oneCell' = true := by rw [List.mem_singleton.1 h]; rfl
theorem putL_bound {n M : Nat} {c : List Int} {R : List (List (List Int))} {x : Int} (h : ∀ r ∈ R, r.length ≤ M) : ∀ r ∈ putL n c R x, r.length ≤ M + 1 := by
  intro r hr
  rcases List.mem_or_eq_of_mem_set hr with h1 | h1
  · have := h r h1; omega
  · rw [h1, List.length_append, List.length_singleton]
    have : (R.getD ((n : Int) + x).toNat []).length ≤ M := by
      rw [List.getD_eq_getElem?_getD]
      cases e : R[((n : Int) + x).toNat]? with
      | none => simp
      | some r' => simpa using h r' (List.mem_of_getElem? e)
    omega

set_option maxHeartbeats 4000000 in
set_option maxRecDepth 100000 in
theorem add_any (B : Nat) (S : Nat → Prop) (bx bw n M : Nat) (sv : Value) (rv : List Value) (sh : List (List Int)) (R : List (List (List Int))) (F : List (List Int)) (fv : Value) (w : World) (h : Cls B S bx bw n sv rv sh R w) (hn : n ≤ 1000)
    (hf : ClsIs S w F fv) (hF : ∀ c ∈ F, c.length ≤ 60 ∧ LitsC n c) (hM : sh.length ≤ M ∧ ∀ r ∈ R, r.length ≤ M) (hML : M + 61 * F.length ≤ 1000000000) :
    Calls Try.prog 25 #[.pointer (some ⟨bx, 0, none⟩), fv] w fun e w' => e = .returned (.tuple #[]) ∧ Apart (TabOwn bx bw) w w' ∧ ∃ sv' rv', Cls B S bx bw n sv' rv' (sh ++ F.filter shortB) (addL n R F) w' := by
  obtain ⟨i0, hi, hz0, hz1, hz2⟩ := info_parts infoCl
  have HM := hid hM
  have HF := hid hF
  have HFV := hid hf
  have HC := hid h
  obtain ⟨fp, fc, rfl, hlen⟩ := hf.len
  have hlow := h.low
  have hSB : ∀ b, S b → b < B := fun b hb => (h.old b hb).1
  clear hM hF hf h
  go_enter Try.func25, Try.ntmps25
  go_wp2_with fail
  go_loopg [10] F.length (fun gk i wr => ∃ (j : Nat) (sv' : Value) (rv' : List Value), j + gk = F.length ∧ i = .int .i64 j ∧ Apart (TabOwn bx bw) w wr ∧ Cls B S bx bw n sv' rv' (sh ++ (F.take j).filter shortB) (addL n R (F.take j)) wr ∧ (sh ++ (F.take j).filter shortB).length ≤ M + 61 * j ∧ (∀ r ∈ addL n R (F.take j), r.length ≤ M + 61 * j))
  case atStart => exact ⟨0, sv, rv, by simp, rfl, Apart.refl _ _, by simpa [addL] using HC.out, by simpa using HM.out.1, by simpa [addL] using HM.out.2⟩
  case round =>
    obtain ⟨j, sv1, rv1, hj, rfl, ha1, hc1, hm1, hm2⟩ := hrel
    have HA := hid ha1
    have HC1 := hid hc1
    have HM1 := hid hm1
    have HM2 := hid hm2
    clear ha1 hc1 hm1 hm2
    by_cases hlt : j < F.length
    · have hl1 := HC1.out.low
      have hSw : ∀ b, S b → b < w.heap.size := fun b hb => Nat.lt_of_lt_of_le (hSB b hb) hlow.2.2.2
      have hno : ∀ b, S b → ¬ TabOwn bx bw w b := fun b hb => HC.out.no (HC.out.old b hb)
      have hcells : ∀ W, Apart (TabOwn bx bw) w W → ∀ p : Addr, S p.block → W.cell? p = w.cell? p := fun W ha p hp => ha.cell p (hSw _ hp) (hno _ hp)
      obtain ⟨b, off, cap', cp', cc', hv, hb, -, hcell, hnum, -⟩ := HFV.out.get hlt
      cases hv
      rw [← hcells wr HA.out ⟨b, off + j, none⟩ hb] at hcell
      have hcF := HF.out _ (List.getElem_mem hlt)
      have HT := hid (take_foldl (n := n) (R := R) hlt)
      have HSH := hid (show sh ++ (F.take (j + 1)).filter shortB = (sh ++ (F.take j).filter shortB) ++ (bif shortB F[j] then [F[j]] else []) by
        rw [List.take_succ_eq_append_getElem hlt, List.filter_append, List.append_assoc]
        cases h : shortB F[j] <;> simp [h])
      have HNUM := hid hnum
      have HCF := hid hcF
      have hbl : b < wr.heap.size := Nat.lt_of_lt_of_le (hSw b hb) HA.out.size
      have hS1 : ∀ b, S b → b < wr.heap.size := fun b hb => Nat.lt_of_lt_of_le (hSw b hb) HA.out.size
      have hcl60 := hcF.1
      clear hnum hcF
      generalize F[j] = c at hcell HNUM HCF HT HSH hcl60
      generalize sh ++ (F.take j).filter shortB = sh1 at HSH HC1 HM1
      generalize addL n R (F.take j) = R1 at HT HC1 HM2
      go_wp2_with fail
      refine (isShort_any S c _ wr hS1 (HNUM.out.mono (hcells wr HA.out) fun _ h => h)).mono ?_
      rintro e w1 ⟨rfl, k1⟩
      have C1 := hid (HC1.out.keep k1)
      have A1 := hid (tab_keep (Nat.lt_of_lt_of_le hl1.1 hl1.2.2.2) (Nat.lt_of_lt_of_le hl1.2.1 hl1.2.2.2) k1)
      generalize shortB c = β at HSH ⊢
      clear k1
      go_upto_if 15 with fail
      go_cut [] from 16 to 25 (fun wc => ∃ (sv2 : Value), Apart (TabOwn bx bw) wr wc ∧ Cls B S bx bw n sv2 rv1 (sh ++ (F.take (j + 1)).filter shortB) R1 wc)
      case first =>
        cases β
        · go_wp2_with fail
          go_meet
          exact ⟨sv1, A1.out, by rw [HSH.out]; exact (List.append_nil sh1).symm ▸ C1.out⟩
        · obtain ⟨xs, hx1, hx2, hx3⟩ := C1.out.tab.row 0 sv1 _ rfl rfl
          have HX2 := hid hx2
          have HX := hid (And.intro hx1 hx3)
          have HN1 := hid (HNUM.out.mono (hcells w1 (HA.out.trans A1.out)) fun _ h => h)
          have hb1 := HC1.out.low.2.2.2
          have hsz1 := A1.out.size
          have hshl := HM1.out
          obtain ⟨hcb, hfb, hlb⟩ := C1.out.box.facts
          obtain ⟨sp, sc, hsv⟩ := (C1.out.tab.row 0 sv1 _ rfl rfl).shape
          have HSV := hid hsv
          have hc0 := hcb 0
          have hc1' := hcb 1
          clear hx1 hx2 hx3 hsv hcb
          go_wp2_with (at_builtin; refine wpList_append_own_at _ rfl _ _ 22 rfl B 38 i0 (.slice none 0 0) 1 24 Try.underlying22 hi hz0 hz1 hz2 rfl (by decide) sv1 _ xs rfl (HX2.out.alloc _) ⟨w1.heap.size, 0, none⟩ 1 1 [.slice cp' c.length cc'] rfl rfl one_newsC one_cellC (by unfold maxLen; omega) (by omega) (by have := alloc_size w1 (.cells #[.slice cp' c.length cc'] 38); omega) ?_; intro v5 w5 h1 h2 _ h4; obtain ⟨g5, cap5, rfl⟩ := owns_shape h1 (Nat.succ_pos _); have P5 := hid (C1.out.putShort HX.out HN1.out (grown_alloc h2) (own_far h4) h1); obtain ⟨hcb5, hfb5, hlb5⟩ := (C1.out.grew (i := 0) rfl rfl HX.out HN1.out (grown_alloc h2) (own_far h4) h1).1.facts; clear h1 h2 h4)
          go_meet
          exact ⟨_, A1.out.trans P5.out.2, by rw [HSH.out]; exact P5.out.1⟩
      case rest =>
        obtain ⟨sv2, ha2, hc2⟩ := hcut
        have HA2 := hid (HA.out.trans ha2)
        have HC2 := hid hc2
        have HSHL := hid (show (sh ++ (F.take (j + 1)).filter shortB).length ≤ M + 61 * (j + 1) by
          rw [HSH.out, List.length_append]
          have := HM1.out
          cases β <;> simp <;> omega)
        generalize hs2e : sh ++ (F.take (j + 1)).filter shortB = sh2 at HC2 HSHL
        have HS2 := hid hs2e
        clear hs2e
        clear ha2 hc2 HSH HC1 HM1 C1 A1 HA hl1 hS1 hbl hcell
        go_wp2_with fail
        go_loopg [28] c.length (fun gk i wi => ∃ (m : Nat) (rv3 : List Value), m + gk = c.length ∧ i = .int .i64 m ∧ Apart (TabOwn bx bw) w wi ∧ Cls B S bx bw n sv2 rv3 sh2 ((c.take m).foldl (putL n c) R1) wi ∧ (∀ r ∈ (c.take m).foldl (putL n c) R1, r.length ≤ M + 61 * j + m))
        case atStart => exact ⟨0, rv1, by simp, rfl, HA2.out, by simpa using HC2.out, by simpa using HM2.out⟩
        case round =>
          obtain ⟨m, rv3, hm, rfl, ha3, hc3, hm3⟩ := hrel
          have HA3 := hid ha3
          have HC3 := hid hc3
          have HM3 := hid hm3
          clear ha3 hc3 hm3
          by_cases hmlt : m < c.length
          · obtain ⟨cb, co, hcp, hcb, hcell⟩ := (HNUM.out.mono (hcells wr HA3.out) fun _ h => h).cellD hmlt
            subst hcp
            have hxl := HCF.out.2 _ (List.getElem_mem hmlt)
            have HT3 := hid (take_foldC (n := n) (R := R1) hmlt)
            generalize c[m] = x at hcell hxl HT3
            obtain ⟨q, hq⟩ : ∃ q : Nat, (n : Int) + x = q := ⟨((n : Int) + x).toNat, by have := hxl.2; omega⟩
            have hq2 : q < 2 * n + 1 := by have := hxl.2; omega
            generalize (c.take m).foldl (putL n c) R1 = R3 at HT3 HC3 HM3
            have hqv : q < rv3.length := by rw [HC3.out.rlen]; exact hq2
            have hqr : q < R3.length := by rw [HC3.out.len]; exact hq2
            obtain ⟨xs, hx1, hx2, hx3⟩ := HC3.out.tab.row (q + 1) rv3[q] R3[q] (by simp [hqv]) (by simp [hqr])
            obtain ⟨vp, vc, hvs⟩ := (HC3.out.tab.row (q + 1) rv3[q] R3[q] (by simp [hqv]) (by simp [hqr])).shape
            have hrl := HM3.out _ (List.getElem_mem hqr)
            have HRV := hid (List.getElem?_eq_getElem hqv)
            have HRR := hid (List.getElem?_eq_getElem hqr)
            have HPU := hid (show putL n c R3 x = R3.set q (R3[q] ++ [c]) by unfold putL; rw [hq, Int.toNat_natCast, List.getD_eq_getElem?_getD, List.getElem?_eq_getElem hqr]; rfl)
            have hac : wr.cell? ⟨bw, q, none⟩ = some rv3[q] := by rw [HC3.out.arr.facts.1]; simp [hqv]
            generalize rv3[q] = v at hx2 hvs HRV hac
            generalize R3[q] = r at hx1 hx2 hx3 hvs hrl HRR HPU
            subst hvs
            have HX2 := hid hx2
            have HX := hid (And.intro hx1 hx3)
            obtain ⟨hbc, hbf, hbl⟩ := HC3.out.box.facts
            obtain ⟨-, hwf, hwl⟩ := HC3.out.arr.facts
            have hl3 := HC3.out.low
            have hcbl : cb < wr.heap.size := Nat.lt_of_lt_of_le (hSB cb hcb) hl3.2.2.2
            have hb0 : wr.cell? ⟨bx, 0, none⟩ = some (.int .i64 n) := hbc 0
            have hb2 : wr.cell? ⟨bx, 2, none⟩ = some (.slice (some ⟨bw, 0, none⟩) (2 * n + 1) (2 * n + 1)) := hbc 2
            clear hx1 hx2 hx3 hbc
            have HN3 := hid (HNUM.out.mono (hcells wr HA3.out) fun _ h => h)
            go_upto_region 8 with fail
            clear hcell
            have hq0 : (0 : Int) ≤ q := by omega
            have hxw : bx ≠ bw := hl3.2.2.1
            have hq3 : (q : Int) < 2 * n + 1 := by omega
            have hqw : IntKind.i64.wrap (q : Int) = q := by rw [IntKind.wrap_i64]; omega
            have hSA : ∀ o : Obj, (wr.drew.alloc o).cell? ⟨bx, 0, none⟩ = some (.int .i64 n) ∧ (wr.drew.alloc o).cell? ⟨bx, 2, none⟩ = some (.slice (some ⟨bw, 0, none⟩) (2 * n + 1) (2 * n + 1)) := fun o => ⟨(((Keep.drew (Keep.refl wr)).alloc' o).cell (p := ⟨bx, 0, none⟩) hbl).trans hb0, (((Keep.drew (Keep.refl wr)).alloc' o).cell (p := ⟨bx, 2, none⟩) hbl).trans hb2⟩
            have hac2 : wr.drew.cell? ⟨bw, q, none⟩ = some (.slice vp r.length vc) := hac
            have hac3 : ∀ o : Obj, (wr.drew.alloc o).cell? ⟨bw, q, none⟩ = some (.slice vp r.length vc) := fun o => (((Keep.drew (Keep.refl wr)).alloc' o).cell (p := ⟨bw, q, none⟩) hwl).trans hac
            refine wp_region_held_drew (S := fun W' => W'.cell? ⟨bx, 0, none⟩ = some (.int .i64 n) ∧ W'.cell? ⟨bx, 2, none⟩ = some (.slice (some ⟨bw, 0, none⟩) (2 * n + 1) (2 * n + 1))) (by kernel_rfl) ⟨hb0, hb2⟩ (fun hHeld => ?_)
            refine wpAnyH_take (i := 0) (v := ?_) rfl (by kernel_rfl) (by kernel_rfl) (by kernel_rfl) (fun _ _ _ h => h) (Or.inl ⟨by rfl, ?_⟩) (by assumption) ?_
            rotate_left
            · intro w hSw
              (try dsimp only at hSw)
              go_simp
              try with_reducible rfl
            simp only [Act.put, List.setIfInBounds_toArray, List.set_cons_zero, List.set_cons_succ, List.getElem_toArray, List.getElem_cons_zero]
            refine wpAnyH_take (i := 1) (v := ?_) rfl (by kernel_rfl) (by kernel_rfl) (by kernel_rfl) (fun _ _ _ h => h) (Or.inl ⟨by rfl, ?_⟩) (by assumption) ?_
            rotate_left
            · intro w hSw
              (try dsimp only at hSw)
              go_simp
              try with_reducible rfl
            simp only [Act.put, List.setIfInBounds_toArray, List.set_cons_zero, List.set_cons_succ, List.getElem_toArray, List.getElem_cons_zero, List.getElem_cons_succ]
            refine wpAnyH_take (i := 2) (v := ?_) rfl (by kernel_rfl) (by kernel_rfl) (by kernel_rfl) (fun _ _ _ h => h) (Or.inl ⟨by rfl, ?_⟩) (by assumption) ?_
            rotate_left
            · intro w hSw
              (try dsimp only at hSw)
              go_simp
              try with_reducible rfl
            simp only [Act.put, List.setIfInBounds_toArray, List.set_cons_zero, List.set_cons_succ, List.getElem_toArray, List.getElem_cons_zero, List.getElem_cons_succ]
            refine wpAnyH_take (i := 3) (v := ?_) rfl (by kernel_rfl) (by kernel_rfl) (by kernel_rfl) (fun _ _ _ h => h) (Or.inl ⟨by rfl, ?_⟩) (by assumption) ?_
            rotate_left
            · intro w hSw
              (try dsimp only at hSw)
              go_simp
              try with_reducible rfl
            simp only [Act.put, List.setIfInBounds_toArray, List.set_cons_zero, List.set_cons_succ, List.getElem_toArray, List.getElem_cons_zero, List.getElem_cons_succ]
            refine wpAnyH_take (i := 4) (v := ?_) rfl (by kernel_rfl) (by kernel_rfl) (by kernel_rfl) (fun _ _ _ h => h) (Or.inl ⟨by rfl, ?_⟩) (by assumption) ?_
            rotate_left
            · intro w hSw
              (try dsimp only at hSw)
              go_simp
              try with_reducible rfl
            simp only [Act.put, List.setIfInBounds_toArray, List.set_cons_zero, List.set_cons_succ, List.getElem_toArray, List.getElem_cons_zero, List.getElem_cons_succ]
            refine wpAnyH_take (i := 5) (v := ?_) rfl (by kernel_rfl) (by kernel_rfl) (by kernel_rfl) (fun _ _ _ h => h) (Or.inl ⟨by rfl, ?_⟩) (by assumption) ?_
            rotate_left
            · intro w hSw
              (try dsimp only at hSw)
              go_simp
              try with_reducible rfl
            simp only [Act.put, List.setIfInBounds_toArray, List.set_cons_zero, List.set_cons_succ, List.getElem_toArray, List.getElem_cons_zero, List.getElem_cons_succ]
            refine wpAnyH_take (i := 6) (v := ?_) rfl (by kernel_rfl) (by kernel_rfl) (by kernel_rfl) (fun _ _ _ h => h) (Or.inl ⟨by rfl, ?_⟩) (by assumption) ?_
            rotate_left
            · intro w hSw
              (try dsimp only at hSw)
              go_simp
              try with_reducible rfl
            simp only [Act.put, List.setIfInBounds_toArray, List.set_cons_zero, List.set_cons_succ, List.getElem_toArray, List.getElem_cons_zero, List.getElem_cons_succ]
            refine wpAnyH_take (i := 7) (v := ?_) rfl (by kernel_rfl) (by kernel_rfl) (by kernel_rfl) (fun _ _ _ h => h) (Or.inl ⟨by rfl, ?_⟩) (by assumption) ?_
            rotate_left
            · intro w hSw
              (try dsimp only at hSw)
              go_simp
              try with_reducible rfl
            simp only [Act.put, List.setIfInBounds_toArray, List.set_cons_zero, List.set_cons_succ, List.getElem_toArray, List.getElem_cons_zero, List.getElem_cons_succ]
            refine wpAnyH_take (i := 8) (v := ?_) rfl (by kernel_rfl) (by kernel_rfl) (by kernel_rfl) (fun _ _ _ h => h) (Or.inl ⟨by rfl, ?_⟩) (by assumption) ?_
            rotate_left
            · intro w hSw
              (try dsimp only at hSw)
              go_simp
              try with_reducible rfl
            simp only [Act.put, List.setIfInBounds_toArray, List.set_cons_zero, List.set_cons_succ, List.getElem_toArray, List.getElem_cons_zero, List.getElem_cons_succ]
            refine wpAnyH_take (i := 9) (v := ?_) rfl (by kernel_rfl) (by kernel_rfl) (by kernel_rfl) (fun _ _ _ h => h) (Or.inl ⟨by rfl, ?_⟩) (by assumption) ?_
            rotate_left
            · intro w hSw
              (try dsimp only at hSw)
              go_simp
              try with_reducible rfl
            simp only [Act.put, List.setIfInBounds_toArray, List.set_cons_zero, List.set_cons_succ, List.getElem_toArray, List.getElem_cons_zero, List.getElem_cons_succ]
            refine wpAnyH_take (i := 10) (v := ?_) rfl (by kernel_rfl) (by kernel_rfl) (by kernel_rfl) (fun _ _ _ h => h) (Or.inl ⟨by rfl, ?_⟩) (by assumption) ?_
            rotate_left
            · intro w hSw
              (try dsimp only at hSw)
              go_simp
              try with_reducible rfl
            simp only [Act.put, List.setIfInBounds_toArray, List.set_cons_zero, List.set_cons_succ, List.getElem_toArray, List.getElem_cons_zero, List.getElem_cons_succ]
            refine wpAnyH_take (i := 11) (v := ?_) rfl (by kernel_rfl) (by kernel_rfl) (by kernel_rfl) (fun _ _ _ h => h) (Or.inl ⟨by rfl, ?_⟩) (by assumption) ?_
            rotate_left
            · intro w hSw
              (try dsimp only at hSw)
              go_simp
              try with_reducible rfl
            simp only [Act.put, List.setIfInBounds_toArray, List.set_cons_zero, List.set_cons_succ, List.getElem_toArray, List.getElem_cons_zero, List.getElem_cons_succ]
            refine wpAnyH_take (i := 12) (v := ?_) rfl (by kernel_rfl) (by kernel_rfl) (by kernel_rfl) (fun _ _ _ h => h) (Or.inl ⟨by rfl, ?_⟩) (by assumption) ?_
            rotate_left
            · intro w hSw
              (try dsimp only at hSw)
              go_simp
              try with_reducible rfl
            simp only [Act.put, List.setIfInBounds_toArray, List.set_cons_zero, List.set_cons_succ, List.getElem_toArray, List.getElem_cons_zero, List.getElem_cons_succ]
            refine wpAnyH_take (i := 13) (v := ?_) rfl (by kernel_rfl) (by kernel_rfl) (by kernel_rfl) (fun _ _ _ h => h) (Or.inl ⟨by rfl, ?_⟩) (by assumption) ?_
            rotate_left
            · intro w hSw
              (try dsimp only at hSw)
              go_simp
              try with_reducible rfl
            simp only [Act.put, List.setIfInBounds_toArray, List.set_cons_zero, List.set_cons_succ, List.getElem_toArray, List.getElem_cons_zero, List.getElem_cons_succ]
            refine wpAnyH_take (i := 14) (v := ?_) rfl (by kernel_rfl) (by kernel_rfl) (by kernel_rfl) (fun _ _ _ h => h) (Or.inl ⟨by rfl, ?_⟩) (by assumption) ?_
            rotate_left
            · intro w hSw
              (try dsimp only at hSw)
              go_simp
              try with_reducible rfl
            simp only [Act.put, List.setIfInBounds_toArray, List.set_cons_zero, List.set_cons_succ, List.getElem_toArray, List.getElem_cons_zero, List.getElem_cons_succ]
            refine wpAnyH_take (i := 15) (v := ?_) rfl (by kernel_rfl) (by kernel_rfl) (by kernel_rfl) (fun _ _ _ h => h) (Or.inl ⟨by rfl, ?_⟩) (by assumption) ?_
            rotate_left
            · intro w hSw
              (try dsimp only at hSw)
              go_simp
              try with_reducible rfl
            simp only [Act.put, List.setIfInBounds_toArray, List.set_cons_zero, List.set_cons_succ, List.getElem_toArray, List.getElem_cons_zero, List.getElem_cons_succ]
            refine wpAnyH_take (i := 16) (v := ?_) rfl (by kernel_rfl) (by kernel_rfl) (by kernel_rfl) (fun _ _ _ h => h) (Or.inl ⟨by rfl, ?_⟩) (by assumption) ?_
            rotate_left
            · intro w hSw
              (try dsimp only at hSw)
              go_simp
              try with_reducible rfl
            simp only [Act.put, List.setIfInBounds_toArray, List.set_cons_zero, List.set_cons_succ, List.getElem_toArray, List.getElem_cons_zero, List.getElem_cons_succ]
            refine wpAnyH_take (i := 17) (v := ?_) rfl (by kernel_rfl) (by kernel_rfl) (by kernel_rfl) (fun _ _ _ h => h) (Or.inl ⟨by rfl, ?_⟩) (by assumption) ?_
            rotate_left
            · intro w hSw
              (try dsimp only at hSw)
              go_simp
              try with_reducible rfl
            simp only [Act.put, List.setIfInBounds_toArray, List.set_cons_zero, List.set_cons_succ, List.getElem_toArray, List.getElem_cons_zero, List.getElem_cons_succ]
            refine wpAnyH_take (i := 18) (v := ?_) rfl (by kernel_rfl) (by kernel_rfl) (by kernel_rfl) (fun _ _ _ h => h) (Or.inl ⟨by rfl, ?_⟩) (by assumption) ?_
            rotate_left
            · intro w hSw
              (try dsimp only at hSw)
              go_simp
              try with_reducible rfl
            simp only [Act.put, List.setIfInBounds_toArray, List.set_cons_zero, List.set_cons_succ, List.getElem_toArray, List.getElem_cons_zero, List.getElem_cons_succ]
            refine wpAnyH_take (i := 19) (v := ?_) rfl (by kernel_rfl) (by kernel_rfl) (by kernel_rfl) (fun _ _ _ h => h) (Or.inl ⟨by rfl, ?_⟩) (by assumption) ?_
            rotate_left
            · intro w hSw
              (try dsimp only at hSw)
              go_simp
              try with_reducible rfl
            simp only [Act.put, List.setIfInBounds_toArray, List.set_cons_zero, List.set_cons_succ, List.getElem_toArray, List.getElem_cons_zero, List.getElem_cons_succ]
            refine wpAnyH_take (i := 20) (v := ?_) rfl (by kernel_rfl) (by kernel_rfl) (by kernel_rfl) (fun _ _ _ h => h) (Or.inl ⟨by rfl, ?_⟩) (by assumption) ?_
            rotate_left
            · intro w hSw
              (try dsimp only at hSw)
              go_simp
              try with_reducible rfl
            simp only [Act.put, List.setIfInBounds_toArray, List.set_cons_zero, List.set_cons_succ, List.getElem_toArray, List.getElem_cons_zero, List.getElem_cons_succ]
            refine wpAnyH_take (i := 22) (v := ?_) rfl (by kernel_rfl) (by kernel_rfl) (by kernel_rfl) (fun _ _ _ h => h) (Or.inl ⟨by rfl, ?_⟩) (by assumption) ?_
            rotate_left
            · intro w hSw
              (try dsimp only at hSw)
              go_simp
              try with_reducible rfl
            simp only [Act.put, List.setIfInBounds_toArray, List.set_cons_zero, List.set_cons_succ, List.getElem_toArray, List.getElem_cons_zero, List.getElem_cons_succ]
            refine wpAnyH_ready (rs := [21, 23]) (by kernel_rfl) (by simp) ?_
            refine AllReadyH.cons rfl (fun K hK => ?_) ?_
            · go_simp
              refine hK.out _ _ ⟨hb0, hb2⟩ (fun hH1 => ?_)
              clear hK K
              refine wpAnyH_ready (rs := [23]) (by kernel_rfl) (by simp) ?_
              refine AllReadyH.cons rfl (fun K hK => ?_) AllReadyH.nil
              go_simp
              refine hK.out _ _ (hSA _) (fun hH2 => ?_)
              clear hK K
              refine wpAnyH_ready (rs := [24]) (by kernel_rfl) (by simp) ?_
              refine AllReadyH.cons rfl (fun K hK => ?_) AllReadyH.nil
              refine step_append_own rfl _ _ 22 rfl B 38 i0 (.slice none 0 0) 1 24 Try.underlying22 hi hz0 hz1 hz2 rfl (by decide) (.slice vp r.length vc) r.length xs rfl (HX2.out.alloc _) ⟨wr.heap.size, 0, none⟩ 1 1 [.slice (some ⟨cb, co, none⟩) c.length cc'] rfl rfl one_newsC one_cellC (by unfold maxLen; omega) (by omega) (by simp; omega) ?_
              intro v5 w5 h1 h2 h4
              obtain ⟨g5, cap5, rfl⟩ := owns_shape h1 (Nat.succ_pos _)
              have P5 := hid (HC3.out.put HRV.out HRR.out HX.out HN3.out (grown_undrew (grown_alloc h2)) (own_far h4) h1)
              obtain ⟨hcb5, hfb5, hlb5⟩ := (HC3.out.grew (i := q + 1) HRV.out HRR.out HX.out HN3.out (grown_undrew (grown_alloc h2)) (own_far h4) h1).1.facts
              obtain ⟨hcw5, hfw5, hlw5⟩ := (HC3.out.grew (i := q + 1) HRV.out HRR.out HX.out HN3.out (grown_undrew (grown_alloc h2)) (own_far h4) h1).2.1.facts
              have hb50 : w5.cell? ⟨bx, 0, none⟩ = some (.int .i64 n) := hcb5 0
              have hb52 : w5.cell? ⟨bx, 2, none⟩ = some (.slice (some ⟨bw, 0, none⟩) (2 * n + 1) (2 * n + 1)) := hcb5 2
              clear h1 h2 h4
              refine hK.out _ _ ⟨hb50, hb52⟩ (fun hH3 => ?_)
              clear hK K
              simp only [Act.put, List.setIfInBounds_toArray, List.set_cons_zero, List.set_cons_succ, List.getElem_toArray, List.getElem_cons_zero, List.getElem_cons_succ]
              refine wpAnyH_take (i := 25) (v := ?_) rfl (by kernel_rfl) (by kernel_rfl) (by kernel_rfl) (fun _ _ _ h => h) (Or.inl ⟨by rfl, ?_⟩) (by assumption) ?_
              rotate_left
              · intro w hSw
                (try dsimp only at hSw)
                go_simp
                try with_reducible rfl
              simp only [Act.put, List.setIfInBounds_toArray, List.set_cons_zero, List.set_cons_succ, List.getElem_toArray, List.getElem_cons_zero, List.getElem_cons_succ]
              refine wpAnyH_ready (rs := [26]) (by kernel_rfl) (by simp) ?_
              refine AllReadyH.cons rfl (fun K hK => ?_) AllReadyH.nil
              go_simp
              refine hK.out _ _ ⟨(cell_setO _ _ _ _ hxw).trans hb50, (cell_setO _ _ _ _ hxw).trans hb52⟩ (fun hH4 => ?_)
              clear hK K
              refine wpAnyH_done (by kernel_rfl) ?_ _
              go_wp2_with fail
              go_roundg (c.length - (m + 1))
              case rel => exact ⟨m + 1, _, by omega, by go_num, HA3.out.trans P5.out.2, by rw [HT3.out, HPU.out]; exact P5.out.1, fun rr hrr => by
                  rw [HT3.out] at hrr
                  have := putL_bound HM3.out rr hrr
                  omega⟩
              case measure => omega
            · refine AllReadyH.cons rfl (fun K hK => ?_) AllReadyH.nil
              go_simp
              refine hK.out _ _ (hSA _) (fun hH1 => ?_)
              clear hK K
              refine wpAnyH_ready (rs := [21]) (by kernel_rfl) (by simp) ?_
              refine AllReadyH.cons rfl (fun K hK => ?_) AllReadyH.nil
              have hac4 := hac3 (.cells #[.slice (some ⟨cb, co, none⟩) c.length cc'] 38)
              go_simp
              refine hK.out _ _ (hSA _) (fun hH2 => ?_)
              clear hK K
              refine wpAnyH_ready (rs := [24]) (by kernel_rfl) (by simp) ?_
              refine AllReadyH.cons rfl (fun K hK => ?_) AllReadyH.nil
              refine step_append_own rfl _ _ 22 rfl B 38 i0 (.slice none 0 0) 1 24 Try.underlying22 hi hz0 hz1 hz2 rfl (by decide) (.slice vp r.length vc) r.length xs rfl (HX2.out.alloc _) ⟨wr.heap.size, 0, none⟩ 1 1 [.slice (some ⟨cb, co, none⟩) c.length cc'] rfl rfl one_newsC one_cellC (by unfold maxLen; omega) (by omega) (by simp; omega) ?_
              intro v5 w5 h1 h2 h4
              obtain ⟨g5, cap5, rfl⟩ := owns_shape h1 (Nat.succ_pos _)
              have P5 := hid (HC3.out.put HRV.out HRR.out HX.out HN3.out (grown_undrew (grown_alloc h2)) (own_far h4) h1)
              obtain ⟨hcb5, hfb5, hlb5⟩ := (HC3.out.grew (i := q + 1) HRV.out HRR.out HX.out HN3.out (grown_undrew (grown_alloc h2)) (own_far h4) h1).1.facts
              obtain ⟨hcw5, hfw5, hlw5⟩ := (HC3.out.grew (i := q + 1) HRV.out HRR.out HX.out HN3.out (grown_undrew (grown_alloc h2)) (own_far h4) h1).2.1.facts
              have hb50 : w5.cell? ⟨bx, 0, none⟩ = some (.int .i64 n) := hcb5 0
              have hb52 : w5.cell? ⟨bx, 2, none⟩ = some (.slice (some ⟨bw, 0, none⟩) (2 * n + 1) (2 * n + 1)) := hcb5 2
              clear h1 h2 h4
              refine hK.out _ _ ⟨hb50, hb52⟩ (fun hH3 => ?_)
              clear hK K
              simp only [Act.put, List.setIfInBounds_toArray, List.set_cons_zero, List.set_cons_succ, List.getElem_toArray, List.getElem_cons_zero, List.getElem_cons_succ]
              refine wpAnyH_take (i := 25) (v := ?_) rfl (by kernel_rfl) (by kernel_rfl) (by kernel_rfl) (fun _ _ _ h => h) (Or.inl ⟨by rfl, ?_⟩) (by assumption) ?_
              rotate_left
              · intro w hSw
                (try dsimp only at hSw)
                go_simp
                try with_reducible rfl
              simp only [Act.put, List.setIfInBounds_toArray, List.set_cons_zero, List.set_cons_succ, List.getElem_toArray, List.getElem_cons_zero, List.getElem_cons_succ]
              refine wpAnyH_ready (rs := [26]) (by kernel_rfl) (by simp) ?_
              refine AllReadyH.cons rfl (fun K hK => ?_) AllReadyH.nil
              go_simp
              refine hK.out _ _ ⟨(cell_setO _ _ _ _ hxw).trans hb50, (cell_setO _ _ _ _ hxw).trans hb52⟩ (fun hH4 => ?_)
              clear hK K
              refine wpAnyH_done (by kernel_rfl) ?_ _
              go_wp2_with fail
              go_roundg (c.length - (m + 1))
              case rel => exact ⟨m + 1, _, by omega, by go_num, HA3.out.trans P5.out.2, by rw [HT3.out, HPU.out]; exact P5.out.1, fun rr hrr => by
                  rw [HT3.out] at hrr
                  have := putL_bound HM3.out rr hrr
                  omega⟩
              case measure => omega
          · obtain rfl : m = c.length := by omega
            have HC4 := HC3
            have HM4 := HM3
            rw [List.take_length] at HC4 HM4
            go_wp2_with fail
            go_roundg (F.length - (j + 1))
            case rel => exact ⟨j + 1, sv2, rv3, by omega, by go_num, HA3.out, by rw [HT.out, HS2.out]; exact HC4.out, by rw [HS2.out]; exact HSHL.out, by rw [HT.out]; exact fun r hr => by have := HM4.out r hr; omega⟩
            case measure => omega
    · obtain rfl : j = F.length := by omega
      go_wp2_with fail
      refine bodyPost_end (results_none rfl _ _ _) rfl ?_
      have h1 := HC1.out
      rw [List.take_length] at h1
      exact ⟨rfl, HA.out, sv1, rv1, h1⟩
end Go.Proofs.Ytkckkjpkidcbnab
