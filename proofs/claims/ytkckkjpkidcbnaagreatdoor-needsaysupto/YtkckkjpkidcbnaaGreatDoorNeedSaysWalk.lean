/- NeedSays returns true, of any two needs that lie in memory, the first of at most 1048576 nodes, and any text; nothing that was there is changed. -/
import Derived.Test.YtkckkjpkidcbnaaGreatDoorRefReadNeed
import Derived.Test.YtkckkjpkidcbnaaGreatDoorRefFlagF
import Derived.Test.YtkckkjpkidcbnaaGreatDoorRefNeedText
import Derived.Test.YtkckkjpkidcbnaaGreatDoorRefSame
import Derived.Test.YtkckkjpkidcbnaaGreatDoorRefCheckNeed
import Derived.Test.YtkckkjpkidcbnaaGreatDoorNeedNeeded
import Derived.Test.YtkckkjpkidcbnaaGreatDoorTreeChk
import Derived.Test.YtkckkjpkidcbnaaGreatDoorRefTree
import Derived.Lib.QuietBelow
namespace Go.Proofs.YtkckkjpkidcbnaaGreatDoor
open Go.RowKit Go.Sort

theorem texts_equal (fs : List (List UInt8)) (v1 v2 : Value) (w : World) (h1 : TextsAt v1 fs w) (h2 : TextsAt v2 fs w) (hl : fs.length ≤ 1000) :
    Calls Tryz.prog 19 #[v1, v2] w fun e w' => e = .returned (.bool true) ∧ Keep w w' := by
  rcases h1 with ⟨rfl, p1, c1, rfl⟩ | ⟨g1, c1, rfl, hg1, hc1⟩
  · rcases h2 with ⟨-, p2, c2, rfl⟩ | ⟨g2, c2, rfl, -, -⟩
    · refine (Tryz.slices_Equal_string_empty p1 p2 c1 0 c2 w (by decide)).mono ?_
      rintro e w' ⟨rfl, rfl⟩
      exact ⟨rfl, Keep.refl _⟩
    · refine (Tryz.slices_Equal_string_empty p1 _ c1 0 c2 w (by decide)).mono ?_
      rintro e w' ⟨rfl, rfl⟩
      exact ⟨rfl, Keep.refl _⟩
  · rcases h2 with ⟨rfl, p2, c2, rfl⟩ | ⟨g2, c2, rfl, -, hc2⟩
    · refine (Tryz.slices_Equal_string_empty _ p2 c1 0 c2 w (by decide)).mono ?_
      rintro e w' ⟨rfl, rfl⟩
      exact ⟨rfl, Keep.refl _⟩
    · have hget : ∀ (g : Nat), (∀ (j : Nat) x, fs[j]? = some x → w.cell? ⟨g, 0 + j, none⟩ = some (.string ⟨x.toArray⟩)) → ∀ j, j < (fs.map fun x => (⟨x.toArray⟩ : ByteArray)).length → w.cell? ⟨g, 0 + j, none⟩ = some (.string ((fs.map fun x => (⟨x.toArray⟩ : ByteArray)).getD j ByteArray.empty)) := fun g hc j hj => by
        have hj' : j < fs.length := by simpa using hj
        rw [hc j _ (List.getElem?_eq_getElem hj')]
        simp [List.getD_eq_getElem?_getD, hj']
      have := Tryz.slices_Equal_string g1 0 fs.length c1 g2 0 fs.length c2 (fs.map fun x => (⟨x.toArray⟩ : ByteArray)) (fs.map fun x => (⟨x.toArray⟩ : ByteArray)) w (by simp) (by simp) (by omega) (by omega) (hget g1 hc1) (hget g2 hc2)
      refine this.mono ?_
      rintro e w' ⟨rfl, q, rfl⟩
      exact ⟨ret_bool (by simp), Keep.drewN (Keep.refl _) q⟩
theorem TextsAt.keep' {v : Value} {fs : List (List UInt8)} {w w' : World} (h : TextsAt v fs w) (k : Keep w w') : TextsAt v fs w' := by
  rcases h with h | ⟨g, cap, h1, h2, h3⟩
  · exact Or.inl h
  · exact Or.inr ⟨g, cap, h1, Nat.lt_of_lt_of_le h2 k.size, fun j x hx => (k.cell (p := ⟨g, 0 + j, none⟩) h2).trans (h3 j x hx)⟩
theorem TextsAt.shape {v : Value} {fs : List (List UInt8)} {w : World} (h : TextsAt v fs w) : ∃ p n cap, v = .slice p n cap := by
  rcases h with ⟨-, p, cap, rfl⟩ | ⟨g, cap, rfl, -, -⟩
  · exact ⟨_, _, _, rfl⟩
  · exact ⟨_, _, _, rfl⟩
theorem rdE_long {l : List UInt8} (h : 20000 < l.length) : rdE l = 2 := by unfold rdE; rw [if_pos h]
theorem sorted_len (t : NT) : t.sorted.length ≤ t.size := by
  unfold NT.sorted
  have h1 := compact_len ((t.flags.map (·.data.toList)).mergeSort fun x y => decide (x ≤ y))
  have h2 := flags_len t
  simp at h1
  omega
theorem zeroL_is (S : Nat → Prop) (w : World) : NeedIs S w (.node 0 At.zero ⟨#[]⟩ false []) zeroL := by
  rw [NeedIs]
  exact ⟨none, 0, rfl, Nat.le_refl _, by simp, by rw [KidsIs]; trivial⟩

set_option maxHeartbeats 8000000 in
set_option maxRecDepth 100000 in
theorem needSays_walk (t u : NT) (cs1 cs2 : List Value) (s : ByteArray) (w : World) (S : Nat → Prop) (hS : ∀ b, S b → b < w.heap.size) (h1 : NeedIs S w t cs1) (h2 : NeedIs S w u cs2) (hE : Env w) (hM : MaxAt w) (hsz : t.size ≤ 1048576) :
    Calls Tryz.prog 3 #[.agg cs1.toArray, .agg cs2.toArray, .string s] w fun e w' => e = .returned (.bool true) ∧ Keep w w' := by
  have HE := hid hE
  have HM := hid hM
  have H1 := hid h1
  have H2 := hid h2
  cases ht : t with
  | node k1 a1 fl1 nt1 ks1 =>
  cases hu : u with
  | node k2 a2 fl2 nt2 ks2 =>
  rw [ht, NeedIs] at h1
  rw [hu, NeedIs] at h2
  obtain ⟨kp1, kc1, rfl, -, -, -⟩ := h1
  obtain ⟨kp2, kc2, rfl, -, -, -⟩ := h2
  clear ht hu hE hM
  go_enter Tryz.func3, Tryz.ntmps3
  go_wp2_with fail
  refine at_calls (fun W' => Keep w W' ∧ NBox w.heap.size #[.int .i64 k1, .string a1.n, .int .i64 a1.op, .int .i64 a1.v, .int .i64 a1.sl, .string a1.f, .bool a1.on, .string fl1, .bool nt1, .slice kp1 ks1.length kc1] W' ∧ NBox (w.heap.size + 1) #[.int .i64 k2, .string a2.n, .int .i64 a2.op, .int .i64 a2.v, .int .i64 a2.sl, .string a2.f, .bool a2.on, .string fl2, .bool nt2, .slice kp2 ks2.length kc2] W') ⟨(Keep.alloc _ _).alloc' _, (NBox.new w #[.int .i64 k1, .string a1.n, .int .i64 a1.op, .int .i64 a1.v, .int .i64 a1.sl, .string a1.f, .bool a1.on, .string fl1, .bool nt1, .slice kp1 ks1.length kc1]).keep (Keep.alloc _ _) (by simp), ?_⟩ ?_
  · have := NBox.new (w.alloc (.cells #[.int .i64 k1, .string a1.n, .int .i64 a1.op, .int .i64 a1.v, .int .i64 a1.sl, .string a1.f, .bool a1.on, .string fl1, .bool nt1, .slice kp1 ks1.length kc1] 26)) #[.int .i64 k2, .string a2.n, .int .i64 a2.op, .int .i64 a2.v, .int .i64 a2.sl, .string a2.f, .bool a2.on, .string fl2, .bool nt2, .slice kp2 ks2.length kc2]
    rw [alloc_size] at this; exact this
  rintro W0 ⟨k0, b10, b20⟩
  refine (needPrint_any t _ W0 S (fun b hb => Nat.lt_of_lt_of_le (hS b hb) k0.size) (H1.out.keep hS k0) (HE.out.keep k0).1).mono ?_
  rintro e w1 ⟨s1, rfl, hs1, hs1', kk1⟩
  have K1 := hid (k0.trans kk1)
  have B11 := hid (b10.keep kk1 b10.facts.2.2)
  have B21 := hid (b20.keep kk1 b20.facts.2.2)
  have HS1 := hid hs1
  have HS1' := hid hs1'
  clear hs1 hs1' kk1 k0 b10 b20
  generalize hc1 : chkN t = c1
  have HC1 : Hid (chkN t = c1) := hc1
  clear hc1
  go_wp2_with fail
  refine (needParse_any s w1 (HE.out.keep K1.out) (HM.out.keep K1.out)).mono ?_
  rintro e w2 ⟨cs8, rfl, hp8, hp8', kk2⟩
  have K2 := hid (K1.out.trans kk2)
  have B12 := hid (B11.out.keep kk2 B11.out.facts.2.2)
  have B22 := hid (B21.out.keep kk2 B21.out.facts.2.2)
  -- what was read: a need, or none
  have HX : Hid (∃ x8 : NT, NeedIs (fun b => w1.heap.size ≤ b ∧ b < w2.heap.size) w2 x8 cs8 ∧ (rdE s.data.toList = 0 → rdText s.data.toList = some x8) ∧ (rdE s.data.toList ≠ 0 → x8 = .node 0 At.zero ⟨#[]⟩ false [])) := by
    by_cases hz : rdE s.data.toList = 0
    · obtain ⟨x, hx1, hx2⟩ := hp8 hz
      exact ⟨x, hx2, fun _ => hx1, fun h => absurd hz h⟩
    · exact ⟨_, by rw [hp8' hz]; exact zeroL_is _ _, fun h => absurd h hz, fun _ => rfl⟩
  obtain ⟨x8, hx8, hr8, hr8'⟩ := HX.out
  have HR8 := hid (And.intro hr8 hr8')
  have HN8 := hid hx8
  have HK12 := hid kk2.size
  cases hxx : x8 with
  | node k8 a8 fl8 nt8 ks8 =>
  rw [hxx, NeedIs] at hx8
  obtain ⟨kp8, kc8, rfl, -, -, -⟩ := hx8
  clear hp8 hp8' kk2 hr8 hr8' hxx HX K1 B11 B21
  generalize hre : rdE s.data.toList = r8
  have HRE := hid hre
  clear hre
  obtain ⟨hcb, -, hlb⟩ := B12.out.facts
  go_upto_region 3 with fail
  refine at_wp (fun W' => Keep w2 W' ∧ NBox w2.heap.size #[.int .i64 k8, .string a8.n, .int .i64 a8.op, .int .i64 a8.v, .int .i64 a8.sl, .string a8.f, .bool a8.on, .string fl8, .bool nt8, .slice kp8 ks8.length kc8] W') ⟨Keep.alloc _ _, NBox.new w2 #[.int .i64 k8, .string a8.n, .int .i64 a8.op, .int .i64 a8.v, .int .i64 a8.sl, .string a8.f, .bool a8.on, .string fl8, .bool nt8, .slice kp8 ks8.length kc8]⟩ ?_
  rintro W3 ⟨k3, b83⟩
  have K3 := hid (K2.out.trans k3)
  have B13 := hid (B12.out.keep k3 B12.out.facts.2.2)
  have B23 := hid (B22.out.keep k3 B22.out.facts.2.2)
  have B83 := hid b83
  have N83 := hid (HN8.out.keep (fun b hb => hb.2) k3)
  have HS3 := hid (show w2.heap.size ≤ W3.heap.size from k3.size)
  clear k3 b83 hcb K2 B12 B22 HN8
  obtain ⟨hcb, -, hlb3⟩ := B13.out.facts
  go_wp2_with fail
  refine (needFlags_any t _ W3 S (fun b hb => Nat.lt_of_lt_of_le (hS b hb) K3.out.size) (H1.out.keep hS K3.out)).mono ?_
  rintro e w4 ⟨lv, rfl, hv0, hv1, kk4⟩
  rw [HC1.out] at hv0 hv1 ⊢
  have K4 := hid (K3.out.trans kk4)
  have B14 := hid (B13.out.keep kk4 B13.out.facts.2.2)
  have B24 := hid (B23.out.keep kk4 B23.out.facts.2.2)
  have B84 := hid (B83.out.keep kk4 B83.out.facts.2.2)
  have N84 := hid (N83.out.keep (fun b hb => Nat.lt_of_lt_of_le hb.2 HS3.out) kk4)
  have HS4 := hid (Nat.le_trans HS3.out kk4.size)
  have HV0 := hid hv0
  have HV1 := hid hv1
  clear kk4 hcb hv0 hv1 K3 B13 B23 B83 N83 HS3
  obtain ⟨hcb, -, hlb4⟩ := B14.out.facts
  go_wp2_with fail
  refine (refCheckNeed_any t _ w4 S (fun b hb => Nat.lt_of_lt_of_le (hS b hb) K4.out.size) (H1.out.keep hS K4.out)).mono ?_
  rintro e w5 ⟨rfl, kk5⟩
  rw [HC1.out]
  have K5 := hid (K4.out.trans kk5)
  have B15 := hid (B14.out.keep kk5 B14.out.facts.2.2)
  have B25 := hid (B24.out.keep kk5 B24.out.facts.2.2)
  have B85 := hid (B84.out.keep kk5 B84.out.facts.2.2)
  have N85 := hid (N84.out.keep (fun b hb => Nat.lt_of_lt_of_le hb.2 HS4.out) kk5)
  have HS5 := hid (Nat.le_trans HS4.out kk5.size)
  have HV5 := hid (fun h => (HV1.out h).keep' kk5)
  clear kk5 hcb K4 B14 B24 B84 N84 HS4 HV1
  -- the region that draws its order
  have KG := hid (show ∀ d os, Keep w (grow (redrawn w5 d) os) from fun d os => K5.out.trans (below_regrown w5 d os))
  have cell1 : ∀ o d os, (grow (redrawn w5 d) os).cell? ⟨w.heap.size, o, none⟩ = (#[.int .i64 k1, .string a1.n, .int .i64 a1.op, .int .i64 a1.v, .int .i64 a1.sl, .string a1.f, .bool a1.on, .string fl1, .bool nt1, .slice kp1 ks1.length kc1] : Array Value)[o]? := fun o d os => (B15.out.keep (below_regrown w5 d os) B15.out.facts.2.2).facts.1 o
  have cell2 : ∀ o d os, (grow (redrawn w5 d) os).cell? ⟨w.heap.size + 1, o, none⟩ = (#[.int .i64 k2, .string a2.n, .int .i64 a2.op, .int .i64 a2.v, .int .i64 a2.sl, .string a2.f, .bool a2.on, .string fl2, .bool nt2, .slice kp2 ks2.length kc2] : Array Value)[o]? := fun o d os => (B25.out.keep (below_regrown w5 d os) B25.out.facts.2.2).facts.1 o
  have hSg := hid (show ∀ d os b, S b → b < (grow (redrawn w5 d) os).heap.size from fun d os b hb => Nat.lt_of_lt_of_le (hS b hb) (KG.out d os).size)
  have cN := hid (show ∀ d os, Calls Tryz.prog 14 #[] (grow (redrawn w5 d) os) fun e w'' => e = .returned (.bool true) ∧ ∃ p : Regrown, w'' = grow (redrawn w5 p.d) p.os from fun d os => Calls.regrown_of (needed_any _ (HE.out.keep (KG.out d os)) (HM.out.keep (KG.out d os))))
  have cC := hid (show ∀ d os, Calls Tryz.prog 15 #[.agg #[.int .i64 k1, .string a1.n, .int .i64 a1.op, .int .i64 a1.v, .int .i64 a1.sl, .string a1.f, .bool a1.on, .string fl1, .bool nt1, .slice kp1 ks1.length kc1]] (grow (redrawn w5 d) os) fun e w'' => e = .returned (.int .i64 c1) ∧ ∃ p : Regrown, w'' = grow (redrawn w5 p.d) p.os from fun d os => by
    rw [← HC1.out]
    exact Calls.regrown_of (needCheck_any t _ _ S (hSg.out d os) (H1.out.keep hS (KG.out d os))))
  obtain ⟨β, hβ⟩ : ∃ β : Bool, β = true ↔ t = u := by
    by_cases h : t = u
    · exact ⟨true, by simp [h]⟩
    · exact ⟨false, by simp [h]⟩
  have cS := hid (show ∀ d os, Calls Tryz.prog 16 #[.agg #[.int .i64 k1, .string a1.n, .int .i64 a1.op, .int .i64 a1.v, .int .i64 a1.sl, .string a1.f, .bool a1.on, .string fl1, .bool nt1, .slice kp1 ks1.length kc1], .agg #[.int .i64 k2, .string a2.n, .int .i64 a2.op, .int .i64 a2.v, .int .i64 a2.sl, .string a2.f, .bool a2.on, .string fl2, .bool nt2, .slice kp2 ks2.length kc2]] (grow (redrawn w5 d) os) fun e w'' => e = .returned (.bool β) ∧ ∃ p : Regrown, w'' = grow (redrawn w5 p.d) p.os from fun d os => by
    refine Calls.regrown_of ((needSame_any t u _ _ _ S (hSg.out d os) (H1.out.keep hS (KG.out d os)) (H2.out.keep hS (KG.out d os)) (by omega)).mono ?_)
    rintro e w' ⟨⟨b, rfl, hb⟩, k⟩
    exact ⟨ret_bool (Bool.eq_iff_iff.2 (hb.trans hβ.symm)), k⟩)
  have cR := hid (show ∀ d os, Calls Tryz.prog 17 #[.agg #[.int .i64 k1, .string a1.n, .int .i64 a1.op, .int .i64 a1.v, .int .i64 a1.sl, .string a1.f, .bool a1.on, .string fl1, .bool nt1, .slice kp1 ks1.length kc1], .agg #[.int .i64 k2, .string a2.n, .int .i64 a2.op, .int .i64 a2.v, .int .i64 a2.sl, .string a2.f, .bool a2.on, .string fl2, .bool nt2, .slice kp2 ks2.length kc2]] (grow (redrawn w5 d) os) fun e w'' => e = .returned (.bool β) ∧ ∃ p : Regrown, w'' = grow (redrawn w5 p.d) p.os from fun d os => by
    refine Calls.regrown_of ((refSame_any S t.size t (Nat.le_refl _) u _ _ _ (hSg.out d os) (H1.out.keep hS (KG.out d os)) (H2.out.keep hS (KG.out d os))).mono ?_)
    rintro e w' ⟨⟨b, rfl, hb⟩, k⟩
    exact ⟨ret_bool (Bool.eq_iff_iff.2 (hb.trans hβ.symm)), k⟩)
  have hcc : (c1 != c1) = false := by simp
  have hbb : (β != β) = false := by simp
  clear hβ
  go_upto_region 5 with fail
  refine wp_region_quiet_below (by kernel_rfl) (by kernel_rfl) ?_
  repeat (first | go_big_quiet_step (first | exact cN.out _ _ | exact cC.out _ _ | exact cS.out _ _ | exact cR.out _ _) | quiet_step (first | exact cN.out _ _ | exact cC.out _ _ | exact cS.out _ _ | exact cR.out _ _))
  refine wpQuiet_nil ?_
  intro _ hw'
  obtain ⟨⟨dq, osq⟩, hw''⟩ := hw'
  subst hw''
  have k6 := below_regrown w5 dq osq
  generalize grow (redrawn w5 dq) osq = W6 at k6 ⊢
  have K6 := hid (K5.out.trans k6)
  have B16 := hid (B15.out.keep k6 B15.out.facts.2.2)
  have B86 := hid (B85.out.keep k6 B85.out.facts.2.2)
  have N86 := hid (N85.out.keep (fun b hb => Nat.lt_of_lt_of_le hb.2 HS5.out) k6)
  have HS6 := hid (Nat.le_trans HS5.out k6.size)
  have HV6 := hid (fun h => (HV5.out h).keep' k6)
  clear cell1 cell2 cN cC cS cR KG hSg k6 K5 B15 B25 B85 N85 HS5 HV5
  by_cases hz1 : c1 = 0
  · subst hz1
    have HOK := hid (chkN_zero.1 HC1.out)
    obtain ⟨lp, ln, lc, hls⟩ := (HV6.out rfl).shape
    subst hls
    have HVX := hid (HV6.out rfl)
    clear HV6
    obtain ⟨hcb, -, hlb6⟩ := B16.out.facts
    have hsm := small_of HOK.out.1
    go_wp2_with fail
    refine (refNeedText_any S t.size t (Nat.le_refl _) _ W6 HOK.out.2 (by omega) (fun b hb => Nat.lt_of_lt_of_le (hS b hb) K6.out.size) (HE.out.keep K6.out) (H1.out.keep hS K6.out)).mono ?_
    rintro e w7 ⟨rfl, kk7⟩
    have K7 := hid (K6.out.trans kk7)
    have B17 := hid (B16.out.keep kk7 B16.out.facts.2.2)
    have B87 := hid (B86.out.keep kk7 B86.out.facts.2.2)
    have N87 := hid (N86.out.keep (fun b hb => Nat.lt_of_lt_of_le hb.2 HS6.out) kk7)
    have HS7 := hid (Nat.le_trans HS6.out kk7.size)
    have HV7 := hid (HVX.out.keep' kk7)
    have hss : (s1.toList != (⟨t.text.toArray⟩ : ByteArray).toList) = false := by
      rw [Lib.toList_data, Lib.toList_data, HS1.out HC1.out]; simp
    clear kk7 hcb K6 B16 B86 N86 HS6 HVX
    obtain ⟨hcb, -, hlb7⟩ := B17.out.facts
    have hss2 : (s1.toList == (⟨t.text.toArray⟩ : ByteArray).toList) = true := by
      rw [Lib.toList_data, Lib.toList_data, HS1.out HC1.out]; simp
    generalize (⟨t.text.toArray⟩ : ByteArray) = tx at hss hss2 ⊢
    go_wp2_with fail
    refine (refFlags_any S t _ w7 (fun b hb => Nat.lt_of_lt_of_le (hS b hb) K7.out.size) (by omega) (flag_small HOK.out.2) (H1.out.keep hS K7.out)).mono ?_
    rintro e w8 ⟨v8, rfl, hv8, kk8⟩
    have K8 := hid (K7.out.trans kk8)
    have B88 := hid (B87.out.keep kk8 B87.out.facts.2.2)
    have N88 := hid (N87.out.keep (fun b hb => Nat.lt_of_lt_of_le hb.2 HS7.out) kk8)
    have HS8 := hid (Nat.le_trans HS7.out kk8.size)
    have HV8 := hid (And.intro (HV7.out.keep' kk8) hv8)
    clear kk8 hcb hv8 K7 B17 B87 N87 HS7 HV7
    go_wp2_with fail
    refine (texts_equal t.sorted _ _ w8 HV8.out.1 HV8.out.2 (by have := sorted_len t; omega)).mono ?_
    rintro e w9 ⟨rfl, kk9⟩
    have K9 := hid (K8.out.trans kk9)
    have B89 := hid (B88.out.keep kk9 B88.out.facts.2.2)
    have N89 := hid (N88.out.keep (fun b hb => Nat.lt_of_lt_of_le hb.2 HS8.out) kk9)
    have HS9 := hid (Nat.le_trans HS8.out kk9.size)
    clear kk9 K8 B88 N88 HS8
    have KX := hid K9.out
    have BX := hid B89.out
    have NX := hid N89.out
    have HSX := hid HS9.out
    generalize w9 = WX at KX BX NX HSX ⊢
    by_cases hl : 20000 < s.size
    · have hl' : (20000 : Int) < (s.size : Int) := by omega
      have HR2 := hid (show r8 = 2 by rw [← HRE.out]; exact rdE_long (by rw [size_list]; exact hl))
      have HZ8 := hid (HR8.out.2 (by rw [HRE.out, HR2.out]; decide))
      rw [HR2.out]
      obtain ⟨hcb8, -, hlb8⟩ := BX.out.facts
      go_wp2_with fail
      refine (refSame_any (fun b => b < WX.heap.size) _ x8 (Nat.le_refl _) (.node 0 At.zero ⟨#[]⟩ false []) _ zeroL WX (fun _ h => h) (NeedIs.mono (fun _ _ => rfl) (fun b hb => Nat.lt_of_lt_of_le hb.2 HSX.out) _ _ NX.out) (zeroL_is _ _)).mono ?_
      rintro e wy ⟨⟨b, rfl, hb⟩, ky⟩
      obtain rfl : b = true := hb.2 HZ8.out
      have KY := hid (KX.out.trans ky)
      clear hb ky hcb8
      go_wp2_with fail
      go_ret
      exact ⟨rfl, KY.out⟩
    · have hl' : ¬ (20000 : Int) < (s.size : Int) := by omega
      go_wp2_with fail
      refine (refReadNeed_any s WX (HE.out.keep KX.out) (HM.out.keep KX.out) (by omega)).mono ?_
      rintro e wr ⟨cs9, rfl, hp9, hp9', kk9⟩
      rw [HRE.out] at hp9 hp9' ⊢
      have KR := hid (KX.out.trans kk9)
      have BR := hid (BX.out.keep kk9 BX.out.facts.2.2)
      have NR := hid (NX.out.keep (fun b hb => Nat.lt_of_lt_of_le hb.2 HSX.out) kk9)
      have HSR := hid (Nat.le_trans HSX.out kk9.size)
      have HX9 : Hid (∃ x9 : NT, NeedIs (fun b => WX.heap.size ≤ b ∧ b < wr.heap.size) wr x9 cs9 ∧ x8 = x9) := by
        by_cases hz : r8 = 0
        · obtain ⟨x, hx1, hx2⟩ := hp9 hz
          exact ⟨x, hx2, Option.some.inj ((HR8.out.1 (HRE.out.trans hz)).symm.trans hx1)⟩
        · exact ⟨_, by rw [hp9' hz]; exact zeroL_is _ _, HR8.out.2 (fun h => hz (HRE.out.symm.trans h))⟩
      obtain ⟨x9, hx9, hxe⟩ := HX9.out
      have HN9 := hid hx9
      have HXE := hid hxe
      cases hxx : x9 with
      | node k9 a9 fl9 nt9 ks9 =>
      rw [hxx, NeedIs] at hx9
      obtain ⟨kp9, kc9, rfl, -, -, -⟩ := hx9
      clear hp9 hp9' kk9 hxx HX9 hxe
      obtain ⟨hcb8, -, hlb8⟩ := BR.out.facts
      have hrr : (r8 == r8) = true := by simp
      go_upto_region 12 with fail
      refine at_wp (fun W' => Keep wr W' ∧ NBox wr.heap.size #[.int .i64 k9, .string a9.n, .int .i64 a9.op, .int .i64 a9.v, .int .i64 a9.sl, .string a9.f, .bool a9.on, .string fl9, .bool nt9, .slice kp9 ks9.length kc9] W') ⟨Keep.alloc _ _, NBox.new wr #[.int .i64 k9, .string a9.n, .int .i64 a9.op, .int .i64 a9.v, .int .i64 a9.sl, .string a9.f, .bool a9.on, .string fl9, .bool nt9, .slice kp9 ks9.length kc9]⟩ ?_
      rintro W7 ⟨k7, b97⟩
      have K7 := hid (KR.out.trans k7)
      have B87 := hid (BR.out.keep k7 BR.out.facts.2.2)
      have B97 := hid b97
      have N87 := hid (NR.out.keep (fun b hb => Nat.lt_of_lt_of_le hb.2 HSR.out) k7)
      have N97 := hid (HN9.out.keep (fun b hb => hb.2) k7)
      have HS7 := hid k7.size
      clear k7 b97 hcb8
      obtain ⟨hcb8, -, hlb87⟩ := B87.out.facts
      obtain ⟨hcb9, -, hlb97⟩ := B97.out.facts
      have HSAME := hid (refSame_any (fun b => b < W7.heap.size) _ x8 (Nat.le_refl _) x9 _ _ W7 (fun _ h => h) (NeedIs.mono (fun _ _ => rfl) (fun b hb => Nat.lt_of_lt_of_le hb.2 (Nat.le_trans HSR.out HS7.out)) _ _ N87.out) (NeedIs.mono (fun _ _ => rfl) (fun b hb => Nat.lt_of_lt_of_le hb.2 HS7.out) _ _ N97.out))
      go_wp2_with fail
      refine HSAME.out.mono ?_
      rintro e wy ⟨⟨b, rfl, hb⟩, ky⟩
      obtain rfl : b = true := hb.2 HXE.out
      have KY := hid (K7.out.trans ky)
      clear hb ky hcb8 hcb9
      go_wp2_with fail
      go_ret
      exact ⟨rfl, KY.out⟩
  · have hz1' : (c1 == 0) = false := by simpa using hz1
    have hz1'' : (c1 != 0) = true := by simpa using hz1
    have h0 := HV0.out hz1
    subst h0
    have hs0 := HS1'.out (by rw [HC1.out]; exact hz1)
    subst hs0
    clear hz1
    have KX := hid K6.out
    have BX := hid B86.out
    have NX := hid N86.out
    have HSX := hid HS6.out
    generalize W6 = WX at KX BX NX HSX ⊢
    by_cases hl : 20000 < s.size
    · have hl' : (20000 : Int) < (s.size : Int) := by omega
      have HR2 := hid (show r8 = 2 by rw [← HRE.out]; exact rdE_long (by rw [size_list]; exact hl))
      have HZ8 := hid (HR8.out.2 (by rw [HRE.out, HR2.out]; decide))
      rw [HR2.out]
      obtain ⟨hcb8, -, hlb8⟩ := BX.out.facts
      go_wp2_with fail
      refine (refSame_any (fun b => b < WX.heap.size) _ x8 (Nat.le_refl _) (.node 0 At.zero ⟨#[]⟩ false []) _ zeroL WX (fun _ h => h) (NeedIs.mono (fun _ _ => rfl) (fun b hb => Nat.lt_of_lt_of_le hb.2 HSX.out) _ _ NX.out) (zeroL_is _ _)).mono ?_
      rintro e wy ⟨⟨b, rfl, hb⟩, ky⟩
      obtain rfl : b = true := hb.2 HZ8.out
      have KY := hid (KX.out.trans ky)
      clear hb ky hcb8
      go_wp2_with fail
      go_ret
      exact ⟨rfl, KY.out⟩
    · have hl' : ¬ (20000 : Int) < (s.size : Int) := by omega
      go_wp2_with fail
      refine (refReadNeed_any s WX (HE.out.keep KX.out) (HM.out.keep KX.out) (by omega)).mono ?_
      rintro e wr ⟨cs9, rfl, hp9, hp9', kk9⟩
      rw [HRE.out] at hp9 hp9' ⊢
      have KR := hid (KX.out.trans kk9)
      have BR := hid (BX.out.keep kk9 BX.out.facts.2.2)
      have NR := hid (NX.out.keep (fun b hb => Nat.lt_of_lt_of_le hb.2 HSX.out) kk9)
      have HSR := hid (Nat.le_trans HSX.out kk9.size)
      have HX9 : Hid (∃ x9 : NT, NeedIs (fun b => WX.heap.size ≤ b ∧ b < wr.heap.size) wr x9 cs9 ∧ x8 = x9) := by
        by_cases hz : r8 = 0
        · obtain ⟨x, hx1, hx2⟩ := hp9 hz
          exact ⟨x, hx2, Option.some.inj ((HR8.out.1 (HRE.out.trans hz)).symm.trans hx1)⟩
        · exact ⟨_, by rw [hp9' hz]; exact zeroL_is _ _, HR8.out.2 (fun h => hz (HRE.out.symm.trans h))⟩
      obtain ⟨x9, hx9, hxe⟩ := HX9.out
      have HN9 := hid hx9
      have HXE := hid hxe
      cases hxx : x9 with
      | node k9 a9 fl9 nt9 ks9 =>
      rw [hxx, NeedIs] at hx9
      obtain ⟨kp9, kc9, rfl, -, -, -⟩ := hx9
      clear hp9 hp9' kk9 hxx HX9 hxe
      obtain ⟨hcb8, -, hlb8⟩ := BR.out.facts
      have hrr : (r8 == r8) = true := by simp
      go_upto_region 12 with fail
      refine at_wp (fun W' => Keep wr W' ∧ NBox wr.heap.size #[.int .i64 k9, .string a9.n, .int .i64 a9.op, .int .i64 a9.v, .int .i64 a9.sl, .string a9.f, .bool a9.on, .string fl9, .bool nt9, .slice kp9 ks9.length kc9] W') ⟨Keep.alloc _ _, NBox.new wr #[.int .i64 k9, .string a9.n, .int .i64 a9.op, .int .i64 a9.v, .int .i64 a9.sl, .string a9.f, .bool a9.on, .string fl9, .bool nt9, .slice kp9 ks9.length kc9]⟩ ?_
      rintro W7 ⟨k7, b97⟩
      have K7 := hid (KR.out.trans k7)
      have B87 := hid (BR.out.keep k7 BR.out.facts.2.2)
      have B97 := hid b97
      have N87 := hid (NR.out.keep (fun b hb => Nat.lt_of_lt_of_le hb.2 HSR.out) k7)
      have N97 := hid (HN9.out.keep (fun b hb => hb.2) k7)
      have HS7 := hid k7.size
      clear k7 b97 hcb8
      obtain ⟨hcb8, -, hlb87⟩ := B87.out.facts
      obtain ⟨hcb9, -, hlb97⟩ := B97.out.facts
      have HSAME := hid (refSame_any (fun b => b < W7.heap.size) _ x8 (Nat.le_refl _) x9 _ _ W7 (fun _ h => h) (NeedIs.mono (fun _ _ => rfl) (fun b hb => Nat.lt_of_lt_of_le hb.2 (Nat.le_trans HSR.out HS7.out)) _ _ N87.out) (NeedIs.mono (fun _ _ => rfl) (fun b hb => Nat.lt_of_lt_of_le hb.2 HS7.out) _ _ N97.out))
      go_wp2_with fail
      refine HSAME.out.mono ?_
      rintro e wy ⟨⟨b, rfl, hb⟩, ky⟩
      obtain rfl : b = true := hb.2 HXE.out
      have KY := hid (K7.out.trans ky)
      clear hb ky hcb8 hcb9
      go_wp2_with fail
      go_ret
      exact ⟨rfl, KY.out⟩
end Go.Proofs.YtkckkjpkidcbnaaGreatDoor
