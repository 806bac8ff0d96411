/- The law ValidLess is true of any tree, wish and set. -/
import Derived.Test.YtlfonjngbpfelaaGreatDoorValidAllowed
namespace Go.Proofs.YtlfonjngbpfelaaGreatDoor
open Go.RowKit Go.Sort

def w0 : WI := ⟨[], [], [], []⟩
def wM (ma : List Int) : WI := ⟨[], [], ma, []⟩
theorem chkTS_nil {ps : List PK} (h : chkT ps = 0) : chkTS ps [] = 0 := by unfold chkTS; rw [h]; rfl
theorem validE_parts {ps : List PK} {wi : WI} {ms : List MB} (h : validE ps wi ms = 0) : chkTS ps ms = 0 ∧ chkT ps = 0 ∧ firstE (maE ps wi.ma) 0 wi.ma.length = 0 := by
  unfold validE at h
  split at h
  · rename_i hn; exact absurd h hn
  · rename_i hn
    have hw := Decidable.of_not_not hn
    refine ⟨h, tree_of h, ?_⟩
    unfold chkW at hw
    split at hw
    · rename_i hn; exact absurd hw hn
    · split at hw
      · rename_i hn; exact absurd hw hn
      · split at hw
        · rename_i hn; exact absurd hw hn
        · rename_i hn; exact Decidable.of_not_not hn
theorem chkW_M {ps : List PK} {ma : List Int} (h : chkT ps = 0) (hm : firstE (maE ps ma) 0 ma.length = 0) : chkW ps (wM ma) = 0 := by
  unfold chkW
  rw [show (wM ma).ins = [] from rfl, show (wM ma).ts = [] from rfl, show (wM ma).ma = ma from rfl, show (wM ma).on = [] from rfl, chkTS_nil h, hm]
  rfl
theorem less_E {ps : List PK} {wi : WI} {ms : List MB} (h : validE ps wi ms = 0) : validE ps w0 ms = 0 := by
  obtain ⟨h1, h2, -⟩ := validE_parts h
  unfold validE
  rw [show chkW ps w0 = 0 from chkW_M h2 rfl]
  exact h1
theorem allM_less {ps : List PK} {ma : List Int} {ms : List MB} : ∀ n, allM ps ma ms n = true → allM ps [] ms n = true
  | 0, _ => rfl
  | n + 1, h => by
    rw [allM, Bool.and_eq_true] at h
    rw [allM, Bool.and_eq_true]
    refine ⟨allM_less n h.1, ?_⟩
    have := h.2
    unfold memB at this ⊢
    simp only [Bool.and_eq_true] at this ⊢
    exact ⟨⟨by simp, this.1.2⟩, this.2⟩
theorem less_R {ps : List PK} {wi : WI} {ms : List MB} (hr : validR ps wi ms = true) : validR ps w0 ms = true := by
  unfold validR at hr ⊢
  rw [Bool.and_eq_true] at hr
  have h0 := less_E (of_decide_eq_true hr.1)
  rw [h0]
  have h2 := hr.2
  unfold validB at h2 ⊢
  rw [Bool.and_eq_true] at h2
  rw [show targB ps ms w0.ts = true from rfl, show w0.ma = [] from rfl, allM_less _ h2.2]
  rfl
theorem allM_get {ps : List PK} {ma : List Int} {ms : List MB} : ∀ n, allM ps ma ms n = true → ∀ k, k < n → memB ps ma ms k = true
  | 0, _, k, hk => absurd hk (Nat.not_lt_zero _)
  | n + 1, h, k, hk => by
    rw [allM, Bool.and_eq_true] at h
    by_cases e : k = n
    · rw [e]; exact h.2
    · exact allM_get n h.1 k (by omega)
theorem bare_holds {ps : List PK} {ms : List MB} (h : validR ps w0 ms = true) : ∀ k, k < ms.length → holdB ps ms k = true := by
  intro k hk
  unfold validR validB at h
  rw [Bool.and_eq_true, Bool.and_eq_true] at h
  have := allM_get _ h.2.2 k hk
  unfold memB at this
  simp only [Bool.and_eq_true] at this
  exact this.1.2
theorem holdsE_in {ps : List PK} {ms : List MB} (h : chkTS ps ms = 0) (k : Nat) (hk : k < ms.length) : holdsE ps ms k = 0 ∧ holdsR ps ms k = holdB ps ms k := by
  have h1 : holdsE ps ms k = 0 := by unfold holdsE; rw [h, if_neg (by simp), if_neg (by omega)]
  refine ⟨h1, ?_⟩
  unfold holdsR
  rw [h1]; simp
theorem none_valid {ps : List PK} {ma : List Int} (h : chkT ps = 0) (hm : firstE (maE ps ma) 0 ma.length = 0) : validE ps (wM ma) [] = 0 ∧ validR ps (wM ma) [] = true := by
  have h1 : validE ps (wM ma) [] = 0 := by unfold validE; rw [chkW_M h hm]; exact chkTS_nil h
  refine ⟨h1, ?_⟩
  unfold validR
  rw [h1]; rfl

theorem nil_wish (S : Nat → Prop) (w : World) (ma : List Int) (mav : Value) (h : NumsIs S w ma mav) : WishIs S w (wM ma) (.slice none 0 0) (.slice none 0 0) mav (.slice none 0 0) :=
  ⟨⟨_, _, rfl, Nat.zero_le _, fun h => absurd h (Nat.lt_irrefl 0)⟩, ⟨_, _, rfl, ⟨Nat.zero_le _, Nat.zero_le _⟩, fun h => absurd h (Nat.lt_irrefl 0)⟩, h, ⟨_, _, rfl, Nat.zero_le _, fun h => absurd h (Nat.lt_irrefl 0)⟩⟩
theorem nil_mbs (S : Nat → Prop) (w : World) : MbsIs S w [] (.slice none 0 0) := ⟨_, _, rfl, by decide, fun h => absurd h (by decide)⟩

set_option maxHeartbeats 4000000 in
set_option maxRecDepth 100000 in
theorem validLess_walk (S : Nat → Prop) (ps : List PK) (wi : WI) (ms : List MB) (tv tsv inv mav onv lv : Value) (w : World) (hS : ∀ b, S b → b < w.heap.size) (hp : PkgsIs S w ps tv) (hw : WishIs S w wi tsv inv mav onv) (hm : MbsIs S w ms lv) (hE : Env w) (hM : MaxAt w) :
    Calls Tryz.prog 9 #[.agg #[tv], .agg #[tsv, inv, mav, onv], lv] w fun e w' => e = .returned (.bool true) ∧ Keep w w' := by
  have HP := hid hp
  have HW := hid hw
  have HMS := hid hm
  have HE := hid hE
  have HM := hid hM
  obtain ⟨tp, tc, rfl, htlen⟩ := hp.len
  obtain ⟨p0, c0, rfl, hl0⟩ := hw.ts.len
  obtain ⟨p1, c1, rfl, hl1⟩ := hw.ins.len
  obtain ⟨p2, c2, rfl, hl2⟩ := hw.ma.len
  obtain ⟨p3, c3, rfl, hl3⟩ := hw.on.len
  obtain ⟨lp, lc, rfl, hllen⟩ := hm.len
  clear hp hw hm hE hM
  go_enter Tryz.func9, Tryz.ntmps9
  go_wp2_with fail
  refine at_calls (fun W' => Keep w W' ∧ VarAt w.heap.size 44 (.slice tp ps.length tc) W' ∧ Boxed (w.heap.size + 1) #[.slice p0 wi.ts.length c0, .slice p1 wi.ins.length c1, .slice p2 wi.ma.length c2, .slice p3 wi.on.length c3] W') ⟨(Keep.alloc _ _).alloc' _, (VarAt.new _ _ _).keep (Keep.alloc _ _) (by simp), boxed_at (by simp) _ _⟩ ?_
  rintro W0 ⟨k0, v0, b0⟩
  refine (valid_any S ps wi ms _ _ _ _ _ _ W0 (fun b hb => Nat.lt_of_lt_of_le (hS b hb) k0.size) (HP.out.keep hS k0) (HW.out.keep hS k0) (HMS.out.keep hS k0)).mono ?_
  rintro e w1 ⟨rfl, k1⟩
  have K1 := hid (k0.trans k1)
  have V1 := hid (v0.keep k1 v0.facts.2.2)
  have B1 := hid (b0.keep k1 b0.1)
  clear k0 v0 b0 k1
  by_cases hz : validE ps wi ms = 0
  · obtain ⟨hts, hct, hma⟩ := validE_parts hz
    have HE1 := hid (less_E hz)
    have HR1 : Hid (validR ps wi ms = true → validR ps w0 ms = true) := less_R
    have HH := hid (bare_holds (ps := ps) (ms := ms))
    have HIN := hid (holdsE_in hts)
    have HNO := hid (none_valid hct hma)
    rw [hz]
    generalize validR ps wi ms = r1 at HR1 ⊢
    clear hz hts hct hma
    go_wp2_with fail
    refine (allowed_any w1 (HE.out.keep K1.out) (HM.out.keep K1.out)).mono ?_
    rintro e w2 ⟨rfl, k2⟩
    have K2 := hid (K1.out.trans k2)
    have V2 := hid (V1.out.keep k2 V1.out.facts.2.2)
    have B2 := hid (B1.out.keep k2 B1.out.1)
    clear k2 K1 V1 B1
    obtain ⟨hct, -, hlt⟩ := V2.out.facts
    go_wp2_with fail
    refine (valid_any S ps w0 ms _ _ _ _ _ _ w2 (fun b hb => Nat.lt_of_lt_of_le (hS b hb) K2.out.size) (HP.out.keep hS K2.out) (nil_wish S w2 [] (.slice none 0 0) ⟨_, _, rfl, by decide, fun h => absurd h (by decide)⟩) (HMS.out.keep hS K2.out)).mono ?_
    rintro e w3 ⟨rfl, k3⟩
    rw [HE1.out]
    have K3 := hid (K2.out.trans k3)
    have V3 := hid (V2.out.keep k3 V2.out.facts.2.2)
    have B3 := hid (B2.out.keep k3 B2.out.1)
    clear k3 K2 V2 B2 hct hlt HE1
    generalize validR ps w0 ms = r2 at HR1 HH ⊢
    have hcond : ¬ (r1 = true ∧ r2 = false) := fun ⟨h1, h2⟩ => by
      have := HR1.out h1
      rw [h2] at this; cases this
    have hnext : ∀ (k : Nat), k < ms.length → r2 = true → holdB ps ms k = true := fun k hk h => HH.out h k hk
    have HNX := hid hnext
    clear HR1 HH hnext
    have tail : Hid (∀ (W : World), Keep w W → VarAt w.heap.size 44 (.slice tp ps.length tc) W → Boxed (w.heap.size + 1) #[.slice p0 wi.ts.length c0, .slice p1 wi.ins.length c1, .slice p2 wi.ma.length c2, .slice p3 wi.on.length c3] W → True) := fun _ _ _ _ => trivial
    clear tail
    cases r1 <;> cases r2
    case true.false => exact absurd ⟨rfl, rfl⟩ hcond
    all_goals
      clear hcond
      go_wp2_with fail
      go_loopg [46] ms.length (fun gk i wr => ∃ j : Nat, j + gk = ms.length ∧ i = .int .i64 j ∧ Keep w wr ∧ VarAt w.heap.size 44 (.slice tp ps.length tc) wr ∧ Boxed (w.heap.size + 1) #[.slice p0 wi.ts.length c0, .slice p1 wi.ins.length c1, .slice p2 wi.ma.length c2, .slice p3 wi.on.length c3] wr)
      case atStart => exact ⟨0, by simp, rfl, K3.out, V3.out, B3.out⟩
      case round =>
        obtain ⟨j, hj, rfl, hkp, hvt, hbx⟩ := hrel
        have HK := hid hkp
        have HV := hid hvt
        have HB := hid hbx
        obtain ⟨hct, -, hltv⟩ := hvt.facts
        have hcb := hbx.2
        have hlb := hbx.1
        clear hkp hvt hbx K3 V3 B3
        by_cases hlt : j < ms.length
        · obtain ⟨hi1, hi2⟩ := HIN.out j hlt
          have HI1 := hid hi1
          have HI2 := hid hi2
          have HN1 := hid (HNX.out j hlt)
          clear hi1 hi2
          go_wp2_with fail
          refine (holdsAll_any S ps ms _ _ j wr (fun b hb => Nat.lt_of_lt_of_le (hS b hb) HK.out.size) (HP.out.keep hS HK.out) (HMS.out.keep hS HK.out)).mono ?_
          rintro e w4 ⟨rfl, k4⟩
          rw [HI1.out, HI2.out]
          have K4 := hid (HK.out.trans k4)
          have V4 := hid (HV.out.keep k4 HV.out.facts.2.2)
          have B4 := hid (HB.out.keep k4 HB.out.1)
          clear k4 hct hcb HI1 HI2
          first
            | (have hh : holdB ps ms j = true := HN1.out (by trivial)
               rw [hh]
               clear hh HN1)
            | (generalize holdB ps ms j = β at HN1 ⊢
               clear HN1)
          go_wp2_with fail
          go_roundg (ms.length - (j + 1))
          case rel => exact ⟨j + 1, by omega, by go_num, K4.out, V4.out, B4.out⟩
          case measure => omega
        · go_wp2_with fail
          refine (valid_any S ps (wM wi.ma) [] _ _ _ _ _ _ wr (fun b hb => Nat.lt_of_lt_of_le (hS b hb) HK.out.size) (HP.out.keep hS HK.out) (nil_wish S wr wi.ma _ (HW.out.keep hS HK.out).ma) (nil_mbs S wr)).mono ?_
          rintro e w4 ⟨rfl, k4⟩
          rw [HNO.out.1, HNO.out.2]
          have K4 := hid (HK.out.trans k4)
          clear k4 hct hcb
          go_wp2_with fail
          go_ret
          exact ⟨rfl, K4.out⟩
  · generalize validE ps wi ms = ve at hz ⊢
    have hz1 : (ve == 0) = false := by simp [hz]
    have hz2 : (ve != 0) = true := by simp [hz]
    generalize validR ps wi ms = r1
    clear hz
    go_wp2_with fail
    refine (allowed_any w1 (HE.out.keep K1.out) (HM.out.keep K1.out)).mono ?_
    rintro e w2 ⟨rfl, k2⟩
    have K2 := hid (K1.out.trans k2)
    clear k2
    go_wp2_with fail
    refine (allowed_any w2 (HE.out.keep K2.out) (HM.out.keep K2.out)).mono ?_
    rintro e w3 ⟨rfl, k3⟩
    have K3 := hid (K2.out.trans k3)
    clear k3
    go_wp2_with fail
    go_ret
    exact ⟨rfl, K3.out⟩
end Go.Proofs.YtlfonjngbpfelaaGreatDoor
