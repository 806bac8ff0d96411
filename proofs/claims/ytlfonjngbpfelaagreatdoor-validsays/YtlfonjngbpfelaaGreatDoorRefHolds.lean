/- quartermasterref.HoldsIn answers as the plain function holdsB says, of a right tree and a right set. -/
import Derived.Test.YtlfonjngbpfelaaGreatDoorRefSet
import Derived.Test.YtlfonjngbpfelaaGreatDoorValidHold
namespace Go.Proofs.YtlfonjngbpfelaaGreatDoor
open Go.RowKit Go.Sort

/-- How many of the first n members, but k, are what the atom asks? -/
def cntN (ps : List PK) (ms : List MB) (k : Int) (a : At) : Nat → Nat
  | 0 => 0
  | n + 1 => cntN ps ms k a n + (if (!decide ((n : Int) = k) && isB (pkOf ps (ms.getD n MB.zero)) (ms.getD n MB.zero) a) = true then 1 else 0)
theorem cntN_le (ps : List PK) (ms : List MB) (k : Int) (a : At) : ∀ n, cntN ps ms k a n ≤ n
  | 0 => Nat.le_refl 0
  | n + 1 => by have := cntN_le ps ms k a n; rw [cntN]; split <;> omega
theorem cntN_some (ps : List PK) (ms : List MB) (k : Int) (a : At) : ∀ n, decide (0 < cntN ps ms k a n) = someN ps ms k a n
  | 0 => by simp [cntN, someN]
  | n + 1 => by
    rw [cntN, someN, ← cntN_some ps ms k a n]
    cases (!decide ((n : Int) = k) && isB (pkOf ps (ms.getD n MB.zero)) (ms.getD n MB.zero) a)
    · simp
    · simp
theorem cnt_pos (ps : List PK) (ms : List MB) (k : Int) (a : At) : decide ((0 : Int) < ((cntN ps ms k a ms.length : Nat) : Int)) = someB ps ms k a := by
  unfold someB
  rw [← cntN_some]
  exact decide_eq_decide.2 (by omega)
theorem cnt_zero (ps : List PK) (ms : List MB) (k : Int) (a : At) : (((cntN ps ms k a ms.length : Nat) : Int) == 0) = !someB ps ms k a := by
  rw [← cnt_pos]
  by_cases h : cntN ps ms k a ms.length = 0
  · rw [h]; rfl
  · have h1 : (0 : Int) < ((cntN ps ms k a ms.length : Nat) : Int) := by omega
    rw [decide_eq_true h1]
    simp [h]
theorem count_any (g : NT → Bool) (l : List NT) : decide ((0 : Int) < ((l.countP g : Nat) : Int)) = l.any g := by
  cases h : l.any g
  · have h0 : ¬ 0 < l.countP g := fun h1 => by
      obtain ⟨a, ha, hg⟩ := List.countP_pos_iff.1 h1
      rw [List.any_eq_false] at h
      exact h a ha hg
    exact decide_eq_false (by omega)
  · rw [List.any_eq_true] at h
    have := List.countP_pos_iff.2 h
    exact decide_eq_true (by omega)
theorem count_all (g : NT → Bool) (l : List NT) : (((l.countP g : Nat) : Int) == (l.length : Int)) = !l.any (fun t => !g t) := by
  cases h : l.any (fun t => !g t)
  · have h1 : l.countP g = l.length := List.countP_eq_length.2 fun a ha => by
      rw [List.any_eq_false] at h
      have := h a ha
      simpa using this
    simp [h1]
  · have h1 : ¬ l.countP g = l.length := fun e => by
      rw [List.any_eq_true] at h
      obtain ⟨a, ha, hg⟩ := h
      have := List.countP_eq_length.1 e a ha
      rw [this] at hg; cases hg
    have h2 : ¬ ((l.countP g : Nat) : Int) = (l.length : Int) := by omega
    simp [h2]
theorem count_step (g : NT → Bool) (l : List NT) (j : Nat) (h : j < l.length) : (l.take (j + 1)).countP g = (l.take j).countP g + (if g l[j] = true then 1 else 0) := by
  rw [List.take_succ_eq_append_getElem h, List.countP_append, List.countP_singleton]
theorem flag_first {fs : List ByteArray} {x : ByteArray} (h : flagAt fs x < fs.length) : fs[flagAt fs x] = x :=
  of_decide_eq_true (List.findIdx_getElem (p := fun f => decide (f = x)) (w := h))
theorem flag_least {fs : List ByteArray} {x : ByteArray} {j : Nat} (hj : j < fs.length) (e : fs[j] = x) : flagAt fs x ≤ j :=
  Nat.le_of_not_lt fun h => by
    have := List.not_of_lt_findIdx h
    simp [e] at this
/-- Each flag of a right package stands once. -/
theorem flag_once {fs : List ByteArray} (h : chkFs fs = 0) {x : ByteArray} {j : Nat} (hj : j < fs.length) (e : fs[j] = x) : flagAt fs x = j := by
  have h2 := (chkFs_get h).1
  have hle := flag_least hj e
  rcases Nat.lt_or_ge (flagAt fs x) j with hlt | hge
  · exfalso
    have hl : flagAt fs x < fs.length := by omega
    have e0 := flag_first hl
    have h0 : flagAt fs x = 0 := by omega
    have h1 : j = 1 := by omega
    subst h1
    have e1 : fs[0]'(by omega) = x := by rw [← e0]; simp [h0]
    have hz : firstE (flE fs) 0 fs.length = 0 := by
      have := h; unfold chkFs at this; rwa [if_neg (by omega)] at this
    have hl2 : fs.length = 2 := by omega
    rw [hl2] at hz
    have hf1 : flE fs 1 = 0 := by
      rw [firstE, firstE, firstE] at hz
      split at hz
      · split at hz
        · assumption
        · rename_i h3; exact absurd hz h3
      · rename_i h3; exact absurd hz h3
    unfold flE at hf1
    have g1 : fs.getD 1 ⟨#[]⟩ = x := by rw [List.getD_eq_getElem?_getD, List.getElem?_eq_getElem hj, Option.getD_some, e]
    have g0 : fs.getD 0 ⟨#[]⟩ = x := by rw [List.getD_eq_getElem?_getD, List.getElem?_eq_getElem (by omega), Option.getD_some, e1]
    have hs : leS x x = true := by unfold leS; simp
    rw [g1, show (1 : Nat) - 1 = 0 from rfl, g0, hs] at hf1
    split at hf1
    · cases hf1
    · rw [if_pos ⟨by omega, rfl⟩] at hf1; cases hf1
  · omega

theorem var_at' {W : World} {n : Nat} (h : W.heap.size = n) (v : Value) (T : TypeId) : VarAt n T v (W.alloc (.cells #[v] T)) := h ▸ VarAt.new W T v
theorem enter_many (args : Array Value) (w : World) : (callFunc 115 args).run Tryz.prog w = .ok (.enter 115 args) w := enters_of Tryz.func115 (by kernel_rfl) rfl args w

set_option maxHeartbeats 4000000 in
set_option maxRecDepth 100000 in
theorem many_any (S : Nat → Prop) (ps : List PK) (ms : List MB) (tp lp : Option Addr) (tc lc ct cl : Nat) (but : Int) (an af : ByteArray) (aop av asl : Int) (aon : Bool) (w : World) (hS : ∀ b, S b → b < w.heap.size) (hp : PkgsIs S w ps (.slice tp ps.length tc)) (hct : chkT ps = 0) (hm : MbsIs S w ms (.slice lp ms.length lc)) (hok : SetOk ps ms)
    (ht : VarAt ct 44 (.slice tp ps.length tc) w) (hl : VarAt cl 45 (.slice lp ms.length lc) w) :
    Calls Tryz.prog 115 #[.agg #[.string an, .int .i64 aop, .int .i64 av, .int .i64 asl, .string af, .bool aon], .int .i64 but, .pointer (some ⟨cl, 0, none⟩), .pointer (some ⟨ct, 0, none⟩)] w fun e w' => e = .returned (.int .i64 ((cntN ps ms but ⟨an, aop, av, asl, af, aon⟩ ms.length : Nat) : Int)) ∧ Keep w w' := by
  have HP := hid hp
  have HMS := hid hm
  have HT := hid ht
  have HL := hid hl
  have HOK := hid hok
  have HCT := hid hct
  obtain ⟨-, -, -, hllen⟩ := hm.len
  clear hp hm ht hl hok hct
  go_enter Tryz.func115, Tryz.ntmps115
  go_upto_region 1 with fail
  refine at_wp (fun W' => Keep w W' ∧ Boxed w.heap.size #[.string an, .int .i64 aop, .int .i64 av, .int .i64 asl, .string af, .bool aon] W') ⟨Keep.alloc _ _, Boxed.new _ _ _⟩ ?_
  rintro W0 ⟨k0, b0⟩
  have K0 := hid k0
  have B0 := hid b0
  obtain ⟨hcl, -, hll⟩ := (HL.out.keep k0 HL.out.facts.2.2).facts
  clear k0 b0
  go_wp2_with fail
  clear hcl hll
  go_loopg [12, 7] ms.length (fun gk i c wr => ∃ (j : Nat), j + gk = ms.length ∧ i = .int .i64 j ∧ c = .int .i64 ((cntN ps ms but ⟨an, aop, av, asl, af, aon⟩ j : Nat) : Int) ∧ Keep w wr ∧ Boxed w.heap.size #[.string an, .int .i64 aop, .int .i64 av, .int .i64 asl, .string af, .bool aon] wr)
  case atStart => exact ⟨0, by simp, rfl, rfl, K0.out, B0.out⟩
  case round =>
    obtain ⟨j, hj, rfl, rfl, hkp, hbx⟩ := hrel
    have HK := hid hkp
    have HB := hid hbx
    clear hkp hbx K0 B0
    by_cases hlt : j < ms.length
    · have hSr : ∀ b, S b → b < wr.heap.size := fun b hb => Nat.lt_of_lt_of_le (hS b hb) HK.out.size
      obtain ⟨mb, moff, mcap, hmv, hmS, -, hrow⟩ := (HMS.out.keep hS HK.out).get hlt
      cases hmv
      obtain ⟨op, oc, hc0, hc1, hon, hbl⟩ := hrow j _ (List.getElem?_eq_getElem hlt)
      obtain ⟨h0, h1, h2⟩ := HOK.out j _ (List.getElem?_eq_getElem hlt)
      have HC := hid (cntN_le ps ms but ⟨an, aop, av, asl, af, aon⟩ j)
      have HST : Hid (cntN ps ms but ⟨an, aop, av, asl, af, aon⟩ (j + 1) = cntN ps ms but ⟨an, aop, av, asl, af, aon⟩ j + (if (!decide ((j : Int) = but) && isB (pkOf ps ms[j]) ms[j] ⟨an, aop, av, asl, af, aon⟩) = true then 1 else 0)) := by
        show _ = _
        rw [cntN, getD_mb ms j hlt]
      have HIS : Hid (∀ W, Keep wr W → Calls Tryz.prog 114 #[.agg #[.slice tp ps.length tc], .agg #[.int .i64 ms[j].pl, .slice op ms[j].on.length oc], .agg #[.string an, .int .i64 aop, .int .i64 av, .int .i64 asl, .string af, .bool aon]] W fun e w' => e = .returned (.bool (isB (pkOf ps ms[j]) ms[j] ⟨an, aop, av, asl, af, aon⟩)) ∧ Keep W w') := fun W kW =>
        refIs_any S ps ms[j] op oc _ an af aop av asl aon W (fun b hb => Nat.lt_of_lt_of_le (hSr b hb) kW.size) (HP.out.keep hS (HK.out.trans kW)) HCT.out (hbl.keep hSr kW) h0 h1 h2 hon
      generalize isB (pkOf ps ms[j]) ms[j] ⟨an, aop, av, asl, af, aon⟩ = β at HST HIS
      generalize ms[j].pl = pl at hc0 HIS
      generalize ms[j].on.length = ol at hc1 HIS hon
      generalize hcn : cntN ps ms but ⟨an, aop, av, asl, af, aon⟩ j = c at HST HC ⊢
      have HCN := hid hcn
      have hcj := HC.out
      have hmlt := hSr mb hmS
      clear hrow hbl h0 h1 h2 hcn
      by_cases hb : (j : Int) = but
      · have HS0 : Hid (cntN ps ms but ⟨an, aop, av, asl, af, aon⟩ (j + 1) = c) := by show _ = _; rw [HST.out, decide_eq_true hb]; rfl
        have hb1 : ((j : Int) == but) = true := by simp [hb]
        have hb2 : ((j : Int) != but) = false := by simp [hb]
        clear HST HIS hb
        go_upto_region 5 with fail
        refine at_wp (fun W' => Keep wr W') (Keep.alloc _ _) ?_
        intro W1 k1
        have K1 := hid (HK.out.trans k1)
        have B1 := hid (HB.out.keep k1 HB.out.1)
        clear hc0 hc1 k1
        go_wp2_with fail
        go_roundg (ms.length - (j + 1))
        case rel => exact ⟨j + 1, by omega, by go_num, by rw [HS0.out], K1.out, B1.out⟩
        case measure => omega
      · have HS0 : Hid (cntN ps ms but ⟨an, aop, av, asl, af, aon⟩ (j + 1) = c + if β = true then 1 else 0) := by show _ = _; rw [HST.out, decide_eq_false hb]; rfl
        have hb1 : ((j : Int) == but) = false := by simp [hb]
        have hb2 : ((j : Int) != but) = true := by simp [hb]
        clear HST hb
        go_upto_region 5 with fail
        refine at_wp (fun W' => Keep wr W' ∧ Boxed wr.heap.size #[.int .i64 pl, .slice op ol oc] W') ⟨Keep.alloc _ _, Boxed.new _ _ _⟩ ?_
        rintro W1 ⟨k1, b1⟩
        have K1' := hid k1
        have K1 := hid (HK.out.trans k1)
        have B1 := hid (HB.out.keep k1 HB.out.1)
        have hb1c := b1.2
        have hb1l := b1.1
        have hbac := B1.out.2
        have hbal := B1.out.1
        obtain ⟨htc, -, htl⟩ := (HT.out.keep K1.out HT.out.facts.2.2).facts
        clear hc0 hc1 k1 b1
        go_wp2_with fail
        refine (HIS.out W1 K1'.out).mono ?_
        rintro e w2 ⟨rfl, k2⟩
        have K2 := hid (K1.out.trans k2)
        have B2 := hid (B1.out.keep k2 B1.out.1)
        clear k2 hb1c hb1l hbac hbal htc htl HIS
        cases β
        · go_wp2_with fail
          go_roundg (ms.length - (j + 1))
          case rel => exact ⟨j + 1, by omega, by go_num, by rw [HS0.out]; rfl, K2.out, B2.out⟩
          case measure => omega
        · go_wp2_with fail
          go_roundg (ms.length - (j + 1))
          case rel => exact ⟨j + 1, by omega, by go_num, by rw [HS0.out]; go_num, K2.out, B2.out⟩
          case measure => omega
    · obtain rfl : j = ms.length := by omega
      go_wp2_with fail
      go_ret
      exact ⟨rfl, HK.out⟩

set_option maxHeartbeats 8000000 in
set_option maxRecDepth 100000 in
theorem refHolds_any {S : Nat → Prop} {ps : List PK} {ms : List MB} {k : Nat} {tp lp : Option Addr} {tc lc : Nat} (hk : k < ms.length) (hok : SetOk ps ms) (hct : chkT ps = 0) :
    ∀ (m : Nat) (t : NT), t.size ≤ m → (∀ f ∈ t.flags, flagAt (pkOf ps ms[k]).fl f < (pkOf ps ms[k]).fl.length) → ∀ (cs : List Value) (w : World), (∀ b, S b → b < w.heap.size) → PkgsIs S w ps (.slice tp ps.length tc) → MbsIs S w ms (.slice lp ms.length lc) → NeedIs S w t cs →
    Calls Tryz.prog 52 #[.agg #[.slice tp ps.length tc], .slice lp ms.length lc, .int .i64 k, .agg cs.toArray] w fun e w' => e = .returned (.bool (holdsB ps ms k t)) ∧ Keep w w' := by
  intro m
  induction m with
  | zero =>
    rintro ⟨kd, a, fl, nt, kids⟩ hm
    rw [NT.size] at hm; omega
  | succ m ih =>
    rintro ⟨kd, a, fl, nt, kids⟩ hm hfl cs w hS hp hms hn
    rw [NT.size] at hm
    rw [NeedIs] at hn
    obtain ⟨kp, kc, rfl, hcap, hmax, hkids⟩ := hn
    have HK := hid hkids
    have HP := hid hp
    have HMS := hid hms
    obtain ⟨-, -, -, hllen⟩ := hms.len
    have HIH : Hid (∀ (j : Nat) (h : j < kids.length) (cs : List Value) (W : World), Keep w W → NeedIs S W kids[j] cs → Calls Tryz.prog 52 #[.agg #[.slice tp ps.length tc], .slice lp ms.length lc, .int .i64 k, .agg cs.toArray] W fun e w' => e = .returned (.bool (holdsB ps ms k kids[j])) ∧ Keep W w') := fun j h cs W kw hnd =>
      ih kids[j] (by have := sizeL_get kids j h; omega) (fun f hf => hfl f (kid_flags kd a fl nt kids j h f hf)) cs W (fun b hb => Nat.lt_of_lt_of_le (hS b hb) kw.size) (hp.keep hS kw) (hms.keep hS kw) hnd
    have HFL : Hid (kd = 5 → flagAt (pkOf ps ms[k]).fl fl < (pkOf ps ms[k]).fl.length) := fun h5 => hfl fl (by rw [NT.flags, if_pos h5]; simp)
    have hmf : ∀ (fn : Fn) (first cap : Array Value) (w : World), (Instr.makeFunc fn first cap).run Tryz.prog w = .ok (.func fn first cap) w := fun _ _ _ _ => rfl
    have hent := enter_many
    clear ih hkids hp hms hfl
    go_enter Tryz.func52, Tryz.ntmps52
    go_upto_region 1 with fail
    refine at_wp (fun W' => Keep w W' ∧ VarAt w.heap.size 44 (.slice tp ps.length tc) W' ∧ VarAt (w.heap.size + 1) 45 (.slice lp ms.length lc) W' ∧ Boxed (w.heap.size + 1 + 1) #[.int .i64 kd, .string a.n, .int .i64 a.op, .int .i64 a.v, .int .i64 a.sl, .string a.f, .bool a.on, .string fl, .bool nt, .slice kp kids.length kc] W')
      ⟨((Keep.alloc _ _).alloc' _).alloc' _, (VarAt.new _ _ _).keep ((Keep.alloc _ _).alloc' _) (by simp), (var_at' (by simp) _ _).keep (Keep.alloc _ _) (by simp), boxed_at' (by simp) _ _⟩ ?_
    rintro W0 ⟨k0, v0, l0, b0⟩
    generalize w.heap.size + 1 + 1 = cn at b0 ⊢
    generalize w.heap.size + 1 = cl at l0 ⊢
    generalize hctn : w.heap.size = ct at v0 ⊢
    rw [← hctn] at v0
    have K0 := hid k0
    have V0 := hid v0
    have L0 := hid l0
    have B0 := hid b0
    have hbc := b0.2
    have hbl := b0.1
    clear k0 v0 l0 b0
    subst hctn
    go_wp2_with fail
    clear hbc hbl
    go_loopg [19, 10] kids.length (fun gk i g wr => ∃ j : Nat, j + gk = kids.length ∧ i = .int .i64 j ∧ g = .int .i64 (((kids.take j).countP (holdsB ps ms k) : Nat) : Int) ∧ Keep w wr ∧ VarAt w.heap.size 44 (.slice tp ps.length tc) wr ∧ VarAt cl 45 (.slice lp ms.length lc) wr ∧ Boxed cn #[.int .i64 kd, .string a.n, .int .i64 a.op, .int .i64 a.v, .int .i64 a.sl, .string a.f, .bool a.on, .string fl, .bool nt, .slice kp kids.length kc] wr)
    case atStart => exact ⟨0, by simp, rfl, by simp, K0.out, V0.out, L0.out, B0.out⟩
    case round =>
      obtain ⟨j, hj, rfl, rfl, hkp, hvt, hvl, hbx⟩ := hrel
      have HKP := hid hkp
      have HV := hid hvt
      have HL := hid hvl
      have HB := hid hbx
      clear hkp hvt hvl hbx K0 V0 L0 B0
      by_cases hlt : j < kids.length
      · obtain ⟨p, cs, hp, hSp, hcell, hneed⟩ := kidsIs_get (KidsIs.mono (below_cells hS HKP.out) (fun _ h => h) kids kp 0 HK.out) j hlt
        have hSr : ∀ b, S b → b < wr.heap.size := fun b hb => Nat.lt_of_lt_of_le (hS b hb) HKP.out.size
        have HCALL : Hid (∀ W, Keep wr W → Calls Tryz.prog 52 #[.agg #[.slice tp ps.length tc], .slice lp ms.length lc, .int .i64 k, .agg cs.toArray] W fun e w' => e = .returned (.bool (holdsB ps ms k kids[j])) ∧ Keep W w') := fun W kW => HIH.out j hlt cs W (HKP.out.trans kW) (hneed.keep hSr kW)
        have HST := hid (count_step (holdsB ps ms k) kids j hlt)
        have hcl : (kids.take j).countP (holdsB ps ms k) ≤ j := Nat.le_trans List.countP_le_length (by simp; omega)
        subst hp
        rw [Nat.zero_add] at hcell
        generalize holdsB ps ms k kids[j] = β at HCALL HST
        generalize hcn : (kids.take j).countP (holdsB ps ms k) = c at HST hcl ⊢
        cases hkid : kids[j] with
        | node k' a' fl' nt' kids' =>
        rw [hkid, NeedIs] at hneed
        obtain ⟨kp', kc', rfl, -, -, -⟩ := hneed
        obtain ⟨c0, c1, c2, c3, c4, c5, c6, c7, c8, c9⟩ := cells10 hcell
        obtain ⟨htc, -, htl⟩ := HV.out.facts
        obtain ⟨hlc, -, hll⟩ := HL.out.facts
        clear hcell hkid hcn
        go_wp2_with fail
        refine at_calls (fun W' => Keep wr W') (Keep.alloc _ _) ?_
        intro W1 k1
        refine (HCALL.out W1 k1).mono ?_
        rintro e w2 ⟨rfl, k2⟩
        have k12 := k1.trans k2
        have K2 := hid (HKP.out.trans k12)
        have V2 := hid (HV.out.keep k12 HV.out.facts.2.2)
        have L2 := hid (HL.out.keep k12 HL.out.facts.2.2)
        have B2 := hid (HB.out.keep k12 HB.out.1)
        clear k1 k2 k12 c0 c1 c2 c3 c4 c5 c6 c7 c8 c9 HCALL htc htl hlc hll
        cases β
        · go_wp2_with fail
          go_roundg (kids.length - (j + 1))
          case rel => exact ⟨j + 1, by omega, by go_num, by rw [HST.out]; rfl, K2.out, V2.out, L2.out, B2.out⟩
          case measure => omega
        · go_wp2_with fail
          go_roundg (kids.length - (j + 1))
          case rel => exact ⟨j + 1, by omega, by go_num, by rw [HST.out]; go_num, K2.out, V2.out, L2.out, B2.out⟩
          case measure => omega
      · obtain rfl : j = kids.length := by omega
        have hcl : (kids.take kids.length).countP (holdsB ps ms k) ≤ kids.length := Nat.le_trans List.countP_le_length (by simp)
        rw [List.take_length] at hcl ⊢
        have HANY := hid (count_any (holdsB ps ms k) kids)
        have HALL := hid (count_all (holdsB ps ms k) kids)
        have hcells := HB.out.2
        have hbl := HB.out.1
        have hSr : ∀ b, S b → b < wr.heap.size := fun b hb => Nat.lt_of_lt_of_le (hS b hb) HKP.out.size
        have HMANY : Hid (∀ but : Int, Calls Tryz.prog 115 #[.agg #[.string a.n, .int .i64 a.op, .int .i64 a.v, .int .i64 a.sl, .string a.f, .bool a.on], .int .i64 but, .pointer (some ⟨cl, 0, none⟩), .pointer (some ⟨w.heap.size, 0, none⟩)] wr fun e w' => e = .returned (.int .i64 ((cntN ps ms but a ms.length : Nat) : Int)) ∧ Keep wr w') := fun but =>
          many_any S ps ms tp lp tc lc w.heap.size cl but a.n a.f a.op a.v a.sl a.on wr hSr (HP.out.keep hS HKP.out) hct (HMS.out.keep hS HKP.out) hok HV.out HL.out
        generalize kids.countP (holdsB ps ms k) = G at HANY HALL hcl ⊢
        clear HIH
        by_cases h1 : kd = 1
        · subst h1
          have HX : Hid (holdsB ps ms k (.node 1 a fl nt kids) = someB ps ms (-1) a) := by show _ = _; rw [holdsB, if_pos rfl]
          go_wp2_with fail
          refine (HMANY.out (-1)).mono ?_
          rintro e w2 ⟨rfl, k2⟩
          have K2 := hid (HKP.out.trans k2)
          have HC := hid (cnt_pos ps ms (-1) a)
          generalize ((cntN ps ms (-1) a ms.length : Nat) : Int) = c at HC ⊢
          clear k2 hcells hbl
          go_wp2_with fail
          go_ret
          exact ⟨ret_bool (by rw [HX.out, ← HC.out]), K2.out⟩
        by_cases h2 : kd = 2
        · subst h2
          have HX : Hid (holdsB ps ms k (.node 2 a fl nt kids) = !someB ps ms k a) := by show _ = _; rw [holdsB, if_neg (by decide), if_pos rfl]
          clear h1
          go_wp2_with fail
          refine (HMANY.out k).mono ?_
          rintro e w2 ⟨rfl, k2⟩
          have K2 := hid (HKP.out.trans k2)
          have HC := hid (cnt_zero ps ms k a)
          generalize ((cntN ps ms k a ms.length : Nat) : Int) = c at HC ⊢
          clear k2 hcells hbl
          go_wp2_with fail
          go_ret
          exact ⟨ret_bool (by rw [HX.out, ← HC.out]), K2.out⟩
        by_cases h4 : kd = 4
        · subst h4
          have HX : Hid (holdsB ps ms k (.node 4 a fl nt kids) = kids.any (holdsB ps ms k)) := by show _ = _; rw [holdsB, if_neg (by decide), if_neg (by decide), if_pos rfl, anyB_any]
          clear h1 h2
          go_wp2_with fail
          go_ret
          exact ⟨ret_bool (by rw [HX.out, ← HANY.out]; exact decide_eq_decide.2 (by omega)), HKP.out⟩
        have b1 : (kd == 1) = false := by simp [h1]
        have b2 : (kd == 2) = false := by simp [h2]
        have b4 : (kd == 4) = false := by simp [h4]
        by_cases h5 : kd = 5
        · have HFA := hid (HFL.out h5)
          subst h5
          clear h1 h2 h4 b1 b2 b4 HFL HMANY HANY
          have HX : Hid (holdsB ps ms k (.node 5 a fl nt kids) = if ((ms.getD k MB.zero).on.getD (flagAt (pkOf ps (ms.getD k MB.zero)).fl fl) false == nt) = true then true else !kids.any (fun t => !holdsB ps ms k t)) := by
            show _ = _
            rw [holdsB, if_neg (by decide), if_neg (by decide), if_neg (by decide), allB_any]
            simp only [true_and]
          rw [getD_mb ms k hk, ← HALL.out] at HX
          obtain ⟨mb, moff, mcap, hmv, hmS, -, hrow⟩ := (HMS.out.keep hS HKP.out).get hk
          cases hmv
          obtain ⟨op, oc, hm0, hm1, hon, hbls⟩ := hrow k _ (List.getElem?_eq_getElem hk)
          obtain ⟨hq0, hq1, hol⟩ := hok k _ (List.getElem?_eq_getElem hk)
          obtain ⟨q, hq⟩ : ∃ q : Nat, ms[k].pl = q := ⟨ms[k].pl.toNat, by omega⟩
          have hqp : q < ps.length := by omega
          have hpk : pkOf ps ms[k] = ps[q] := by unfold pkOf; rw [hq, Int.toNat_natCast, getD_pk ps q hqp]
          rw [hpk] at HX HFA hol
          obtain ⟨tb, toff, tcap, htv, htb, -, htrow⟩ := (HP.out.keep hS HKP.out).get hqp
          cases htv
          obtain ⟨cs, hcs, hpj⟩ := htrow q hqp
          have HCF : Hid (chkFs ps[q].fl = 0) := (chkP_get ((chkT_get hct).2 _ (List.getElem_mem hqp))).2.2.1
          generalize ps[q] = pk at hpj hol HCF HX HFA
          obtain ⟨kk, a', fl', nt', kids', kp', fp, kc', fc, hnd, hflen, rfl, hf, -⟩ := hpj.spelt
          obtain ⟨-, -, -, c3, -⟩ := cells14 hcs
          have HF := hid hf
          rw [hq] at hm0
          have HBS := hid hbls
          have HOL := hid hol
          clear hcs hpj htrow hnd hf hpk hq hq0 hq1 hrow hbls hol
          rcases pk with ⟨n', v', sl', fs, nd'⟩
          simp only at hflen c3 HF HCF HX HFA HOL
          have hmlt := hSr mb hmS
          have htblt := hSr tb htb
          obtain ⟨htc, -, htl⟩ := HV.out.facts
          obtain ⟨hlc, -, hll⟩ := HL.out.facts
          generalize ms[k].on = on at hm1 hon HBS HOL HX
          go_upto_region 17 with fail
          go_quiet (fail)
          have k3 : Keep wr (wr.drewN nq) := Keep.drewN (Keep.refl _) _
          generalize wr.drewN nq = W3 at k3 ⊢
          have K3' := hid k3
          have K3 := hid (HKP.out.trans k3)
          have L3 := hid (HL.out.keep k3 HL.out.facts.2.2)
          have B3 := hid (HB.out.keep k3 HB.out.1)
          have M1 : Hid (W3.cell? ⟨mb, moff + k * 2 + 1, none⟩ = some (.slice op on.length oc)) := (k3.cell (p := ⟨mb, moff + k * 2 + 1, none⟩) hmlt).trans hm1
          have hml3 : mb < W3.heap.size := Nat.lt_of_lt_of_le hmlt k3.size
          have HFS := hid (HF.out.keep hSr k3)
          have HBS3 := hid (HBS.out.keep hSr k3)
          have hS3 : ∀ b, S b → b < W3.heap.size := fun b hb => Nat.lt_of_lt_of_le (hSr b hb) k3.size
          clear k3 hm0 hm1 c3 htc htl hlc hll hcells hbl HKP HV HL HB HF HBS hSr htblt hmlt
          go_wp2_with fail
          go_loopg [65] fs.length (fun gk i wr' => ∃ j : Nat, j + gk = fs.length ∧ i = .int .i64 j ∧ (∀ i', i' < j → fs[i']? = some fl → (on.getD i' false == nt) = false) ∧ Keep W3 wr')
          case atStart => exact ⟨0, by simp, rfl, fun _ h => absurd h (Nat.not_lt_zero _), Keep.refl _⟩
          case round =>
            obtain ⟨j, hj, rfl, hno, hkp⟩ := hrel
            have HNO := hid hno
            have HK4 := hid hkp
            have L4 := hid (L3.out.keep hkp L3.out.facts.2.2)
            have B4 := hid (B3.out.keep hkp B3.out.1)
            have hm1 := (hkp.cell (p := ⟨mb, moff + k * 2 + 1, none⟩) hml3).trans M1.out
            have hml4 : mb < wr.heap.size := Nat.lt_of_lt_of_le hml3 hkp.size
            clear hno hkp
            by_cases hlt : j < fs.length
            · obtain ⟨fb, foff, fcap, hfv, hfb, -, hfc⟩ := (HFS.out.keep hS3 HK4.out).get hlt
              cases hfv
              have hcm := hfc j _ (List.getElem?_eq_getElem hlt)
              have hflt : fb < wr.heap.size := Nat.lt_of_lt_of_le (hS3 fb hfb) HK4.out.size
              have HAT : Hid (fs[j] = fl → flagAt fs fl = j) := fun e => flag_once HCF.out hlt e
              have HGET : Hid (fs[j]? = some fs[j]) := List.getElem?_eq_getElem hlt
              generalize fs[j] = x at hcm HAT HGET
              have hcells := B4.out.2
              have hbl := B4.out.1
              obtain ⟨hlc, -, hll⟩ := L4.out.facts
              clear hfc
              by_cases hx : x = fl
              · subst hx
                have hfa := HAT.out rfl
                have hxx : (x.toList == x.toList) = true := by simp
                have hqo : j < on.length := by have := HOL.out; omega
                obtain ⟨ob, ooff, hop, hSo, hcell⟩ := (HBS3.out.keep hS3 HK4.out).cell hqo
                subst hop
                have holt : ob < wr.heap.size := Nat.lt_of_lt_of_le (hS3 ob hSo) HK4.out.size
                rw [hfa] at HX
                generalize hgam : on.getD j false = γ at hcell HX
                have HGAM := hid hgam
                clear HAT hfa hgam
                cases hβ : (γ == nt)
                · have HN2 : Hid (∀ i', i' < j + 1 → fs[i']? = some x → (on.getD i' false == nt) = false) := fun i' hi' h' => by
                    rcases Nat.lt_or_ge i' j with h | h
                    · exact HNO.out i' h h'
                    · obtain rfl : i' = j := by omega
                      rw [HGAM.out]; exact hβ
                  go_upto_region 20 with fail
                  clear hcm
                  go_quiet (fail)
                  have k5 : Keep wr (wr.drewN nq) := Keep.drewN (Keep.refl _) _
                  generalize wr.drewN nq = W5 at k5 ⊢
                  have K5 := hid (HK4.out.trans k5)
                  clear k5 hcell hm1 hcells hbl hlc hll
                  go_wp2_with fail
                  go_roundg (fs.length - (j + 1))
                  case rel => exact ⟨j + 1, by omega, by go_num, HN2.out, K5.out⟩
                  case measure => omega
                · rw [hβ] at HX
                  go_upto_region 20 with fail
                  clear hcm
                  go_quiet (fail)
                  go_wp2_with fail
                  go_ret
                  exact ⟨ret_bool (by rw [HX.out]; rfl), Keep.drewN (K3.out.trans HK4.out) _⟩
              · have HN2 : Hid (∀ i', i' < j + 1 → fs[i']? = some fl → (on.getD i' false == nt) = false) := fun i' hi' h' => by
                  rcases Nat.lt_or_ge i' j with h | h
                  · exact HNO.out i' h h'
                  · obtain rfl : i' = j := by omega
                    rw [HGET.out] at h'
                    exact absurd (Option.some.inj h') hx
                have hxx : (x.toList == fl.toList) = false := by
                  rw [beq_eq_false_iff_ne]
                  intro e
                  rw [Lib.toList_data, Lib.toList_data] at e
                  exact hx (bytes_same e)
                clear HAT hx
                go_upto_region 20 with fail
                clear hcm
                go_quiet (fail)
                have k5 : Keep wr (wr.drewN nq) := Keep.drewN (Keep.refl _) _
                generalize wr.drewN nq = W5 at k5 ⊢
                have K5 := hid (HK4.out.trans k5)
                clear k5 hm1 hcells hbl hlc hll
                go_wp2_with fail
                go_roundg (fs.length - (j + 1))
                case rel => exact ⟨j + 1, by omega, by go_num, HN2.out, K5.out⟩
                case measure => omega
            · obtain rfl : j = fs.length := by omega
              have HX2 : Hid (holdsB ps ms k (.node 5 a fl nt kids) = ((G : Int) == (kids.length : Int))) := by
                show _ = _
                rw [HX.out, HNO.out (flagAt fs fl) HFA.out (by rw [List.getElem?_eq_getElem HFA.out, flag_first HFA.out])]; rfl
              have hcells := B4.out.2
              have hbl := B4.out.1
              go_wp2_with fail
              go_ret
              exact ⟨ret_bool HX2.out.symm, K3.out.trans HK4.out⟩
        · have HX : Hid (holdsB ps ms k (.node kd a fl nt kids) = !kids.any (fun t => !holdsB ps ms k t)) := by
            show _ = _
            rw [holdsB, if_neg h1, if_neg h2, if_neg h4, if_neg (fun h => h5 h.1), allB_any]
          have b5 : (kd == 5) = false := by simp [h5]
          clear h1 h2 h4 h5 HFL
          go_wp2_with fail
          go_ret
          exact ⟨ret_bool (by rw [HX.out, ← HALL.out]), HKP.out⟩
end Go.Proofs.YtlfonjngbpfelaaGreatDoor
