/- The law TreeSays is true of any tree, text, atom and sets. -/
import Derived.Test.YtkckkjpkidcbnaaGreatDoorRefReadTree
import Derived.Test.YtkckkjpkidcbnaaGreatDoorRefTreeText
import Derived.Test.YtkckkjpkidcbnaaGreatDoorTreeSet
import Derived.Test.YtkckkjpkidcbnaaGreatDoorRefSetOnly
import Derived.Test.YtkckkjpkidcbnaaGreatDoorEqualInts
import Derived.Test.YtkckkjpkidcbnaaGreatDoorTreeForest
namespace Go.Proofs.YtkckkjpkidcbnaaGreatDoor
open Go.RowKit Go.Sort

/-- What Print answers, errors too. -/
def TPrinted2 (ps : List PK) (w : World) (e : Ending) (w' : World) : Prop :=
  ∃ s : ByteArray, e = .returned (.tuple #[.string s, .int .i64 (chkT ps)]) ∧ (chkT ps = 0 → s = ⟨(textT ps).toArray⟩) ∧ (chkT ps ≠ 0 → s = ⟨#[]⟩) ∧ Keep w w'
set_option maxHeartbeats 2000000 in
set_option maxRecDepth 100000 in
theorem treePrint2_any (S : Nat → Prop) (ps : List PK) (v : Value) (w : World) (hS : ∀ b, S b → b < w.heap.size) (hp : PkgsIs S w ps v) (hs : Signs w) :
    Calls Tryz.prog 22 #[.agg #[v]] w fun e w' => TPrinted2 ps w e w' := by
  by_cases hz : chkT ps = 0
  · refine (treePrint_any S ps v w hS hp hs).mono ?_
    rintro e w' ⟨s, rfl, h1, h2⟩
    exact ⟨s, rfl, fun h => by rw [← h1 h, bytes_back], fun h => absurd hz h, h2⟩
  · have HP := hid hp
    obtain ⟨p, cap, rfl, hlen⟩ := hp.len
    clear hp hs
    go_enter Tryz.func22, Tryz.ntmps22
    go_wp2_with fail
    refine at_calls (fun W' => Keep w W') (Keep.alloc _ _) ?_
    intro W0 k0
    refine (treeCheck_any S ps _ W0 (fun b hb => Nat.lt_of_lt_of_le (hS b hb) k0.size) (HP.out.keep hS k0)).mono ?_
    rintro e w1 ⟨rfl, k1⟩
    have K1 := hid (k0.trans k1)
    clear k0 k1
    have hz1 : (chkT ps == 0) = false := by simp [hz]
    have hz2 : (chkT ps != 0) = true := by simp [hz]
    have HZ := hid hz
    clear hz
    go_wp2_with fail
    go_ret2
    exact ⟨_, rfl, fun h => absurd h HZ.out, fun _ => rfl, K1.out⟩

/-- What stays as it was. -/
structure TsE (w : World) (tv : Value) (A : Array Value) (bq N : Nat) (qs : List PK) (qv : Value) (ls : List Int) (mv : Value) (W : World) : Prop where
  keep : Keep w W
  var : VarAt w.heap.size 44 tv W
  atom : Boxed (w.heap.size + 1) A W
  res : VarAt bq 44 qv W
  lim : N ≤ W.heap.size
  tree : PkgsIs (fun b => w.heap.size ≤ b ∧ b < N) W qs qv
  ints : IntsAt mv ls W
theorem TsE.on {w : World} {tv : Value} {A : Array Value} {bq N : Nat} {qs : List PK} {qv : Value} {ls : List Int} {mv : Value} {W W' : World} (h : TsE w tv A bq N qs qv ls mv W) (k : Keep W W') : TsE w tv A bq N qs qv ls mv W' :=
  ⟨h.keep.trans k, h.var.keep k h.var.facts.2.2, h.atom.keep k h.atom.1, h.res.keep k h.res.facts.2.2, Nat.le_trans h.lim k.size, h.tree.keep (fun _ hb => Nat.lt_of_lt_of_le hb.2 h.lim) k, h.ints.keep k⟩

set_option maxHeartbeats 8000000 in
set_option maxRecDepth 100000 in
theorem treeSays_walk (S : Nat → Prop) (ps : List PK) (v : Value) (s : ByteArray) (an af : ByteArray) (aop av asl : Int) (aon : Bool) (xs ys : List MB) (lv mv : Value) (w : World) (hS : ∀ b, S b → b < w.heap.size) (hp : PkgsIs S w ps v) (hx : MbsIs S w xs lv) (hy : MbsIs S w ys mv) (hs : (s.size : Int) ≤ 9223372036854775807) (hE : Env w) (hM : MaxAt w) :
    Calls Tryz.prog 5 #[.agg #[v], .string s, .agg #[.string an, .int .i64 aop, .int .i64 av, .int .i64 asl, .string af, .bool aon], lv, mv] w fun e w' => e = .returned (.bool true) ∧ Keep w w' := by
  obtain ⟨i0, hi, hz0, hz1, hz2⟩ := info_parts infoInt
  have HP := hid hp
  have HXS := hid hx
  have HYS := hid hy
  have HE := hid hE
  have HM := hid hM
  obtain ⟨tp, tc, rfl, hlen⟩ := hp.len
  obtain ⟨lp, lc, rfl, ⟨-, hll⟩, -⟩ := hx
  obtain ⟨mp, mc, rfl, ⟨-, hml⟩, -⟩ := hy
  have hl8 : chkT ps = 0 → ps.length ≤ 8 := fun h => (chkT_get h).1
  have HL8 := hid hl8
  have HME : Hid (meansE ps ⟨an, aop, av, asl, af, aon⟩ = if chkT ps ≠ 0 then chkT ps else chk an.data.toList aop av asl af.data.toList aon) := rfl
  have HTS : Hid (chkTS ps xs = if chkT ps ≠ 0 then chkT ps else chkS ps xs) := rfl
  clear hp hE hM hl8
  generalize hct : chkT ps = ct at HME HTS HL8
  have HCT := hid hct
  clear hct
  go_enter Tryz.func5, Tryz.ntmps5
  go_wp2_with fail
  refine at_calls (fun W' => Keep w W' ∧ VarAt w.heap.size 44 (.slice tp ps.length tc) W' ∧ Boxed (w.heap.size + 1) #[.string an, .int .i64 aop, .int .i64 av, .int .i64 asl, .string af, .bool aon] W') ⟨(Keep.alloc _ _).alloc' _, (VarAt.new _ _ _).keep (Keep.alloc _ _) (by simp), ?_⟩ ?_
  · have := Boxed.new (w.alloc (.cells #[.slice tp ps.length tc] 44)) #[.string an, .int .i64 aop, .int .i64 av, .int .i64 asl, .string af, .bool aon] 23
    rw [alloc_size] at this; exact this
  rintro W0 ⟨k0, v0, b0⟩
  refine (treePrint2_any S ps _ W0 (fun b hb => Nat.lt_of_lt_of_le (hS b hb) k0.size) (HP.out.keep hS k0) (HE.out.keep k0).1).mono ?_
  rintro e w1 ⟨px, rfl, hp0, hp1, k1⟩
  rw [HCT.out] at hp0 hp1 ⊢
  have HP0 := hid hp0
  have HP1 := hid hp1
  have K1 := hid (k0.trans k1)
  have V1 := hid (v0.keep k1 v0.facts.2.2)
  have B1 := hid (b0.keep k1 b0.1)
  clear k0 v0 b0 k1 hp0 hp1
  go_wp2_with fail
  refine (treeParse_any s w1 (HE.out.keep K1.out) (HM.out.keep K1.out)).mono ?_
  rintro e w2 ⟨qv, rfl, -, hq, k2⟩
  have HQ := hid hq
  generalize hr : rdT s.data.toList = r at HQ hq ⊢
  have HR := hid hr
  obtain ⟨fe, fk, qs⟩ := r
  simp only at HQ hq ⊢
  obtain ⟨qp, qc, rfl, -⟩ := hq.len
  have K2 := hid (K1.out.trans k2)
  have V2 := hid (V1.out.keep k2 V1.out.facts.2.2)
  have B2 := hid (B1.out.keep k2 B1.out.1)
  have h12 : w.heap.size ≤ w1.heap.size := K1.out.size
  clear hq hr k2 K1 V1 B1
  obtain ⟨hcv, -, hlv⟩ := V2.out.facts
  have hcb := B2.out.2
  have hlb := B2.out.1
  go_upto_region 3 with fail
  refine at_wp (fun W' => Keep w W' ∧ VarAt w.heap.size 44 (.slice tp ps.length tc) W' ∧ Boxed (w.heap.size + 1) #[.string an, .int .i64 aop, .int .i64 av, .int .i64 asl, .string af, .bool aon] W' ∧ VarAt w2.heap.size 44 (.slice qp qs.length qc) W' ∧ w2.heap.size ≤ W'.heap.size ∧ PkgsIs (fun b => w.heap.size ≤ b ∧ b < w2.heap.size) W' qs (.slice qp qs.length qc)) ⟨K2.out.alloc' _, V2.out.keep (Keep.alloc _ _) V2.out.facts.2.2, B2.out.keep (Keep.alloc _ _) B2.out.1, VarAt.new _ _ _, by rw [alloc_size]; omega, PkgsIs.mono (fun p hp => (Keep.alloc w2 _).cell (p := p) hp.2) (fun b hb => ⟨by have := hb.1; omega, hb.2⟩) HQ.out⟩ ?_
  rintro W3 ⟨k3, v3, b3, q3, n3, t3⟩
  have K3 := hid k3
  have V3 := hid v3
  have B3 := hid b3
  have Q3 := hid q3
  have N3 := hid n3
  have T3 := hid t3
  clear k3 v3 b3 q3 n3 t3 hcv hlv hcb hlb K2 V2 B2 HQ
  generalize w2.heap.size = bq at Q3 N3 T3 ⊢
  obtain ⟨hcv, -, hlv⟩ := V3.out.facts
  have hcb := B3.out.2
  have hlb := B3.out.1
  go_wp2_with fail
  refine (means_any S ps _ an af aop av asl aon W3 (fun b hb => Nat.lt_of_lt_of_le (hS b hb) K3.out.size) (HP.out.keep hS K3.out)).mono ?_
  rintro e w4 ⟨iv, rfl, hi1, hi2, k4⟩
  obtain ⟨ls, hls⟩ : ∃ ls : List Int, ls = if meansE ps ⟨an, aop, av, asl, af, aon⟩ = 0 then meansL ps ⟨an, aop, av, asl, af, aon⟩ ps.length else [] := ⟨_, rfl⟩
  have I4 : Hid (IntsAt iv ls w4) := by
    show IntsAt iv ls w4
    by_cases hme : meansE ps ⟨an, aop, av, asl, af, aon⟩ = 0
    · rw [hls, if_pos hme]; exact hi2 hme
    · rw [hls, if_neg hme, hi1 hme]; exact Or.inl ⟨rfl, rfl⟩
  have HLS := hid hls
  have E4 : Hid (TsE w (.slice tp ps.length tc) #[.string an, .int .i64 aop, .int .i64 av, .int .i64 asl, .string af, .bool aon] bq bq qs (.slice qp qs.length qc) ls iv w4) := ⟨K3.out.trans k4, V3.out.keep k4 V3.out.facts.2.2, B3.out.keep k4 B3.out.1, Q3.out.keep k4 Q3.out.facts.2.2, Nat.le_trans N3.out k4.size, T3.out.keep (fun b hb => Nat.lt_of_lt_of_le hb.2 N3.out) k4, I4.out⟩
  obtain ⟨ip, ic, rfl⟩ := I4.out.len
  clear hi1 hi2 k4 K3 V3 B3 Q3 N3 T3 I4 hls hcv hlv hcb hlb
  generalize hme : meansE ps ⟨an, aop, av, asl, af, aon⟩ = me at HME HLS ⊢
  have HMEQ := hid hme
  clear hme
  obtain ⟨hcv, -, hlv⟩ := E4.out.var.facts
  go_wp2_with fail
  refine (refCheckTree_any S ps _ w4 (fun b hb => Nat.lt_of_lt_of_le (hS b hb) E4.out.keep.size) (HP.out.keep hS E4.out.keep)).mono ?_
  rintro e w5 ⟨rfl, k5⟩
  rw [HCT.out]
  have E5 := hid (E4.out.on k5)
  clear k5 E4 hcv hlv
  go_wp2_with fail
  refine (forest_any w5 (HE.out.keep E5.out.keep) (HM.out.keep E5.out.keep)).mono ?_
  rintro e w6 ⟨rfl, k6⟩
  have E6 := hid (E5.out.on k6)
  clear k6 E5
  obtain ⟨hcv, -, hlv⟩ := E6.out.var.facts
  go_wp2_with fail
  refine (treeCheck_any S ps _ w6 (fun b hb => Nat.lt_of_lt_of_le (hS b hb) E6.out.keep.size) (HP.out.keep hS E6.out.keep)).mono ?_
  rintro e w7 ⟨rfl, k7⟩
  rw [HCT.out]
  have E7 := hid (E6.out.on k7)
  clear k7 E6 hcv hlv
  obtain ⟨hcv, -, hlv⟩ := E7.out.var.facts
  by_cases hz : ct = 0
  · subst hz
    obtain rfl := HP0.out rfl
    have h8 := HL8.out rfl
    go_wp2_with fail
    refine (refTreeText_any S ps _ w7 (fun b hb => Nat.lt_of_lt_of_le (hS b hb) E7.out.keep.size) (HP.out.keep hS E7.out.keep) (HE.out.keep E7.out.keep) HCT.out).mono ?_
    rintro e w17 ⟨rfl, k17⟩
    have E17 := hid (E7.out.on k17)
    have htt : ((⟨(textT ps).toArray⟩ : ByteArray).toList == (⟨(textT ps).toArray⟩ : ByteArray).toList) = true := by simp
    clear k17 E7 hcv hlv
    obtain ⟨hcv, -, hlv⟩ := E17.out.var.facts
    generalize (⟨(textT ps).toArray⟩ : ByteArray) = tx at htt ⊢
    go_wp2_with fail
    refine (sameSetT_any S xs ys _ _ w17 (fun b hb => Nat.lt_of_lt_of_le (hS b hb) E17.out.keep.size) (HXS.out.keep hS E17.out.keep) (HYS.out.keep hS E17.out.keep)).mono ?_
    rintro e w18 ⟨β1, rfl, hβ1, k18⟩
    have E18 := hid (E17.out.on k18)
    clear k18 E17 hcv hlv
    go_wp2_with fail
    refine (sameSetR_any S xs ys _ _ w18 (fun b hb => Nat.lt_of_lt_of_le (hS b hb) E18.out.keep.size) (HXS.out.keep hS E18.out.keep) (HYS.out.keep hS E18.out.keep)).mono ?_
    rintro e w19 ⟨β2, rfl, hβ2, k19⟩
    have E19 := hid (E18.out.on k19)
    obtain rfl : β1 = β2 := by
      have h := hβ1.trans hβ2.symm
      cases β1 <;> cases β2 <;> simp_all
    have hββ : (β1 != β1) = false := by simp
    have hβb : (β1 == β1) = true := by simp
    clear k19 E18 hβ1 hβ2
    obtain ⟨hcv, -, hlv⟩ := E19.out.var.facts
    go_wp2_with fail
    refine (refSet_any S ps xs _ _ w19 (fun b hb => Nat.lt_of_lt_of_le (hS b hb) E19.out.keep.size) (HP.out.keep hS E19.out.keep) (HXS.out.keep hS E19.out.keep)).mono ?_
    rintro e w20 ⟨rfl, k20⟩
    have E20 := hid (E19.out.on k20)
    clear k20 E19 hcv hlv
    obtain ⟨hcv, -, hlv⟩ := E20.out.var.facts
    have HTS2 : Hid (chkTS ps xs = chkS ps xs) := by show _ = _; rw [HTS.out]; simp
    go_wp2_with fail
    refine (checkSet_any S ps xs _ _ w20 (fun b hb => Nat.lt_of_lt_of_le (hS b hb) E20.out.keep.size) (HP.out.keep hS E20.out.keep) (HXS.out.keep hS E20.out.keep)).mono ?_
    rintro e w21 ⟨rfl, k21⟩
    rw [HTS2.out]
    have E21 := hid (E20.out.on k21)
    clear k21 E20 hcv hlv HTS HTS2
    generalize chkS ps xs = cx
    have hcb := E21.out.atom.2
    have hlb := E21.out.atom.1
    go_wp2_with fail
    refine (refCheck_any an af aop av asl aon w21).mono ?_
    rintro e w22 ⟨rfl, k22⟩
    have E22 := hid (E21.out.on k22)
    clear k22 E21 hcb hlb
    generalize chk an.data.toList aop av asl af.data.toList aon = ca at HME ⊢
    have HMC : Hid (me = ca) := by show _ = _; rw [HME.out]; simp
    obtain rfl := HMC.out
    clear HME HMC
    obtain ⟨hcv, -, hlv⟩ := E22.out.var.facts
    by_cases hza : me = 0
    · subst hza
      have HLSN : Hid (ls = meansL ps ⟨an, aop, av, asl, af, aon⟩ ps.length) := by show _ = _; rw [HLS.out, if_pos rfl]
      clear HLS
      have E9 := E22
      obtain ⟨w9, rfl⟩ : ∃ w9 : World, w9 = w22 := ⟨w22, rfl⟩
      have HK9 : Hid (Below w9.heap.size w9 w9) := Below.refl _ _
      go_wp2_with fail
      go_loopg [20, 103] ps.length (fun gk pv i wr => ∃ j : Nat, j + gk = ps.length ∧ i = .int .i64 j ∧ IntsOwn w9.heap.size pv (meansL ps ⟨an, aop, av, asl, af, aon⟩ j) wr ∧ Below w9.heap.size w9 wr)
      case atStart => exact ⟨0, by simp, rfl, World.ownsRow_nil _ _ _ _, HK9.out⟩
      case round =>
        obtain ⟨j, hj, rfl, hown, hev⟩ := hrel
        have HOWN := hid hown
        have HBW := hid hev
        have HEV := hid (E9.out.on hev)
        clear hown hev hcv hlv
        by_cases hlt : j < ps.length
        · obtain ⟨b, off, cap2, hv2, hb2, -, hrow2⟩ := (HP.out.keep hS HEV.out.keep).get hlt
          cases hv2
          obtain ⟨cs, hcs, hpj⟩ := hrow2 j hlt
          have HML : Hid (meansL ps ⟨an, aop, av, asl, af, aon⟩ (j + 1) = meansL ps ⟨an, aop, av, asl, af, aon⟩ j ++ (if meantB ps[j] ⟨an, aop, av, asl, af, aon⟩ = true then [(j : Int)] else [])) := by
            show _ = _
            rw [meansL, List.getD_eq_getElem?_getD, List.getElem?_eq_getElem hlt, Option.getD_some]
          have hml := meansL_len ps ⟨an, aop, av, asl, af, aon⟩ j
          generalize ps[j] = q at hpj HML
          obtain ⟨k, a, fl, nt, kids, kp, fp, kc, fc, -, hfl, rfl, hf, -⟩ := hpj.spelt
          have HF := hid hf
          obtain ⟨c0, c1, c2, c3, c4, c5, c6, c7, c8, c9, c10, c11, c12, c13⟩ := cells14 hcs
          rcases q with ⟨n, v, sl, fs, nd⟩
          simp only at hfl c0 c1 c2 c3 HF
          have HMB0 : Hid (meantB ⟨n, v, sl, fs, nd⟩ ⟨an, aop, av, asl, af, aon⟩ = ((n.toList == an.toList) && (fitB aop av asl v sl && (af.toList.isEmpty || hasF fs af.data.toList)))) := rfl
          have hblt : b < wr.heap.size := Nat.lt_of_lt_of_le (hS _ hb2) HEV.out.keep.size
          have hS2 : ∀ b, S b → b < wr.heap.size := fun b hb => Nat.lt_of_lt_of_le (hS b hb) HEV.out.keep.size
          clear hrow2 hcs hpj hf
          go_upto_region 18 with fail
          refine at_wp (fun W' => Keep wr W' ∧ Boxed wr.heap.size #[.string n, .int .i64 v, .int .i64 sl, .slice fp fs.length fc, .int .i64 k, .string a.n, .int .i64 a.op, .int .i64 a.v, .int .i64 a.sl, .string a.f, .bool a.on, .string fl, .bool nt, .slice kp kids.length kc] W') ⟨Keep.alloc _ _, Boxed.new _ _ _⟩ ?_
          rintro W10 ⟨k10, p10⟩
          have EV10 := hid (HEV.out.on k10)
          have EV10B := hid (Below.trans HBW.out (k10.mono HBW.out.size))
          have OWN10 : Hid (IntsOwn w9.heap.size u20 (meansL ps ⟨an, aop, av, asl, af, aon⟩ j) W10) := owns_keep HOWN.out k10
          have P10 := hid p10
          have F10 := hid (HF.out.keep hS2 k10)
          have hS3 : ∀ b, S b → b < W10.heap.size := fun b hb => Nat.lt_of_lt_of_le (hS2 b hb) k10.size
          have hcp := p10.2
          have hlp := p10.1
          have hcb := EV10.out.atom.2
          have hlb := EV10.out.atom.1
          clear k10 p10 c0 c1 c2 c3 c4 c5 c6 c7 c8 c9 c10 c11 c12 c13 hblt HOWN HBW HF hS2
          cases hnn : (n.toList == an.toList)
          · have HMB : Hid (meantB ⟨n, v, sl, fs, nd⟩ ⟨an, aop, av, asl, af, aon⟩ = false) := by show _ = _; rw [HMB0.out, hnn]; rfl
            have HM2 : Hid (meansL ps ⟨an, aop, av, asl, af, aon⟩ (j + 1) = meansL ps ⟨an, aop, av, asl, af, aon⟩ j) := by show _ = _; rw [HML.out, HMB.out]; simp
            clear HML
            go_wp2_with fail
            go_roundg (ps.length - (j + 1))
            case rel => exact ⟨j + 1, by omega, by go_num, by rw [HM2.out]; exact OWN10.out, EV10B.out⟩
            case measure => omega
          · go_wp2_with fail
            refine (fitsTo_any _ _ _ _ _ _ _ _ W10).mono ?_
            rintro e w11 ⟨rfl, k11⟩
            have EV11 := hid (EV10.out.on k11)
            have EV11B := hid (Below.trans EV10B.out (k11.mono EV10B.out.size))
            have OWN11 : Hid (IntsOwn w9.heap.size u20 (meansL ps ⟨an, aop, av, asl, af, aon⟩ j) w11) := owns_keep OWN10.out k11
            have P11 := hid (P10.out.keep k11 P10.out.1)
            have F11 := hid (F10.out.keep hS3 k11)
            clear k11 hcp hlp hcb hlb
            have hcp := P11.out.2
            have hlp := P11.out.1
            have hcb := EV11.out.atom.2
            have hlb := EV11.out.atom.1
            generalize fitB aop av asl v sl = β at HMB0 ⊢
            cases β
            · have HMB : Hid (meantB ⟨n, v, sl, fs, nd⟩ ⟨an, aop, av, asl, af, aon⟩ = false) := by show _ = _; rw [HMB0.out, hnn]; rfl
              have HM2 : Hid (meansL ps ⟨an, aop, av, asl, af, aon⟩ (j + 1) = meansL ps ⟨an, aop, av, asl, af, aon⟩ j) := by show _ = _; rw [HML.out, HMB.out]; simp
              clear HML
              go_wp2_with fail
              go_roundg (ps.length - (j + 1))
              case rel => exact ⟨j + 1, by omega, by go_num, by rw [HM2.out]; exact OWN11.out, EV11B.out⟩
              case measure => omega
            · by_cases hfe : af.toList = []
              · have hf1 : (af.toList == []) = true := by simp [hfe]
                have HMB : Hid (meantB ⟨n, v, sl, fs, nd⟩ ⟨an, aop, av, asl, af, aon⟩ = true) := by show _ = _; rw [HMB0.out, hnn, hfe]; rfl
                clear hfe
                have HM2 : Hid (meansL ps ⟨an, aop, av, asl, af, aon⟩ (j + 1) = meansL ps ⟨an, aop, av, asl, af, aon⟩ j ++ [(j : Int)]) := by show _ = _; rw [HML.out, HMB.out]; simp
                have hswn : w9.heap.size ≤ w11.heap.size := by have := EV11B.out.size; omega
                have OWNB := OWN11
                clear HML
                generalize meansL ps ⟨an, aop, av, asl, af, aon⟩ j = zs at hml HM2 OWNB
                go_wp2_with (at_builtin; refine wpList_append_own_at _ rfl _ _ 49 rfl w9.heap.size 3 i0 (.int .i64 0) 1 8 Tryz.underlying49 hi hz0 hz1 hz2 rfl (by decide) u20 zs.length (zs.map (Value.int .i64)) rfl (World.ownsRow.alloc OWNB.out _) ⟨w11.heap.size, 0, none⟩ 1 1 [.int .i64 j] rfl rfl one_news one_cellI (by unfold maxLen; omega) (by omega) (by have := alloc_size w11 (.cells #[.int .i64 j] 3); omega) ?_)
                intro v' w15 h5 h6 _ _
                obtain ⟨h7, h8'⟩ := ints_push hswn OWNB.out h5 h6
                have H7 := hid h7
                have EV5 := hid (EV11B.out.trans h8')
                clear h5 h6 h7 h8'
                go_wp2_with fail
                go_roundg (ps.length - (j + 1))
                case rel => exact ⟨j + 1, by omega, by go_num, by rw [HM2.out]; exact H7.out, EV5.out⟩
                case measure => omega
              · have hf1 : (af.toList == []) = false := by simp [hfe]
                have HFE : Hid (af.toList.isEmpty = false) := by show _ = _; simpa using hfe
                clear hfe
                go_wp2_with fail
                refine (contains_any S fs _ af w11 F11.out).mono ?_
                rintro e w12 ⟨rfl, rfl⟩
                generalize hasF fs af.data.toList = γ at HMB0 ⊢
                cases γ
                · have HMB : Hid (meantB ⟨n, v, sl, fs, nd⟩ ⟨an, aop, av, asl, af, aon⟩ = false) := by show _ = _; rw [HMB0.out, hnn, HFE.out]; rfl
                  have HM2 : Hid (meansL ps ⟨an, aop, av, asl, af, aon⟩ (j + 1) = meansL ps ⟨an, aop, av, asl, af, aon⟩ j) := by show _ = _; rw [HML.out, HMB.out]; simp
                  clear HML
                  go_wp2_with fail
                  go_roundg (ps.length - (j + 1))
                  case rel => exact ⟨j + 1, by omega, by go_num, by rw [HM2.out]; exact OWN11.out, EV11B.out⟩
                  case measure => omega
                · have HMB : Hid (meantB ⟨n, v, sl, fs, nd⟩ ⟨an, aop, av, asl, af, aon⟩ = true) := by show _ = _; rw [HMB0.out, hnn, HFE.out]; rfl
                  have HM2 : Hid (meansL ps ⟨an, aop, av, asl, af, aon⟩ (j + 1) = meansL ps ⟨an, aop, av, asl, af, aon⟩ j ++ [(j : Int)]) := by show _ = _; rw [HML.out, HMB.out]; simp
                  have hswn : w9.heap.size ≤ w12.heap.size := by have := EV11B.out.size; omega
                  have OWNB := OWN11
                  clear HML
                  generalize meansL ps ⟨an, aop, av, asl, af, aon⟩ j = zs at hml HM2 OWNB
                  go_wp2_with (at_builtin; refine wpList_append_own_at _ rfl _ _ 49 rfl w9.heap.size 3 i0 (.int .i64 0) 1 8 Tryz.underlying49 hi hz0 hz1 hz2 rfl (by decide) u20 zs.length (zs.map (Value.int .i64)) rfl (World.ownsRow.alloc OWNB.out _) ⟨w12.heap.size, 0, none⟩ 1 1 [.int .i64 j] rfl rfl one_news one_cellI (by unfold maxLen; omega) (by omega) (by have := alloc_size w12 (.cells #[.int .i64 j] 3); omega) ?_)
                  intro v' w15 h5 h6 _ _
                  obtain ⟨h7, h8'⟩ := ints_push hswn OWNB.out h5 h6
                  have H7 := hid h7
                  have EV5 := hid (EV11B.out.trans h8')
                  clear h5 h6 h7 h8'
                  go_wp2_with fail
                  go_roundg (ps.length - (j + 1))
                  case rel => exact ⟨j + 1, by omega, by go_num, by rw [HM2.out]; exact H7.out, EV5.out⟩
                  case measure => omega
        · obtain rfl : j = ps.length := by omega
          have HIV : IntsAt u20 ls wr := by rw [HLSN.out]; exact HOWN.out.ints
          have hlln : ls.length ≤ 2000 := by rw [HLSN.out]; have := meansL_len ps ⟨an, aop, av, asl, af, aon⟩ ps.length; omega
          go_wp2_with fail
          refine (equalInts_any _ _ ls ls wr HEV.out.ints HIV (by omega) (by omega)).mono ?_
          rintro e w29 ⟨rfl, q29, rfl⟩
          have hll2 : (ls == ls) = true := by simp
          rw [hll2]
          have EV := hid (HEV.out.on (Keep.drewN (Keep.refl wr) q29))
          clear hll2 HEV
          generalize wr.drewN q29 = W29 at EV
          by_cases hlong : 20000 < s.size
          · have hlo' : (20000 : Int) < (s.size : Int) := by omega
            have hrd : rdT s.data.toList = (2, 0, []) := by unfold rdT; rw [if_pos (by rw [size_list]; exact hlong)]
            have hrr := HR.out.symm.trans hrd
            simp only [Prod.mk.injEq] at hrr
            obtain ⟨rfl, rfl, rfl⟩ := hrr
            obtain ⟨hcq, -, hlq⟩ := EV.out.res.facts
            clear hrd
            go_wp2_with fail
            refine (sameTree_any (fun b => w.heap.size ≤ b ∧ b < bq) [] _ _ W29 (fun b hb => Nat.lt_of_lt_of_le hb.2 EV.out.lim) EV.out.tree (Or.inl ⟨rfl, none, 0, rfl⟩)).mono ?_
            rintro e w30 ⟨rfl, k30⟩
            have K30 := hid (EV.out.keep.trans k30)
            clear k30 hcq
            go_wp2_with fail
            go_ret
            exact ⟨rfl, K30.out⟩
          · have hlo' : ¬ (20000 : Int) < (s.size : Int) := by omega
            go_wp2_with fail
            refine (refReadTree_any s W29 (HE.out.keep EV.out.keep) (HM.out.keep EV.out.keep) (by omega)).mono ?_
            rintro e w30 ⟨tv2, rfl, -, hq2, k30⟩
            rw [HR.out] at hq2 ⊢
            have E30 := hid (EV.out.on k30)
            have HQ2 := hid hq2
            simp only at hq2 HQ2 ⊢
            obtain ⟨q2, c2, rfl, -⟩ := hq2.len
            have hW30 : W29.heap.size ≤ w30.heap.size := k30.size
            have hwW : w.heap.size ≤ W29.heap.size := EV.out.keep.size
            have hbq : bq ≤ w30.heap.size := E30.out.lim
            clear hq2 k30
            obtain ⟨hcq, -, hlq⟩ := E30.out.res.facts
            go_upto_region 26 with fail
            refine at_wp (fun W' => Keep w W' ∧ VarAt bq 44 (.slice qp qs.length qc) W' ∧ VarAt w30.heap.size 44 (.slice q2 qs.length c2) W' ∧ PkgsIs (fun b => w.heap.size ≤ b ∧ b < w30.heap.size) W' qs (.slice qp qs.length qc) ∧ PkgsIs (fun b => w.heap.size ≤ b ∧ b < w30.heap.size) W' qs (.slice q2 qs.length c2) ∧ w30.heap.size ≤ W'.heap.size) ⟨E30.out.keep.alloc' _, E30.out.res.keep (Keep.alloc _ _) E30.out.res.facts.2.2, VarAt.new _ _ _, PkgsIs.mono (fun p hp => (Keep.alloc w30 _).cell (p := p) (by have := hp.2; omega)) (fun b hb => ⟨hb.1, by have := hb.2; omega⟩) E30.out.tree, PkgsIs.mono (fun p hp => (Keep.alloc w30 _).cell (p := p) hp.2) (fun b hb => ⟨by have := hb.1; omega, hb.2⟩) HQ2.out, by rw [alloc_size]; omega⟩ ?_
            rintro W31 ⟨k31, r31, z31, p31, y31, n31⟩
            have K31 := hid k31
            have P31 := hid p31
            have Y31 := hid y31
            have N31 := hid n31
            obtain ⟨hcr, -, hlr⟩ := r31.facts
            obtain ⟨hcz, -, hlz⟩ := z31.facts
            clear k31 p31 y31 n31 r31 z31 hcq
            go_wp2_with fail
            refine (sameTree_any (fun b => w.heap.size ≤ b ∧ b < w30.heap.size) qs _ _ W31 (fun b hb => Nat.lt_of_lt_of_le hb.2 N31.out) P31.out Y31.out).mono ?_
            rintro e w32 ⟨rfl, k32⟩
            have K32 := hid (K31.out.trans k32)
            clear k32 hcr hcz
            go_wp2_with fail
            go_ret
            exact ⟨rfl, K32.out⟩
    · have hza1 : (me == 0) = false := by simp [hza]
      have hza2 : (me != 0) = true := by simp [hza]
      have HLSN : Hid (ls = []) := by show _ = _; rw [HLS.out, if_neg hza]
      clear hza HLS
      go_wp2_with fail
      go_loopg [20, 103] ps.length (fun gk pv i wr => ∃ j : Nat, j + gk = ps.length ∧ i = .int .i64 j ∧ pv = .slice none 0 0 ∧ TsE w (.slice tp ps.length tc) #[.string an, .int .i64 aop, .int .i64 av, .int .i64 asl, .string af, .bool aon] bq bq qs (.slice qp qs.length qc) ls (.slice ip ls.length ic) wr)
      case atStart => exact ⟨0, by simp, rfl, rfl, E22.out⟩
      case round =>
        obtain ⟨j, hj, rfl, rfl, hev⟩ := hrel
        have HEV := hid hev
        clear hev E22 hcv hlv
        by_cases hlt : j < ps.length
        · obtain ⟨b, off, cap2, hv2, hb2, -, hrow2⟩ := (HP.out.keep hS HEV.out.keep).get hlt
          cases hv2
          obtain ⟨cs, hcs, hpj⟩ := hrow2 j hlt
          generalize ps[j] = q at hpj
          obtain ⟨k, a, fl, nt, kids, kp, fp, kc, fc, -, hfl, rfl, -, -⟩ := hpj.spelt
          obtain ⟨c0, c1, c2, c3, c4, c5, c6, c7, c8, c9, c10, c11, c12, c13⟩ := cells14 hcs
          rcases q with ⟨n, v, sl, fs, nd⟩
          simp only at hfl c0 c1 c2 c3
          have hblt : b < wr.heap.size := Nat.lt_of_lt_of_le (hS _ hb2) HEV.out.keep.size
          have EV2 := hid (HEV.out.on (Keep.alloc wr (.cells #[.string n, .int .i64 v, .int .i64 sl, .slice fp fs.length fc, .int .i64 k, .string a.n, .int .i64 a.op, .int .i64 a.v, .int .i64 a.sl, .string a.f, .bool a.on, .string fl, .bool nt, .slice kp kids.length kc] 58)))
          clear hrow2 hcs hpj
          go_wp2_with fail
          go_roundg (ps.length - (j + 1))
          case rel => exact ⟨j + 1, by omega, by go_num, rfl, EV2.out⟩
          case measure => omega
        · obtain rfl : j = ps.length := by omega
          have HIV : IntsAt (.slice none 0 0) ls wr := Or.inl ⟨HLSN.out, rfl⟩
          have hlln : ls.length ≤ 2000 := by rw [HLSN.out]; simp
          go_wp2_with fail
          refine (equalInts_any _ _ ls ls wr HEV.out.ints HIV (by omega) (by omega)).mono ?_
          rintro e w29 ⟨rfl, q29, rfl⟩
          have hll2 : (ls == ls) = true := by simp
          rw [hll2]
          have EV := hid (HEV.out.on (Keep.drewN (Keep.refl wr) q29))
          clear hll2 HEV
          generalize wr.drewN q29 = W29 at EV
          by_cases hlong : 20000 < s.size
          · have hlo' : (20000 : Int) < (s.size : Int) := by omega
            have hrd : rdT s.data.toList = (2, 0, []) := by unfold rdT; rw [if_pos (by rw [size_list]; exact hlong)]
            have hrr := HR.out.symm.trans hrd
            simp only [Prod.mk.injEq] at hrr
            obtain ⟨rfl, rfl, rfl⟩ := hrr
            obtain ⟨hcq, -, hlq⟩ := EV.out.res.facts
            clear hrd
            go_wp2_with fail
            refine (sameTree_any (fun b => w.heap.size ≤ b ∧ b < bq) [] _ _ W29 (fun b hb => Nat.lt_of_lt_of_le hb.2 EV.out.lim) EV.out.tree (Or.inl ⟨rfl, none, 0, rfl⟩)).mono ?_
            rintro e w30 ⟨rfl, k30⟩
            have K30 := hid (EV.out.keep.trans k30)
            clear k30 hcq
            go_wp2_with fail
            go_ret
            exact ⟨rfl, K30.out⟩
          · have hlo' : ¬ (20000 : Int) < (s.size : Int) := by omega
            go_wp2_with fail
            refine (refReadTree_any s W29 (HE.out.keep EV.out.keep) (HM.out.keep EV.out.keep) (by omega)).mono ?_
            rintro e w30 ⟨tv2, rfl, -, hq2, k30⟩
            rw [HR.out] at hq2 ⊢
            have E30 := hid (EV.out.on k30)
            have HQ2 := hid hq2
            simp only at hq2 HQ2 ⊢
            obtain ⟨q2, c2, rfl, -⟩ := hq2.len
            have hW30 : W29.heap.size ≤ w30.heap.size := k30.size
            have hwW : w.heap.size ≤ W29.heap.size := EV.out.keep.size
            have hbq : bq ≤ w30.heap.size := E30.out.lim
            clear hq2 k30
            obtain ⟨hcq, -, hlq⟩ := E30.out.res.facts
            go_upto_region 26 with fail
            refine at_wp (fun W' => Keep w W' ∧ VarAt bq 44 (.slice qp qs.length qc) W' ∧ VarAt w30.heap.size 44 (.slice q2 qs.length c2) W' ∧ PkgsIs (fun b => w.heap.size ≤ b ∧ b < w30.heap.size) W' qs (.slice qp qs.length qc) ∧ PkgsIs (fun b => w.heap.size ≤ b ∧ b < w30.heap.size) W' qs (.slice q2 qs.length c2) ∧ w30.heap.size ≤ W'.heap.size) ⟨E30.out.keep.alloc' _, E30.out.res.keep (Keep.alloc _ _) E30.out.res.facts.2.2, VarAt.new _ _ _, PkgsIs.mono (fun p hp => (Keep.alloc w30 _).cell (p := p) (by have := hp.2; omega)) (fun b hb => ⟨hb.1, by have := hb.2; omega⟩) E30.out.tree, PkgsIs.mono (fun p hp => (Keep.alloc w30 _).cell (p := p) hp.2) (fun b hb => ⟨by have := hb.1; omega, hb.2⟩) HQ2.out, by rw [alloc_size]; omega⟩ ?_
            rintro W31 ⟨k31, r31, z31, p31, y31, n31⟩
            have K31 := hid k31
            have P31 := hid p31
            have Y31 := hid y31
            have N31 := hid n31
            obtain ⟨hcr, -, hlr⟩ := r31.facts
            obtain ⟨hcz, -, hlz⟩ := z31.facts
            clear k31 p31 y31 n31 r31 z31 hcq
            go_wp2_with fail
            refine (sameTree_any (fun b => w.heap.size ≤ b ∧ b < w30.heap.size) qs _ _ W31 (fun b hb => Nat.lt_of_lt_of_le hb.2 N31.out) P31.out Y31.out).mono ?_
            rintro e w32 ⟨rfl, k32⟩
            have K32 := hid (K31.out.trans k32)
            clear k32 hcr hcz
            go_wp2_with fail
            go_ret
            exact ⟨rfl, K32.out⟩
  · obtain rfl := HP1.out hz
    have hzc1 : (ct == 0) = false := by simp [hz]
    have hzc2 : (ct != 0) = true := by simp [hz]
    have HMC : Hid (me = ct) := by show _ = _; rw [HME.out]; simp [hz]
    obtain rfl := HMC.out
    have HTS2 : Hid (chkTS ps xs = me) := by show _ = _; rw [HTS.out]; simp [hz]
    have HLSN : Hid (ls = []) := by show _ = _; rw [HLS.out, if_neg hz]
    clear hz HME HTS HLS HMC
    go_wp2_with fail
    refine (sameSetT_any S xs ys _ _ w7 (fun b hb => Nat.lt_of_lt_of_le (hS b hb) E7.out.keep.size) (HXS.out.keep hS E7.out.keep) (HYS.out.keep hS E7.out.keep)).mono ?_
    rintro e w8 ⟨β1, rfl, hβ1, k8⟩
    have E8 := hid (E7.out.on k8)
    clear k8 E7 hcv hlv
    go_wp2_with fail
    refine (sameSetR_any S xs ys _ _ w8 (fun b hb => Nat.lt_of_lt_of_le (hS b hb) E8.out.keep.size) (HXS.out.keep hS E8.out.keep) (HYS.out.keep hS E8.out.keep)).mono ?_
    rintro e w9 ⟨β2, rfl, hβ2, k9⟩
    have E9 := hid (E8.out.on k9)
    obtain rfl : β1 = β2 := by
      have h := hβ1.trans hβ2.symm
      cases β1 <;> cases β2 <;> simp_all
    have hββ : (β1 != β1) = false := by simp
    have hβb : (β1 == β1) = true := by simp
    clear k9 E8 hβ1 hβ2
    obtain ⟨hcv, -, hlv⟩ := E9.out.var.facts
    go_wp2_with fail
    refine (checkSet_any S ps xs _ _ w9 (fun b hb => Nat.lt_of_lt_of_le (hS b hb) E9.out.keep.size) (HP.out.keep hS E9.out.keep) (HXS.out.keep hS E9.out.keep)).mono ?_
    rintro e w10 ⟨rfl, k10⟩
    rw [HTS2.out]
    have E10 := hid (E9.out.on k10)
    clear k10 E9 hcv hlv
    obtain ⟨hcv, -, hlv⟩ := E10.out.var.facts
    go_wp2_with fail
    go_loopg [20, 103] ps.length (fun gk pv i wr => ∃ j : Nat, j + gk = ps.length ∧ i = .int .i64 j ∧ pv = .slice none 0 0 ∧ TsE w (.slice tp ps.length tc) #[.string an, .int .i64 aop, .int .i64 av, .int .i64 asl, .string af, .bool aon] bq bq qs (.slice qp qs.length qc) ls (.slice ip ls.length ic) wr)
    case atStart => exact ⟨0, by simp, rfl, rfl, E10.out⟩
    case round =>
      obtain ⟨j, hj, rfl, rfl, hev⟩ := hrel
      have HEV := hid hev
      clear hev E10 hcv hlv
      by_cases hlt : j < ps.length
      · obtain ⟨b, off, cap2, hv2, hb2, -, hrow2⟩ := (HP.out.keep hS HEV.out.keep).get hlt
        cases hv2
        obtain ⟨cs, hcs, hpj⟩ := hrow2 j hlt
        generalize ps[j] = q at hpj
        obtain ⟨k, a, fl, nt, kids, kp, fp, kc, fc, -, hfl, rfl, -, -⟩ := hpj.spelt
        obtain ⟨c0, c1, c2, c3, c4, c5, c6, c7, c8, c9, c10, c11, c12, c13⟩ := cells14 hcs
        rcases q with ⟨n, v, sl, fs, nd⟩
        simp only at hfl c0 c1 c2 c3
        have hblt : b < wr.heap.size := Nat.lt_of_lt_of_le (hS _ hb2) HEV.out.keep.size
        have EV2 := hid (HEV.out.on (Keep.alloc wr (.cells #[.string n, .int .i64 v, .int .i64 sl, .slice fp fs.length fc, .int .i64 k, .string a.n, .int .i64 a.op, .int .i64 a.v, .int .i64 a.sl, .string a.f, .bool a.on, .string fl, .bool nt, .slice kp kids.length kc] 58)))
        clear hrow2 hcs hpj
        go_wp2_with fail
        go_roundg (ps.length - (j + 1))
        case rel => exact ⟨j + 1, by omega, by go_num, rfl, EV2.out⟩
        case measure => omega
      · obtain rfl : j = ps.length := by omega
        have HIV : IntsAt (.slice none 0 0) ls wr := Or.inl ⟨HLSN.out, rfl⟩
        have hlln : ls.length ≤ 2000 := by rw [HLSN.out]; simp
        go_wp2_with fail
        refine (equalInts_any _ _ ls ls wr HEV.out.ints HIV (by omega) (by omega)).mono ?_
        rintro e w29 ⟨rfl, q29, rfl⟩
        have hll2 : (ls == ls) = true := by simp
        rw [hll2]
        have EV := hid (HEV.out.on (Keep.drewN (Keep.refl wr) q29))
        clear hll2 HEV
        generalize wr.drewN q29 = W29 at EV
        by_cases hlong : 20000 < s.size
        · have hlo' : (20000 : Int) < (s.size : Int) := by omega
          have hrd : rdT s.data.toList = (2, 0, []) := by unfold rdT; rw [if_pos (by rw [size_list]; exact hlong)]
          have hrr := HR.out.symm.trans hrd
          simp only [Prod.mk.injEq] at hrr
          obtain ⟨rfl, rfl, rfl⟩ := hrr
          obtain ⟨hcq, -, hlq⟩ := EV.out.res.facts
          clear hrd
          go_wp2_with fail
          refine (sameTree_any (fun b => w.heap.size ≤ b ∧ b < bq) [] _ _ W29 (fun b hb => Nat.lt_of_lt_of_le hb.2 EV.out.lim) EV.out.tree (Or.inl ⟨rfl, none, 0, rfl⟩)).mono ?_
          rintro e w30 ⟨rfl, k30⟩
          have K30 := hid (EV.out.keep.trans k30)
          clear k30 hcq
          go_wp2_with fail
          go_ret
          exact ⟨rfl, K30.out⟩
        · have hlo' : ¬ (20000 : Int) < (s.size : Int) := by omega
          go_wp2_with fail
          refine (refReadTree_any s W29 (HE.out.keep EV.out.keep) (HM.out.keep EV.out.keep) (by omega)).mono ?_
          rintro e w30 ⟨tv2, rfl, -, hq2, k30⟩
          rw [HR.out] at hq2 ⊢
          have E30 := hid (EV.out.on k30)
          have HQ2 := hid hq2
          simp only at hq2 HQ2 ⊢
          obtain ⟨q2, c2, rfl, -⟩ := hq2.len
          have hW30 : W29.heap.size ≤ w30.heap.size := k30.size
          have hwW : w.heap.size ≤ W29.heap.size := EV.out.keep.size
          have hbq : bq ≤ w30.heap.size := E30.out.lim
          clear hq2 k30
          obtain ⟨hcq, -, hlq⟩ := E30.out.res.facts
          go_upto_region 26 with fail
          refine at_wp (fun W' => Keep w W' ∧ VarAt bq 44 (.slice qp qs.length qc) W' ∧ VarAt w30.heap.size 44 (.slice q2 qs.length c2) W' ∧ PkgsIs (fun b => w.heap.size ≤ b ∧ b < w30.heap.size) W' qs (.slice qp qs.length qc) ∧ PkgsIs (fun b => w.heap.size ≤ b ∧ b < w30.heap.size) W' qs (.slice q2 qs.length c2) ∧ w30.heap.size ≤ W'.heap.size) ⟨E30.out.keep.alloc' _, E30.out.res.keep (Keep.alloc _ _) E30.out.res.facts.2.2, VarAt.new _ _ _, PkgsIs.mono (fun p hp => (Keep.alloc w30 _).cell (p := p) (by have := hp.2; omega)) (fun b hb => ⟨hb.1, by have := hb.2; omega⟩) E30.out.tree, PkgsIs.mono (fun p hp => (Keep.alloc w30 _).cell (p := p) hp.2) (fun b hb => ⟨by have := hb.1; omega, hb.2⟩) HQ2.out, by rw [alloc_size]; omega⟩ ?_
          rintro W31 ⟨k31, r31, z31, p31, y31, n31⟩
          have K31 := hid k31
          have P31 := hid p31
          have Y31 := hid y31
          have N31 := hid n31
          obtain ⟨hcr, -, hlr⟩ := r31.facts
          obtain ⟨hcz, -, hlz⟩ := z31.facts
          clear k31 p31 y31 n31 r31 z31 hcq
          go_wp2_with fail
          refine (sameTree_any (fun b => w.heap.size ≤ b ∧ b < w30.heap.size) qs _ _ W31 (fun b hb => Nat.lt_of_lt_of_le hb.2 N31.out) P31.out Y31.out).mono ?_
          rintro e w32 ⟨rfl, k32⟩
          have K32 := hid (K31.out.trans k32)
          clear k32 hcr hcz
          go_wp2_with fail
          go_ret
          exact ⟨rfl, K32.out⟩
end Go.Proofs.YtkckkjpkidcbnaaGreatDoor
