/- valid.isAsked and valid.someOther answer as the plain functions isB and someB say. -/
import Derived.Test.YtlfonjngbpfelaaGreatDoorValidSet
import Derived.Test.YtlfonjngbpfelaaGreatDoorTreeMeant
namespace Go.Proofs.YtlfonjngbpfelaaGreatDoor
open Go.RowKit Go.Sort

theorem idx_from (x : ByteArray) : ∀ (fs : List ByteArray) (i : Nat), Lib.idxFromS fs x i = if flagAt fs x < fs.length then ((i + flagAt fs x : Nat) : Int) else -1
  | [], i => by simp [Lib.idxFromS, flagAt]
  | f :: fs, i => by
    have ih := idx_from x fs (i + 1)
    unfold flagAt at ih ⊢
    rw [Lib.idxFromS, List.findIdx_cons]
    by_cases h : f = x
    · simp [h]
    · rw [if_neg h, ih]
      simp only [h, decide_false, cond_false, List.length_cons]
      by_cases h2 : List.findIdx (fun f => decide (f = x)) fs < fs.length
      · rw [if_pos h2, if_pos (by omega)]; omega
      · rw [if_neg h2, if_neg (by omega)]
theorem idx_flag (fs : List ByteArray) (x : ByteArray) : Lib.idxOfS fs x = if flagAt fs x < fs.length then (flagAt fs x : Int) else -1 := by
  unfold Lib.idxOfS
  rw [idx_from, Nat.zero_add]
theorem index_any (S : Nat → Prop) (fs : List ByteArray) (v : Value) (x : ByteArray) (w : World) (h : StrsIs S w fs v) :
    Calls Tryz.prog 95 #[v, .string x] w fun e w' => e = .returned (.int .i64 (if flagAt fs x < fs.length then (flagAt fs x : Int) else -1)) ∧ w' = w := by
  rw [← idx_flag]
  by_cases h0 : fs = []
  · obtain ⟨p, c, rfl, -⟩ := h.len
    subst h0
    refine (Tryz.slices_Index_string_empty p c x w).mono ?_
    rintro e w' ⟨rfl, rfl⟩
    exact ⟨rfl, rfl⟩
  · obtain ⟨b, off, cap, rfl, -, hl, hc⟩ := h.get (j := 0) (List.length_pos_iff.2 h0)
    refine (Tryz.slices_Index_string b off fs.length cap fs x w (Nat.le_refl _) hl (StrsIs.getD hc)).mono ?_
    rintro e w' ⟨rfl, rfl⟩
    exact ⟨by rw [List.take_length], rfl⟩
theorem BoolsIs.cell {S : Nat → Prop} {w : World} {bs : List Bool} {p : Option Addr} {n cap : Nat} (h : BoolsIs S w bs (.slice p n cap)) {q : Nat} (hq : q < bs.length) : ∃ b off, p = some ⟨b, off, none⟩ ∧ S b ∧ w.cell? ⟨b, off + q, none⟩ = some (.bool (bs.getD q false)) := by
  obtain ⟨p', cap', e, -, h3⟩ := h
  cases e
  obtain ⟨b, off, rfl, h5, h6⟩ := h3 (by omega)
  refine ⟨b, off, rfl, h5, ?_⟩
  rw [List.getD_eq_getElem?_getD, List.getElem?_eq_getElem hq, Option.getD_some]
  exact h6 q _ (List.getElem?_eq_getElem hq)

set_option maxHeartbeats 4000000 in
set_option maxRecDepth 100000 in
theorem isAsked_any (S : Nat → Prop) (p : PK) (cs : List Value) (m : MB) (op : Option Addr) (oc : Nat) (an af : ByteArray) (aop av asl : Int) (aon : Bool) (w : World) (hS : ∀ b, S b → b < w.heap.size) (hp : PkgIs S w p cs) (hb : BoolsIs S w m.on (.slice op m.on.length oc)) (hon : m.on.length = p.fl.length) (hom : m.on.length ≤ 9223372036854775807) :
    Calls Tryz.prog 161 #[.agg cs.toArray, .agg #[.int .i64 m.pl, .slice op m.on.length oc], .agg #[.string an, .int .i64 aop, .int .i64 av, .int .i64 asl, .string af, .bool aon]] w fun e w' => e = .returned (.bool (isB p m ⟨an, aop, av, asl, af, aon⟩)) ∧ Keep w w' := by
  obtain ⟨k, a, fl, nt, kids, kp, fp, kc, fc, -, hfl, rfl, hf, -⟩ := hp.spelt
  have HF := hid hf
  have HB := hid hb
  clear hp hf hb
  rcases p with ⟨n, v, sl, fs, nd⟩
  rcases m with ⟨pl, on⟩
  simp only at hon HB HF hom hfl ⊢
  have HM : Hid (isB ⟨n, v, sl, fs, nd⟩ ⟨pl, on⟩ ⟨an, aop, av, asl, af, aon⟩ = ((n.toList == an.toList) && fitB aop av asl v sl && (af.toList.isEmpty || (decide (flagAt fs af < fs.length) && (on.getD (flagAt fs af) false == aon))))) := rfl
  have HON := hid hon
  clear hon
  have KW := hid (((Keep.alloc w (.cells #[.string n, .int .i64 v, .int .i64 sl, .slice fp fs.length fc, .int .i64 k, .string a.n, .int .i64 a.op, .int .i64 a.v, .int .i64 a.sl, .string a.f, .bool a.on, .string fl, .bool nt, .slice kp kids.length kc] 58)).alloc' (.cells #[.int .i64 pl, .slice op on.length oc] 86)).alloc' (.cells #[.string an, .int .i64 aop, .int .i64 av, .int .i64 asl, .string af, .bool aon] 23))
  cases h1 : (n.toList == an.toList)
  · rw [h1] at HM
    have h1' : (n.toList != an.toList) = true := by simp [bne, h1]
    go_enter Tryz.func161, Tryz.ntmps161
    go_wp2_with fail
    go_ret
    exact ⟨ret_bool (by rw [HM.out]; rfl), KW.out⟩
  · rw [h1] at HM
    have h1' : (n.toList != an.toList) = false := by simp [bne, h1]
    go_enter Tryz.func161, Tryz.ntmps161
    go_wp2_with fail
    refine at_calls (fun W' => Keep w W' ∧ Boxed w.heap.size #[.string n, .int .i64 v, .int .i64 sl, .slice fp fs.length fc, .int .i64 k, .string a.n, .int .i64 a.op, .int .i64 a.v, .int .i64 a.sl, .string a.f, .bool a.on, .string fl, .bool nt, .slice kp kids.length kc] W' ∧ Boxed (w.heap.size + 1) #[.int .i64 pl, .slice op on.length oc] W' ∧ Boxed (w.heap.size + 1 + 1) #[.string an, .int .i64 aop, .int .i64 av, .int .i64 asl, .string af, .bool aon] W') ⟨((Keep.alloc _ _).alloc' _).alloc' _, (Boxed.new _ _ _).keep ((Keep.alloc _ _).alloc' _) (by simp), ?_, ?_⟩ ?_
    · have := Boxed.new (w.alloc (.cells #[.string n, .int .i64 v, .int .i64 sl, .slice fp fs.length fc, .int .i64 k, .string a.n, .int .i64 a.op, .int .i64 a.v, .int .i64 a.sl, .string a.f, .bool a.on, .string fl, .bool nt, .slice kp kids.length kc] 58)) #[.int .i64 pl, .slice op on.length oc] 86
      rw [alloc_size] at this; exact this.keep (Keep.alloc _ _) this.1
    · have := Boxed.new ((w.alloc (.cells #[.string n, .int .i64 v, .int .i64 sl, .slice fp fs.length fc, .int .i64 k, .string a.n, .int .i64 a.op, .int .i64 a.v, .int .i64 a.sl, .string a.f, .bool a.on, .string fl, .bool nt, .slice kp kids.length kc] 58)).alloc (.cells #[.int .i64 pl, .slice op on.length oc] 86)) #[.string an, .int .i64 aop, .int .i64 av, .int .i64 asl, .string af, .bool aon] 23
      rw [alloc_size, alloc_size] at this; exact this
    rintro W0 ⟨k0, b0, b1, b2⟩
    refine (fits_any _ _ _ _ _ _ _ _ W0).mono ?_
    rintro e w1 ⟨rfl, k1⟩
    have K1 := hid (k0.trans k1)
    have B0 := hid (b0.keep k1 b0.1)
    have B1 := hid (b1.keep k1 b1.1)
    have B2 := hid (b2.keep k1 b2.1)
    clear k0 b0 b1 b2 k1 KW
    generalize fitB aop av asl v sl = β at HM ⊢
    have hc0 := B0.out.2
    have hl0 := B0.out.1
    have hc1 := B1.out.2
    have hl1 := B1.out.1
    have hc2 := B2.out.2
    have hl2 := B2.out.1
    cases β
    · go_wp2_with fail
      go_ret
      exact ⟨ret_bool (by rw [HM.out]; rfl), K1.out⟩
    · cases h2 : af.toList.isEmpty
      · rw [h2] at HM
        have h3 : (af.toList == []) = false := by simpa using h2
        go_wp2_with fail
        refine (index_any S fs _ af w1 (HF.out.keep hS K1.out)).mono ?_
        rintro e w2 ⟨rfl, hw2⟩
        rw [hw2]
        clear hw2
        by_cases hq : flagAt fs af < fs.length
        · rw [if_pos hq]
          rw [decide_eq_true hq] at HM
          have hqo : flagAt fs af < on.length := by have := HON.out; omega
          obtain ⟨b, off, hop, hSb, hcell⟩ := (HB.out.keep hS K1.out).cell hqo
          subst hop
          generalize flagAt fs af = q at hq hqo hcell HM ⊢
          generalize on.getD q false = β at hcell HM
          have hd : decide ((0 : Int) ≤ (q : Int)) = true := decide_eq_true (by omega)
          go_wp2_with fail
          go_quiet (fail)
          go_wp2_with fail
          go_ret
          exact ⟨ret_bool (by rw [HM.out]; simp), Keep.drewN K1.out _⟩
        · rw [if_neg hq]
          rw [decide_eq_false hq] at HM
          have hd : decide ((0 : Int) ≤ (-1 : Int)) = false := by decide
          go_wp2_with fail
          go_quiet (fail)
          go_wp2_with fail
          go_ret
          exact ⟨ret_bool (by rw [HM.out]; rfl), Keep.drewN K1.out _⟩
      · rw [h2] at HM
        have h3 : (af.toList == []) = true := by simpa using h2
        go_wp2_with fail
        go_ret
        exact ⟨ret_bool (by rw [HM.out]; rfl), K1.out⟩
end Go.Proofs.YtlfonjngbpfelaaGreatDoor
/- valid.someOther answers as the plain function someB says, of a set that is right. -/
namespace Go.Proofs.YtlfonjngbpfelaaGreatDoor
open Go.RowKit Go.Sort

/-- A set of packages of ps that is right. -/
def SetOk (ps : List PK) (ms : List MB) : Prop := ∀ (j : Nat) (m : MB), ms[j]? = some m → 0 ≤ m.pl ∧ m.pl < ps.length ∧ m.on.length = (pkOf ps m).fl.length
theorem mbE_zero {ps : List PK} {ms : List MB} {k : Nat} (hk : k < ms.length) (h : mbE ps ms k = 0) : 0 ≤ ms[k].pl ∧ ms[k].pl < ps.length ∧ ms[k].on.length = (pkOf ps ms[k]).fl.length ∧ (0 < k → (ms.getD (k - 1) MB.zero).pl < ms[k].pl) := by
  unfold mbE at h
  rw [getD_mb ms k hk] at h
  split at h
  · cases h
  · split at h
    · cases h
    · split at h
      · cases h
      · rename_i h1 h2 h3
        exact ⟨by omega, by omega, Decidable.of_not_not h3, fun h0 => by omega⟩
theorem setOk_of {ps : List PK} {ms : List MB} (h : chkTS ps ms = 0) : SetOk ps ms := by
  intro j m hm
  obtain ⟨hj, rfl⟩ := List.getElem?_eq_some_iff.1 hm
  have h2 : chkS ps ms = 0 := by
    unfold chkTS at h
    split at h
    · rename_i hn; exact absurd h hn
    · exact h
  have := (firstE_zero ms.length 0).1 h2 j hj
  rw [Nat.zero_add] at this
  obtain ⟨h1, h2, h3, -⟩ := mbE_zero hj this
  exact ⟨h1, h2, h3⟩
theorem tree_of {ps : List PK} {ms : List MB} (h : chkTS ps ms = 0) : chkT ps = 0 := by
  unfold chkTS at h
  split at h
  · rename_i hn; exact absurd h hn
  · rename_i hn; exact Decidable.of_not_not hn
theorem someN_up {ps : List PK} {ms : List MB} {k : Int} {a : At} : ∀ {i : Nat} (j : Nat), someN ps ms k a i = true → someN ps ms k a (i + j) = true
  | _, 0, h => h
  | i, j + 1, h => by
    rw [← Nat.add_assoc, someN, someN_up j h]; rfl

set_option maxHeartbeats 4000000 in
set_option maxRecDepth 100000 in
theorem someOther_any (S : Nat → Prop) (ps : List PK) (ms : List MB) (tv lv : Value) (k : Int) (an af : ByteArray) (aop av asl : Int) (aon : Bool) (w : World) (hS : ∀ b, S b → b < w.heap.size) (hp : PkgsIs S w ps tv) (hm : MbsIs S w ms lv) (hok : SetOk ps ms) :
    Calls Tryz.prog 105 #[.agg #[tv], lv, .int .i64 k, .agg #[.string an, .int .i64 aop, .int .i64 av, .int .i64 asl, .string af, .bool aon]] w fun e w' => e = .returned (.bool (someB ps ms k ⟨an, aop, av, asl, af, aon⟩)) ∧ Keep w w' := by
  have HP := hid hp
  have HMS := hid hm
  have HOK := hid hok
  obtain ⟨tp, tc, rfl, hlen⟩ := hp.len
  obtain ⟨lp, lc, rfl, hllen⟩ := hm.len
  have HX : Hid (someB ps ms k ⟨an, aop, av, asl, af, aon⟩ = someN ps ms k ⟨an, aop, av, asl, af, aon⟩ ms.length) := rfl
  clear hp hm hok
  go_enter Tryz.func105, Tryz.ntmps105
  go_wp2_with fail
  go_loopg [13] ms.length (fun gk i wr => ∃ j : Nat, j + gk = ms.length ∧ i = .int .i64 j ∧ someN ps ms k ⟨an, aop, av, asl, af, aon⟩ j = false ∧ Keep w wr ∧ VarAt w.heap.size 44 (.slice tp ps.length tc) wr ∧ Boxed (w.heap.size + 1) #[.string an, .int .i64 aop, .int .i64 av, .int .i64 asl, .string af, .bool aon] wr)
  case atStart =>
    refine ⟨0, by simp, rfl, rfl, (Keep.alloc _ _).alloc' _, (VarAt.new _ _ _).keep (Keep.alloc _ _) (by simp), ?_⟩
    have := Boxed.new (w.alloc (.cells #[.slice tp ps.length tc] 44)) #[.string an, .int .i64 aop, .int .i64 av, .int .i64 asl, .string af, .bool aon] 23
    rw [alloc_size] at this; exact this
  case round =>
    obtain ⟨j, hj, rfl, hno, hkp, hvt, hbx⟩ := hrel
    have HNO := hid hno
    have HK := hid hkp
    have HV := hid hvt
    have HBX := hid hbx
    clear hno hkp hvt hbx
    by_cases hlt : j < ms.length
    · have hSr : ∀ b, S b → b < wr.heap.size := fun b hb => Nat.lt_of_lt_of_le (hS b hb) HK.out.size
      have HM2 := hid (HMS.out.keep hS HK.out)
      have HP2 := hid (HP.out.keep hS HK.out)
      obtain ⟨mb, moff, mcap, hmv, hmS, -, hrow⟩ := HM2.out.get hlt
      cases hmv
      obtain ⟨op, oc, hc0, hc1, hon, hbl⟩ := hrow j _ (List.getElem?_eq_getElem hlt)
      obtain ⟨h0, h1, h2⟩ := HOK.out j _ (List.getElem?_eq_getElem hlt)
      have HST : Hid (someN ps ms k ⟨an, aop, av, asl, af, aon⟩ (j + 1) = (!decide ((j : Int) = k) && isB (pkOf ps ms[j]) ms[j] ⟨an, aop, av, asl, af, aon⟩)) := by
        show _ = _
        rw [someN, HNO.out, getD_mb ms j hlt]; simp
      have HUP : Hid (someN ps ms k ⟨an, aop, av, asl, af, aon⟩ (j + 1) = true → someB ps ms k ⟨an, aop, av, asl, af, aon⟩ = true) := fun h => by
        have := someN_up (ms.length - (j + 1)) h
        rw [show j + 1 + (ms.length - (j + 1)) = ms.length by omega] at this
        rw [HX.out]; exact this
      generalize ms[j] = m at hc0 hc1 hon hbl h0 h1 h2 HST
      have HBL := hid hbl
      have HON := hid h2
      obtain ⟨q, hq⟩ : ∃ q : Nat, m.pl = q := ⟨m.pl.toNat, by omega⟩
      have hqp : q < ps.length := by omega
      have hpk : pkOf ps m = ps[q] := by unfold pkOf; rw [hq, Int.toNat_natCast, getD_pk ps q hqp]
      rw [hpk] at HST HON
      clear h0 h1 h2 hrow hbl hpk HNO
      obtain ⟨tb, toff, tcap, htv, htb, -, htrow⟩ := HP2.out.get hqp
      cases htv
      obtain ⟨cs, hcs, hpj⟩ := htrow q hqp
      generalize ps[q] = p at hpj HST HON
      obtain ⟨kk, a', fl, nt, kids, kp, fp, kc, fc, hnd, hfl, rfl, -, -⟩ := hpj.spelt
      have HPJ := hid hpj
      obtain ⟨c0, c1, c2, c3, c4, c5, c6, c7, c8, c9, c10, c11, c12, c13⟩ := cells14 hcs
      clear hcs hpj htrow hnd
      rcases p with ⟨n, v, sl, fs, nd⟩
      rcases m with ⟨pl, on⟩
      simp only at hc0 hc1 hon hfl HBL HON HST hq c0 c1 c2 c3 HPJ
      subst hq
      go_upto_region 4 with fail
      refine at_wp (fun W' => Keep wr W' ∧ Boxed wr.heap.size #[.int .i64 q, .slice op on.length oc] W') ⟨Keep.alloc _ _, Boxed.new _ _ _⟩ ?_
      rintro W2 ⟨k2, b2⟩
      have K2 := hid k2
      have KW2 := hid (HK.out.trans k2)
      have V2 := hid (HV.out.keep k2 HV.out.facts.2.2)
      have BX2 := hid (HBX.out.keep k2 HBX.out.1)
      have B2 := hid b2
      clear k2 b2 hc0 hc1
      by_cases hjk : (j : Int) = k
      · have hd1 : ((j : Int) == k) = true := by simp [hjk]
        have hd2 : ((j : Int) != k) = false := by simp [hjk]
        have HS1 : Hid (someN ps ms k ⟨an, aop, av, asl, af, aon⟩ (j + 1) = false) := by show _ = _; rw [HST.out, decide_eq_true hjk]; rfl
        clear hjk HST HUP c0 c1 c2 c3 c4 c5 c6 c7 c8 c9 c10 c11 c12 c13
        go_quiet (fail)
        have k4 : Keep W2 (W2.drewN nq) := Keep.drewN (Keep.refl _) _
        generalize W2.drewN nq = W4 at k4 ⊢
        have K4 := hid (KW2.out.trans k4)
        have V4 := hid (V2.out.keep k4 V2.out.facts.2.2)
        have BX4 := hid (BX2.out.keep k4 BX2.out.1)
        clear k4
        go_wp2_with fail
        go_roundg (ms.length - (j + 1))
        case rel => exact ⟨j + 1, by omega, by go_num, HS1.out, K4.out, V4.out, BX4.out⟩
        case measure => omega
      · have hd1 : ((j : Int) == k) = false := by simp [hjk]
        have hd2 : ((j : Int) != k) = true := by simp [hjk]
        have HST2 : Hid (someN ps ms k ⟨an, aop, av, asl, af, aon⟩ (j + 1) = isB ⟨n, v, sl, fs, nd⟩ ⟨q, on⟩ ⟨an, aop, av, asl, af, aon⟩) := by show _ = _; rw [HST.out, decide_eq_false hjk]; rfl
        clear hjk HST
        have htl : tb < W2.heap.size := Nat.lt_of_lt_of_le (hSr tb htb) K2.out.size
        have cb : ∀ (d : Nat) (os : Array Obj) (o : Nat) (x : Value), wr.cell? ⟨tb, o, none⟩ = some x → (grow (redrawn W2 d) os).cell? ⟨tb, o, none⟩ = some x := fun d os o x hx => ((below_regrown W2 d os).cell (p := ⟨tb, o, none⟩) htl).trans ((K2.out.cell (p := ⟨tb, o, none⟩) (hSr tb htb)).trans hx)
        have d0 := fun d os => cb d os _ _ c0
        have d1 := fun d os => cb d os _ _ c1
        have d2 := fun d os => cb d os _ _ c2
        have d3 := fun d os => cb d os _ _ c3
        have d4 := fun d os => cb d os _ _ c4
        have d5 := fun d os => cb d os _ _ c5
        have d6 := fun d os => cb d os _ _ c6
        have d7 := fun d os => cb d os _ _ c7
        have d8 := fun d os => cb d os _ _ c8
        have d9 := fun d os => cb d os _ _ c9
        have d10 := fun d os => cb d os _ _ c10
        have d11 := fun d os => cb d os _ _ c11
        have d12 := fun d os => cb d os _ _ c12
        have d13 := fun d os => cb d os _ _ c13
        have dt : ∀ d os, (grow (redrawn W2 d) os).cell? ⟨w.heap.size, 0, none⟩ = some (.slice (some ⟨tb, toff, none⟩) ps.length tc) := fun d os => ((below_regrown W2 d os).cell (p := ⟨w.heap.size, 0, none⟩) V2.out.facts.2.2).trans V2.out.facts.1
        have db : ∀ o d os, (grow (redrawn W2 d) os).cell? ⟨wr.heap.size, o, none⟩ = (#[.int .i64 q, .slice op on.length oc] : Array Value)[o]? := fun o d os => (B2.out.keep (below_regrown W2 d os) B2.out.1).2 o
        have da : ∀ o d os, (grow (redrawn W2 d) os).cell? ⟨w.heap.size + 1, o, none⟩ = (#[.string an, .int .i64 aop, .int .i64 av, .int .i64 asl, .string af, .bool aon] : Array Value)[o]? := fun o d os => (BX2.out.keep (below_regrown W2 d os) BX2.out.1).2 o
        have hS2 : ∀ b, S b → b < W2.heap.size := fun b hb => Nat.lt_of_lt_of_le (hSr b hb) K2.out.size
        generalize hbe : isB ⟨n, v, sl, fs, nd⟩ ⟨q, on⟩ ⟨an, aop, av, asl, af, aon⟩ = β at HST2
        have cAsk := hid (show ∀ d os, Calls Tryz.prog 161 #[.agg #[.string n, .int .i64 v, .int .i64 sl, .slice fp fs.length fc, .int .i64 kk, .string a'.n, .int .i64 a'.op, .int .i64 a'.v, .int .i64 a'.sl, .string a'.f, .bool a'.on, .string fl, .bool nt, .slice kp kids.length kc], .agg #[.int .i64 q, .slice op on.length oc], .agg #[.string an, .int .i64 aop, .int .i64 av, .int .i64 asl, .string af, .bool aon]] (grow (redrawn W2 d) os) fun e w'' => e = .returned (.bool β) ∧ ∃ p : Regrown, w'' = grow (redrawn W2 p.d) p.os from fun d os => by
          rw [← hbe]
          exact Calls.regrown_of (isAsked_any S ⟨n, v, sl, fs, nd⟩ _ ⟨q, on⟩ op oc an af aop av asl aon _ (fun b hb => Nat.lt_of_lt_of_le (hS2 b hb) (below_regrown W2 d os).size) (HPJ.out.keep hSr (K2.out.trans (below_regrown W2 d os))) (HBL.out.keep hSr (K2.out.trans (below_regrown W2 d os))) HON.out hon))
        clear c0 c1 c2 c3 c4 c5 c6 c7 c8 c9 c10 c11 c12 c13 cb hbe
        refine wp_region_quiet_below (by kernel_rfl) (by kernel_rfl) ?_
        repeat (first | go_big_quiet_step (exact cAsk.out _ _) | quiet_step (exact cAsk.out _ _))
        refine wpQuiet_nil ?_
        intro _ hw'
        obtain ⟨⟨dq, osq⟩, hw''⟩ := hw'
        subst hw''
        have k4 := below_regrown W2 dq osq
        generalize grow (redrawn W2 dq) osq = W4 at k4 ⊢
        have K4 := hid (KW2.out.trans k4)
        have V4 := hid (V2.out.keep k4 V2.out.facts.2.2)
        have BX4 := hid (BX2.out.keep k4 BX2.out.1)
        clear d0 d1 d2 d3 d4 d5 d6 d7 d8 d9 d10 d11 d12 d13 dt db da cAsk k4
        cases β
        · go_wp2_with fail
          go_roundg (ms.length - (j + 1))
          case rel => exact ⟨j + 1, by omega, by go_num, HST2.out, K4.out, V4.out, BX4.out⟩
          case measure => omega
        · go_wp2_with fail
          go_ret
          exact ⟨ret_bool (HUP.out HST2.out).symm, K4.out⟩
    · obtain rfl : j = ms.length := by omega
      go_wp2_with fail
      go_ret
      exact ⟨ret_bool (by rw [HX.out, HNO.out]), HK.out⟩
end Go.Proofs.YtlfonjngbpfelaaGreatDoor
