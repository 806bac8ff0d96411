/- valid.sharesSlot answers as the plain function shareN says, of a set that is right. -/
import Derived.Test.YtlfonjngbpfelaaGreatDoorValidHold
namespace Go.Proofs.YtlfonjngbpfelaaGreatDoor
open Go.RowKit Go.Sort

set_option maxHeartbeats 2000000 in
set_option maxRecDepth 100000 in
theorem indexFuncM_any {F : Nat} {cap : Array Value} (S : Nat → Prop) (ms : List MB) (g : MB → Bool) (lv : Value) (w : World) (hS : ∀ b, S b → b < w.heap.size)
    (hF : ∀ args w, (callFunc F args).run Tryz.prog w = .ok (.enter F args) w) (hm : MbsIs S w ms lv)
    (hc : ∀ (j : Nat) (h : j < ms.length) (op : Option Addr) (oc : Nat) (W : World), Keep w W → BoolsIs S W ms[j].on (.slice op ms[j].on.length oc) → Calls Tryz.prog F (#[.agg #[.int .i64 ms[j].pl, .slice op ms[j].on.length oc]] ++ cap) W fun e w' => e = .returned (.bool (g ms[j])) ∧ Keep W w') :
    Calls Tryz.prog 167 #[lv, .func (.func F) #[] cap] w fun e w' => ∃ n : Int, e = .returned (.int .i64 n) ∧ decide (0 ≤ n) = ms.any g ∧ Keep w w' := by
  have HM := hid hm
  have HC := hid hc
  obtain ⟨lp, lc, rfl, hlen⟩ := hm.len
  clear hm hc
  go_enter Tryz.func167, Tryz.ntmps167
  go_wp2_with fail
  go_loopg [8] ms.length (fun gk i wr => ∃ j : Nat, j + gk = ms.length ∧ i = .int .i64 j ∧ (ms.take j).any g = false ∧ Keep w wr)
  case atStart => exact ⟨0, by simp, rfl, by simp, Keep.refl _⟩
  case round =>
    obtain ⟨j, hj, rfl, hno, hkp⟩ := hrel
    have HNO := hid hno
    have HKP := hid hkp
    clear hno hkp
    by_cases hlt : j < ms.length
    · obtain ⟨mb, moff, mcap, hmv, hmS, -, hrow⟩ := (HM.out.keep hS HKP.out).get hlt
      cases hmv
      obtain ⟨op, oc, hc0, hc1, hon, hbl⟩ := hrow j _ (List.getElem?_eq_getElem hlt)
      have HCALL := hid (HC.out j hlt op oc wr HKP.out hbl)
      clear hbl
      have HST : Hid ((ms.take (j + 1)).any g = g ms[j]) := by
        show _ = _
        rw [List.take_succ_eq_append_getElem hlt, List.any_append, HNO.out]; simp
      have HUP : Hid (g ms[j] = true → ms.any g = true) := fun h => List.any_eq_true.2 ⟨ms[j], List.getElem_mem hlt, h⟩
      generalize g ms[j] = β at HCALL HST HUP
      generalize ms[j] = m at hc0 hc1 hon HCALL
      clear hrow HNO
      go_wp2_with fail
      refine HCALL.out.mono ?_
      rintro e w1 ⟨rfl, k1⟩
      have K1 := hid (HKP.out.trans k1)
      clear k1 hc0 hc1 HCALL
      cases β
      · go_wp2_with fail
        go_roundg (ms.length - (j + 1))
        case rel => exact ⟨j + 1, by omega, by go_num, HST.out, K1.out⟩
        case measure => omega
      · go_wp2_with fail
        go_ret
        exact ⟨(j : Int), rfl, by rw [show ms.any g = true from HUP.out trivial]; exact decide_eq_true (by omega), K1.out⟩
    · obtain rfl : j = ms.length := by omega
      go_wp2_with fail
      go_ret
      refine ⟨-1, rfl, ?_, HKP.out⟩
      have := HNO.out
      rw [List.take_length] at this
      rw [this]; rfl
set_option maxHeartbeats 1000000 in
theorem containsFuncM_any {F : Nat} {cap : Array Value} (S : Nat → Prop) (ms : List MB) (g : MB → Bool) (lp : Option Addr) (k lc : Nat) (w : World) (hS : ∀ b, S b → b < w.heap.size)
    (hF : ∀ args w, (callFunc F args).run Tryz.prog w = .ok (.enter F args) w) (hm : MbsIs S w ms (.slice lp k lc))
    (hc : ∀ (j : Nat) (h : j < ms.length) (op : Option Addr) (oc : Nat) (W : World), Keep w W → BoolsIs S W ms[j].on (.slice op ms[j].on.length oc) → Calls Tryz.prog F (#[.agg #[.int .i64 ms[j].pl, .slice op ms[j].on.length oc]] ++ cap) W fun e w' => e = .returned (.bool (g ms[j])) ∧ Keep W w') :
    Calls Tryz.prog 112 #[.slice lp k lc, .func (.func F) #[] cap] w fun e w' => e = .returned (.bool (ms.any g)) ∧ Keep w w' := by
  have HI := hid (indexFuncM_any S ms g _ w hS hF hm hc)
  clear hm hc
  go_enter Tryz.func112, Tryz.ntmps112
  go_wp2_with fail
  refine HI.out.mono ?_
  rintro e w1 ⟨n, rfl, hn, k1⟩
  have HN := hid hn
  have K1 := hid k1
  clear hn k1 HI
  go_wp2_with fail
  go_ret
  exact ⟨ret_bool HN.out, K1.out⟩

/-- Has the member p's name and slot? -/
def shB (ps : List PK) (p : PK) (m : MB) : Bool := ((pkOf ps m).n.toList == p.n.toList) && ((pkOf ps m).sl == p.sl)
theorem shareN_any (ps : List PK) (ms : List MB) (k : Nat) : ∀ n, n ≤ ms.length → shareN ps ms k n = (ms.take n).any (shB ps (pkOf ps (ms.getD k MB.zero)))
  | 0, _ => by simp [shareN]
  | n + 1, h => by
    rw [shareN, shareN_any ps ms k n (by omega), List.take_succ_eq_append_getElem (by omega), List.any_append, getD_mb ms n (by omega)]
    simp [shB]

set_option maxHeartbeats 4000000 in
set_option maxRecDepth 100000 in
theorem share1_any (S : Nat → Prop) (ps : List PK) (m : MB) (op : Option Addr) (oc ct cp : Nat) (tp : Option Addr) (tc : Nat) (p : PK) (pcs : Array Value) (w : World) (hS : ∀ b, S b → b < w.heap.size) (hp : PkgsIs S w ps (.slice tp ps.length tc)) (ht : VarAt ct 44 (.slice tp ps.length tc) w)
    (hb : Boxed cp pcs w) (hp0 : pcs[0]? = some (.string p.n)) (hp2 : pcs[2]? = some (.int .i64 p.sl)) (h0 : 0 ≤ m.pl) (h1 : m.pl < ps.length) (hon : m.on.length ≤ 9223372036854775807) :
    Calls Tryz.prog 165 #[.agg #[.int .i64 m.pl, .slice op m.on.length oc], .pointer (some ⟨ct, 0, none⟩), .pointer (some ⟨cp, 0, none⟩)] w fun e w' => e = .returned (.bool (shB ps p m)) ∧ Keep w w' := by
  obtain ⟨q, hq⟩ : ∃ q : Nat, m.pl = q := ⟨m.pl.toNat, by omega⟩
  have hqp : q < ps.length := by omega
  have HX : Hid (shB ps p m = ((ps[q].n.toList == p.n.toList) && (ps[q].sl == p.sl))) := by show _ = _; unfold shB pkOf; rw [hq, Int.toNat_natCast, getD_pk ps q hqp]
  obtain ⟨tb, toff, tcap, htv, htb, hlen, htrow⟩ := hp.get hqp
  cases htv
  obtain ⟨cs, hcs, hpj⟩ := htrow q hqp
  generalize ps[q] = p' at hpj HX
  obtain ⟨kk', a', fl', nt', kids', kp', fp', kc', fc', hnd, hfl, rfl, -, -⟩ := hpj.spelt
  obtain ⟨c0, c1, c2, c3, c4, c5, c6, c7, c8, c9, c10, c11, c12, c13⟩ := cells14 hcs
  have htl := hS tb htb
  obtain ⟨ht0, -, htlt⟩ := ht.facts
  have hpn : w.cell? ⟨cp, 0, none⟩ = some (.string p.n) := (hb.2 0).trans hp0
  have hps : w.cell? ⟨cp, 2, none⟩ = some (.int .i64 p.sl) := (hb.2 2).trans hp2
  have hlp := hb.1
  generalize p.n = pn at HX hpn
  generalize p.sl = psl at HX hps
  rcases p' with ⟨n', v', sl', fs', nd'⟩
  rcases m with ⟨pl, on⟩
  simp only at hq hon HX c0 c1 c2 c3 hfl ⊢
  subst hq
  have KW := hid ((Keep.alloc w (.cells #[.int .i64 (q : Int), .slice op on.length oc] 86)).alloc' (.cells #[.string n', .int .i64 v', .int .i64 sl', .slice fp' fs'.length fc', .int .i64 kk', .string a'.n, .int .i64 a'.op, .int .i64 a'.v, .int .i64 a'.sl, .string a'.f, .bool a'.on, .string fl', .bool nt', .slice kp' kids'.length kc'] 58))
  clear hcs hpj htrow hnd hp ht hb hp0 hp2 h0 h1
  cases hne : (n'.toList == pn.toList)
  · rw [hne] at HX
    go_enter Tryz.func165, Tryz.ntmps165
    go_wp2_with fail
    go_ret
    exact ⟨ret_bool (by rw [HX.out]; rfl), KW.out⟩
  · rw [hne] at HX
    go_enter Tryz.func165, Tryz.ntmps165
    go_wp2_with fail
    go_ret
    exact ⟨ret_bool (by rw [HX.out]; simp), KW.out⟩
theorem enter_share1 (args : Array Value) (w : World) : (callFunc 165 args).run Tryz.prog w = .ok (.enter 165 args) w := enters_of Tryz.func165 (by kernel_rfl) rfl args w

set_option maxHeartbeats 4000000 in
set_option maxRecDepth 100000 in
theorem shares_any (S : Nat → Prop) (ps : List PK) (ms : List MB) (tv lv : Value) (k : Nat) (w : World) (hS : ∀ b, S b → b < w.heap.size) (hp : PkgsIs S w ps tv) (hm : MbsIs S w ms lv) (hk : k < ms.length) (hok : SetOk ps ms) :
    Calls Tryz.prog 107 #[.agg #[tv], lv, .int .i64 k] w fun e w' => e = .returned (.bool (shareN ps ms k k)) ∧ Keep w w' := by
  have HP := hid hp
  have HMS := hid hm
  have HOK := hid hok
  obtain ⟨tp, tc, rfl, hlen⟩ := hp.len
  obtain ⟨lp, lc, rfl, hllen⟩ := hm.len
  have hcap := hm.cap
  obtain ⟨mb, moff, mcap, hmv, hmS, -, hrow⟩ := hm.get hk
  cases hmv
  obtain ⟨op, oc, hc0, -, -, -⟩ := hrow k _ (List.getElem?_eq_getElem hk)
  obtain ⟨h0, h1, h2⟩ := hok k _ (List.getElem?_eq_getElem hk)
  obtain ⟨q, hq⟩ : ∃ q : Nat, ms[k].pl = q := ⟨ms[k].pl.toNat, by omega⟩
  have hqp : q < ps.length := by omega
  have hpk : pkOf ps ms[k] = ps[q] := by unfold pkOf; rw [hq, Int.toNat_natCast, getD_pk ps q hqp]
  have HX : Hid (shareN ps ms k k = (ms.take k).any (shB ps ps[q])) := by
    show _ = _
    rw [shareN_any ps ms k k (by omega), getD_mb ms k hk, hpk]
  have HIN : Hid (∀ (j : Nat) (h : j < (ms.take k).length), 0 ≤ (ms.take k)[j].pl ∧ (ms.take k)[j].pl < ps.length ∧ (ms.take k)[j].on.length ≤ 9223372036854775807) := fun j h => by
    have hj : j < ms.length := by simp at h; omega
    have e : (ms.take k)[j] = ms[j] := List.getElem_take
    rw [e]
    obtain ⟨x1, x2, -⟩ := hok j _ (List.getElem?_eq_getElem hj)
    obtain ⟨_, _, -, -, x3, -⟩ := hrow j _ (List.getElem?_eq_getElem hj)
    exact ⟨x1, x2, x3⟩
  rw [hq] at hc0
  obtain ⟨tb, toff, tcap, htv, htb, -, htrow⟩ := hp.get hqp
  cases htv
  obtain ⟨cs, hcs, hpj⟩ := htrow q hqp
  generalize ps[q] = p at hpj HX
  obtain ⟨kk, a, fl, nt, kids, kp, fp, kc, fc, hnd, hfl, rfl, -, -⟩ := hpj.spelt
  obtain ⟨c0, c1, c2, c3, c4, c5, c6, c7, c8, c9, c10, c11, c12, c13⟩ := cells14 hcs
  have hmlt := hS mb hmS
  have htlt := hS tb htb
  clear hcs hpj htrow hrow hp hm hok h0 h1 h2 hq hpk hnd
  rcases p with ⟨n, v, sl, fs, nd⟩
  simp only at hfl c0 c1 c2 c3 HX
  have hmf : ∀ (fn : Fn) (first cap : Array Value) (w : World), (Instr.makeFunc fn first cap).run Tryz.prog w = .ok (.func fn first cap) w := fun _ _ _ _ => rfl
  go_enter Tryz.func107, Tryz.ntmps107
  go_upto_region 1 with fail
  refine at_wp (fun W' => Keep w W' ∧ VarAt w.heap.size 44 (.slice (some ⟨tb, toff, none⟩) ps.length tc) W') ⟨Keep.alloc _ _, VarAt.new _ _ _⟩ ?_
  rintro W0 ⟨k0, v0⟩
  have K0 := hid k0
  have V0 := hid v0
  obtain ⟨g0, -, l0⟩ := v0.facts
  have gm := (k0.cell (p := ⟨mb, moff + k * 2, none⟩) hmlt).trans hc0
  have gt : ∀ (o : Nat) (x : Value), w.cell? ⟨tb, o, none⟩ = some x → W0.cell? ⟨tb, o, none⟩ = some x := fun o x h => (k0.cell (p := ⟨tb, o, none⟩) htlt).trans h
  have d0 := gt _ _ c0
  have d1 := gt _ _ c1
  have d2 := gt _ _ c2
  have d3 := gt _ _ c3
  have d4 := gt _ _ c4
  have d5 := gt _ _ c5
  have d6 := gt _ _ c6
  have d7 := gt _ _ c7
  have d8 := gt _ _ c8
  have d9 := gt _ _ c9
  have d10 := gt _ _ c10
  have d11 := gt _ _ c11
  have d12 := gt _ _ c12
  have d13 := gt _ _ c13
  have hm0 : mb < W0.heap.size := Nat.lt_of_lt_of_le hmlt k0.size
  have ht0 : tb < W0.heap.size := Nat.lt_of_lt_of_le htlt k0.size
  clear c0 c1 c2 c3 c4 c5 c6 c7 c8 c9 c10 c11 c12 c13 gt k0 v0 hc0
  go_region
  clear d0 d1 d2 d3 d4 d5 d6 d7 d8 d9 d10 d11 d12 d13 g0 gm
  go_upto_region 2 with fail
  refine at_wp (fun W' => Keep W0 W' ∧ Boxed W0.heap.size #[.string n, .int .i64 v, .int .i64 sl, .slice fp fs.length fc, .int .i64 kk, .string a.n, .int .i64 a.op, .int .i64 a.v, .int .i64 a.sl, .string a.f, .bool a.on, .string fl, .bool nt, .slice kp kids.length kc] W') ⟨(Keep.alloc _ _).trans (keep_drw _), (Boxed.new _ _ _).keep (keep_drw _) (by rw [alloc_size]; omega)⟩ ?_
  rintro W1 ⟨k1, b1⟩
  have K1 := hid (K0.out.trans k1)
  have B1 := hid b1
  have V1 := hid (V0.out.keep k1 V0.out.facts.2.2)
  clear k1 b1
  go_wp2_with fail
  refine (containsFuncM_any S (ms.take k) (shB ps ⟨n, v, sl, fs, nd⟩) _ k lc W1 (fun b hb => Nat.lt_of_lt_of_le (hS b hb) K1.out.size) enter_share1 ((HMS.out.keep hS K1.out).take (by omega)) ?_).mono ?_
  · intro j h op oc W kW _
    obtain ⟨x1, x2, x3⟩ := HIN.out j h
    exact share1_any S ps (ms.take k)[j] op oc _ _ _ tc ⟨n, v, sl, fs, nd⟩ _ W (fun b hb => Nat.lt_of_lt_of_le (Nat.lt_of_lt_of_le (hS b hb) K1.out.size) kW.size) (HP.out.keep hS (K1.out.trans kW)) (V1.out.keep kW V1.out.facts.2.2) (B1.out.keep kW B1.out.1) rfl rfl x1 x2 x3
  rintro e w2 ⟨rfl, k2⟩
  have K2 := hid (K1.out.trans k2)
  clear k2
  go_wp2_with fail
  go_ret
  exact ⟨ret_bool HX.out.symm, K2.out⟩
end Go.Proofs.YtlfonjngbpfelaaGreatDoor
