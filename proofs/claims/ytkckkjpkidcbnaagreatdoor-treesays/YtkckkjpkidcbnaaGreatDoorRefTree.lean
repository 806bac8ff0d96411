/- quartermasterref.CheckTree answers as the plain function chkT says, of any tree that lies in memory. -/
import Derived.Test.YtkckkjpkidcbnaaGreatDoorRefFlagF
import Derived.Test.YtkckkjpkidcbnaaGreatDoorRefCheckNeed
import Derived.Test.YtkckkjpkidcbnaaGreatDoorTreeChk
namespace Go.Proofs.YtkckkjpkidcbnaaGreatDoor
open Go.RowKit Go.Sort

theorem TextsAt.keep {v : Value} {fs : List (List UInt8)} {w w' : World} (h : TextsAt v fs w) (k : Keep w w') : TextsAt v fs w' := by
  rcases h with h | ⟨g, cap, h1, h2, h3⟩
  · exact Or.inl h
  · exact Or.inr ⟨g, cap, h1, Nat.lt_of_lt_of_le h2 k.size, fun j x hx => (k.cell (p := ⟨g, 0 + j, none⟩) h2).trans (h3 j x hx)⟩
theorem TextsAt.len {v : Value} {fs : List (List UInt8)} {w : World} (h : TextsAt v fs w) : ∃ p cap, v = .slice p fs.length cap := by
  rcases h with ⟨rfl, p, cap, h⟩ | ⟨g, cap, h, -⟩
  · exact ⟨p, cap, h⟩
  · exact ⟨_, cap, h⟩
theorem notb {a b : Bool} (h : a = !b) : b = !a := by cases a <;> cases b <;> first | rfl | cases h
theorem less_irr (l : List UInt8) : Op.bytesLess l l = false := by
  induction l with
  | nil => rfl
  | cons c l ih => simp [Op.bytesLess, ih]
/-- What the two ways of saying that one stands behind the other have in common. -/
theorem behind_ref (p q : PK) : (Op.bytesLess p.n.toList q.n.toList || ((p.n.toList == q.n.toList) && decide (p.v ≤ q.v))) = !behindB p q := by
  unfold behindB
  by_cases h : p.n = q.n
  · rw [if_pos h, h, less_irr]
    simp only [beq_self_eq_true, Bool.true_and, Bool.false_or]
    by_cases hv : p.v ≤ q.v
    · rw [decide_eq_true hv, decide_eq_false (by omega)]; rfl
    · rw [decide_eq_false hv, decide_eq_true (by omega)]; rfl
  · have hb : (p.n.toList == q.n.toList) = false := by
      rw [beq_eq_false_iff_ne]
      intro e
      rw [Lib.toList_data, Lib.toList_data] at e
      exact h (bytes_same e)
    rw [if_neg h, Bool.not_not]
    unfold leS
    rw [hb]; simp
theorem flag_small {t : NT} (h : t.ok) : ∀ f ∈ t.flags, f.size ≤ maxLen := by
  intro f hf
  have key : ∀ (m : Nat) (t : NT), t.size ≤ m → t.ok → ∀ f ∈ t.flags, f.size ≤ maxLen := by
    intro m
    induction m with
    | zero => rintro ⟨k, a, fl, nt, kids⟩ hm; rw [NT.size] at hm; omega
    | succ m ih =>
      rintro ⟨k, a, fl, nt, kids⟩ hm hok f hf
      rw [NT.size] at hm
      rw [NT.ok] at hok
      rw [NT.flags, List.mem_append] at hf
      rcases hf with hf | hf
      · split at hf
        · rename_i h5
          obtain rfl := List.mem_singleton.1 hf
          rcases nodeE_zero hok.1 with ⟨hk, -⟩ | ⟨hk, -⟩ | ⟨-, -, hn⟩
          · omega
          · omega
          · have := nameB_le hn
            rw [size_list] at this
            unfold maxLen; omega
        · cases hf
      · have hk : ∀ (ts : List NT), sizeL ts ≤ m → okL ts → ∀ f ∈ flagsL ts, f.size ≤ maxLen := by
          intro ts
          induction ts with
          | nil => intro _ _ f hf; simp [flagsL] at hf
          | cons t ts iht =>
            intro hs ho f hf
            rw [sizeL] at hs
            rw [okL] at ho
            rw [flagsL, List.mem_append] at hf
            rcases hf with hf | hf
            · exact ih t (by omega) ho.1 f hf
            · exact iht (by omega) ho.2 f hf
        exact hk kids (by omega) hok.2 f hf
  exact key t.size t (Nat.le_refl _) h f hf

set_option maxHeartbeats 8000000 in
set_option maxRecDepth 100000 in
theorem refCheckTree_any (S : Nat → Prop) (ps : List PK) (tv : Value) (w : World) (hS : ∀ b, S b → b < w.heap.size) (hp : PkgsIs S w ps tv) :
    Calls Tryz.prog 25 #[.agg #[tv]] w fun e w' => e = .returned (.int .i64 (chkT ps)) ∧ Keep w w' := by
  have HP := hid hp
  obtain ⟨tp, tc, rfl, hlen⟩ := hp.len
  clear hp
  by_cases h8 : 8 < ps.length
  · have h8' : (8 : Int) < (ps.length : Int) := by omega
    have HX : Hid (chkT ps = 2) := by show _ = _; unfold chkT; rw [if_pos h8]
    have k0 := hid (Keep.alloc w (.cells #[.slice tp ps.length tc] 44))
    go_enter Tryz.func25, Tryz.ntmps25
    go_wp2_with fail
    go_ret
    exact ⟨ret_int HX.out.symm, k0.out⟩
  have h8' : ¬ (8 : Int) < (ps.length : Int) := by omega
  have HX : Hid (chkT ps = firstE (pkE ps) 0 ps.length) := by show _ = _; unfold chkT; rw [if_neg h8]
  go_enter Tryz.func25, Tryz.ntmps25
  go_wp2_with fail
  go_loopg [19, 3] ps.length (fun gk i s wr => ∃ j : Nat, j + gk = ps.length ∧ i = .int .i64 j ∧ s = .int .i64 (sumF ps j : Nat) ∧ sumF ps j ≤ 2 * j ∧ firstE (pkE ps) 0 ps.length = firstE (pkE ps) j (ps.length - j) ∧ Keep w wr ∧ VarAt w.heap.size 44 (.slice tp ps.length tc) wr)
  case atStart => exact ⟨0, by simp, rfl, rfl, by simp [sumF], rfl, Keep.alloc _ _, VarAt.new _ _ _⟩
  case round =>
    obtain ⟨j, hj, rfl, rfl, hsm, he, hkp, hvt⟩ := hrel
    have HEQ := hid he
    have HK := hid hkp
    have HV := hid hvt
    clear he hkp hvt
    by_cases hlt : j < ps.length
    · obtain ⟨b, off, cap, htv, hb, -, hrow⟩ := HP.out.get hlt
      cases htv
      obtain ⟨cs, hcs, hp⟩ := hrow j hlt
      have HST := hid (firstE_step (f := pkE ps) hlt)
      have HRET : Hid (∀ x : Int, x ≠ 0 → pkE ps j = x → chkT ps = x) := fun x hx hy => by rw [HX.out, HEQ.out, HST.out, hy, if_neg hx]
      have HPE : Hid (pkE ps j = if chkP ps[j] ≠ 0 then chkP ps[j] else if 0 < j ∧ behindB ps[j] (ps.getD (j - 1) PK.zero) = false then 6 else if 14 < ps.length + sumF ps (j + 1) then 2 else 0) := by
        show _ = _
        unfold pkE
        rw [List.getD_eq_getElem?_getD, List.getElem?_eq_getElem hlt, Option.getD_some]
      have HSU : Hid (sumF ps (j + 1) = sumF ps j + ps[j].fl.length) := sumF_succ hlt
      generalize ps[j] = p at hp HPE HSU
      obtain ⟨kk, a, fl, nt, kids, kp, fp, kc, fc, hnd, hfl, rfl, hf, hn⟩ := hp.spelt
      obtain ⟨c0, c1, c2, c3, c4, c5, c6, c7, c8, c9, c10, c11, c12, c13⟩ := cells14 hcs
      have HF := hid hf
      have HN := hid hn
      have gt : ∀ (o : Nat) (x : Value), w.cell? ⟨b, o, none⟩ = some x → wr.cell? ⟨b, o, none⟩ = some x := fun o x h => (HK.out.cell (p := ⟨b, o, none⟩) (hS b hb)).trans h
      have d0 := gt _ _ c0
      have d1 := gt _ _ c1
      have d2 := gt _ _ c2
      have d3 := gt _ _ c3
      have d4 := gt _ _ c4
      have d5 := gt _ _ c5
      have d6 := gt _ _ c6
      have d7 := gt _ _ c7
      have d8 := gt _ _ c8
      have d9 := gt _ _ c9
      have d10 := gt _ _ c10
      have d11 := gt _ _ c11
      have d12 := gt _ _ c12
      have d13 := gt _ _ c13
      clear hcs hp hf hn hrow gt c0 c1 c2 c3 c4 c5 c6 c7 c8 c9 c10 c11 c12 c13
      rcases p with ⟨n, v, sl, fs, nd⟩
      simp only at hfl d0 d1 d2 d3 HSU HPE hnd HF HN
      have HCP : Hid (chkP ⟨n, v, sl, fs, nd⟩ = if nameB n.data.toList = false then 1 else if v < 1 ∨ 99 < v ∨ sl < 1 ∨ 9 < sl then 3 else if chkFs fs ≠ 0 then chkFs fs else chkNd nd fs) := rfl
      have HFS : Hid (chkFs fs = if 2 < fs.length then 2 else firstE (flE fs) 0 fs.length) := rfl
      have HKD : Hid (chkNd nd fs = if kk ≠ 3 then 4 else if chkN nd ≠ 0 then chkN nd else if nd.sorted.all (hasF fs) = true then 0 else 5) := by
        show _ = _
        unfold chkNd
        rw [show nd.kind = kk by rw [hnd]; rfl]
      have HBAD : Hid (∀ x : Int, x ≠ 0 → chkP ⟨n, v, sl, fs, nd⟩ = x → chkT ps = x) := fun x hx hy => HRET.out x hx (by rw [HPE.out, hy, if_pos hx])
      clear hnd
      obtain ⟨ht0, -, htl⟩ := HV.out.facts
      go_wp2_with fail
      refine at_calls (fun W' => Keep wr W' ∧ Boxed wr.heap.size #[.string n, .int .i64 v, .int .i64 sl, .slice fp fs.length fc, .int .i64 kk, .string a.n, .int .i64 a.op, .int .i64 a.v, .int .i64 a.sl, .string a.f, .bool a.on, .string fl, .bool nt, .slice kp kids.length kc] W') ⟨Keep.alloc _ _, Boxed.new _ _ _⟩ ?_
      rintro W0 ⟨k0, b0⟩
      refine (isName_any n W0).mono ?_
      rintro e w1 ⟨rfl, k1⟩
      have K1 := hid (HK.out.trans (k0.trans k1))
      have V1 := hid (HV.out.keep (k0.trans k1) HV.out.facts.2.2)
      have B1 := hid (b0.keep k1 b0.1)
      clear k0 b0 k1 d0 d1 d2 d3 d4 d5 d6 d7 d8 d9 d10 d11 d12 d13 ht0 htl HK HV
      generalize wr.heap.size = bx at B1 ⊢
      have hcb := B1.out.2
      have hlb := B1.out.1
      cases hnm : nameB n.data.toList
      · have HY := hid (HBAD.out 1 (by decide) (by rw [HCP.out, hnm]; rfl))
        go_wp2_with fail
        go_ret
        exact ⟨ret_int HY.out.symm, K1.out⟩
      have HC1 : Hid (chkP ⟨n, v, sl, fs, nd⟩ = if v < 1 ∨ 99 < v ∨ sl < 1 ∨ 9 < sl then 3 else if chkFs fs ≠ 0 then chkFs fs else chkNd nd fs) := by show _ = _; rw [HCP.out, hnm]; rfl
      clear HCP hnm
      by_cases r1 : v < 1
      · have HY := hid (HBAD.out 3 (by decide) (by rw [HC1.out, if_pos (Or.inl r1)]))
        go_wp2_with fail
        go_ret
        exact ⟨ret_int HY.out.symm, K1.out⟩
      by_cases r2 : 99 < v
      · have HY := hid (HBAD.out 3 (by decide) (by rw [HC1.out, if_pos (Or.inr (Or.inl r2))]))
        go_wp2_with fail
        go_ret
        exact ⟨ret_int HY.out.symm, K1.out⟩
      by_cases r3 : sl < 1
      · have HY := hid (HBAD.out 3 (by decide) (by rw [HC1.out, if_pos (Or.inr (Or.inr (Or.inl r3)))]))
        go_wp2_with fail
        go_ret
        exact ⟨ret_int HY.out.symm, K1.out⟩
      by_cases r4 : 9 < sl
      · have HY := hid (HBAD.out 3 (by decide) (by rw [HC1.out, if_pos (Or.inr (Or.inr (Or.inr r4)))]))
        go_wp2_with fail
        go_ret
        exact ⟨ret_int HY.out.symm, K1.out⟩
      have HC2 : Hid (chkP ⟨n, v, sl, fs, nd⟩ = if chkFs fs ≠ 0 then chkFs fs else chkNd nd fs) := by show _ = _; rw [HC1.out, if_neg (by omega)]
      clear HC1
      by_cases r5 : 2 < fs.length
      · have HY := hid (HBAD.out 2 (by decide) (by rw [HC2.out, HFS.out, if_pos r5]; rfl))
        have r5' : (2 : Int) < (fs.length : Int) := by omega
        go_wp2_with fail
        go_ret
        exact ⟨ret_int HY.out.symm, K1.out⟩
      have r5' : ¬ (2 : Int) < (fs.length : Int) := by omega
      have HF2 : Hid (chkFs fs = firstE (flE fs) 0 fs.length) := by show _ = _; rw [HFS.out, if_neg r5]
      clear HFS
      go_wp2_with fail
      clear hcb hlb
      go_loopg [56] fs.length (fun gk' i wr' => ∃ m : Nat, m + gk' = fs.length ∧ i = .int .i64 m ∧ firstE (flE fs) 0 fs.length = firstE (flE fs) m (fs.length - m) ∧ Keep w wr' ∧ VarAt w.heap.size 44 (.slice (some ⟨b, off, none⟩) ps.length tc) wr' ∧ Boxed bx #[.string n, .int .i64 v, .int .i64 sl, .slice fp fs.length fc, .int .i64 kk, .string a.n, .int .i64 a.op, .int .i64 a.v, .int .i64 a.sl, .string a.f, .bool a.on, .string fl, .bool nt, .slice kp kids.length kc] wr')
      case atStart => exact ⟨0, by simp, rfl, rfl, K1.out, V1.out, B1.out⟩
      case round =>
        obtain ⟨m, hm, rfl, he2, hkp, hvt, hbx⟩ := hrel
        have HEQ2 := hid he2
        have HK := hid hkp
        have HV := hid hvt
        have HB := hid hbx
        clear he2 hkp hvt hbx K1 V1 B1
        by_cases hml : m < fs.length
        · obtain ⟨fb, foff, fcap, hfv, hfb, -, hfc⟩ := (HF.out.keep hS HK.out).get hml
          cases hfv
          have hcm := hfc m _ (List.getElem?_eq_getElem hml)
          have hflt : fb < wr.heap.size := Nat.lt_of_lt_of_le (hS fb hfb) HK.out.size
          have HST2 := hid (firstE_step (f := flE fs) hml)
          have HFE : Hid (flE fs m = if nameB fs[m].data.toList = false then 1 else if 0 < m ∧ leS fs[m] (fs.getD (m - 1) ⟨#[]⟩) = true then 6 else 0) := by
            show _ = _
            unfold flE
            rw [List.getD_eq_getElem?_getD, List.getElem?_eq_getElem hml, Option.getD_some]
          have hprev : 0 < m → ∃ y : ByteArray, Hid (fs.getD (m - 1) ⟨#[]⟩ = y) ∧ w.cell? ⟨fb, foff + (m - 1), none⟩ = some (.string y) := fun h0 => by
            obtain ⟨fb', foff', fcap', hfv', -, -, hfc'⟩ := HF.out.get hml
            cases hfv'
            exact ⟨fs[m - 1], by show _ = _; rw [List.getD_eq_getElem?_getD, List.getElem?_eq_getElem (by omega), Option.getD_some], hfc' (m - 1) _ (List.getElem?_eq_getElem (by omega))⟩
          have HBF : Hid (∀ x : Int, x ≠ 0 → flE fs m = x → chkT ps = x) := fun x hx hy => HBAD.out x hx (by
            have : chkFs fs = x := by rw [HF2.out, HEQ2.out, HST2.out, hy, if_neg hx]
            rw [HC2.out, this, if_pos hx])
          generalize fs[m] = x at hcm HFE
          have hwfb : fb < w.heap.size := hS fb hfb
          clear hfc
          go_wp2_with fail
          refine (isName_any x wr).mono ?_
          rintro e w2 ⟨rfl, k2⟩
          have K2 := hid (HK.out.trans k2)
          have V2 := hid (HV.out.keep k2 HV.out.facts.2.2)
          have B2 := hid (HB.out.keep k2 HB.out.1)
          have hcb := B2.out.2
          have hlb := B2.out.1
          clear k2 hcm HK HV HB
          cases hnm : nameB x.data.toList
          · have HY := hid (HBF.out 1 (by decide) (by rw [HFE.out, hnm]; rfl))
            go_wp2_with fail
            go_ret
            exact ⟨ret_int HY.out.symm, K2.out⟩
          have HF3 : Hid (flE fs m = if 0 < m ∧ leS x (fs.getD (m - 1) ⟨#[]⟩) = true then 6 else 0) := by show _ = _; rw [HFE.out, hnm]; rfl
          clear HFE hnm
          by_cases hm0 : 0 < m
          · obtain ⟨y, HYE, hcy⟩ := hprev hm0
            rw [HYE.out] at HF3
            obtain ⟨q, rfl⟩ : ∃ q, m = q + 1 := ⟨m - 1, by omega⟩
            have hcy' : w2.cell? ⟨fb, foff + q, none⟩ = some (.string y) := (K2.out.cell (p := ⟨fb, foff + q, none⟩) hwfb).trans hcy
            have hfl2 : fb < w2.heap.size := Nat.lt_of_lt_of_le hwfb K2.out.size
            have h0' : (0 : Int) < ((q + 1 : Nat) : Int) := by omega
            have hd : decide ((0 : Int) < ((q + 1 : Nat) : Int)) = true := decide_eq_true h0'
            have e1 : ((q + 1 : Nat) : Int) - 1 = (q : Int) := by omega
            have hq : q < fs.length := by omega
            clear hprev HYE hcy
            cases hle : leS x y
            · have HY : Hid (flE fs (q + 1) = 0) := by show _ = _; rw [HF3.out, hle]; simp
              have hle' : (Op.bytesLess x.toList y.toList || x.toList == y.toList) = false := hle
              clear HF3 hle HBF
              go_wp2_with fail
              go_roundg (fs.length - (q + 1 + 1))
              case rel => exact ⟨q + 1 + 1, by omega, by go_num, by rw [HEQ2.out, HST2.out, HY.out]; rfl, K2.out, V2.out, B2.out⟩
              case measure => omega
            · have HY := hid (HBF.out 6 (by decide) (by rw [HF3.out, hle, if_pos ⟨by omega, rfl⟩]))
              have hle' : (Op.bytesLess x.toList y.toList || x.toList == y.toList) = true := hle
              clear HF3 hle HBF
              go_wp2_with fail
              go_ret
              exact ⟨ret_int HY.out.symm, K2.out⟩
          · have HY : Hid (flE fs m = 0) := by show _ = _; rw [HF3.out, if_neg (fun h => hm0 h.1)]
            obtain rfl : m = 0 := by omega
            clear HF3 HBF hprev
            go_wp2_with fail
            go_roundg (fs.length - (0 + 1))
            case rel => exact ⟨0 + 1, by omega, by go_num, by rw [HEQ2.out, HST2.out, HY.out]; rfl, K2.out, V2.out, B2.out⟩
            case measure => omega
        · have HF0 : Hid (chkFs fs = 0) := by show _ = _; rw [HF2.out, HEQ2.out, show fs.length - m = 0 by omega]; rfl
          have HC3 : Hid (chkP ⟨n, v, sl, fs, nd⟩ = chkNd nd fs) := by show _ = _; rw [HC2.out, HF0.out]; rfl
          have hcb := HB.out.2
          have hlb := HB.out.1
          clear HC2 HF2 HEQ2
          by_cases hk3 : kk = 3
          · subst hk3
            have HK1 : Hid (chkNd nd fs = if chkN nd ≠ 0 then chkN nd else if nd.sorted.all (hasF fs) = true then 0 else 5) := HKD.out
            clear HKD
            go_wp2_with fail
            refine (refCheckNeed_any nd _ wr S (fun b hb => Nat.lt_of_lt_of_le (hS b hb) HK.out.size) (HN.out.keep hS HK.out)).mono ?_
            rintro e w2 ⟨rfl, k2⟩
            have K2 := hid (HK.out.trans k2)
            have V2 := hid (HV.out.keep k2 HV.out.facts.2.2)
            have B2 := hid (HB.out.keep k2 HB.out.1)
            clear k2 HK HV HB hcb hlb
            by_cases hcn : chkN nd = 0
            · rw [hcn]
              have HK2 : Hid (chkNd nd fs = if nd.sorted.all (hasF fs) = true then 0 else 5) := by show _ = _; rw [HK1.out, if_neg (fun h => h hcn)]
              have hnok := chkN_zero.1 hcn
              have hsz : nd.size ≤ 1048576 := by have := (small_of hnok.1).1; omega
              have HFS := hid (flag_small hnok.2)
              have hcb := B2.out.2
              have hlb := B2.out.1
              clear HK1 hcn hnok
              go_wp2_with fail
              refine (refFlags_any S nd _ w2 (fun b hb => Nat.lt_of_lt_of_le (hS b hb) K2.out.size) hsz HFS.out (HN.out.keep hS K2.out)).mono ?_
              rintro e w3 ⟨v3, rfl, ht3, k3⟩
              have T3 := hid ht3
              have K3 := hid (K2.out.trans k3)
              have V3 := hid (V2.out.keep k3 V2.out.facts.2.2)
              have B3 := hid (B2.out.keep k3 B2.out.1)
              obtain ⟨p3, c3, rfl⟩ := ht3.len
              have hsl : nd.sorted.length ≤ 9223372036854775807 := by
                have h1 := compact_len ((nd.flags.map (·.data.toList)).mergeSort fun x y => decide (x ≤ y))
                have h2 := flags_len nd
                have h3 : nd.sorted.length ≤ nd.flags.length := by simpa [NT.sorted] using h1
                omega
              clear ht3 k3 K2 V2 B2 hcb hlb HFS hsz
              go_wp2_with fail
              go_loopg [91] nd.sorted.length (fun gk' i wr' => ∃ m : Nat, m + gk' = nd.sorted.length ∧ i = .int .i64 m ∧ (nd.sorted.take m).all (hasF fs) = true ∧ Keep w wr' ∧ Keep w3 wr' ∧ VarAt w.heap.size 44 (.slice (some ⟨b, off, none⟩) ps.length tc) wr' ∧ Boxed bx #[.string n, .int .i64 v, .int .i64 sl, .slice fp fs.length fc, .int .i64 3, .string a.n, .int .i64 a.op, .int .i64 a.v, .int .i64 a.sl, .string a.f, .bool a.on, .string fl, .bool nt, .slice kp kids.length kc] wr')
              case atStart => exact ⟨0, by simp, rfl, by simp, K3.out, Keep.refl _, V3.out, B3.out⟩
              case round =>
                obtain ⟨m, hm, rfl, hall, hkp, hk3, hvt, hbx⟩ := hrel
                have HALL := hid hall
                have HK := hid hkp
                have HV := hid hvt
                have HB := hid hbx
                have TX := hid (T3.out.keep hk3)
                have HK3 := hid hk3
                have hcb := hbx.2
                have hlb := hbx.1
                clear hall hkp hvt hbx hk3 V3 B3
                by_cases hml : m < nd.sorted.length
                · rcases TX.out with ⟨h0, -⟩ | ⟨g, tcap, e3, hgl, hgc⟩
                  · rw [h0] at hml; exact absurd hml (Nat.not_lt_zero _)
                  cases e3
                  have hcm := hgc m _ (List.getElem?_eq_getElem hml)
                  rw [Nat.zero_add] at hcm
                  have HST2 : Hid ((nd.sorted.take (m + 1)).all (hasF fs) = hasF fs nd.sorted[m]) := by
                    show _ = _
                    rw [List.take_succ_eq_append_getElem hml, List.all_append, HALL.out]; simp
                  have HNO : Hid (hasF fs nd.sorted[m] = false → chkT ps = 5) := fun h => HBAD.out 5 (by decide) (by
                    have : nd.sorted.all (hasF fs) = false := List.all_eq_false.2 ⟨nd.sorted[m], List.getElem_mem hml, by rw [h]; decide⟩
                    rw [HC3.out, HK2.out, this]; rfl)
                  generalize nd.sorted[m] = x at hcm HST2 HNO
                  clear hgc HALL
                  go_wp2_with fail
                  refine (contains_any S fs _ ⟨x.toArray⟩ wr (HF.out.keep hS HK.out)).mono ?_
                  rintro e w4 ⟨rfl, hw4⟩
                  rw [hw4]
                  clear hw4
                  have hx2 : hasF fs (ByteArray.mk x.toArray).data.toList = hasF fs x := by simp
                  rw [hx2]
                  generalize hasF fs x = β at HST2 HNO ⊢
                  clear hcm hx2
                  cases β
                  · have HY := hid (HNO.out (by trivial))
                    clear HNO
                    go_wp2_with fail
                    go_ret
                    exact ⟨ret_int HY.out.symm, HK.out⟩
                  · clear HNO
                    go_wp2_with fail
                    go_roundg (nd.sorted.length - (m + 1))
                    case rel => exact ⟨m + 1, by omega, by go_num, HST2.out, HK.out, HK3.out, HV.out, HB.out⟩
                    case measure => omega
                · have HC0 : Hid (chkP ⟨n, v, sl, fs, nd⟩ = 0) := by
                    show _ = _
                    have h := HALL.out
                    rw [List.take_of_length_le (by omega)] at h
                    rw [HC3.out, HK2.out, if_pos h]
                  have HP2 : Hid (pkE ps j = if 0 < j ∧ behindB ⟨n, v, sl, fs, nd⟩ (ps.getD (j - 1) PK.zero) = false then 6 else if 14 < ps.length + sumF ps (j + 1) then 2 else 0) := by show _ = _; rw [HPE.out, HC0.out]; rfl
                  obtain ⟨ht0, -, htl⟩ := HV.out.facts
                  clear HPE HC0 HC3 HK2 HALL HBAD TX T3 HK3
                  by_cases hj0 : 0 < j
                  · obtain ⟨q, rfl⟩ : ∃ q, j = q + 1 := ⟨j - 1, by omega⟩
                    have hq : q < ps.length := by omega
                    have HQ : Hid (ps.getD (q + 1 - 1) PK.zero = ps[q]) := by show _ = _; rw [List.getD_eq_getElem?_getD, Nat.add_sub_cancel, List.getElem?_eq_getElem hq, Option.getD_some]
                    rw [HQ.out] at HP2
                    obtain ⟨b2, off2, cap2, hv2, hb2, -, hrow2⟩ := HP.out.get hq
                    cases hv2
                    obtain ⟨cs1, hcs1, hp1⟩ := hrow2 q hq
                    generalize ps[q] = pq at hp1 HP2
                    obtain ⟨k1, a1, fl1, nt1, kids1, kp1, fp1, kc1, fc1, -, hfl1, rfl, -, -⟩ := hp1.spelt
                    rcases pq with ⟨n1, v1, sl1, fs1, nd1⟩
                    obtain ⟨c0, c1, c2, c3, c4, c5, c6, c7, c8, c9, c10, c11, c12, c13⟩ := cells14 hcs1
                    have gt : ∀ (o : Nat) (x : Value), w.cell? ⟨b, o, none⟩ = some x → wr.cell? ⟨b, o, none⟩ = some x := fun o x h => (HK.out.cell (p := ⟨b, o, none⟩) (hS b hb)).trans h
                    have d0 := gt _ _ c0
                    have d1 := gt _ _ c1
                    have d2 := gt _ _ c2
                    have d3 := gt _ _ c3
                    have d4 := gt _ _ c4
                    have d5 := gt _ _ c5
                    have d6 := gt _ _ c6
                    have d7 := gt _ _ c7
                    have d8 := gt _ _ c8
                    have d9 := gt _ _ c9
                    have d10 := gt _ _ c10
                    have d11 := gt _ _ c11
                    have d12 := gt _ _ c12
                    have d13 := gt _ _ c13
                    have hbw : b < wr.heap.size := Nat.lt_of_lt_of_le (hS b hb) HK.out.size
                    have HBR := hid (behind_ref ⟨n, v, sl, fs, nd⟩ ⟨n1, v1, sl1, fs1, nd1⟩)
                    have h0' : (0 : Int) < ((q + 1 : Nat) : Int) := by omega
                    have hd : decide ((0 : Int) < ((q + 1 : Nat) : Int)) = true := decide_eq_true h0'
                    have e1 : ((q + 1 : Nat) : Int) - 1 = (q : Int) := by omega
                    clear hcs1 hp1 hrow2 c0 c1 c2 c3 c4 c5 c6 c7 c8 c9 c10 c11 c12 c13 gt HQ
                    simp only at hfl1 d0 d1 d2 d3 HBR
                    generalize behindB ⟨n, v, sl, fs, nd⟩ ⟨n1, v1, sl1, fs1, nd1⟩ = β at HP2 HBR
                    go_upto_region 34 with fail
                    refine at_wp (fun W' => Keep w W' ∧ VarAt w.heap.size 44 (.slice (some ⟨b, off, none⟩) ps.length tc) W' ∧ Boxed bx #[.string n, .int .i64 v, .int .i64 sl, .slice fp fs.length fc, .int .i64 3, .string a.n, .int .i64 a.op, .int .i64 a.v, .int .i64 a.sl, .string a.f, .bool a.on, .string fl, .bool nt, .slice kp kids.length kc] W' ∧ Boxed wr.heap.size #[.string n1, .int .i64 v1, .int .i64 sl1, .slice fp1 fs1.length fc1, .int .i64 k1, .string a1.n, .int .i64 a1.op, .int .i64 a1.v, .int .i64 a1.sl, .string a1.f, .bool a1.on, .string fl1, .bool nt1, .slice kp1 kids1.length kc1] W') ⟨HK.out.alloc' _, HV.out.keep (Keep.alloc _ _) HV.out.facts.2.2, HB.out.keep (Keep.alloc _ _) HB.out.1, Boxed.new _ _ _⟩ ?_
                    rintro W5 ⟨k5, v5, b5, q5⟩
                    have K5 := hid k5
                    have V5 := hid v5
                    have hcb5 := b5.2
                    have hlb5 := b5.1
                    have hcq5 := q5.2
                    have hlq5 := q5.1
                    obtain ⟨ht5, -, htl5⟩ := v5.facts
                    clear k5 v5 b5 q5 d0 d1 d2 d3 d4 d5 d6 d7 d8 d9 d10 d11 d12 d13 hcb hlb ht0 htl
                    cases hbl : Op.bytesLess n.toList n1.toList
                    · cases heq : (n.toList == n1.toList)
                      · rw [hbl, heq] at HBR
                        have hβ : β = true := notb HBR.out
                        subst hβ
                        clear HBR
                        have HT : Hid (pkE ps (q + 1) = if 14 < ps.length + sumF ps ((q + 1) + 1) then 2 else 0) := by show _ = _; rw [HP2.out, if_neg (fun h => by cases h.2)]
                        have hs2 : sumF ps ((q + 1) + 1) ≤ 2 * ((q + 1) + 1) := by have := HSU.out; omega
                        have es : ((sumF ps (q + 1) : Nat) : Int) + (fs.length : Int) = ((sumF ps ((q + 1) + 1) : Nat) : Int) := by have := HSU.out; omega
                        by_cases h14 : 14 < ps.length + sumF ps ((q + 1) + 1)
                        · have HY := hid (HRET.out 2 (by decide) (by rw [HT.out, if_pos h14]))
                          have h14' : (14 : Int) < (ps.length : Int) + ((sumF ps ((q + 1) + 1) : Nat) : Int) := by omega
                          clear h14 HT
                          go_wp2_with fail
                          go_ret
                          exact ⟨ret_int HY.out.symm, K5.out⟩
                        · have HY : Hid (pkE ps (q + 1) = 0) := by show _ = _; rw [HT.out, if_neg h14]
                          have h14' : ¬ (14 : Int) < (ps.length : Int) + ((sumF ps ((q + 1) + 1) : Nat) : Int) := by omega
                          clear h14 HT
                          go_wp2_with fail
                          go_roundg (ps.length - ((q + 1) + 1))
                          case rel => exact ⟨(q + 1) + 1, by omega, by go_num, by go_num, hs2, by rw [HEQ.out, HST.out, HY.out]; rfl, K5.out, V5.out⟩
                          case measure => omega
                      · rw [hbl, heq] at HBR
                        by_cases hvv : v ≤ v1
                        · have hβ : β = false := by have h := HBR.out; rw [decide_eq_true hvv] at h; exact notb h
                          subst hβ
                          have HY := hid (HRET.out 6 (by decide) (by rw [HP2.out, if_pos ⟨by omega, rfl⟩]))
                          clear HBR HP2
                          go_wp2_with fail
                          go_ret
                          exact ⟨ret_int HY.out.symm, K5.out⟩
                        · have hβ : β = true := by have h := HBR.out; rw [decide_eq_false hvv] at h; exact notb h
                          subst hβ
                          clear HBR
                          have HT : Hid (pkE ps (q + 1) = if 14 < ps.length + sumF ps ((q + 1) + 1) then 2 else 0) := by show _ = _; rw [HP2.out, if_neg (fun h => by cases h.2)]
                          have hs2 : sumF ps ((q + 1) + 1) ≤ 2 * ((q + 1) + 1) := by have := HSU.out; omega
                          have es : ((sumF ps (q + 1) : Nat) : Int) + (fs.length : Int) = ((sumF ps ((q + 1) + 1) : Nat) : Int) := by have := HSU.out; omega
                          by_cases h14 : 14 < ps.length + sumF ps ((q + 1) + 1)
                          · have HY := hid (HRET.out 2 (by decide) (by rw [HT.out, if_pos h14]))
                            have h14' : (14 : Int) < (ps.length : Int) + ((sumF ps ((q + 1) + 1) : Nat) : Int) := by omega
                            clear h14 HT
                            go_wp2_with fail
                            go_ret
                            exact ⟨ret_int HY.out.symm, K5.out⟩
                          · have HY : Hid (pkE ps (q + 1) = 0) := by show _ = _; rw [HT.out, if_neg h14]
                            have h14' : ¬ (14 : Int) < (ps.length : Int) + ((sumF ps ((q + 1) + 1) : Nat) : Int) := by omega
                            clear h14 HT
                            go_wp2_with fail
                            go_roundg (ps.length - ((q + 1) + 1))
                            case rel => exact ⟨(q + 1) + 1, by omega, by go_num, by go_num, hs2, by rw [HEQ.out, HST.out, HY.out]; rfl, K5.out, V5.out⟩
                            case measure => omega
                    · rw [hbl] at HBR
                      have hβ : β = false := notb HBR.out
                      subst hβ
                      have HY := hid (HRET.out 6 (by decide) (by rw [HP2.out, if_pos ⟨by omega, rfl⟩]))
                      clear HBR HP2
                      go_wp2_with fail
                      go_ret
                      exact ⟨ret_int HY.out.symm, K5.out⟩
                  · have hd : ¬ (0 : Int) < (j : Int) := by omega
                    have HT : Hid (pkE ps j = if 14 < ps.length + sumF ps (j + 1) then 2 else 0) := by show _ = _; rw [HP2.out, if_neg (fun h => hj0 h.1)]
                    have hs2 : sumF ps (j + 1) ≤ 2 * (j + 1) := by have := HSU.out; omega
                    have es : ((sumF ps j : Nat) : Int) + (fs.length : Int) = ((sumF ps (j + 1) : Nat) : Int) := by have := HSU.out; omega
                    by_cases h14 : 14 < ps.length + sumF ps (j + 1)
                    · omega
                    · have HY : Hid (pkE ps j = 0) := by show _ = _; rw [HT.out, if_neg h14]
                      have h14' : ¬ (14 : Int) < (ps.length : Int) + ((sumF ps (j + 1) : Nat) : Int) := by omega
                      clear h14 HT
                      go_wp2_with fail
                      go_roundg (ps.length - (j + 1))
                      case rel => exact ⟨j + 1, by omega, by go_num, by go_num, hs2, by rw [HEQ.out, HST.out, HY.out]; rfl, HK.out, HV.out⟩
                      case measure => omega
            · have HY := hid (HBAD.out (chkN nd) hcn (by rw [HC3.out, HK1.out, if_pos hcn]))
              generalize chkN nd = cn at hcn HY ⊢
              have hz1 : (cn == 0) = false := by simp [hcn]
              have hz2 : (cn != 0) = true := by simp [hcn]
              clear hcn HK1
              go_wp2_with fail
              go_ret
              exact ⟨ret_int HY.out.symm, K2.out⟩
          · have HY := hid (HBAD.out 4 (by decide) (by rw [HC3.out, HKD.out, if_pos hk3]))
            have hz1 : (kk == 3) = false := by simp [hk3]
            have hz2 : (kk != 3) = true := by simp [hk3]
            clear hk3 HKD
            go_wp2_with fail
            go_ret
            exact ⟨ret_int HY.out.symm, HK.out⟩
    · go_wp2_with fail
      go_ret
      exact ⟨ret_int (by rw [HX.out, HEQ.out, show ps.length - j = 0 by omega]; rfl), HK.out⟩
end Go.Proofs.YtkckkjpkidcbnaaGreatDoor
