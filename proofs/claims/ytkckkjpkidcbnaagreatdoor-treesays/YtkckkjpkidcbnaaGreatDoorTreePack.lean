/- tree.checkNeed, tree.checkPackage, tree.standsBehind and tree.Check answer as the plain functions chkNd, chkP, behindB and chkT say, of whatever lies in memory; nothing that was there is changed. -/
import Derived.Test.YtkckkjpkidcbnaaGreatDoorTreeOne
namespace Go.Proofs.YtkckkjpkidcbnaaGreatDoor
open Go.RowKit

theorem all_take {fs : List ByteArray} {l : List (List UInt8)} {j : Nat} (h : j < l.length) : (l.take (j + 1)).all (hasF fs) = ((l.take j).all (hasF fs) && hasF fs l[j]) := by
  rw [List.take_succ_eq_append_getElem h, List.all_append]; simp
theorem all_false {fs : List ByteArray} {l : List (List UInt8)} {j : Nat} (h : j < l.length) (hf : hasF fs l[j] = false) : l.all (hasF fs) = false := by
  rw [List.all_eq_false]; exact ⟨l[j], List.getElem_mem h, by simp [hf]⟩
theorem sorted_small {t : NT} (h : chkN t = 0) : t.sorted.length ≤ 20 := by
  have h1 := (small_of (chkN_zero.1 h).1).1
  have h2 := flags_len t
  have h3 := compact_len ((t.flags.map (·.data.toList)).mergeSort fun x y => decide (x ≤ y))
  unfold NT.sorted
  rw [List.length_mergeSort, List.length_map] at h3
  omega
theorem contains_any (S : Nat → Prop) (fs : List ByteArray) (fv : Value) (x : ByteArray) (w : World) (hf : StrsIs S w fs fv) :
    Calls Tryz.prog 35 #[fv, .string x] w fun e w' => e = .returned (.bool (hasF fs x.data.toList)) ∧ w' = w := by
  have hx : hasF fs x.data.toList = Lib.containsS fs x := by unfold hasF; rw [bytes_back]
  rcases hf with ⟨rfl, p, cap, rfl⟩ | ⟨b, off, cap, rfl, -, hl, hc⟩
  · refine (Tryz.slices_Contains_string_empty p cap x w).mono ?_
    rintro e w' ⟨rfl, rfl⟩
    exact ⟨ret_bool (by rw [hx]; rfl), rfl⟩
  · refine (Tryz.slices_Contains_string b off fs.length cap fs x w (Nat.le_refl _) hl (StrsIs.getD hc)).mono ?_
    rintro e w' ⟨rfl, rfl⟩
    exact ⟨ret_bool (by rw [hx, List.take_length]), rfl⟩

set_option maxHeartbeats 4000000 in
set_option maxRecDepth 100000 in
theorem treeNeed_any (S : Nat → Prop) (t : NT) (cs : List Value) (fs : List ByteArray) (fv : Value) (w : World) (hS : ∀ b, S b → b < w.heap.size) (hn : NeedIs S w t cs) (hf : StrsIs S w fs fv) :
    Calls Tryz.prog 145 #[.agg cs.toArray, fv] w fun e w' => e = .returned (.int .i64 (chkNd t fs)) ∧ Keep w w' := by
  have HN := hid hn
  have HF := hid hf
  have hkd : Hid (chkNd t fs = if t.kind ≠ 3 then 4 else if chkN t ≠ 0 then chkN t else if t.sorted.all (hasF fs) = true then 0 else 5) := rfl
  cases ht : t with
  | node k a fl nt kids =>
  have HK : Hid (t.kind = k) := by show _ = _; rw [ht]; rfl
  rw [ht, NeedIs] at hn
  obtain ⟨kp, kc, rfl, -, -, -⟩ := hn
  rw [← ht]
  obtain ⟨fp, fc, rfl, hfl⟩ := hf.len
  have k0 := hid (Keep.alloc w (.cells #[.int .i64 k, .string a.n, .int .i64 a.op, .int .i64 a.v, .int .i64 a.sl, .string a.f, .bool a.on, .string fl, .bool nt, .slice kp kids.length kc] 26))
  have hb0 := hid (Boxed.new w #[.int .i64 k, .string a.n, .int .i64 a.op, .int .i64 a.v, .int .i64 a.sl, .string a.f, .bool a.on, .string fl, .bool nt, .slice kp kids.length kc] 26)
  clear ht hf
  by_cases hk : k = 3
  · have h1 : (k == 3) = true := by simp [hk]
    have h2 : (k != 3) = false := by simp [hk]
    have hk3 : Hid (k = 3) := hk
    clear hk
    go_enter Tryz.func145, Tryz.ntmps145
    go_wp2_with fail
    generalize w.alloc (.cells #[.int .i64 k, .string a.n, .int .i64 a.op, .int .i64 a.v, .int .i64 a.sl, .string a.f, .bool a.on, .string fl, .bool nt, .slice kp kids.length kc] 26) = W0 at k0 hb0 ⊢
    refine (needFlags_any t _ W0 S (fun b hb => Nat.lt_of_lt_of_le (hS b hb) k0.out.size) (HN.out.keep hS k0.out)).mono ?_
    rintro e w1 ⟨v, rfl, hbad, hgood, k1⟩
    have K1 : Hid (Keep w w1) := k0.out.trans k1
    have HF1 : Hid (StrsIs S w1 fs (.slice fp fs.length fc)) := HF.out.keep hS K1.out
    clear k1 hb0 k0 HF
    by_cases hz : chkN t = 0
    · have HRES : Hid (chkNd t fs = if t.sorted.all (hasF fs) = true then 0 else 5) := by show _ = _; rw [hkd.out, HK.out, hk3.out, hz]; simp
      have HG := hid (hgood hz)
      have hsl := sorted_small hz
      rw [hz]
      clear hz hbad hgood hkd
      obtain ⟨vp, vc, rfl⟩ : ∃ p cap, v = .slice p t.sorted.length cap := by
        rcases HG.out with ⟨h, p, cap, rfl⟩ | ⟨g, cap, rfl, -⟩
        · exact ⟨p, cap, by rw [h]; rfl⟩
        · exact ⟨_, cap, rfl⟩
      go_wp2_with fail
      go_loopg [22] t.sorted.length (fun gk i wr => ∃ j : Nat, j + gk = t.sorted.length ∧ i = .int .i64 j ∧ (t.sorted.take j).all (hasF fs) = true ∧ wr = w1)
      case atStart => exact ⟨0, by simp, rfl, by simp, rfl⟩
      case round =>
        obtain ⟨j, hj, rfl, hall, rfl⟩ := hrel
        have HALL := hid hall
        clear hall
        by_cases hlt : j < t.sorted.length
        · have hcell : ∃ g, vp = some ⟨g, 0, none⟩ ∧ wr.cell? ⟨g, 0 + j, none⟩ = some (.string ⟨t.sorted[j].toArray⟩) := by
            rcases HG.out with ⟨h, -⟩ | ⟨g, cap, h, -, hc⟩
            · rw [h] at hlt; exact absurd hlt (Nat.not_lt_zero _)
            · cases h
              exact ⟨g, rfl, hc j _ (List.getElem?_eq_getElem hlt)⟩
          obtain ⟨g, rfl, hcj⟩ := hcell
          rw [Nat.zero_add] at hcj
          have HCALL := hid (contains_any S fs _ ⟨t.sorted[j].toArray⟩ wr HF1.out)
          go_wp2_with fail
          refine HCALL.out.mono ?_
          rintro e w2 ⟨rfl, hw2⟩
          rw [hw2]
          clear hw2
          have HT := hid (all_take (fs := fs) hlt)
          cases hb : hasF fs t.sorted[j]
          · have HX : Hid (t.sorted.all (hasF fs) = false) := all_false hlt hb
            go_wp2_with fail
            go_ret
            exact ⟨ret_int (by rw [HRES.out, HX.out]; rfl), K1.out⟩
          · have HX : Hid ((t.sorted.take (j + 1)).all (hasF fs) = true) := by show _ = _; rw [HT.out, HALL.out, hb]; rfl
            go_wp2_with fail
            go_roundg (t.sorted.length - (j + 1))
            case rel => exact ⟨j + 1, by omega, by go_num, HX.out, rfl⟩
            case measure => omega
        · have HX : Hid (t.sorted.all (hasF fs) = true) := by show _ = _; rw [← List.take_length (l := t.sorted), show t.sorted.length = j by omega]; exact HALL.out
          go_wp2_with fail
          go_ret
          exact ⟨ret_int (by rw [HRES.out, HX.out]; rfl), K1.out⟩
    · have HRES : Hid (chkNd t fs = chkN t) := by show _ = _; rw [hkd.out, HK.out, hk3.out]; simp [hz]
      have hz1 : (chkN t == 0) = false := by simp [hz]
      have hz2 : (chkN t != 0) = true := by simp [hz]
      obtain rfl := hbad hz
      clear hz hgood hbad hkd
      go_wp2_with fail
      go_ret
      exact ⟨ret_int HRES.out.symm, K1.out⟩
  · have h1 : (k == 3) = false := by simp [hk]
    have h2 : (k != 3) = true := by simp [hk]
    have HRES : Hid (chkNd t fs = 4) := by show _ = _; rw [hkd.out, HK.out]; simp [hk]
    clear hk hkd
    go_enter Tryz.func145, Tryz.ntmps145
    go_wp2_with fail
    go_ret
    exact ⟨ret_int HRES.out.symm, k0.out⟩
end Go.Proofs.YtkckkjpkidcbnaaGreatDoor
/- tree.standsBehind and tree.checkPackage answer as the plain functions behindB and chkP say. -/
namespace Go.Proofs.YtkckkjpkidcbnaaGreatDoor
open Go.RowKit

/-- A package's fourteen cells, spelt. -/
theorem PkgIs.spelt {S : Nat → Prop} {w : World} {p : PK} {cs : List Value} (h : PkgIs S w p cs) : ∃ (k : Int) (a : At) (fl : ByteArray) (nt : Bool) (kids : List NT) (kp fp : Option Addr) (kc fc : Nat), p.nd = .node k a fl nt kids ∧ p.fl.length ≤ 9223372036854775807 ∧
    cs = [.string p.n, .int .i64 p.v, .int .i64 p.sl, .slice fp p.fl.length fc, .int .i64 k, .string a.n, .int .i64 a.op, .int .i64 a.v, .int .i64 a.sl, .string a.f, .bool a.on, .string fl, .bool nt, .slice kp kids.length kc] ∧ StrsIs S w p.fl (.slice fp p.fl.length fc) ∧ NeedIs S w p.nd [.int .i64 k, .string a.n, .int .i64 a.op, .int .i64 a.v, .int .i64 a.sl, .string a.f, .bool a.on, .string fl, .bool nt, .slice kp kids.length kc] := by
  obtain ⟨fv, nv, rfl, hf, hn⟩ := h
  obtain ⟨fp, fc, rfl, hl⟩ := hf.len
  cases hd : p.nd with
  | node k a fl nt kids =>
  have hn' := hn
  rw [hd] at hn'
  rw [NeedIs] at hn'
  obtain ⟨kp, kc, rfl, -⟩ := hn'
  exact ⟨k, a, fl, nt, kids, kp, fp, kc, fc, rfl, hl, rfl, hf, by rw [← hd]; exact hn⟩

set_option maxHeartbeats 2000000 in
set_option maxRecDepth 100000 in
theorem behind_any (S : Nat → Prop) (p q : PK) (cs1 cs2 : List Value) (w : World) (hp : PkgIs S w p cs1) (hq : PkgIs S w q cs2) :
    Calls Tryz.prog 89 #[.agg cs1.toArray, .agg cs2.toArray] w fun e w' => e = .returned (.bool (behindB p q)) ∧ Keep w w' := by
  obtain ⟨k, a, fl, nt, kids, kp, fp, kc, fc, -, -, rfl, -, -⟩ := hp.spelt
  obtain ⟨k1, a1, fl1, nt1, kids1, kp1, fp1, kc1, fc1, -, -, rfl, -, -⟩ := hq.spelt
  clear hp hq
  rcases p with ⟨n, v, sl, fs, nd⟩
  rcases q with ⟨n1, v1, sl1, fs1, nd1⟩
  have KW := hid ((Keep.alloc w (.cells #[.string n, .int .i64 v, .int .i64 sl, .slice fp fs.length fc, .int .i64 k, .string a.n, .int .i64 a.op, .int .i64 a.v, .int .i64 a.sl, .string a.f, .bool a.on, .string fl, .bool nt, .slice kp kids.length kc] 58)).alloc' (.cells #[.string n1, .int .i64 v1, .int .i64 sl1, .slice fp1 fs1.length fc1, .int .i64 k1, .string a1.n, .int .i64 a1.op, .int .i64 a1.v, .int .i64 a1.sl, .string a1.f, .bool a1.on, .string fl1, .bool nt1, .slice kp1 kids1.length kc1] 58))
  by_cases he : n = n1
  · subst he
    have h1 : (n.toList == n.toList) = true := by simp
    have HB : Hid (behindB ⟨n, v, sl, fs, nd⟩ ⟨n, v1, sl1, fs1, nd1⟩ = decide (v1 < v)) := by show _ = _; simp [behindB]
    go_enter Tryz.func89, Tryz.ntmps89
    go_wp2_with fail
    go_ret
    exact ⟨ret_bool (by rw [HB.out]), KW.out⟩
  · have hne : ¬ n.data.toList = n1.data.toList := fun h => he (bytes_same h)
    have h1 : (n.toList == n1.toList) = false := by rw [Lib.toList_data, Lib.toList_data]; simpa using hne
    have h2 : (n.toList != n1.toList) = true := by rw [Lib.toList_data, Lib.toList_data]; simpa using hne
    have HB : Hid (behindB ⟨n, v, sl, fs, nd⟩ ⟨n1, v1, sl1, fs1, nd1⟩ = !leS n n1) := by show _ = _; simp [behindB, he]
    go_enter Tryz.func89, Tryz.ntmps89
    go_wp2_with fail
    go_ret
    exact ⟨ret_bool (by rw [HB.out]; unfold leS; rw [h1, Bool.or_false]), KW.out⟩

theorem pack_ways (p : PK) : (nameB p.n.data.toList = false ∧ Hid (chkP p = 1)) ∨ (nameB p.n.data.toList = true ∧ p.v < 1 ∧ Hid (chkP p = 3)) ∨ (nameB p.n.data.toList = true ∧ ¬ p.v < 1 ∧ 99 < p.v ∧ Hid (chkP p = 3))
    ∨ (nameB p.n.data.toList = true ∧ ¬ p.v < 1 ∧ ¬ 99 < p.v ∧ p.sl < 1 ∧ Hid (chkP p = 3)) ∨ (nameB p.n.data.toList = true ∧ ¬ p.v < 1 ∧ ¬ 99 < p.v ∧ ¬ p.sl < 1 ∧ 9 < p.sl ∧ Hid (chkP p = 3))
    ∨ (nameB p.n.data.toList = true ∧ ¬ p.v < 1 ∧ ¬ 99 < p.v ∧ ¬ p.sl < 1 ∧ ¬ 9 < p.sl ∧ Hid (chkP p = if chkFs p.fl ≠ 0 then chkFs p.fl else chkNd p.nd p.fl)) := by
  cases h0 : nameB p.n.data.toList
  · exact Or.inl ⟨rfl, by show _ = _; unfold chkP; rw [if_pos h0]⟩
  · refine Or.inr ?_
    have e : chkP p = if p.v < 1 ∨ 99 < p.v ∨ p.sl < 1 ∨ 9 < p.sl then 3 else if chkFs p.fl ≠ 0 then chkFs p.fl else chkNd p.nd p.fl := by unfold chkP; rw [if_neg (by simp [h0])]
    by_cases h1 : p.v < 1
    · exact Or.inl ⟨rfl, h1, by show _ = _; rw [e, if_pos (by omega)]⟩
    · refine Or.inr ?_
      by_cases h2 : 99 < p.v
      · exact Or.inl ⟨rfl, h1, h2, by show _ = _; rw [e, if_pos (by omega)]⟩
      · refine Or.inr ?_
        by_cases h3 : p.sl < 1
        · exact Or.inl ⟨rfl, h1, h2, h3, by show _ = _; rw [e, if_pos (by omega)]⟩
        · refine Or.inr ?_
          by_cases h4 : 9 < p.sl
          · exact Or.inl ⟨rfl, h1, h2, h3, h4, by show _ = _; rw [e, if_pos (by omega)]⟩
          · exact Or.inr ⟨rfl, h1, h2, h3, h4, by show _ = _; rw [e, if_neg (by omega)]⟩

set_option maxHeartbeats 4000000 in
set_option maxRecDepth 100000 in
theorem package_any (S : Nat → Prop) (p : PK) (cs : List Value) (w : World) (hS : ∀ b, S b → b < w.heap.size) (hp : PkgIs S w p cs) :
    Calls Tryz.prog 88 #[.agg cs.toArray] w fun e w' => e = .returned (.int .i64 (chkP p)) ∧ Keep w w' := by
  obtain ⟨k, a, fl, nt, kids, kp, fp, kc, fc, hnd, hlen, rfl, hf, hn⟩ := hp.spelt
  have HF := hid hf
  have HN := hid hn
  have hways := pack_ways p
  clear hp hf hn hnd
  rcases p with ⟨n, v, sl, fs, nd⟩
  have K0 := hid (Keep.alloc w (.cells #[.string n, .int .i64 v, .int .i64 sl, .slice fp fs.length fc, .int .i64 k, .string a.n, .int .i64 a.op, .int .i64 a.v, .int .i64 a.sl, .string a.f, .bool a.on, .string fl, .bool nt, .slice kp kids.length kc] 58))
  have B0 := hid (Boxed.new w #[.string n, .int .i64 v, .int .i64 sl, .slice fp fs.length fc, .int .i64 k, .string a.n, .int .i64 a.op, .int .i64 a.v, .int .i64 a.sl, .string a.f, .bool a.on, .string fl, .bool nt, .slice kp kids.length kc] 58)
  simp only at hways hlen
  go_enter Tryz.func88, Tryz.ntmps88
  go_wp2_with fail
  generalize w.alloc (.cells #[.string n, .int .i64 v, .int .i64 sl, .slice fp fs.length fc, .int .i64 k, .string a.n, .int .i64 a.op, .int .i64 a.v, .int .i64 a.sl, .string a.f, .bool a.on, .string fl, .bool nt, .slice kp kids.length kc] 58) = W0 at K0 B0 ⊢
  refine (name_any n W0).mono ?_
  rintro e w1 ⟨rfl, hw⟩
  rw [hw]
  clear hw
  have hc0 := B0.out.2
  have hl0 := B0.out.1
  rcases hways with ⟨h0, HR⟩ | ⟨h0, h1, HR⟩ | ⟨h0, h1, h2, HR⟩ | ⟨h0, h1, h2, h3, HR⟩ | ⟨h0, h1, h2, h3, h4, HR⟩ | ⟨h0, h1, h2, h3, h4, HR⟩
  · rw [h0]; clear h0
    go_wp2_with fail
    go_ret
    exact ⟨ret_int HR.out.symm, K0.out⟩
  · rw [h0]; clear h0
    go_wp2_with fail
    go_ret
    exact ⟨ret_int HR.out.symm, K0.out⟩
  · rw [h0]; clear h0
    go_wp2_with fail
    go_ret
    exact ⟨ret_int HR.out.symm, K0.out⟩
  · rw [h0]; clear h0
    go_wp2_with fail
    go_ret
    exact ⟨ret_int HR.out.symm, K0.out⟩
  · rw [h0]; clear h0
    go_wp2_with fail
    go_ret
    exact ⟨ret_int HR.out.symm, K0.out⟩
  · rw [h0]; clear h0
    go_wp2_with fail
    refine (flags_any S fs _ W0 (fun b hb => Nat.lt_of_lt_of_le (hS b hb) K0.out.size) (HF.out.keep hS K0.out)).mono ?_
    rintro e w2 ⟨rfl, k2⟩
    have K2 := hid (K0.out.trans k2)
    have B2 := hid (B0.out.keep k2 B0.out.1)
    clear k2 hc0 hl0
    have hc2 := B2.out.2
    have hl2 := B2.out.1
    by_cases hz : chkFs fs = 0
    · have HR2 : Hid (chkP ⟨n, v, sl, fs, nd⟩ = chkNd nd fs) := by show _ = _; rw [HR.out]; simp [hz]
      rw [hz]
      clear hz HR
      go_wp2_with fail
      refine (treeNeed_any S nd _ fs _ w2 (fun b hb => Nat.lt_of_lt_of_le (hS b hb) K2.out.size) (HN.out.keep hS K2.out) (HF.out.keep hS K2.out)).mono ?_
      rintro e w3 ⟨rfl, k3⟩
      have K3 := hid (K2.out.trans k3)
      clear k3
      go_wp2_with fail
      go_ret
      exact ⟨ret_int HR2.out.symm, K3.out⟩
    · have HR2 : Hid (chkP ⟨n, v, sl, fs, nd⟩ = chkFs fs) := by show _ = _; rw [HR.out]; simp [hz]
      have hz1 : (chkFs fs == 0) = false := by simp [hz]
      have hz2 : (chkFs fs != 0) = true := by simp [hz]
      clear hz HR
      go_wp2_with fail
      go_ret
      exact ⟨ret_int HR2.out.symm, K2.out⟩
end Go.Proofs.YtkckkjpkidcbnaaGreatDoor
